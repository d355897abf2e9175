/- The book's own steps over keys. -/
import Derived.Test.YtlgjmhemgfjgnaaGreatKbG
namespace Go.Proofs.YtlgjmhemgfjgnaaGreat.Bk
open Go Go.RowKit
open Go.RowKit (wrap32 wrap64)

/-- The book behind a write into its own cells. -/
theorem Bst.but {w w' : World} {B bk : Nat} {v0 v1 : Value} {A T D U T' D' U' : Int} {gs : List Value} {ms : List Nat} {k N : Nat} (h : Bst w B bk v0 v1 A T D U gs ms k N) (hb : But w w' bk) (hc : Bkc w' bk v0 v1 A T' D' U') : Bst w' B bk v0 v1 A T' D' U' gs ms k N := by
  obtain ⟨cs, hcs⟩ := bkc_block h.cells
  have s : ∀ e, e ≠ 50 → Same e w w' := fun e he => Same.but hcs he hb
  exact ⟨hc, own_same h.row0 (s 57 (by decide)), own_same h.row1 (s 3 (by decide)), fun i g m hg hm => held_same (h.held i g m hg hm) (s 85 (by decide)), h.mle, fun i g m h1 h2 hg hm => by
    obtain ⟨⟨n, hn, ho⟩, h4⟩ := h.fresh i g m h1 h2 hg hm
    exact ⟨⟨n, hn, own_same ho (s 85 (by decide))⟩, h4⟩, fun i g b hg hb' => by rw [hb.size]; exact h.low i g b hg hb'⟩

/-- The book behind a write into a list of bytes that is none of its own. -/
theorem Bst.other {w w' : World} {B bk b : Nat} {v0 v1 : Value} {A T D U : Int} {gs : List Value} {ms : List Nat} {k N : Nat} (h : Bst w B bk v0 v1 A T D U gs ms k N) {cs : Array Value} (hb5 : w.heap[b]? = some (.cells cs 85 (0, 0))) (hb : But w w' b)
    (hap : ∀ (j : Nat) g', gs[j]? = some g' → g'.ownBlock ≠ some b) : Bst w' B bk v0 v1 A T D U gs ms k N := by
  have s : ∀ e, e ≠ 85 → Same e w w' := fun e he => Same.but hb5 he hb
  refine ⟨bkc_same h.cells (s 50 (by decide)), own_same h.row0 (s 57 (by decide)), own_same h.row1 (s 3 (by decide)), fun i g m hg hm => held_keeps (h.held i g m hg hm) (fun b' hb' => KeepsTo.same (hb.block b' (fun e => hap i g hg (by rw [hb', e])))), h.mle, fun i g m h1 h2 hg hm => ?_, fun i g b' hg hb' => by rw [hb.size]; exact h.low i g b' hg hb'⟩
  obtain ⟨⟨n, hn, ho⟩, h4⟩ := h.fresh i g m h1 h2 hg hm
  refine ⟨⟨n, hn, ?_⟩, h4⟩
  refine ⟨ho.1, ?_⟩
  rcases ho.2 with h5 | ⟨q, cap, cur, hv, hg', hh, r⟩
  · exact Or.inl h5
  · exact Or.inr ⟨q, cap, cur, hv, hg', by rw [hb.block q (fun e => hap i g hg (by rw [hv, e]; rfl))]; exact hh, r⟩

theorem But.below {w w' : World} {B b : Nat} (h : But w w' b) (hB : B ≤ b) : Below B w w' := ⟨h.os, h.tape, h.output, Nat.le_of_eq h.size.symm, fun k hk => h.block k (by omega)⟩

/-- What Bytes leaves as it was. -/
structure Kept (w w' : World) (B bk : Nat) (v0 v1 o : Value) : Prop where
  below : Below B w w'
  block : ∀ b, b < w.heap.size → b ≠ bk → v0.ownBlock ≠ some b → v1.ownBlock ≠ some b → o.ownBlock ≠ some b → w'.heap[b]? = w.heap[b]?

theorem Kept.refl (w : World) (B bk : Nat) (v0 v1 o : Value) : Kept w w B bk v0 v1 o := ⟨Below.refl _ _, fun _ _ _ _ _ _ => rfl⟩
theorem Kept.step {w w1 w2 : World} {B bk : Nat} {v0 v1 o : Value} (h : Kept w w1 B bk v0 v1 o) (hb : Below B w1 w2) (k : ∀ b, b < w1.heap.size → b ≠ bk → v0.ownBlock ≠ some b → v1.ownBlock ≠ some b → o.ownBlock ≠ some b → w2.heap[b]? = w1.heap[b]?) : Kept w w2 B bk v0 v1 o :=
  ⟨h.below.trans hb, fun b h1 h2 h3 h4 h5 => by rw [k b (Nat.lt_of_lt_of_le h1 h.below.size) h2 h3 h4 h5, h.block b h1 h2 h3 h4 h5]⟩

/-- The book behind one list more, its own. -/
theorem Bst.pushNew {w w' : World} {B bk : Nat} {v0 v1 v0' v1' : Value} {A T D U U' T' : Int} {gs : List Value} {ms : List Nat} {k : Nat} (h : Bst w B bk v0 v1 A T D U gs ms k gs.length) {gv : Value} {m n : Nat}
    (hc : Bkc w' bk v0' v1' A T' D U') (h0 : w'.ownsRow B 57 1 v0' (gs.length + 1) (gs ++ [gv])) (h1 : w'.ownsRow B 3 1 v1' (gs.length + 1) (ci ms ++ [.int .i64 m])) (hs : Same 85 w w')
    (ho : w'.ownsRow B 85 19 gv n (kcs (List.replicate n (kyM m)))) (hn : n ≤ 1048000) (hm : m ≤ 1099511627776) (hap : ∀ (j : Nat) g', gs[j]? = some g' → Apart g' gv) (hsz : w.heap.size ≤ w'.heap.size) : Bst w' B bk v0' v1' A T' D U' (gs ++ [gv]) (ms ++ [m]) k (gs ++ [gv]).length := by
  have h2 := h.push hc h0 h1 hs (own_held (by omega) ho) hm (Nat.le_refl _) (fun i r _ _ hr => (hap i r hr).symm) hsz (fun b hb => (ho.lt b hb).2)
  refine ⟨h2.cells, h2.row0, h2.row1, h2.held, h2.mle, fun i g q h3 h4 hg hq => ?_, h2.low⟩
  rw [List.length_append] at h4
  simp at h4
  by_cases hi : i < gs.length
  · exact h2.fresh i g q h3 hi hg hq
  · have hi2 : i = gs.length := by omega
    subst hi2
    have hl := h.len
    rw [List.getElem?_append_right (by omega)] at hg
    rw [List.getElem?_append_right (by omega), hl] at hq
    simp at hg hq
    subst hg
    subst hq
    refine ⟨⟨n, hn, ho⟩, fun j g' hj hg' => ?_⟩
    by_cases hjl : j < gs.length
    · rw [List.getElem?_append_left hjl] at hg'
      exact hap j g' hg'
    · have := (List.getElem?_eq_some_iff.1 hg').1
      simp at this
      omega
end Go.Proofs.YtlgjmhemgfjgnaaGreat.Bk

namespace Go.Proofs.YtlgjmhemgfjgnaaGreat.Bk
open Go Go.RowKit
open Go.RowKit (wrap32 wrap64)

theorem Bst.grown {w w' : World} {B bk : Nat} {v0 v1 : Value} {A T D U : Int} {gs : List Value} {ms : List Nat} {k N : Nat} (h : Bst w B bk v0 v1 A T D U gs ms k N) (hg : w.grownBy w' none) : Bst w' B bk v0 v1 A T D U gs ms k N := h.same (fun _ _ => Same.below (gbelow hg)) hg.size
theorem Bst.drewN {w : World} {B bk : Nat} {v0 v1 : Value} {A T D U : Int} {gs : List Value} {ms : List Nat} {k N : Nat} (h : Bst w B bk v0 v1 A T D U gs ms k N) (n : Nat) : Bst (w.drewN n) B bk v0 v1 A T D U gs ms k N := h.same (fun e _ => Same.drewN e w n) (Nat.le_refl _)

theorem below_drewN (w : World) (m : Nat) : Below w.heap.size w (w.drewN m) := ⟨rfl, rfl, rfl, Nat.le_refl _, fun _ _ => rfl⟩
set_option maxRecDepth 100000 in
set_option maxHeartbeats 800000 in
theorem holds_any (w : World) (B bk : Nat) (v0 v1 : Value) (A T D U : Int) (gs : List Value) (ms : List Nat) (k N : Nat) (h : Bst w B bk v0 v1 A T D U gs ms k N) (hn : gs.length ≤ 1048576) :
    Calls Tryz.prog 29 #[.pointer (some ⟨bk, 0, none⟩)] w fun e w' => e = .returned (.bool true) ∧ w.grownBy w' none := by
  have HP := hid (told_any w B bk gs.length v0 v1 A T D U gs ms h.cells hn h.row0 h.row1 h.mle h.held)
  have HC := hid h.cells
  have H := hid h
  clear h
  go_enter Tryz.func29, Tryz.ntmps29
  go_wp2_with (first | (go_at_call 42; refine (look53_any _ bk _ _ _ _ _ _ HC.out).mono ?_; rintro e w' ⟨rfl, hw⟩; have hw' := hw.symm; clear hw; subst hw') | (go_at_call 43; refine (look54_any _ bk _ _ _ _ _ _ HC.out).mono ?_; rintro e w' ⟨rfl, hw⟩; have hw' := hw.symm; clear hw; subst hw') | (go_at_call 44; refine (look56_any _ bk _ _ _ _ _ _ HC.out).mono ?_; rintro e w' ⟨rfl, hw⟩; have hw' := hw.symm; clear hw; subst hw') | (go_at_call 46; refine (look57_any _ bk _ _ _ _ _ _ HC.out).mono ?_; rintro e w' ⟨rfl, hw⟩; have hw' := hw.symm; clear hw; subst hw') | (go_at_call 47; refine (look58_any _ bk _ _ _ _ _ _ HC.out).mono ?_; rintro e w' ⟨rfl, hw⟩; have hw' := hw.symm; clear hw; subst hw') | (go_at_call 48; refine (look59_any _ bk _ _ _ _ _ _ HC.out).mono ?_; rintro e w' ⟨rfl, hw⟩; have hw' := hw.symm; clear hw; subst hw') | (go_at_call 45; refine (HP.out).mono ?_; rintro e w1 ⟨rfl, hg⟩; have HG := hid hg; replace HC := hid (H.out.grown hg).cells; clear hg))
  go_ret
  exact ⟨rfl, HG.out⟩

set_option maxRecDepth 100000 in
set_option maxHeartbeats 1600000 in
theorem grow_any (w : World) (B bk A N : Nat) (v0 v1 : Value) (T D U : Int) (gs : List Value) (ms : List Nat) (h : Bst w B bk v0 v1 A T D U gs ms A N) (hN : gs.length = N) (hA : A ≤ N) (hbig : 6 * N ≤ 5 * A + 1048576) (hB : B ≤ bk) (hBw : B ≤ w.heap.size) :
    Calls Tryz.prog 30 #[.pointer (some ⟨bk, 0, none⟩)] w fun e w' => e = .returned (.tuple #[]) ∧ ∃ (v0' v1' : Value) (gs' : List Value) (ms' : List Nat), Bst w' B bk v0' v1' gs'.length T T U gs' ms' gs'.length gs'.length ∧ gs'.length = N + 5 * (N - A) ∧ Below B w w' ∧ Same 66 w w' := by
  have HG : Hid (∀ u, But w u bk → Bkc u bk v0 v1 A T D U → Calls Tryz.prog 59 #[.pointer (some ⟨bk, 0, none⟩)] u fun e w' => e = .returned (.tuple #[]) ∧ ∃ (v0' v1' : Value) (gs' : List Value) (ms' : List Nat), Bst w' B bk v0' v1' gs'.length T D U gs' ms' gs'.length gs'.length ∧ gs'.length = N + 5 * (N - A) ∧ Below B u w' ∧ Same 66 u w') := hid (fun u hu hc => growKeys_any u B bk A N v0 v1 T D U gs ms (h.but hu hc) hN hA hbig hB (by rw [hu.size]; exact hBw))
  have HC := hid h.cells
  have HBUT := hid (But.refl w bk)
  have HCB : Hid (∃ c, w.heap[bk]? = some (.cells c 50 (0, 0))) := hid (bkc_block h.cells)
  clear h hN hbig hA
  go_enter Tryz.func30, Tryz.ntmps30
  go_wp2_with (first | (go_at_call 49; refine (grow60_any _ bk _ _ _ _ _ _ HC.out).mono ?_; rintro e w' ⟨rfl, hc, hb⟩; replace HC := hid hc; replace HBUT := hid (HBUT.out.trans hb); clear hc hb) | (go_at_call 50; refine (grow61_any _ bk _ _ _ _ _ _ HC.out).mono ?_; rintro e w' ⟨rfl, hc, hb⟩; replace HC := hid hc; replace HBUT := hid (HBUT.out.trans hb); clear hc hb) | (go_at_call 51; refine (grow62_any _ bk _ _ _ _ _ _ HC.out).mono ?_; rintro e w' ⟨rfl, hc, hb⟩; replace HC := hid hc; replace HBUT := hid (HBUT.out.trans hb); clear hc hb) | (go_at_call 52; refine (grow63_any _ bk _ _ _ _ _ _ HC.out).mono ?_; rintro e w' ⟨rfl, hc, hb⟩; replace HC := hid hc; replace HBUT := hid (HBUT.out.trans hb); clear hc hb) | (go_at_call 53; refine (grow64_any _ bk _ _ _ _ _ _ HC.out).mono ?_; rintro e w' ⟨rfl, hc, hb⟩; replace HC := hid hc; replace HBUT := hid (HBUT.out.trans hb); clear hc hb) | (go_at_call 54; refine (grow65_any _ bk _ _ _ _ _ _ HC.out).mono ?_; rintro e w' ⟨rfl, hc, hb⟩; replace HC := hid hc; replace HBUT := hid (HBUT.out.trans hb); clear hc hb) | (go_at_call 59; refine (HG.out _ HBUT.out HC.out).mono ?_; rintro e w1 ⟨rfl, v0', v1', gs', ms', hS, hlen, hb, h57⟩; have HS := hid hS; have HB1 : Hid (Below B w w1) := hid ((But.below HBUT.out hB).trans hb); have H571 : Hid (Same 66 w w1) := hid (by obtain ⟨cs, hcs⟩ := HCB.out; exact (Same.but hcs (by decide) HBUT.out).trans h57); have HLN := hid hlen; replace HC := hid hS.cells; replace HBUT := hid (But.refl w1 bk); clear hS hlen hb h57) | (go_at_call 56; refine (grow67_any _ bk _ _ _ _ _ _ HC.out).mono ?_; rintro e w' ⟨rfl, hc, hb⟩; replace HC := hid hc; replace HBUT := hid (HBUT.out.trans hb); clear hc hb) | (go_at_call 57; refine (grow68_any _ bk _ _ _ _ _ _ HC.out).mono ?_; rintro e w' ⟨rfl, hc, hb⟩; replace HC := hid hc; replace HBUT := hid (HBUT.out.trans hb); clear hc hb) | (go_at_call 58; refine (grow69_any _ bk _ _ _ _ _ _ HC.out).mono ?_; rintro e w' ⟨rfl, hc, hb⟩; replace HC := hid hc; replace HBUT := hid (HBUT.out.trans hb); clear hc hb) | (go_at_call 55; refine (grow70_any _ bk _ _ _ _ _ _ HC.out).mono ?_; rintro e w' ⟨rfl, hc, hb⟩; replace HC := hid hc; replace HBUT := hid (HBUT.out.trans hb); clear hc hb) | (go_at_call 60; refine (grow71_any _ bk _ _ _ _ _ _ HC.out).mono ?_; rintro e w' ⟨rfl, hc, hb⟩; replace HC := hid hc; replace HBUT := hid (HBUT.out.trans hb); clear hc hb) | (go_at_call 61; refine (grow72_any _ bk _ _ _ _ _ _ HC.out).mono ?_; rintro e w' ⟨rfl, hc, hb⟩; replace HC := hid hc; replace HBUT := hid (HBUT.out.trans hb); clear hc hb) | (go_at_call 62; refine (grow73_any _ bk _ _ _ _ _ _ HC.out).mono ?_; rintro e w' ⟨rfl, hc, hb⟩; replace HC := hid hc; replace HBUT := hid (HBUT.out.trans hb); clear hc hb) | (go_at_call 63; refine (grow74_any _ bk _ _ _ _ _ _ HC.out).mono ?_; rintro e w' ⟨rfl, hc, hb⟩; replace HC := hid hc; replace HBUT := hid (HBUT.out.trans hb); clear hc hb) | (go_at_call 64; refine (grow75_any _ bk _ _ _ _ _ _ HC.out).mono ?_; rintro e w' ⟨rfl, hc, hb⟩; replace HC := hid hc; replace HBUT := hid (HBUT.out.trans hb); clear hc hb) | (go_at_call 65; refine (grow76_any _ bk _ _ _ _ _ _ HC.out).mono ?_; rintro e w' ⟨rfl, hc, hb⟩; replace HC := hid hc; replace HBUT := hid (HBUT.out.trans hb); clear hc hb) | (go_at_call 66; refine (grow77_any _ bk _ _ _ _ _ _ HC.out).mono ?_; rintro e w' ⟨rfl, hc, hb⟩; replace HC := hid hc; replace HBUT := hid (HBUT.out.trans hb); clear hc hb) | (go_at_call 67; refine (grow78_any _ bk _ _ _ _ _ _ HC.out).mono ?_; rintro e w' ⟨rfl, hc, hb⟩; replace HC := hid hc; replace HBUT := hid (HBUT.out.trans hb); clear hc hb) | (go_at_call 68; refine (grow79_any _ bk _ _ _ _ _ _ HC.out).mono ?_; rintro e w' ⟨rfl, hc, hb⟩; replace HC := hid hc; replace HBUT := hid (HBUT.out.trans hb); clear hc hb) | (go_at_call 69; refine (grow80_any _ bk _ _ _ _ _ _ HC.out).mono ?_; rintro e w' ⟨rfl, hc, hb⟩; replace HC := hid hc; replace HBUT := hid (HBUT.out.trans hb); clear hc hb) | (go_at_call 70; refine (grow81_any _ bk _ _ _ _ _ _ HC.out).mono ?_; rintro e w' ⟨rfl, hc, hb⟩; replace HC := hid hc; replace HBUT := hid (HBUT.out.trans hb); clear hc hb) | (go_at_call 71; refine (grow82_any _ bk _ _ _ _ _ _ HC.out).mono ?_; rintro e w' ⟨rfl, hc, hb⟩; replace HC := hid hc; replace HBUT := hid (HBUT.out.trans hb); clear hc hb) | (go_at_call 72; refine (grow83_any _ bk _ _ _ _ _ _ HC.out).mono ?_; rintro e w' ⟨rfl, hc, hb⟩; replace HC := hid hc; replace HBUT := hid (HBUT.out.trans hb); clear hc hb; have hT : w'.cell? ⟨bk, 72, none⟩ = some (.int .i64 T) := HC.out.cell (i := 72) (by decide); have hD : w'.cell? ⟨bk, 73, none⟩ = some (.int .i64 D) := HC.out.cell (i := 73) (by decide); have hf := HC.out.frozen 73; have hlt := HC.out.lt))
  go_end0
  have hS2 := HS.out.but HBUT.out HC.out
  have hbut : But w' (w'.setCell ⟨bk, 73, none⟩ (.int .i64 T)) bk := But.setCell _ _ _ _
  obtain ⟨cs, hcs⟩ := bkc_block HS.out.cells
  refine ⟨rfl, v0', v1', gs', ms', hS2.but hbut ((HC.out.set 73 _).congr (fun i _ => bkF_D _ _ _ _ _ _ _ i)), HLN.out, HB1.out.trans (But.below (HBUT.out.trans hbut) hB), H571.out.trans (Same.but hcs (by decide) (HBUT.out.trans hbut))⟩

set_option maxRecDepth 100000 in
set_option maxHeartbeats 800000 in
/-- Look: all that is kept holds its mark. -/
theorem look_any (w : World) (B bk A : Nat) (v0 v1 : Value) (T D U : Int) (gs : List Value) (ms : List Nat) (h : Bst w B bk v0 v1 A T D U gs ms A gs.length) (hA : A ≤ gs.length) (hU : 48000 * (gs.length : Int) ≤ 40000 * (A : Int) + 6 * U) (hU1 : U ≤ 16777216) (hB : B ≤ bk) (hBw : B ≤ w.heap.size) :
    Calls Tryz.prog 14 #[.pointer (some ⟨bk, 0, none⟩)] w fun e w' => e = .returned (.bool true) ∧ Below B w w' := by
  have hn : gs.length ≤ 1048576 := by omega
  have HH := hid (holds_any w B bk v0 v1 A T D U gs ms A gs.length h hn)
  have H := hid h
  have HA := hid (And.intro hA hU)
  clear h hn hA hU
  go_enter Tryz.func14, Tryz.ntmps14
  go_wp2_with fail
  refine HH.out.mono ?_
  rintro e w1 ⟨rfl, hg⟩
  have HS1 : Hid (Bst w1 B bk v0 v1 A T D U gs ms A gs.length) := hid (H.out.grown hg)
  have HB1 : Hid (Below B w w1) := hid ((gbelow hg).mono hBw)
  clear hg HH H
  have hT : w1.cell? ⟨bk, 72, none⟩ = some (.int .i64 T) := HS1.out.cells.cell (i := 72) (by decide)
  have hD : w1.cell? ⟨bk, 73, none⟩ = some (.int .i64 D) := HS1.out.cells.cell (i := 73) (by decide)
  have hlt := HS1.out.cells.lt
  go_wp2
  go_quiet ((fail))
  rename_i nq
  have HS2 := hid (HS1.out.drewN nq)
  have HB2 : Hid (Below B w (w1.drewN nq)) := hid (HB1.out.trans ((below_drewN w1 nq).mono (Nat.le_trans hBw HB1.out.size)))
  clear HS1 HB1 hT hD hlt
  generalize w1.drewN nq = w2 at HS2 HB2 ⊢
  by_cases hq : D = T
  · have hq' : (D == T) = true := beq_iff_eq.2 hq
    have HQ := hid hq
    clear hq
    go_wp2
    go_ret
    exact ⟨rfl, HB2.out⟩
  · have hq' : (D == T) = false := beq_eq_false_iff_ne.2 hq
    clear hq
    have hBw2 : B ≤ w2.heap.size := Nat.le_trans hBw HB2.out.size
    have HG := hid (grow_any w2 B bk A gs.length v0 v1 T D U gs ms HS2.out rfl HA.out.1 (by have := HA.out; omega) hB hBw2)
    go_wp2_with fail
    refine HG.out.mono ?_
    rintro e w3 ⟨rfl, v0', v1', gs', ms', hS, hlen, hb, h57⟩
    have HB3 := hid (HB2.out.trans hb)
    have hn3 : gs'.length ≤ 1048576 := by have := HA.out; omega
    have HH3 := hid (holds_any w3 B bk v0' v1' gs'.length T T U gs' ms' gs'.length gs'.length hS hn3)
    clear hS hlen hb h57 HG hn3
    go_wp2_with fail
    refine HH3.out.mono ?_
    rintro e w4 ⟨rfl, hg⟩
    have HB4 : Hid (Below B w w4) := hid (HB3.out.trans ((gbelow hg).mono (Nat.le_trans hBw HB3.out.size)))
    clear hg HH3
    go_wp2
    go_ret
    exact ⟨rfl, HB4.out⟩
end Go.Proofs.YtlgjmhemgfjgnaaGreat.Bk
