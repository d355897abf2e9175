/- The walk of Bytes. -/
import Derived.Test.YtpbiofnncdneoaaGreatDoorX19
namespace Go.Proofs.YtpbiofnncdneoaaGreatDoor.Bq
open Go Go.RowKit Go.Proofs.YtpbiofnncdneoaaGreatDoor.Bk
open Go.RowKit (wrap32 wrap64)

theorem own_block {w : World} {B : Nat → Prop} {e : TypeId} {v : Value} {n b : Nat} {xs : List Value} (h : OwnR w B e v n xs) (hb : v.ownBlock = some b) : B b ∧ b < w.heap.size ∧ ∃ cs, w.heap[b]? = some (.cells cs e (0, 0)) := by
 have h1 := h.lt b hb
 refine ⟨h1.1, h1.2, ?_⟩
 rcases h.2 with ⟨rfl, _⟩ | ⟨g, cap, cur, rfl, _, hg, _⟩
 ·cases hb
 ·have : g = b := by simpa [Value.ownBlock] using hb
  subst this
  exact ⟨cur, hg⟩

set_option maxRecDepth 100000 in
set_option maxHeartbeats 1600000 in
theorem bytes_any (w : World) (B : Nat → Prop) (bk A T : Nat) (v0 v1 o : Value) (D U : Int) (gs : List Value) (ms : List Nat) (l : List UInt8) (h : Bst w B bk v0 v1 A T D U gs ms A gs.length) (hB : B bk) (hBw : NewB B w)
  (ho : OwnR w B 5 o l.length (cb l)) (hl : l.length ≤ 8388608) (hT : T ≤ 549755813888) (hU0 : 0 ≤ U) (hU1 : U ≤ 16777216) (hn : gs.length ≤ 1048575) (hap : ∀ (j : Nat) g', gs[j]? = some g' → Apart g' o) :
  Calls Tryz.prog 38 #[.pointer (some ⟨bk, 0, none⟩), o] w fun e w' => e = .returned (.tuple #[]) ∧ ∃ (v0' v1' : Value) (gs' : List Value) (ms' : List Nat) (U' : Int), Bst w' B bk v0' v1' A ((T + 1 : Nat) : Int) D U' gs' ms' A gs'.length ∧ 0 ≤ U' ∧ U' ≤ 16777216 ∧ ((gs' = gs ∧ U' = U) ∨ (gs' = gs ++ [o] ∧ U' = U + (1200 + 3 * (l.length : Int)))) ∧ Kept w w' B bk v0 v1 o ∧ (v0'.ownBlock = v0.ownBlock ∨ ∃ k, w.heap.size ≤ k ∧ v0'.ownBlock = some k) := by
 obtain ⟨inf28, hi58, hz580, hz581, hz582⟩ := info_parts Tryz.info74
 obtain ⟨inf3, hi3, hz30, hz31, hz32⟩ := info_parts Tryz.info3
 have hcT : w.cell? ⟨bk, 72, none⟩ = some (.int .i64 T) := h.cells.cell (i := 72) (by decide)
 have hfT := h.cells.frozen 72
 have hlt := h.cells.lt
 obtain ⟨ao, co, hov⟩ := own_shape' ho
 subst hov
 obtain ⟨x, hx⟩ : ∃ x : Int, (l.length : Int) = x := ⟨_, rfl⟩
 have hx0 : 0 ≤ x := by omega
 have hx1 : x ≤ 8388608 := by omega
 have HX := hid hx
 obtain ⟨t, ht⟩ : ∃ t : Int, (T : Int) = t := ⟨_, rfl⟩
 have ht0 : 0 ≤ t := by omega
 have ht1 : t ≤ 549755813888 := by omega
 have HT := hid ht
 obtain ⟨W1, HW1⟩ : ∃ W1, Hid (w.setCell ⟨bk, 72, none⟩ (.int .i64 (t + 1)) = W1) := ⟨_, hid rfl⟩
 have hS1 : Bst W1 B bk v0 v1 A ((T + 1 : Nat) : Int) D U gs ms A gs.length := by
  have hb := But.setCell w bk 72 (.int .i64 (t + 1))
  rw [HW1.out] at hb
  refine h.but hb ?_
  have h2 := (h.cells.set 72 (.int .i64 (t + 1))).congr (fun i _ => bkF_T _ _ _ _ _ _ _ i)
  rw [HW1.out] at h2
  have e : ((T + 1 : Nat) : Int) = t + 1 := by omega
  rw [e]
  exact h2
 have hb1 : But w W1 bk := by rw [← HW1.out]; exact But.setCell _ _ _ _
 have hO1 : OwnR W1 B 5 (.slice ao l.length co) l.length (cb l) := by
  obtain ⟨cs, hcs⟩ := bkc_block h.cells
  exact own_same ho (Same.but hcs (by decide) hb1)
 have HK1 : Hid (Kept w W1 B bk v0 v1 (.slice ao l.length co)) := hid ((Kept.refl w B bk v0 v1 _).step (hb1.belq hB) (fun b _ h2 _ _ _ => hb1.block b h2))
 have HS1 := hid hS1
 have HO1 := hid hO1
 have HAP := hid hap
 have hBw1 : NewB B W1 := NewB.up hBw (by rw [hb1.size]; exact Nat.le_refl _)
 have HN := hid hn
 have HW2 := hid hb1.size
 clear h ho hS1 hO1 hap hb1
 go_enter Tryz.func38, Tryz.ntmps38
 go_wp2
 rw [HW1.out]
 go_loopw [5] (fun iv wr => ∃ i : Nat, iv = .int .i64 i ∧ i ≤ 8388608 ∧ Hid (i ≤ l.length) ∧ Hid (Bst wr B bk v0 v1 A ((T + 1 : Nat) : Int) D U gs ms A gs.length) ∧ Hid (OwnR wr B 5 (.slice ao l.length co) l.length (cb (markL (T + 1) i ++ l.drop i))) ∧ Hid (Kept w wr B bk v0 v1 (.slice ao l.length co))) (fun iv _ => l.length - (intOf iv).toNat)
 case atStart => exact ⟨0, rfl, by omega, hid (Nat.zero_le _), HS1, hid (by simpa [markL] using HO1.out), HK1⟩
 case round =>
  as_aux_lemma =>
  clear hcT hfT hlt HS1 HO1 HK1
  obtain ⟨i, rfl, hi, HI, HS, HO, HK⟩ := hrel
  by_cases hil : i < l.length
  ·have hlt' : (i : Int) < x := by have := HX.out; omega
   obtain ⟨b, hao, hb, hBb, _, hcell⟩ := own_cells HO.out (by omega)
   subst hao
   have hck := hcell i hil
   have hck' : ∃ u, (cb (markL (T + 1) i ++ l.drop i))[i]? = some u := by
    refine ⟨_, List.getElem?_eq_getElem (by rw [cb_length, List.length_append, markL_length, List.length_drop]; omega)⟩
   obtain ⟨u0, hu0⟩ := hck'
   rw [hu0] at hck
   have hfz := HO.out.frozenAt i
   have hat := fun w => at_any (T + 1) i w (by omega) (by omega)
   have e1 : ((T + 1 : Nat) : Int) = t + 1 := by have := HT.out; omega
   rw [e1] at hat
   obtain ⟨y, HY⟩ : ∃ y : Int, Hid (((Bk.mark (T + 1) i).toNat : Int) = y) := ⟨_, hid rfl⟩
   rw [HY.out] at hat
   have HAT := hid hat
   clear hat hcell hu0 e1
   go_wp2_with (go_at_call 66; refine (HAT.out _).mono ?_; rintro e w' ⟨rfl, hw⟩; have hw' := hw.symm; clear hw; subst hw')
   have hst := HO.out.stored i (.int .u8 y)
   have hbut : But wr (wr.setCell ⟨b, i, none⟩ (.int .u8 y)) b := But.setCell _ _ _ _
   obtain ⟨_, _, cs, hcs⟩ := own_block HO.out (b := b) rfl
   refine ⟨⟨i + 1, by go_num, by omega, hid (by omega), hid (HS.out.other hcs hbut (fun j g' hg' => ?_)), hid ?_, hid (HK.out.step (hbut.belq hBb) (fun k _ _ _ _ h5 => hbut.block k (fun e => h5 (by rw [e]; rfl))))⟩, by simp [intOf]; omega⟩
   ·rcases HAP.out j g' hg' with h1 | h1
    ·rw [h1]; exact fun k => by cases k
    ·exact h1
   ·rw [← mark_step (T + 1) i l.length l rfl hil, HY.out]
    exact hst.1
  ·have hge : x ≤ (i : Int) := by have := HX.out; omega
   have hil2 : i = l.length := by have := HI.out; omega
   have hO := HO.out
   rw [hil2, List.drop_length, List.append_nil] at hO
   have HO2 := hid hO
   clear hO HO
   have HTG := hid (tight_any wr bk v0 v1 A ((T + 1 : Nat) : Int) D U (1200 + 3 * x) HS.out.cells hU0 hU1 (by omega) (by omega))
   have hBr : NewB B wr := NewB.up hBw HK.out.below.size
   go_wp2_with fail
   refine HTG.out.mono ?_
   rintro e w2 (⟨rfl, hw⟩ | ⟨rfl, hU2, hC2, hbut⟩)
   ·have hw' := hw.symm
    clear hw
    subst hw'
    go_wp2
    (try simp only [Exit.inBlock, Exit.then])
    refine bodyPost_ret (results_none rfl _ _ _) rfl ?_
    exact ⟨rfl, v0, v1, gs, ms, U, HS.out, hU0, hU1, Or.inl ⟨rfl, rfl⟩, HK.out, Or.inl rfl⟩
   ·have hU2' := hU2.out
    have HS2 := hid (HS.out.but hbut hC2)
    have HK2 : Hid (Kept w w2 B bk v0 v1 (.slice ao l.length co)) := hid (HK.out.step (hbut.belq hB) (fun b _ h2 _ _ _ => hbut.block b h2))
    have HO3 : Hid (OwnR w2 B 5 (.slice ao l.length co) l.length (cb (markL (T + 1) l.length))) := hid (by
     obtain ⟨cs, hcs⟩ := bkc_block HS.out.cells
     exact own_same HO2.out (Same.but hcs (by decide) hbut))
    have hBr2 : NewB B w2 := NewB.up hBw HK2.out.below.size
    clear hbut hC2 HS HK HO2 HTG hU2 hBr
    obtain ⟨a0, c0, hv0⟩ := own_shape' HS2.out.row0
    obtain ⟨a1, c1, hv1⟩ := own_shape' HS2.out.row1
    subst hv0
    subst hv1
    obtain ⟨n, HNN⟩ : ∃ n : Nat, Hid (gs.length = n) := ⟨_, hid rfl⟩
    have hn1 : n ≤ 1048575 := by have := HNN.out; have := HN.out; omega
    have hlt := HS2.out.cells.lt
    have hc0 : w2.cell? ⟨bk, 0, none⟩ = some (.slice a0 n c0) := by have h9 : w2.cell? ⟨bk, 0, none⟩ = _ := HS2.out.cells.cell (i := 0) (by decide); rw [h9, ← HNN.out]; rfl
    have hf0 := HS2.out.cells.frozen 0
    have hrow0 : OwnR w2 B 74 (.slice a0 n c0) n gs := by have := HS2.out.row0; rw [HNN.out] at this; exact this
    go_wp2_with (at_builtin; refine wpList_append_keeps _ rfl (.tmp 39) (.tmp 41) 37 rfl B 74 inf28 (.slice none 0 0) 24 Tryz.under37 hi58 hz580 hz581 hz582 rfl _ n _ rfl (hrow0.alloc _) ⟨w2.heap.size, 0, none⟩ 1 (.slice ao l.length co) rfl (new_cell w2 _ _) rfl ?h63 ?hbytes ?hbase ?_)
    case h63 => unfold maxLen; omega
    case hbytes => omega
    case hbase => first | exact hBr3.up (by simp [World.setCell]) | exact hBr2.up (by simp) | exact hBr.up (by simp) | exact hBw.up (by simp)
    intro g3 cap3 w3 hown3 hg3 hwh3 hkeep3
    have S3 : ∀ e, e ≠ 74 → Same e w2 w3 := fun e he => (Same.alloc e w2 _).trans (Same.grown (hrow0.alloc _) hg3 he)
    have hal : Below w2.heap.size w2 (w2.alloc (.cells #[.slice ao l.length co] 74)) := (Below.refl _ _).alloc (Nat.le_refl _) _
    have hb23 : Bel B w2 w3 := ((Bel.refl _ _).alloc hBr2 _).grown hg3 (fun j hj => (hrow0.lt j hj).1)
    have HK3 : Hid (Kept w w3 B bk (.slice a0 n c0) (.slice a1 n c1) (.slice ao l.length co)) := hid (by
     have h9 := HK2.out
     rw [HNN.out] at h9
     refine h9.step hb23 (fun b hb _ h3 _ _ => ?_)
     rw [hg3.block b (by simp; omega) (fun e => h3 e.symm), heap_alloc_old w2 _ hb])
    have C3 := hid (bkc_same HS2.out.cells (S3 63 (by decide)))
    have R3 := hid (own_same HS2.out.row1 (S3 3 (by decide)))
    have HWH : Hid (g3 = w2.heap.size + 1 ∨ (Value.slice a0 n c0).ownBlock = some g3) := hid (by
     rcases hwh3 with h1 | h1
     ·exact Or.inr h1
     ·exact Or.inl (by simpa using h1))
    have hf3 := C3.out.frozen 0
    have hf31 := C3.out.frozen 1
    have hc30 : w3.cell? ⟨bk, 0, none⟩ = some (.slice a0 n c0) := by have h9 : w3.cell? ⟨bk, 0, none⟩ = _ := C3.out.cell (i := 0) (by decide); rw [h9, ← HNN.out]; rfl
    have hc31 : w3.cell? ⟨bk, 1, none⟩ = some (.slice a1 n c1) := by have h9 : w3.cell? ⟨bk, 1, none⟩ = _ := C3.out.cell (i := 1) (by decide); rw [h9, ← HNN.out]; rfl
    have hlt3 := C3.out.lt
    have hBr3 : NewB B w3 := NewB.up hBr2 hb23.size
    have HOWN3 := hid hown3
    have HSZ3 : Hid (w2.heap.size ≤ w3.heap.size) := hid hb23.size
    have HS3 := hid S3
    clear hown3 hg3 hwh3 hkeep3 S3 hc0 hf0 hrow0 hal hb23
    have hrow1 : OwnR (w3.setCell ⟨bk, 0, none⟩ (.slice (some ⟨g3, 0, none⟩) (n + 1) cap3)) B 3 (.slice a1 n c1) n (ci ms) := by
     obtain ⟨cs, hcs⟩ := bkc_block C3.out
     have := own_same R3.out (Same.set (i := 0) hcs (by decide) (.slice (some ⟨g3, 0, none⟩) (n + 1) cap3))
     rw [HNN.out] at this
     exact this
    go_wp2_with (at_builtin; refine wpList_append_keeps _ rfl (.tmp 49) (.tmp 51) 38 rfl B 3 inf3 (.int .i64 0) 8 Tryz.under38 hi3 hz30 hz31 hz32 rfl _ n _ rfl (hrow1.alloc _) ⟨(w3.setCell ⟨bk, 0, none⟩ (.slice (some ⟨g3, 0, none⟩) (n + 1) cap3)).heap.size, 0, none⟩ 1 (.int .i64 (t + 1)) ?hx1 (new_cell _ _ _) rfl ?h63 ?hbytes ?hbase ?_)
    case hx1 => simp [Act.eval, World.setCell]
    case h63 => unfold maxLen; omega
    case hbytes => omega
    case hbase => first | exact hBr3.up (by simp [World.setCell]) | exact hBr2.up (by simp) | exact hBr.up (by simp) | exact hBw.up (by simp)
    intro g5 cap5 w5 hown5 hg5 hwh5 hkeep5
    obtain ⟨W4, HW4⟩ : ∃ W4, Hid (w3.setCell ⟨bk, 0, none⟩ (.slice (some ⟨g3, 0, none⟩) (n + 1) cap3) = W4) := ⟨_, hid rfl⟩
    rw [HW4.out] at hrow1 hg5
    have S5 : ∀ e, e ≠ 3 → Same e W4 w5 := fun e he => (Same.alloc e W4 _).trans (Same.grown (hrow1.alloc _) hg5 he)
    have C4 : Bkc W4 bk (.slice (some ⟨g3, 0, none⟩) (n + 1) cap3) (.slice a1 n c1) A ((T + 1 : Nat) : Int) D (U + (1200 + 3 * x)) := by
     rw [← HW4.out]
     have h9 := (C3.out.set 0 (.slice (some ⟨g3, 0, none⟩) (n + 1) cap3)).congr (fun i _ => bkF_0 _ _ _ _ _ _ _ i)
     rw [HNN.out] at h9
     exact h9
    have C5 := hid (bkc_same C4 (S5 63 (by decide)))
    have hf5 := C5.out.frozen 1
    have hlt5 := C5.out.lt
    have hc51 : w5.cell? ⟨bk, 1, none⟩ = some (.slice a1 n c1) := C5.out.cell (i := 1) (by decide)
    have hbut34 : But w3 W4 bk := by rw [← HW4.out]; exact But.setCell _ _ _ _
    have hBr4 : NewB B W4 := NewB.up hBr3 (by rw [hbut34.size]; exact Nat.le_refl _)
    have hb45 : Bel B W4 w5 := ((Bel.refl _ _).alloc hBr4 _).grown hg5 (fun j hj => (hrow1.lt j hj).1)
    have HK4 := HK3.out.step (hbut34.belq hB) (fun b _ h2 _ _ _ => hbut34.block b h2)
    have HK5 : Hid (Kept w w5 B bk (.slice a0 n c0) (.slice a1 n c1) (.slice ao l.length co)) := hid (by
     refine HK4.step hb45 (fun b hb _ _ h4 _ => ?_)
     rw [hg5.block b (by simp; omega) (fun e => h4 e.symm), heap_alloc_old W4 _ hb])
    have S4 : ∀ e, e ≠ 63 → Same e w3 W4 := fun e he => by
     obtain ⟨cs, hcs⟩ := bkc_block C3.out
     rw [← HW4.out]
     exact Same.set hcs he _
    have HS25 : Hid (∀ e, e ≠ 3 → e ≠ 74 → e ≠ 63 → Same e w2 w5) := hid (fun e h1 h2 h3 => ((HS3.out e h2).trans (S4 e h3)).trans (S5 e h1))
    have HOWN5 := hid (own_same (own_same HOWN3.out (S4 74 (by decide))) (S5 74 (by decide)))
    have HR5 := hid hown5
    have HSZ5 : Hid (w3.heap.size ≤ w5.heap.size) := hid (by rw [← hbut34.size]; exact hb45.size)
    clear hown5 hg5 hwh5 hkeep5 S5 S4 C4 hrow1 hc31 hf3 hf31 hc30 HK4 hbut34 hb45
    go_wp2
    go_end0
    obtain ⟨cs5, hcs5⟩ := bkc_block C5.out
    have S56 : ∀ e, e ≠ 63 → Same e w5 (w5.setCell ⟨bk, 1, none⟩ (.slice (some ⟨g5, 0, none⟩) (n + 1) cap5)) := fun e he => Same.set hcs5 he _
    have hbut56 : But w5 (w5.setCell ⟨bk, 1, none⟩ (.slice (some ⟨g5, 0, none⟩) (n + 1) cap5)) bk := But.setCell _ _ _ _
    have et : (Value.int .i64 (t + 1)) = Value.int .i64 ((T + 1 : Nat) : Int) := by congr 1; have := HT.out; omega
    have FIN := HS2.out.pushNew (w' := w5.setCell ⟨bk, 1, none⟩ (.slice (some ⟨g5, 0, none⟩) (n + 1) cap5)) (T' := ((T + 1 : Nat) : Int)) (U' := U + (1200 + 3 * x)) (gv := .slice ao l.length co) (m := T + 1) (n := l.length)
     ((C5.out.set 1 _).congr (fun i _ => bkF_1 _ _ _ _ _ _ _ i)) (by rw [HNN.out]; exact own_same HOWN5.out (S56 74 (by decide))) (by rw [HNN.out, ← et]; exact own_same HR5.out (S56 3 (by decide)))
     ((HS25.out 5 (by decide) (by decide) (by decide)).trans (S56 5 (by decide))) (own_same (own_same HO3.out (HS25.out 5 (by decide) (by decide) (by decide))) (S56 5 (by decide))) (by omega) (by omega) HAP.out (by have := HSZ3.out; have := HSZ5.out; simp [World.setCell]; omega)
    refine ⟨rfl, _, _, _, _, _, FIN, by omega, hU2', Or.inr ⟨rfl, ?_⟩, ?_, ?_⟩
    ·have := HX.out; omega
    ·have h9 := HK5.out
     rw [← HNN.out] at h9
     exact h9.step (hbut56.belq hB) (fun b _ h2 _ _ _ => hbut56.block b h2)
    ·rcases HWH.out with h1 | h1
     ·exact Or.inr ⟨g3, by have := HK2.out.below.size; omega, rfl⟩
     ·left
      show some g3 = _
      rw [← h1, HNN.out]
end Go.Proofs.YtpbiofnncdneoaaGreatDoor.Bq

namespace Go.Proofs.YtpbiofnncdneoaaGreatDoor.Bq
open Go Go.RowKit Go.Proofs.YtpbiofnncdneoaaGreatDoor.Bk
open Go.RowKit (wrap32 wrap64)

theorem Bst.drewN {w : World} {B : Nat → Prop} {bk : Nat} {v0 v1 : Value} {A T D U : Int} {gs : List Value} {ms : List Nat} {k N : Nat} (h : Bst w B bk v0 v1 A T D U gs ms k N) (n : Nat) : Bst (w.drewN n) B bk v0 v1 A T D U gs ms k N := h.same (fun e _ => Same.drewN e w n) (Nat.le_refl _)

set_option maxRecDepth 100000 in
set_option maxHeartbeats 800000 in
theorem holds_any (w : World) (B : Nat → Prop) (bk : Nat) (v0 v1 : Value) (A T D U : Int) (gs : List Value) (ms : List Nat) (k N : Nat) (h : Bst w B bk v0 v1 A T D U gs ms k N) (hn : gs.length ≤ 1048576) :
  Calls Tryz.prog 39 #[.pointer (some ⟨bk, 0, none⟩)] w fun e w' => e = .returned (.bool true) ∧ ∃ k, w' = w.drewN k := by
 have HP := hid (plain_any w 0 bk gs.length v0 v1 A T D U gs ms h.cells hn h.row0.own h.row1.own h.mle h.held)
 have H := hid h
 clear h
 go_enter Tryz.func39, Tryz.ntmps39
 go_wp2_with fail
 refine HP.out.mono ?_
 rintro e w1 ⟨rfl, d, hw⟩
 have HC : Hid (Bkc w1 bk v0 v1 A T D U) := hid (by rw [hw]; exact (H.out.drewN d).cells)
 have HW := hid hw
 clear hw HP H
 go_wp2_with (first | (go_at_call 69; refine (look69_any _ bk _ _ _ _ _ _ HC.out).mono ?_; rintro e w' ⟨rfl, hw⟩; have hw' := hw.symm; clear hw; subst hw') | (go_at_call 70; refine (look70_any _ bk _ _ _ _ _ _ HC.out).mono ?_; rintro e w' ⟨rfl, hw⟩; have hw' := hw.symm; clear hw; subst hw') | (go_at_call 71; refine (look71_any _ bk _ _ _ _ _ _ HC.out).mono ?_; rintro e w' ⟨rfl, hw⟩; have hw' := hw.symm; clear hw; subst hw') | (go_at_call 72; refine (look72_any _ bk _ _ _ _ _ _ HC.out).mono ?_; rintro e w' ⟨rfl, hw⟩; have hw' := hw.symm; clear hw; subst hw') | (go_at_call 73; refine (look73_any _ bk _ _ _ _ _ _ HC.out).mono ?_; rintro e w' ⟨rfl, hw⟩; have hw' := hw.symm; clear hw; subst hw') | (go_at_call 74; refine (look74_any _ bk _ _ _ _ _ _ HC.out).mono ?_; rintro e w' ⟨rfl, hw⟩; have hw' := hw.symm; clear hw; subst hw'))
 go_ret
 exact ⟨rfl, d, HW.out⟩

set_option maxRecDepth 100000 in
set_option maxHeartbeats 1600000 in
theorem grow_any (w : World) (B : Nat → Prop) (bk A N : Nat) (v0 v1 : Value) (T D U : Int) (gs : List Value) (ms : List Nat) (h : Bst w B bk v0 v1 A T D U gs ms A N) (hN : gs.length = N) (hA : A ≤ N) (hbig : 10 * N ≤ 9 * A + 1048576) (hB : B bk) (hBw : NewB B w) :
  Calls Tryz.prog 40 #[.pointer (some ⟨bk, 0, none⟩)] w fun e w' => e = .returned (.tuple #[]) ∧ ∃ (v0' v1' : Value) (gs' : List Value) (ms' : List Nat), Bst w' B bk v0' v1' gs'.length T T U gs' ms' gs'.length gs'.length ∧ gs'.length = N + 9 * (N - A) ∧ Bel B w w' ∧ Same 66 w w' := by
 have HG := hid (growBytes_any w B bk A N v0 v1 T D U gs ms h hN hA hbig hB hBw)
 clear h hN hbig hA
 go_enter Tryz.func40, Tryz.ntmps40
 go_wp2_with fail
 refine HG.out.mono ?_
 rintro e w1 ⟨rfl, v0', v1', gs', ms', hS, hlen, hb, h57⟩
 have HS := hid hS
 have HR := hid (And.intro hlen (And.intro hb h57))
 have HC := hid hS.cells
 have HBUT := hid (But.refl w1 bk)
 clear hS hlen hb h57 HG
 go_wp2_with (first | (go_at_call 76; refine (grow76_any _ bk _ _ _ _ _ _ HC.out).mono ?_; rintro e w' ⟨rfl, hc, hb⟩; replace HC := hid hc; replace HBUT := hid (HBUT.out.trans hb); clear hc hb) | (go_at_call 77; refine (grow77_any _ bk _ _ _ _ _ _ HC.out).mono ?_; rintro e w' ⟨rfl, hc, hb⟩; replace HC := hid hc; replace HBUT := hid (HBUT.out.trans hb); clear hc hb) | (go_at_call 78; refine (grow78_any _ bk _ _ _ _ _ _ HC.out).mono ?_; rintro e w' ⟨rfl, hc, hb⟩; replace HC := hid hc; replace HBUT := hid (HBUT.out.trans hb); clear hc hb) | (go_at_call 79; refine (grow79_any _ bk _ _ _ _ _ _ HC.out).mono ?_; rintro e w' ⟨rfl, hc, hb⟩; replace HC := hid hc; replace HBUT := hid (HBUT.out.trans hb); clear hc hb) | (go_at_call 80; refine (grow80_any _ bk _ _ _ _ _ _ HC.out).mono ?_; rintro e w' ⟨rfl, hc, hb⟩; replace HC := hid hc; replace HBUT := hid (HBUT.out.trans hb); clear hc hb) | (go_at_call 81; refine (grow81_any _ bk _ _ _ _ _ _ HC.out).mono ?_; rintro e w' ⟨rfl, hc, hb⟩; replace HC := hid hc; replace HBUT := hid (HBUT.out.trans hb); clear hc hb) | (go_at_call 82; refine (grow82_any _ bk _ _ _ _ _ _ HC.out).mono ?_; rintro e w' ⟨rfl, hc, hb⟩; replace HC := hid hc; replace HBUT := hid (HBUT.out.trans hb); clear hc hb) | (go_at_call 83; refine (grow83_any _ bk _ _ _ _ _ _ HC.out).mono ?_; rintro e w' ⟨rfl, hc, hb⟩; replace HC := hid hc; replace HBUT := hid (HBUT.out.trans hb); clear hc hb) | (go_at_call 84; refine (grow84_any _ bk _ _ _ _ _ _ HC.out).mono ?_; rintro e w' ⟨rfl, hc, hb⟩; replace HC := hid hc; replace HBUT := hid (HBUT.out.trans hb); clear hc hb) | (go_at_call 85; refine (grow85_any _ bk _ _ _ _ _ _ HC.out).mono ?_; rintro e w' ⟨rfl, hc, hb⟩; replace HC := hid hc; replace HBUT := hid (HBUT.out.trans hb); clear hc hb) | (go_at_call 86; refine (grow86_any _ bk _ _ _ _ _ _ HC.out).mono ?_; rintro e w' ⟨rfl, hc, hb⟩; replace HC := hid hc; replace HBUT := hid (HBUT.out.trans hb); clear hc hb) | (go_at_call 87; refine (grow87_any _ bk _ _ _ _ _ _ HC.out).mono ?_; rintro e w' ⟨rfl, hc, hb⟩; replace HC := hid hc; replace HBUT := hid (HBUT.out.trans hb); clear hc hb) | (go_at_call 88; refine (grow88_any _ bk _ _ _ _ _ _ HC.out).mono ?_; rintro e w' ⟨rfl, hc, hb⟩; replace HC := hid hc; replace HBUT := hid (HBUT.out.trans hb); clear hc hb) | (go_at_call 89; refine (grow89_any _ bk _ _ _ _ _ _ HC.out).mono ?_; rintro e w' ⟨rfl, hc, hb⟩; replace HC := hid hc; replace HBUT := hid (HBUT.out.trans hb); clear hc hb) | (go_at_call 90; refine (grow90_any _ bk _ _ _ _ _ _ HC.out).mono ?_; rintro e w' ⟨rfl, hc, hb⟩; replace HC := hid hc; replace HBUT := hid (HBUT.out.trans hb); clear hc hb) | (go_at_call 91; refine (grow91_any _ bk _ _ _ _ _ _ HC.out).mono ?_; rintro e w' ⟨rfl, hc, hb⟩; replace HC := hid hc; replace HBUT := hid (HBUT.out.trans hb); clear hc hb) | (go_at_call 92; refine (grow92_any _ bk _ _ _ _ _ _ HC.out).mono ?_; rintro e w' ⟨rfl, hc, hb⟩; replace HC := hid hc; replace HBUT := hid (HBUT.out.trans hb); clear hc hb) | (go_at_call 93; refine (grow93_any _ bk _ _ _ _ _ _ HC.out).mono ?_; rintro e w' ⟨rfl, hc, hb⟩; replace HC := hid hc; replace HBUT := hid (HBUT.out.trans hb); clear hc hb) | (go_at_call 94; refine (grow94_any _ bk _ _ _ _ _ _ HC.out).mono ?_; rintro e w' ⟨rfl, hc, hb⟩; replace HC := hid hc; replace HBUT := hid (HBUT.out.trans hb); clear hc hb) | (go_at_call 95; refine (grow95_any _ bk _ _ _ _ _ _ HC.out).mono ?_; rintro e w' ⟨rfl, hc, hb⟩; replace HC := hid hc; replace HBUT := hid (HBUT.out.trans hb); clear hc hb) | (go_at_call 96; refine (grow96_any _ bk _ _ _ _ _ _ HC.out).mono ?_; rintro e w' ⟨rfl, hc, hb⟩; replace HC := hid hc; replace HBUT := hid (HBUT.out.trans hb); clear hc hb) | (go_at_call 97; refine (grow97_any _ bk _ _ _ _ _ _ HC.out).mono ?_; rintro e w' ⟨rfl, hc, hb⟩; replace HC := hid hc; replace HBUT := hid (HBUT.out.trans hb); clear hc hb) | (go_at_call 98; refine (grow98_any _ bk _ _ _ _ _ _ HC.out).mono ?_; rintro e w' ⟨rfl, hc, hb⟩; replace HC := hid hc; replace HBUT := hid (HBUT.out.trans hb); clear hc hb; have hT : w'.cell? ⟨bk, 72, none⟩ = some (.int .i64 T) := HC.out.cell (i := 72) (by decide); have hD : w'.cell? ⟨bk, 73, none⟩ = some (.int .i64 D) := HC.out.cell (i := 73) (by decide); have hf := HC.out.frozen 73; have hlt := HC.out.lt))
 go_end0
 obtain ⟨hlen, hb, h57⟩ := HR.out
 have hS2 := HS.out.but HBUT.out HC.out
 have hbut : But w' (w'.setCell ⟨bk, 73, none⟩ (.int .i64 T)) bk := But.setCell _ _ _ _
 obtain ⟨cs, hcs⟩ := bkc_block HS.out.cells
 refine ⟨rfl, v0', v1', gs', ms', hS2.but hbut ((HC.out.set 73 _).congr (fun i _ => bkF_D _ _ _ _ _ _ _ i)), hlen, hb.trans ((HBUT.out.trans hbut).belq hB), h57.trans (Same.but hcs (by decide) (HBUT.out.trans hbut))⟩

set_option maxRecDepth 100000 in
set_option maxHeartbeats 800000 in
/-- Look: all that is kept holds its mark. -/
theorem look_any (w : World) (B : Nat → Prop) (bk A : Nat) (v0 v1 : Value) (T D U : Int) (gs : List Value) (ms : List Nat) (h : Bst w B bk v0 v1 A T D U gs ms A gs.length) (hA : A ≤ gs.length) (hU : 1200 * (gs.length : Int) ≤ 1080 * (A : Int) + U) (hU1 : U ≤ 16777216) (hB : B bk) (hBw : NewB B w) :
  Calls Tryz.prog 13 #[.pointer (some ⟨bk, 0, none⟩)] w fun e w' => e = .returned (.bool true) ∧ ∃ (v0' v1' : Value) (A' : Nat) (D' : Int) (gs' : List Value) (ms' : List Nat), Bst w' B bk v0' v1' A' T D' U gs' ms' A' gs'.length ∧ A' ≤ gs'.length ∧ 1200 * (gs'.length : Int) ≤ 1080 * (A' : Int) + U ∧ Bel B w w' ∧ Same 66 w w' := by
 have hn : gs.length ≤ 1048576 := by omega
 have HH := hid (holds_any w B bk v0 v1 A T D U gs ms A gs.length h hn)
 have H := hid h
 have HA := hid (And.intro hA hU)
 clear h hn hA hU
 go_enter Tryz.func13, Tryz.ntmps13
 go_wp2_with fail
 refine HH.out.mono ?_
 rintro e w1 ⟨rfl, d, hw⟩
 have HS1 : Hid (Bst w1 B bk v0 v1 A T D U gs ms A gs.length) := hid (by rw [hw]; exact H.out.drewN d)
 have HB1 : Hid (Bel B w w1) := hid (by rw [hw]; exact Bel.drewN' w d)
 have H571 : Hid (Same 66 w w1) := hid (by rw [hw]; exact Same.drewN _ _ _)
 clear hw HH H
 have hT : w1.cell? ⟨bk, 72, none⟩ = some (.int .i64 T) := HS1.out.cells.cell (i := 72) (by decide)
 have hD : w1.cell? ⟨bk, 73, none⟩ = some (.int .i64 D) := HS1.out.cells.cell (i := 73) (by decide)
 have hlt := HS1.out.cells.lt
 go_wp2
 go_quiet ((fail))
 rename_i nq
 have HS2 := hid (HS1.out.drewN nq)
 have HB2 : Hid (Bel B w (w1.drewN nq)) := hid (HB1.out.trans (Bel.drewN' w1 nq))
 have H572 := hid (H571.out.trans (Same.drewN 66 w1 nq))
 clear HS1 HB1 H571 hT hD hlt
 generalize w1.drewN nq = w2 at HS2 HB2 H572 ⊢
 by_cases hq : D = T
 ·have hq' : (D == T) = true := beq_iff_eq.2 hq
  have HQ := hid hq
  clear hq
  go_wp2
  go_ret
  exact ⟨rfl, v0, v1, A, D, gs, ms, HS2.out, HA.out.1, HA.out.2, HB2.out, H572.out⟩
 ·have hq' : (D == T) = false := beq_eq_false_iff_ne.2 hq
  clear hq
  have hBw2 : NewB B w2 := NewB.up hBw HB2.out.size
  have HG := hid (grow_any w2 B bk A gs.length v0 v1 T D U gs ms HS2.out rfl HA.out.1 (by have := HA.out; omega) hB hBw2)
  go_wp2_with fail
  refine HG.out.mono ?_
  rintro e w3 ⟨rfl, v0', v1', gs', ms', hS, hlen, hb, h57⟩
  have HS3 := hid hS
  have HL3 := hid hlen
  have HB3 := hid (HB2.out.trans hb)
  have H573 := hid (H572.out.trans h57)
  have hn3 : gs'.length ≤ 1048576 := by have := HA.out; omega
  have HH3 := hid (holds_any w3 B bk v0' v1' gs'.length T T U gs' ms' gs'.length gs'.length hS hn3)
  clear hS hlen hb h57 HG hn3
  go_wp2_with fail
  refine HH3.out.mono ?_
  rintro e w4 ⟨rfl, d4, hw⟩
  have HS4 : Hid (Bst w4 B bk v0' v1' gs'.length T T U gs' ms' gs'.length gs'.length) := hid (by rw [hw]; exact HS3.out.drewN d4)
  have HB4 : Hid (Bel B w w4) := hid (by rw [hw]; exact HB3.out.trans (Bel.drewN' w3 d4))
  have H574 : Hid (Same 66 w w4) := hid (by rw [hw]; exact H573.out.trans (Same.drewN _ _ _))
  clear hw HH3
  go_wp2
  go_ret
  exact ⟨rfl, v0', v1', gs'.length, T, gs', ms', HS4.out, Nat.le_refl _, by have := HA.out; have := HL3.out; omega, HB4.out, H574.out⟩
end Go.Proofs.YtpbiofnncdneoaaGreatDoor.Bq
