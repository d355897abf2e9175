/- The walk of growBytes. -/
import Derived.Test.YtpbiofnncdneoaaGreatDoorX18
namespace Go.Proofs.YtpbiofnncdneoaaGreatDoor.Bq
open Go Go.RowKit Go.Proofs.YtpbiofnncdneoaaGreatDoor.Bk
open Go.RowKit (wrap32 wrap64)

theorem Tryz.info74 : (Tryz.prog.info? 74).map (fun i => (i.zero, i.size, i.bytes)) = some (some (.slice none 0 0), 1, 24) := by kernel_rfl
theorem Tryz.info3 : (Tryz.prog.info? 3).map (fun i => (i.zero, i.size, i.bytes)) = some (some (.int .i64 0), 1, 8) := by kernel_rfl
theorem Tryz.under37 : Tryz.prog.underlying 37 = some (.slice 74) := by kernel_rfl
theorem Tryz.under38 : Tryz.prog.underlying 38 = some (.slice 3) := by kernel_rfl

theorem new_cell (w : World) (u : Value) (t : TypeId) : (w.alloc (.cells #[u] t)).cell? ⟨w.heap.size, 0, none⟩ = some u := by
 exact news_new w #[u] t 0 u rfl

/-- How many of the first i - 1 are kept. -/
def cnt (i : Nat) : Nat := min (i - 1) 3 + (i - 1) / 16

set_option maxRecDepth 100000 in
set_option maxHeartbeats 1600000 in
theorem growBytes_any (w : World) (B : Nat → Prop) (bk A N : Nat) (v0 v1 : Value) (T D U : Int) (gs : List Value) (ms : List Nat) (h : Bst w B bk v0 v1 A T D U gs ms A N) (hN : gs.length = N) (hA : A ≤ N) (hbig : 10 * N ≤ 9 * A + 1048576) (hB : B bk) (hBw : NewB B w) :
  Calls Tryz.prog 75 #[.pointer (some ⟨bk, 0, none⟩)] w fun e w' => e = .returned (.tuple #[]) ∧ ∃ (v0' v1' : Value) (gs' : List Value) (ms' : List Nat), Bst w' B bk v0' v1' gs'.length T D U gs' ms' gs'.length gs'.length ∧ gs'.length = N + 9 * (N - A) ∧ Bel B w w' ∧ Same 66 w w' := by
 obtain ⟨inf5, hi5, hz50, hz51, hz52⟩ := info_parts Tryz.info5
 obtain ⟨inf28, hi58, hz580, hz581, hz582⟩ := info_parts Tryz.info74
 obtain ⟨inf3, hi3, hz30, hz31, hz32⟩ := info_parts Tryz.info3
 have hcA : w.cell? ⟨bk, 2, none⟩ = some (.int .i64 A) := h.cells.cell (i := 2) (by decide)
 obtain ⟨a0, c0, hv0⟩ := own_shape' h.row0
 have hc0 : w.cell? ⟨bk, 0, none⟩ = some (.slice a0 N c0) := by rw [← hN, ← hv0]; exact h.cells.cell (i := 0) (by decide)
 have hlt := h.cells.lt
 have H := hid h
 obtain ⟨x, hx⟩ : ∃ x : Int, (N : Int) = x := ⟨_, rfl⟩
 have hx0 : 0 ≤ x := by omega
 have hx1 : x ≤ 1048576 := by omega
 have hA2 : A ≤ 1048576 := by omega
 have HX := hid hx
 have HNN := hid hN
 have HBIG := hid hbig
 have HA := hid hA
 clear h hv0 hN hbig hA
 go_enter Tryz.func75, Tryz.ntmps75
 go_wp2
 go_loopw [3] (fun kv wr => ∃ (k : Nat) (v0 v1 : Value) (gs : List Value) (ms : List Nat), kv = .int .i64 k ∧ k ≤ 1048576 ∧ Hid (A ≤ k ∧ k ≤ N ∧ gs.length = N + 9 * (k - A)) ∧ Hid (Bst wr B bk v0 v1 A T D U gs ms k N) ∧ Hid (Bel B w wr) ∧ Hid (Same 66 w wr)) (fun kv _ => N - (intOf kv).toNat)
 case atStart => exact ⟨A, v0, v1, gs, ms, rfl, hA2, hid ⟨Nat.le_refl _, HA.out, by have := HNN.out; omega⟩, H, hid (Bel.refl _ _), hid (Same.refl _ _)⟩
 case round =>
  as_aux_lemma =>
  clear hc0 hcA H HNN hlt
  obtain ⟨k, v0, v1, gs, ms, rfl, hk, HK, HS, HB, H57⟩ := hrel
  obtain ⟨a0', c0', hv0⟩ := own_shape' HS.out.row0
  obtain ⟨a1', c1', hv1⟩ := own_shape' HS.out.row1
  subst hv0
  subst hv1
  have hlt := HS.out.cells.lt
  have hc0 : wr.cell? ⟨bk, 0, none⟩ = some (.slice a0' gs.length c0') := HS.out.cells.cell (i := 0) (by decide)
  have hc1 : wr.cell? ⟨bk, 1, none⟩ = some (.slice a1' gs.length c1') := HS.out.cells.cell (i := 1) (by decide)
  obtain ⟨n, HN⟩ : ∃ n : Nat, Hid (gs.length = n) := ⟨_, hid rfl⟩
  have hn1 : n ≤ 1048576 := by have := HN.out; have := HK.out; have := HBIG.out; omega
  by_cases hkN : k < N
  ·have hlt' : (k : Int) < x := by have := HX.out; omega
   have hkn : k < gs.length := by have := HK.out; omega
   obtain ⟨b0, ha0, hb0, _, _, hcell0⟩ := own_cells HS.out.row0 (by omega)
   obtain ⟨b1, ha1, hb1, _, _, hcell1⟩ := own_cells HS.out.row1 (by omega)
   subst ha0
   subst ha1
   have hg0 : gs[k]? = some (gs[k]'hkn) := List.getElem?_eq_getElem _
   have hm0 : ms[k]? = some (ms[k]'(by have := HS.out.len; omega)) := List.getElem?_eq_getElem _
   obtain ⟨m, HM⟩ : ∃ m, Hid (ms[k]'(by have := HS.out.len; omega) = m) := ⟨_, hid rfl⟩
   obtain ⟨g, HG⟩ : ∃ g, Hid (gs[k]'hkn = g) := ⟨_, hid rfl⟩
   rw [HM.out] at hm0
   rw [HG.out] at hg0
   have hmm : m ≤ 1099511627776 := HS.out.mle m (List.mem_of_getElem? hm0)
   obtain ⟨⟨lg0, hlg0, hown0⟩, hap0⟩ := HS.out.fresh k g m (Nat.le_refl _) hkN hg0 hm0
   have q0 := hcell0 k hkn
   rw [hg0] at q0
   have q1 := hcell1 k hkn
   have q1' : wr.cell? ⟨b1, k, none⟩ = some (.int .i64 m) := by
    rw [q1]
    simp [ci, hm0]
   have HOWN0 := hid hown0
   have HAP0 := hid hap0
   have HSAFE : Hid (∀ (j : Nat) g', gs[j]? = some g' → slen g' ≤ lg0 ∨ g'.ownBlock ≠ g.ownBlock) := hid (by
    intro j g' hj
    by_cases hjk : j = k
    ·subst hjk
     rw [hg0] at hj
     have e : g = g' := Option.some.inj hj
     subst e
     obtain ⟨a, c, hgv⟩ := own_shape' hown0
     left
     rw [hgv]
     exact Nat.le_refl _
    ·rcases hap0 j g' hjk hj with h1 | h1
     ·cases hq : g.ownBlock with
      | none =>
       left
       rcases hown0.2 with ⟨hgn, hln⟩ | ⟨q, cap, cur, hgv, _⟩
       ·have hh := HS.out.held j g' (ms[j]'(by have := HS.out.len; have := (List.getElem?_eq_some_iff.1 hj).1; omega)) hj (List.getElem?_eq_getElem _)
        obtain ⟨a', n', c', rfl, _, hb'⟩ := hh
        show n' ≤ lg0
        rcases Nat.eq_zero_or_pos n' with h0 | h0
        ·omega
        ·obtain ⟨b', _, rfl, _⟩ := hb' h0
         cases h1
       ·rw [hgv] at hq
        cases hq
      | some y => exact Or.inr (by rw [h1]; exact fun k => by cases k)
     ·exact Or.inr h1)
   have HAPR : Hid (∀ (i : Nat) r, k + 1 ≤ i → i < N → gs[i]? = some r → Apart g r) := hid (by
    intro i r h1 h2 hr
    have h3 := HS.out.fresh i r (ms[i]'(by have := HS.out.len; have := (List.getElem?_eq_some_iff.1 hr).1; omega)) (by omega) h2 hr (List.getElem?_eq_getElem _)
    exact h3.2 k g (by omega) hg0)
   have HS2 : Hid (Bst wr B bk (.slice (some ⟨b0, 0, none⟩) gs.length c0') (.slice (some ⟨b1, 0, none⟩) gs.length c1') A T D U gs ms (k + 1) N) := hid ⟨HS.out.cells, HS.out.row0, HS.out.row1, HS.out.held, HS.out.mle, fun i g m h1 h2 h3 h4 => HS.out.fresh i g m (by omega) h2 h3 h4, HS.out.lowb⟩
   clear hown0 hap0 q1 hcell0 hcell1 hg0 hm0
   clear HM HG
   have hkn1 : (k : Int) < (gs.length : Int) := by omega
   go_wp2
   go_loopw [4, 6] (fun gv iv wr => ∃ (i lg : Nat) (v0 v1 : Value) (gs : List Value) (ms : List Nat), iv = .int .i64 i ∧ 1 ≤ i ∧ i ≤ 97 ∧ lg ≤ 16777312 ∧ Hid (lg + 1 = lg0 + i ∧ gs.length = N + 9 * (k - A) + cnt i) ∧ Hid (Bst wr B bk v0 v1 A T D U gs ms (k + 1) N) ∧ Hid (OwnR wr B 5 gv lg (cb (markL m lg))) ∧ Hid (∀ (j : Nat) g', gs[j]? = some g' → slen g' ≤ lg ∨ g'.ownBlock ≠ gv.ownBlock) ∧ Hid (∀ (i : Nat) r, k + 1 ≤ i → i < N → gs[i]? = some r → Apart gv r) ∧ Hid (Bel B w wr) ∧ Hid (Same 66 w wr)) (fun _ iv _ => 97 - (intOf iv).toNat)
   case atStart => exact ⟨1, lg0, _, _, gs, ms, rfl, by omega, by omega, by omega, hid ⟨rfl, by have := HK.out; simp only [cnt]; omega⟩, HS2, HOWN0, HSAFE, HAPR, HB, H57⟩
   case round =>
    as_aux_lemma =>
    clear hc0 hc1 q0 q1' HS HS2 HOWN0 HSAFE HAPR HAP0 HB H57 hb0 hb1 hlt HN hn1 hkn hkn1
    obtain ⟨i, lg, v0, v1, gs, ms, rfl, hi1, hi97, hlg, HL, HS, HO, HSAFE, HAPR, HB, H57⟩ := hrel
    by_cases hi96 : i ≤ 96
    ·have hi96' : (i : Int) ≤ 96 := by omega
     obtain ⟨ag, cg, hgv⟩ := own_shape' HO.out
     subst hgv
     have hat := fun w => at_any m lg w hmm (by omega)
     obtain ⟨y, HY⟩ : ∃ y : Int, Hid (((Bk.mark m lg).toNat : Int) = y) := ⟨_, hid rfl⟩
     rw [HY.out] at hat
     have HAT := hid hat
     clear hat
     have hBr : NewB B wr := NewB.up hBw HB.out.size
     have hown := HO.out
     go_wp2_with (first | (go_at_call 66; refine (HAT.out _).mono ?_; rintro e w' ⟨rfl, hw⟩; have hw' := hw.symm; clear hw; subst hw') | (at_builtin; refine wpList_append_keeps _ rfl (.tmp 39) (.tmp 44) 74 rfl B 5 inf5 (.int .u8 0) 1 Tryz.underlying74 hi5 hz50 hz51 hz52 rfl _ lg _ rfl (hown.alloc _) ⟨wr.heap.size, 0, none⟩ 1 (.int .u8 y) rfl (new_cell wr _ _) rfl ?h63 ?hbytes ?hbase ?_))
     case h63 => unfold maxLen; omega
     case hbytes => omega
     case hbase => first | exact hBr3.up (by simp [World.setCell]) | exact hBr2.up (by simp) | exact hBr.up (by simp) | exact hBw.up (by simp)
     intro gb cap w2 hown2 hg2 hwh hkeep
     have hal : Below wr.heap.size wr (wr.alloc (.cells #[.int .u8 y] 5)) := (Below.refl _ _).alloc (Nat.le_refl _) _
     have S1 : Bst (wr.alloc (.cells #[.int .u8 y] 5)) B bk v0 v1 A T D U gs ms (k + 1) N := HS.out.same (fun e _ => Same.below hal) hal.size
     have HS' := hid (S1.grew (hown.alloc _) hg2 hkeep HSAFE.out (fun i r h1 h2 h3 => (HAPR.out i r h1 h2 h3).symm))
     have HO' : Hid (OwnR w2 B 5 (.slice (some ⟨gb, 0, none⟩) (lg + 1) cap) (lg + 1) (cb (markL m (lg + 1)))) := hid (by
      rw [markL_succ, cb_append]
      have e : (cb [Bk.mark m lg]) = [Value.int .u8 y] := by simp [cb, ← HY.out]
      rw [e]
      exact hown2)
     have HB' := hid ((HB.out.alloc hBr (.cells #[.int .u8 y] 5)).grown hg2 (fun j hj => (hown.lt j hj).1))
     have H57' := hid ((H57.out.trans (Same.below hal)).trans (Same.grown (hown.alloc _) hg2 (by decide)))
     have HSZ := hid hal.size
     have HSAFE' : Hid (∀ (j : Nat) g', gs[j]? = some g' → slen g' ≤ lg + 1 ∨ g'.ownBlock ≠ (Value.slice (some ⟨gb, 0, none⟩) (lg + 1) cap).ownBlock) := hid (by
      intro j g' hj
      rcases HSAFE.out j g' hj with h1 | h1
      ·exact Or.inl (by omega)
      ·rcases hwh with h2 | h2
       ·exact Or.inr (by show g'.ownBlock ≠ some gb; rw [← h2]; exact h1)
       ·have hh := HS.out.held j g' (ms[j]'(by have := HS.out.len; have := (List.getElem?_eq_some_iff.1 hj).1; omega)) hj (List.getElem?_eq_getElem _)
        obtain ⟨a', n', c', rfl, _, hb'⟩ := hh
        rcases Nat.eq_zero_or_pos n' with h0 | h0
        ·exact Or.inl (by show n' ≤ _; omega)
        ·obtain ⟨b', _, rfl, hb2, _⟩ := hb' h0
         refine Or.inr (fun h3 => ?_)
         have h4 : b' = gb := by simpa [Value.ownBlock] using h3
         have h5 : b' < wr.heap.size := (Array.getElem?_eq_some_iff.1 hb2).1
         have h6 : gb = wr.heap.size + 1 := by simpa using h2
         omega)
     have HAPR' : Hid (∀ (i : Nat) r, k + 1 ≤ i → i < N → gs[i]? = some r → Apart (.slice (some ⟨gb, 0, none⟩) (lg + 1) cap) r) := hid (by
      intro i r h1 h2 hr
      rcases hwh with h3 | h3
      ·have h4 := HAPR.out i r h1 h2 hr
       unfold Apart at h4 ⊢
       rw [h3] at h4
       exact h4
      ·have h4 := HS.out.fresh i r (ms[i]'(by have := HS.out.len; have := (List.getElem?_eq_some_iff.1 hr).1; omega)) h1 h2 hr (List.getElem?_eq_getElem _)
       obtain ⟨⟨nr, _, hor⟩, _⟩ := h4
       refine Or.inr (fun h5 => ?_)
       have h6 := (hor.lt gb h5.symm).2
       have h7 : gb = wr.heap.size + 1 := by simpa using h3
       omega)
     clear hown hown2 hg2 hwh hkeep hal S1 HS HO HSAFE HAPR HB H57 HAT hBr HSZ
     have hlt := HS'.out.cells.lt
     have hBr2 : NewB B w2 := NewB.up hBw HB'.out.size
     obtain ⟨a0, c0, hv0⟩ := own_shape' HS'.out.row0
     obtain ⟨a1, c1, hv1⟩ := own_shape' HS'.out.row1
     subst hv0
     subst hv1
     obtain ⟨n, HN⟩ : ∃ n : Nat, Hid (gs.length = n) := ⟨_, hid rfl⟩
     have hn1 : n ≤ 1048576 := by have h1 := HL.out.2; simp only [cnt] at h1; have := HN.out; have := HK.out; have := HBIG.out; omega
     rw [HN.out] at HS'
     by_cases hp4 : i < 4
     ·have h4 : (i : Int) < 4 := by omega
      have hc0 : w2.cell? ⟨bk, 0, none⟩ = some (.slice a0 n c0) := HS'.out.cells.cell (i := 0) (by decide)
      have hf0 := HS'.out.cells.frozen 0
      have hrow0 : OwnR w2 B 74 (.slice a0 n c0) n gs := by have := HS'.out.row0; rw [HN.out] at this; exact this
      go_wp2_with (at_builtin; refine wpList_append_keeps _ rfl (.tmp 57) (.tmp 59) 37 rfl B 74 inf28 (.slice none 0 0) 24 Tryz.under37 hi58 hz580 hz581 hz582 rfl _ n _ rfl (hrow0.alloc _) ⟨w2.heap.size, 0, none⟩ 1 (.slice (some ⟨gb, 0, none⟩) (lg + 1) cap) rfl (new_cell w2 _ _) rfl ?h63 ?hbytes ?hbase ?_)
      case h63 => unfold maxLen; omega
      case hbytes => omega
      case hbase => first | exact hBr3.up (by simp [World.setCell]) | exact hBr2.up (by simp) | exact hBr.up (by simp) | exact hBw.up (by simp)
      intro g3 cap3 w3 hown3 hg3 hwh3 hkeep3
      have S3 : ∀ e, e ≠ 74 → Same e w2 w3 := fun e he => (Same.alloc e w2 _).trans (Same.grown (hrow0.alloc _) hg3 he)
      have HB3 := hid ((HB'.out.alloc hBr2 (.cells #[.slice (some ⟨gb, 0, none⟩) (lg + 1) cap] 74)).grown hg3 (fun j hj => (hrow0.lt j hj).1))
      have C3 := hid (bkc_same HS'.out.cells (S3 63 (by decide)))
      have R3 := hid (own_same HS'.out.row1 (S3 3 (by decide)))
      have hf3 := C3.out.frozen 0
      have hf31 := C3.out.frozen 1
      have hc31 : w3.cell? ⟨bk, 1, none⟩ = some (.slice a1 n c1) := C3.out.cell (i := 1) (by decide)
      have hlt3 := C3.out.lt
      have hc30 : w3.cell? ⟨bk, 0, none⟩ = some (.slice a0 n c0) := C3.out.cell (i := 0) (by decide)
      have hBr3 : NewB B w3 := NewB.up hBw HB3.out.size
      have HOWN3 := hid hown3
      have HSZ3 : Hid (w2.heap.size ≤ w3.heap.size) := hid (by have := hg3.size; simp at this; omega)
      have HS3 := hid S3
      clear hown3 hg3 hwh3 hkeep3 S3 hc0 hf0 hrow0
      have hrow1 : OwnR (w3.setCell ⟨bk, 0, none⟩ (.slice (some ⟨g3, 0, none⟩) (n + 1) cap3)) B 3 (.slice a1 n c1) n (ci ms) := by
       obtain ⟨cs, hcs⟩ := bkc_block C3.out
       have := own_same R3.out (Same.set (i := 0) hcs (by decide) (.slice (some ⟨g3, 0, none⟩) (n + 1) cap3))
       rw [HN.out] at this
       exact this
      go_wp2_with (at_builtin; refine wpList_append_keeps _ rfl (.tmp 67) (.tmp 69) 38 rfl B 3 inf3 (.int .i64 0) 8 Tryz.under38 hi3 hz30 hz31 hz32 rfl _ n _ rfl (hrow1.alloc _) ⟨(w3.setCell ⟨bk, 0, none⟩ (.slice (some ⟨g3, 0, none⟩) (n + 1) cap3)).heap.size, 0, none⟩ 1 (.int .i64 m) ?hx1 (new_cell _ _ _) rfl ?h63 ?hbytes ?hbase ?_)
      case hx1 => simp [Act.eval, World.setCell]
      case h63 => unfold maxLen; omega
      case hbytes => omega
      case hbase => first | exact hBr3.up (by simp [World.setCell]) | exact hBr2.up (by simp) | exact hBr.up (by simp) | exact hBw.up (by simp)
      intro g5 cap5 w5 hown5 hg5 hwh5 hkeep5
      obtain ⟨W4, HW4⟩ : ∃ W4, Hid (w3.setCell ⟨bk, 0, none⟩ (.slice (some ⟨g3, 0, none⟩) (n + 1) cap3) = W4) := ⟨_, hid rfl⟩
      rw [HW4.out] at hrow1 hg5
      have S5 : ∀ e, e ≠ 3 → Same e W4 w5 := fun e he => (Same.alloc e W4 _).trans (Same.grown (hrow1.alloc _) hg5 he)
      have C4 : Bkc W4 bk (.slice (some ⟨g3, 0, none⟩) (n + 1) cap3) (.slice a1 n c1) A T D U := by
       rw [← HW4.out]
       exact (C3.out.set 0 (.slice (some ⟨g3, 0, none⟩) (n + 1) cap3)).congr (fun i _ => bkF_0 _ _ _ _ _ _ _ i)
      have C5 := hid (bkc_same C4 (S5 63 (by decide)))
      have hf5 := C5.out.frozen 1
      have hlt5 := C5.out.lt
      have hc51 : w5.cell? ⟨bk, 1, none⟩ = some (.slice a1 n c1) := C5.out.cell (i := 1) (by decide)
      have HB4 : Bel B w W4 := by rw [← HW4.out]; exact HB3.out.setCell hB _
      have hBr4 : NewB B W4 := NewB.up hBw HB4.size
      have HB5 := hid ((HB4.alloc hBr4 (.cells #[.int .i64 m] 3)).grown hg5 (fun j hj => (hrow1.lt j hj).1))
      have S4 : ∀ e, e ≠ 63 → Same e w3 W4 := fun e he => by
       obtain ⟨cs, hcs⟩ := bkc_block C3.out
       rw [← HW4.out]
       exact Same.set hcs he _
      have HS25 : Hid (∀ e, e ≠ 3 → e ≠ 74 → e ≠ 63 → Same e w2 w5) := hid (fun e h1 h2 h3 => ((HS3.out e h2).trans (S4 e h3)).trans (S5 e h1))
      have HOWN5 := hid (own_same (own_same HOWN3.out (S4 74 (by decide))) (S5 74 (by decide)))
      have HR5 := hid hown5
      have hq4 : W4.heap.size = w3.heap.size := by rw [← HW4.out]; simp [World.setCell]
      have HSZ5 : Hid (w3.heap.size ≤ w5.heap.size) := hid (by have h9 := hg5.size; simp at h9; omega)
      clear hq4
      clear hown5 hg5 hwh5 hkeep5 S5 S4 C4 HB4 hrow1 hc31 hf3 hf31 hc30
      go_wp2
      have CB5 := bkc_block C5.out
      obtain ⟨cs5, hcs5⟩ := CB5
      have S56 : ∀ e, e ≠ 63 → Same e w5 (w5.setCell ⟨bk, 1, none⟩ (.slice (some ⟨g5, 0, none⟩) (n + 1) cap5)) := fun e he => Same.set hcs5 he _
      have FIN := HS'.out.push (w' := w5.setCell ⟨bk, 1, none⟩ (.slice (some ⟨g5, 0, none⟩) (n + 1) cap5)) (T' := T) (U' := U) (gv := .slice (some ⟨gb, 0, none⟩) (lg + 1) cap) (m := m)
       ((C5.out.set 1 _).congr (fun i _ => bkF_1 _ _ _ _ _ _ _ i)) (by rw [HN.out]; exact own_same HOWN5.out (S56 74 (by decide))) (by rw [HN.out]; exact own_same HR5.out (S56 3 (by decide)))
       ((HS25.out 5 (by decide) (by decide) (by decide)).trans (S56 5 (by decide))) (own_held (by have := HL.out; omega) (own_same (own_same HO'.out (HS25.out 5 (by decide) (by decide) (by decide))) (S56 5 (by decide)))) hmm (by have := HL.out; have := HN.out; omega) HAPR'.out (by have := HSZ3.out; have := HSZ5.out; simp [World.setCell]; omega) (fun b hb => ⟨by have h9 := (HO'.out.lt b hb).2; have := HSZ3.out; have := HSZ5.out; simp [World.setCell]; omega, (HO'.out.lt b hb).1⟩)
      refine ⟨⟨i + 1, lg + 1, _, _, _, _, by go_num, by omega, by omega, by have := HL.out; omega, hid ⟨by have := HL.out; omega, ?_⟩, hid FIN, hid (own_same (own_same HO'.out (HS25.out 5 (by decide) (by decide) (by decide))) (S56 5 (by decide))), hid ?_, hid ?_, hid (HB5.out.setCell hB _), hid ((H57'.out.trans (HS25.out 66 (by decide) (by decide) (by decide))).trans (S56 66 (by decide)))⟩, by simp [intOf]; omega⟩
      ·have := HL.out.2
       rw [List.length_append]
       simp only [cnt, List.length_cons, List.length_nil] at this ⊢
       omega
      ·intro j g' hj
       by_cases hjl : j < gs.length
       ·rw [List.getElem?_append_left hjl] at hj
        exact HSAFE'.out j g' hj
       ·rw [List.getElem?_append_right (by omega)] at hj
        have hj2 : j = gs.length := by
         have := (List.getElem?_eq_some_iff.1 hj).1
         simp at this
         omega
        subst hj2
        simp at hj
        subst hj
        exact Or.inl (Nat.le_refl _)
      ·intro j r h1 h2 hr
       rw [List.getElem?_append_left (by have := HL.out; omega)] at hr
       exact HAPR'.out j r h1 h2 hr
     by_cases hp16 : i % 16 = 0
     ·have h4 : (4 : Int) ≤ i := by omega
      have h16 : (i : Int) % 16 = 0 := by omega
      have hc0 : w2.cell? ⟨bk, 0, none⟩ = some (.slice a0 n c0) := HS'.out.cells.cell (i := 0) (by decide)
      have hf0 := HS'.out.cells.frozen 0
      have hrow0 : OwnR w2 B 74 (.slice a0 n c0) n gs := by have := HS'.out.row0; rw [HN.out] at this; exact this
      go_wp2_with (at_builtin; refine wpList_append_keeps _ rfl (.tmp 57) (.tmp 59) 37 rfl B 74 inf28 (.slice none 0 0) 24 Tryz.under37 hi58 hz580 hz581 hz582 rfl _ n _ rfl (hrow0.alloc _) ⟨w2.heap.size, 0, none⟩ 1 (.slice (some ⟨gb, 0, none⟩) (lg + 1) cap) rfl (new_cell w2 _ _) rfl ?h63 ?hbytes ?hbase ?_)
      case h63 => unfold maxLen; omega
      case hbytes => omega
      case hbase => first | exact hBr3.up (by simp [World.setCell]) | exact hBr2.up (by simp) | exact hBr.up (by simp) | exact hBw.up (by simp)
      intro g3 cap3 w3 hown3 hg3 hwh3 hkeep3
      have S3 : ∀ e, e ≠ 74 → Same e w2 w3 := fun e he => (Same.alloc e w2 _).trans (Same.grown (hrow0.alloc _) hg3 he)
      have HB3 := hid ((HB'.out.alloc hBr2 (.cells #[.slice (some ⟨gb, 0, none⟩) (lg + 1) cap] 74)).grown hg3 (fun j hj => (hrow0.lt j hj).1))
      have C3 := hid (bkc_same HS'.out.cells (S3 63 (by decide)))
      have R3 := hid (own_same HS'.out.row1 (S3 3 (by decide)))
      have hf3 := C3.out.frozen 0
      have hf31 := C3.out.frozen 1
      have hc31 : w3.cell? ⟨bk, 1, none⟩ = some (.slice a1 n c1) := C3.out.cell (i := 1) (by decide)
      have hlt3 := C3.out.lt
      have hc30 : w3.cell? ⟨bk, 0, none⟩ = some (.slice a0 n c0) := C3.out.cell (i := 0) (by decide)
      have hBr3 : NewB B w3 := NewB.up hBw HB3.out.size
      have HOWN3 := hid hown3
      have HSZ3 : Hid (w2.heap.size ≤ w3.heap.size) := hid (by have := hg3.size; simp at this; omega)
      have HS3 := hid S3
      clear hown3 hg3 hwh3 hkeep3 S3 hc0 hf0 hrow0
      have hrow1 : OwnR (w3.setCell ⟨bk, 0, none⟩ (.slice (some ⟨g3, 0, none⟩) (n + 1) cap3)) B 3 (.slice a1 n c1) n (ci ms) := by
       obtain ⟨cs, hcs⟩ := bkc_block C3.out
       have := own_same R3.out (Same.set (i := 0) hcs (by decide) (.slice (some ⟨g3, 0, none⟩) (n + 1) cap3))
       rw [HN.out] at this
       exact this
      go_wp2_with (at_builtin; refine wpList_append_keeps _ rfl (.tmp 67) (.tmp 69) 38 rfl B 3 inf3 (.int .i64 0) 8 Tryz.under38 hi3 hz30 hz31 hz32 rfl _ n _ rfl (hrow1.alloc _) ⟨(w3.setCell ⟨bk, 0, none⟩ (.slice (some ⟨g3, 0, none⟩) (n + 1) cap3)).heap.size, 0, none⟩ 1 (.int .i64 m) ?hx1 (new_cell _ _ _) rfl ?h63 ?hbytes ?hbase ?_)
      case hx1 => simp [Act.eval, World.setCell]
      case h63 => unfold maxLen; omega
      case hbytes => omega
      case hbase => first | exact hBr3.up (by simp [World.setCell]) | exact hBr2.up (by simp) | exact hBr.up (by simp) | exact hBw.up (by simp)
      intro g5 cap5 w5 hown5 hg5 hwh5 hkeep5
      obtain ⟨W4, HW4⟩ : ∃ W4, Hid (w3.setCell ⟨bk, 0, none⟩ (.slice (some ⟨g3, 0, none⟩) (n + 1) cap3) = W4) := ⟨_, hid rfl⟩
      rw [HW4.out] at hrow1 hg5
      have S5 : ∀ e, e ≠ 3 → Same e W4 w5 := fun e he => (Same.alloc e W4 _).trans (Same.grown (hrow1.alloc _) hg5 he)
      have C4 : Bkc W4 bk (.slice (some ⟨g3, 0, none⟩) (n + 1) cap3) (.slice a1 n c1) A T D U := by
       rw [← HW4.out]
       exact (C3.out.set 0 (.slice (some ⟨g3, 0, none⟩) (n + 1) cap3)).congr (fun i _ => bkF_0 _ _ _ _ _ _ _ i)
      have C5 := hid (bkc_same C4 (S5 63 (by decide)))
      have hf5 := C5.out.frozen 1
      have hlt5 := C5.out.lt
      have hc51 : w5.cell? ⟨bk, 1, none⟩ = some (.slice a1 n c1) := C5.out.cell (i := 1) (by decide)
      have HB4 : Bel B w W4 := by rw [← HW4.out]; exact HB3.out.setCell hB _
      have hBr4 : NewB B W4 := NewB.up hBw HB4.size
      have HB5 := hid ((HB4.alloc hBr4 (.cells #[.int .i64 m] 3)).grown hg5 (fun j hj => (hrow1.lt j hj).1))
      have S4 : ∀ e, e ≠ 63 → Same e w3 W4 := fun e he => by
       obtain ⟨cs, hcs⟩ := bkc_block C3.out
       rw [← HW4.out]
       exact Same.set hcs he _
      have HS25 : Hid (∀ e, e ≠ 3 → e ≠ 74 → e ≠ 63 → Same e w2 w5) := hid (fun e h1 h2 h3 => ((HS3.out e h2).trans (S4 e h3)).trans (S5 e h1))
      have HOWN5 := hid (own_same (own_same HOWN3.out (S4 74 (by decide))) (S5 74 (by decide)))
      have HR5 := hid hown5
      have hq4 : W4.heap.size = w3.heap.size := by rw [← HW4.out]; simp [World.setCell]
      have HSZ5 : Hid (w3.heap.size ≤ w5.heap.size) := hid (by have h9 := hg5.size; simp at h9; omega)
      clear hq4
      clear hown5 hg5 hwh5 hkeep5 S5 S4 C4 HB4 hrow1 hc31 hf3 hf31 hc30
      go_wp2
      have CB5 := bkc_block C5.out
      obtain ⟨cs5, hcs5⟩ := CB5
      have S56 : ∀ e, e ≠ 63 → Same e w5 (w5.setCell ⟨bk, 1, none⟩ (.slice (some ⟨g5, 0, none⟩) (n + 1) cap5)) := fun e he => Same.set hcs5 he _
      have FIN := HS'.out.push (w' := w5.setCell ⟨bk, 1, none⟩ (.slice (some ⟨g5, 0, none⟩) (n + 1) cap5)) (T' := T) (U' := U) (gv := .slice (some ⟨gb, 0, none⟩) (lg + 1) cap) (m := m)
       ((C5.out.set 1 _).congr (fun i _ => bkF_1 _ _ _ _ _ _ _ i)) (by rw [HN.out]; exact own_same HOWN5.out (S56 74 (by decide))) (by rw [HN.out]; exact own_same HR5.out (S56 3 (by decide)))
       ((HS25.out 5 (by decide) (by decide) (by decide)).trans (S56 5 (by decide))) (own_held (by have := HL.out; omega) (own_same (own_same HO'.out (HS25.out 5 (by decide) (by decide) (by decide))) (S56 5 (by decide)))) hmm (by have := HL.out; have := HN.out; omega) HAPR'.out (by have := HSZ3.out; have := HSZ5.out; simp [World.setCell]; omega) (fun b hb => ⟨by have h9 := (HO'.out.lt b hb).2; have := HSZ3.out; have := HSZ5.out; simp [World.setCell]; omega, (HO'.out.lt b hb).1⟩)
      refine ⟨⟨i + 1, lg + 1, _, _, _, _, by go_num, by omega, by omega, by have := HL.out; omega, hid ⟨by have := HL.out; omega, ?_⟩, hid FIN, hid (own_same (own_same HO'.out (HS25.out 5 (by decide) (by decide) (by decide))) (S56 5 (by decide))), hid ?_, hid ?_, hid (HB5.out.setCell hB _), hid ((H57'.out.trans (HS25.out 66 (by decide) (by decide) (by decide))).trans (S56 66 (by decide)))⟩, by simp [intOf]; omega⟩
      ·have := HL.out.2
       rw [List.length_append]
       simp only [cnt, List.length_cons, List.length_nil] at this ⊢
       omega
      ·intro j g' hj
       by_cases hjl : j < gs.length
       ·rw [List.getElem?_append_left hjl] at hj
        exact HSAFE'.out j g' hj
       ·rw [List.getElem?_append_right (by omega)] at hj
        have hj2 : j = gs.length := by
         have := (List.getElem?_eq_some_iff.1 hj).1
         simp at this
         omega
        subst hj2
        simp at hj
        subst hj
        exact Or.inl (Nat.le_refl _)
      ·intro j r h1 h2 hr
       rw [List.getElem?_append_left (by have := HL.out; omega)] at hr
       exact HAPR'.out j r h1 h2 hr
     ·have h4 : (4 : Int) ≤ i := by omega
      have h16 : ((i : Int) % 16 == 0) = false := beq_eq_false_iff_ne.2 (by omega)
      go_wp2
      refine ⟨⟨i + 1, lg + 1, _, _, gs, ms, by go_num, by omega, by omega, by have := HL.out; omega, hid ⟨by have := HL.out; omega, ?_⟩, HS', HO', HSAFE', HAPR', HB', H57'⟩, by simp [intOf]; omega⟩
      have := HL.out.2
      simp only [cnt] at this ⊢
      omega
    ·have hi97' : (97 : Int) ≤ i := by omega
     go_wp2
     refine ⟨⟨k + 1, v0, v1, gs, ms, by go_num, by have := HX.out; omega, hid ⟨by have := HK.out; omega, by omega, ?_⟩, HS, HB, H57⟩, by simp [intOf]; omega⟩
     have := HL.out.2
     rw [show i = 97 by omega] at this
     simp only [cnt] at this
     have := HK.out
     omega
  ·have hge : x ≤ (k : Int) := by have := HX.out; omega
   rw [HN.out] at hc0
   have hf := HS.out.cells.frozen 2
   have hc2 : wr.cell? ⟨bk, 2, none⟩ = some (.int .i64 A) := HS.out.cells.cell (i := 2) (by decide)
   go_wp2
   go_end0
   have hke : k = N := by have := HK.out; omega
   refine ⟨rfl, .slice a0' gs.length c0', .slice a1' gs.length c1', gs, ms, ?_, by have := HK.out; rw [hke] at this; exact this.2.2, HB.out.setCell hB _, ?_⟩
   ·obtain ⟨cs, hcs⟩ := bkc_block HS.out.cells
    have s : ∀ e, e = 5 ∨ e = 74 ∨ e = 3 → Same e wr (wr.setCell ⟨bk, 2, none⟩ (.int .i64 n)) := fun e he => Same.set hcs (by rcases he with rfl | rfl | rfl <;> decide) _
    refine ⟨?_, own_same HS.out.row0 (s 74 (by simp)), own_same HS.out.row1 (s 3 (by simp)), fun i g m hg hm => held_same (HS.out.held i g m hg hm) (s 5 (by simp)), HS.out.mle, fun i g m h1 h2 => by omega, fun i g b hg hb => by rw [show (wr.setCell ⟨bk, 2, none⟩ (.int .i64 n)).heap.size = wr.heap.size by simp [World.setCell]]; exact HS.out.lowb i g b hg hb⟩
    have e : ((gs.length : Nat) : Int) = (n : Int) := by rw [HN.out]
    rw [e]
    exact (HS.out.cells.set 2 _).congr (fun i _ => bkF_A _ _ _ _ _ _ _ i)
   ·obtain ⟨cs, hcs⟩ := bkc_block HS.out.cells
    exact H57.out.trans (Same.set hcs (by decide) _)
end Go.Proofs.YtpbiofnncdneoaaGreatDoor.Bq

namespace Go.Proofs.YtpbiofnncdneoaaGreatDoor.Bq
open Go Go.RowKit Go.Proofs.YtpbiofnncdneoaaGreatDoor.Bk
open Go.RowKit (wrap32 wrap64)

/-- The book behind a write into its own cells. -/
theorem Bst.but {w w' : World} {B : Nat → Prop} {bk : Nat} {v0 v1 : Value} {A T D U T' D' U' : Int} {gs : List Value} {ms : List Nat} {k N : Nat} (h : Bst w B bk v0 v1 A T D U gs ms k N) (hb : But w w' bk) (hc : Bkc w' bk v0 v1 A T' D' U') : Bst w' B bk v0 v1 A T' D' U' gs ms k N := by
 obtain ⟨cs, hcs⟩ := bkc_block h.cells
 have s : ∀ e, e ≠ 63 → Same e w w' := fun e he => Same.but hcs he hb
 exact ⟨hc, own_same h.row0 (s 74 (by decide)), own_same h.row1 (s 3 (by decide)), fun i g m hg hm => held_same (h.held i g m hg hm) (s 5 (by decide)), h.mle, fun i g m h1 h2 hg hm => by
  obtain ⟨⟨n, hn, ho⟩, h4⟩ := h.fresh i g m h1 h2 hg hm
  exact ⟨⟨n, hn, own_same ho (s 5 (by decide))⟩, h4⟩, fun i g b hg hb' => by rw [hb.size]; exact h.lowb i g b hg hb'⟩

/-- The book behind a write into a list of bytes that is none of its own. -/
theorem Bst.other {w w' : World} {B : Nat → Prop} {bk b : Nat} {v0 v1 : Value} {A T D U : Int} {gs : List Value} {ms : List Nat} {k N : Nat} (h : Bst w B bk v0 v1 A T D U gs ms k N) {cs : Array Value} (hb5 : w.heap[b]? = some (.cells cs 5 (0, 0))) (hb : But w w' b)
  (hap : ∀ (j : Nat) g', gs[j]? = some g' → g'.ownBlock ≠ some b) : Bst w' B bk v0 v1 A T D U gs ms k N := by
 have s : ∀ e, e ≠ 5 → Same e w w' := fun e he => Same.but hb5 he hb
 refine ⟨bkc_same h.cells (s 63 (by decide)), own_same h.row0 (s 74 (by decide)), own_same h.row1 (s 3 (by decide)), fun i g m hg hm => held_keeps (h.held i g m hg hm) (fun b' hb' => KeepsTo.same (hb.block b' (fun e => hap i g hg (by rw [hb', e])))), h.mle, fun i g m h1 h2 hg hm => ?_, fun i g b' hg hb' => by rw [hb.size]; exact h.lowb i g b' hg hb'⟩
 obtain ⟨⟨n, hn, ho⟩, h4⟩ := h.fresh i g m h1 h2 hg hm
 refine ⟨⟨n, hn, ?_⟩, h4⟩
 refine ⟨ho.1, ?_⟩
 rcases ho.2 with h5 | ⟨q, cap, cur, hv, hg', hh, r⟩
 ·exact Or.inl h5
 ·exact Or.inr ⟨q, cap, cur, hv, hg', by rw [hb.block q (fun e => hap i g hg (by rw [hv, e]; rfl))]; exact hh, r⟩

theorem _root_.Go.Proofs.YtpbiofnncdneoaaGreatDoor.Bk.But.belq {w w' : World} {B : Nat → Prop} {b : Nat} (h : But w w' b) (hB : B b) : Bel B w w' := But.bel h hB

/-- What Bytes leaves as it was. -/
structure Kept (w w' : World) (B : Nat → Prop) (bk : Nat) (v0 v1 o : Value) : Prop where
 below : Bel B w w'
 block : ∀ b, b < w.heap.size → b ≠ bk → v0.ownBlock ≠ some b → v1.ownBlock ≠ some b → o.ownBlock ≠ some b → w'.heap[b]? = w.heap[b]?

theorem mark_step (m i n : Nat) (l : List UInt8) (hl : l.length = n) (hi : i < n) : (cb (markL m i ++ l.drop i)).set i (.int .u8 (Bk.mark m i).toNat) = cb (markL m (i + 1) ++ l.drop (i + 1)) := by
 apply List.ext_getElem?
 intro j
 rw [List.getElem?_set]
 by_cases hj : i = j
 ·subst hj
  rw [if_pos rfl, if_pos (by rw [cb_length, List.length_append, markL_length, List.length_drop]; omega)]
  rw [markL_succ]
  simp only [cb, List.getElem?_map]
  rw [List.append_assoc, List.getElem?_append_right (by rw [markL_length]; omega), markL_length]
  simp
 ·rw [if_neg hj, markL_succ]
  simp only [cb, List.getElem?_map]
  by_cases hlt : j < i
  ·rw [List.getElem?_append_left (by rw [markL_length]; omega), List.append_assoc, List.getElem?_append_left (by rw [markL_length]; omega)]
  ·rw [List.getElem?_append_right (by rw [markL_length]; omega), markL_length, List.append_assoc, List.getElem?_append_right (by rw [markL_length]; omega), markL_length]
   rw [List.getElem?_append_right (by simp; omega)]
   simp only [List.getElem?_drop, List.length_cons, List.length_nil]
   congr 2
   omega

theorem Kept.refl (w : World) (B : Nat → Prop) (bk : Nat) (v0 v1 o : Value) : Kept w w B bk v0 v1 o := ⟨Bel.refl _ _, fun _ _ _ _ _ _ => rfl⟩
theorem Kept.step {w w1 w2 : World} {B : Nat → Prop} {bk : Nat} {v0 v1 o : Value} (h : Kept w w1 B bk v0 v1 o) (hb : Bel B w1 w2) (k : ∀ b, b < w1.heap.size → b ≠ bk → v0.ownBlock ≠ some b → v1.ownBlock ≠ some b → o.ownBlock ≠ some b → w2.heap[b]? = w1.heap[b]?) : Kept w w2 B bk v0 v1 o :=
 ⟨h.below.trans hb, fun b h1 h2 h3 h4 h5 => by rw [k b (Nat.lt_of_lt_of_le h1 h.below.size) h2 h3 h4 h5, h.block b h1 h2 h3 h4 h5]⟩

/-- The book behind one list more, its own. -/
theorem Bst.pushNew {w w' : World} {B : Nat → Prop} {bk : Nat} {v0 v1 v0' v1' : Value} {A T D U U' T' : Int} {gs : List Value} {ms : List Nat} {k : Nat} (h : Bst w B bk v0 v1 A T D U gs ms k gs.length) {gv : Value} {m n : Nat}
  (hc : Bkc w' bk v0' v1' A T' D U') (h0 : OwnR w' B 74 v0' (gs.length + 1) (gs ++ [gv])) (h1 : OwnR w' B 3 v1' (gs.length + 1) (ci ms ++ [.int .i64 m])) (hs : Same 5 w w')
  (ho : OwnR w' B 5 gv n (cb (markL m n))) (hn : n ≤ 16777216) (hm : m ≤ 1099511627776) (hap : ∀ (j : Nat) g', gs[j]? = some g' → Apart g' gv) (hsz : w.heap.size ≤ w'.heap.size) : Bst w' B bk v0' v1' A T' D U' (gs ++ [gv]) (ms ++ [m]) k (gs ++ [gv]).length := by
 have h2 := h.push hc h0 h1 hs (own_held (by omega) ho) hm (Nat.le_refl _) (fun i r _ _ hr => (hap i r hr).symm) hsz (fun b hb => ⟨(ho.lt b hb).2, (ho.lt b hb).1⟩)
 refine ⟨h2.cells, h2.row0, h2.row1, h2.held, h2.mle, fun i g q h3 h4 hg hq => ?_, h2.lowb⟩
 rw [List.length_append] at h4
 simp at h4
 by_cases hi : i < gs.length
 ·exact h2.fresh i g q h3 hi hg hq
 ·have hi2 : i = gs.length := by omega
  subst hi2
  have hl := h.len
  rw [List.getElem?_append_right (by omega)] at hg
  rw [List.getElem?_append_right (by omega), hl] at hq
  simp at hg hq
  subst hg
  subst hq
  refine ⟨⟨n, hn, ho⟩, fun j g' hj hg' => ?_⟩
  by_cases hjl : j < gs.length
  ·rw [List.getElem?_append_left hjl] at hg'
   exact hap j g' hg'
  ·have := (List.getElem?_eq_some_iff.1 hg').1
   simp at this
   omega
end Go.Proofs.YtpbiofnncdneoaaGreatDoor.Bq
