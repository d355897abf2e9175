/- Write where a block is under way. -/
import Derived.Test.YtmiojplbcjhggaaDoorWalkG
import Derived.Deep.Cut
namespace Go.Proofs.YtmiojplbcjhggaaDoor
open Go Go.RowKit
open Go.RowKit (wrap32 wrap64)

theorem slice_from (b o W : Nat) (h : W < 64) (u : World) : (Instr.sliceAt 73 (.pointer (some ⟨b, o, none⟩)) (some (.int .i64 (W : Int))) none none).run Tryd.prog u = .ok (.slice (some ⟨b, o + W, none⟩) (64 - W) (64 - W)) u := by
  have h1 : ¬ 64 = W := by omega
  have h2 : (W : Int) ≤ 64 := by omega
  cases hq : Tryd.prog.info? 5 with
  | none => have := Tryd.one5; rw [hq] at this; cases this
  | some i =>
    have hs : i.size = 1 := by have := Tryd.one5; rw [hq] at this; simpa using this
    simp [Instr.sliceAt, Instr.sureAddr, run_underlying Tryd.underlying73, Instr.sliceBounds, run_sliceBound, sizeOf, typeInfo, hq, hs, h1, h2, Addr.add_lit]
theorem slice_tail (b o M c k : Nat) (h : k ≤ M) (_h2 : M ≤ c) (p : Option Addr) (hp : p = some (if c = k then ⟨b, o, none⟩ else ⟨b, o + k, none⟩)) (u : World) : (Instr.slice 23 (.slice (some ⟨b, o, none⟩) M c) (some (.int .i64 (k : Int))) none none).run Tryd.prog u = .ok (.slice p (M - k) (c - k)) u := by
  have h1 : (k : Int) ≤ (M : Int) := by omega
  cases hq : Tryd.prog.info? 5 with
  | none => have := Tryd.one5; rw [hq] at this; cases this
  | some i =>
    have hs : i.size = 1 := by have := Tryd.one5; rw [hq] at this; simpa using this
    rw [hp]
    by_cases e : c = k
    · simp [Instr.slice, run_underlying Tryd.underlying23, Instr.sliceBounds, run_sliceBound, sizeOf, typeInfo, hq, h1, e]
    · simp [Instr.slice, run_underlying Tryd.underlying23, Instr.sliceBounds, run_sliceBound, sizeOf, typeInfo, hq, hs, h1, e, Addr.add_lit]
set_option maxRecDepth 100000 in
set_option maxHeartbeats 800000 in
theorem write_short (w : World) (b : Nat) (l : List UInt8) (v : Value) (F : Nat → Prop) (x : List UInt8) (hs : Hs w b l) (hx : Rd w F v x) (hF : ¬ F b) (hg : Glob w) (hb : 2 ≤ b) (hn : l.length + x.length < 1152921504606846976) (h0 : 0 < l.length % 64) (hk : l.length % 64 + x.length < 64) :
    Calls Tryd.prog 18 #[.pointer (some ⟨b, 0, none⟩), v] w fun e w' => e = .returned (.tuple #[]) ∧ Hs w' b (l ++ x) ∧ w.grownBy w' (some b) := by
  have HF := hid hF
  have HB2 := hid hb
  have hc72 := hs.taken
  obtain ⟨g, hgl, hB⟩ := hs
  have hf72 := hB.frozen 72
  obtain ⟨a, b0, off, c, e, hcc, hnn, ha, hcell⟩ := hx
  have HX0 : Hid (Rd w F (.slice a x.length c) x) := hid ⟨a, b0, off, c, rfl, hcc, hnn, ha, hcell⟩
  obtain ⟨N, hN⟩ : ∃ N, N = l.length := ⟨_, rfl⟩
  obtain ⟨M, hM⟩ : ∃ M, M = x.length := ⟨_, rfl⟩
  obtain ⟨T, hT⟩ : ∃ T, T = l.length + x.length := ⟨_, rfl⟩
  obtain ⟨W, hW⟩ : ∃ W, W = l.length % 64 := ⟨_, rfl⟩
  rw [← hN] at hc72 hn h0 hW
  rw [← hM] at e hn hk
  subst e
  have HWt := hid (waiting_any N (by omega) b w hc72)
  rw [← hW] at HWt h0
  rw [← hN, ← hW] at hk
  have hsum : (N : Int) + (M : Int) = (T : Int) := by omega
  have hTl : (T : Int) < 1152921504606846976 := by omega
  have hW0 : (0 : Int) < (W : Int) := by omega
  have hW1 : (W : Int) < 64 := by omega
  have hsl := slice_from b 8 W (by omega)
  have HTe := hid hT
  have HNe := hid hN
  have HMe := hid hM
  have HWe : Hid (W = l.length % 64) := hid (by rw [← hN]; exact hW)
  have HB0 : Hid (Blk w b (hcs (st l) (rs l ++ g) l.length) 75) := hid hB
  have HGL0 := hid hg
  have HGL' := hid hgl
  have HRS : Hid ((rs l).length = W) := hid (by rw [rs_length, ← hN]; exact hW.symm)
  have HGG : Hid (g.length = 64 - W) := hid (by rw [List.length_append, HRS.out] at hgl; omega)
  obtain ⟨k, hkM⟩ : ∃ k, k = M := ⟨_, rfl⟩
  have HMIN : Hid (Nat.min x.length (64 - W) = k) := hid (by rw [← hM, hkM]; exact Nat.min_eq_left (by omega))
  have hWk : (W : Int) + (k : Int) < 64 := by omega
  have hkx : k ≤ M := by omega
  have HKM := hid hkM
  clear hkM ha hcc
  have hMl : (M : Int) < 1152921504606846976 := by omega
  have hNl : (N : Int) < 1152921504606846976 := by omega
  have HKX := hid hkx
  clear hT hN hM hB hg hgl hF hb hcell hnn hW hn h0 hk hkx
  obtain ⟨w2, hw2⟩ : ∃ w2, w.setCell ⟨b, 72, none⟩ (.int .u64 T) = w2 := ⟨_, rfl⟩
  have HG2 : Hid (w.grownBy w2 (some b)) := hid (by rw [← hw2]; exact gset _ _ _)
  have HBK : Hid (Blk w2 b (hcs (st l) (rs l ++ g) T) 75) := hid (by rw [← hw2, ← hcs_set (st l) (rs l ++ g) l.length T HGL'.out]; exact HB0.out.set _ _)
  have HRD : Hid (Rd w2 F (.slice a M c) x) := hid (by have := HX0.out.on HG2.out (fun k hk => by injection hk with hk; rw [← hk]; exact HF.out); rw [← HMe.out] at this; exact this)
  have HGL : Hid (Glob w2) := hid (HGL0.out.on HG2.out (fun k hk => by injection hk with hk; have := HB2.out; omega))
  obtain ⟨hc, HHC⟩ : ∃ hc, Hid (hcs (st l) (rs l ++ g) T = hc) := ⟨_, hid rfl⟩
  have HHL : Hid (hc.length = 73) := hid (by rw [← HHC.out]; exact hcs_length _ _ _ HGL'.out)
  have HHR : Hid (splice hc (8 + W) (Lib.byteCells (x.take k)) = hcs (st l) (rs l ++ (x.take k ++ g.drop k)) T) := hid (by
    have h2 := hcs_rest (st l) (rs l) (x.take k) g T (by rw [List.length_take, HGG.out]; omega)
    rw [HRS.out, HHC.out, List.length_take, Nat.min_eq_left (by have := HMe.out; have := HKX.out; omega)] at h2
    exact h2)
  rw [HHC.out] at HBK
  go_enter Tryd.func18, Tryd.ntmps18
  go_upto_region 2 with (go_at_call 34; refine (HWt.out).mono ?_; rintro e w' ⟨rfl, hw⟩; have hw' := hw.symm; clear hw; subst hw')
  clear hMl hNl hTl hsum
  go_wp2_with (first
    | (refine wpList_copy_blk rfl _ _ rfl b (8 + W) (64 - W) (64 - W) rfl F x HRD.out hc 75 HBK.out k HMIN.out (by rw [HHL.out]; omega) ?_; intro w3 B3 g3 s3; have HB3 := hid B3; have HG3 := hid g3; clear B3 g3 s3))
  refine bodyPost_ret (results_none rfl _ _ _) rfl ?_
  have hkl : k = x.length := by rw [HKM.out]; exact HMe.out
  have hkm := HKM.out
  clear hkl
  have hkl : k = x.length := by rw [HKM.out]; exact HMe.out
  have h1 := st_short l x (by rw [← HWe.out, ← HMe.out]; omega)
  refine ⟨rfl, ⟨g.drop k, ?_, ?_⟩, gtrans HG2.out HG3.out⟩
  · rw [h1.2, List.append_assoc, List.length_append, List.length_append, List.length_drop, HRS.out, HGG.out, ← HMe.out, HKM.out]
    omega
  · have := HB3.out
    rw [HHR.out, List.take_of_length_le (by rw [hkl]; exact Nat.le_refl _)] at this
    rw [h1.1, h1.2, List.append_assoc, List.length_append, ← HTe.out]
    exact this

set_option maxRecDepth 100000 in
set_option maxHeartbeats 800000 in
theorem write_fill (w : World) (b : Nat) (l : List UInt8) (v : Value) (F : Nat → Prop) (x : List UInt8) (hs : Hs w b l) (hx : Rd w F v x) (hF : ¬ F b) (hg : Glob w) (hb : 2 ≤ b) (hn : l.length + x.length < 1152921504606846976) (h0 : 0 < l.length % 64) (hk : 64 ≤ l.length % 64 + x.length) :
    Calls Tryd.prog 18 #[.pointer (some ⟨b, 0, none⟩), v] w fun e w' => e = .returned (.tuple #[]) ∧ Hs w' b (l ++ x) ∧ w.grownBy w' (some b) := by
  have HF := hid hF
  have HB2 := hid hb
  have hc72 := hs.taken
  obtain ⟨g, hgl, hB⟩ := hs
  have hf72 := hB.frozen 72
  obtain ⟨a, b0, off, c, e, hcc, hnn, ha, hcell⟩ := hx
  have HX0 : Hid (Rd w F (.slice a x.length c) x) := hid ⟨a, b0, off, c, rfl, hcc, hnn, ha, hcell⟩
  obtain ⟨N, hN⟩ : ∃ N, N = l.length := ⟨_, rfl⟩
  obtain ⟨M, hM⟩ : ∃ M, M = x.length := ⟨_, rfl⟩
  obtain ⟨T, hT⟩ : ∃ T, T = l.length + x.length := ⟨_, rfl⟩
  obtain ⟨W, hW⟩ : ∃ W, W = l.length % 64 := ⟨_, rfl⟩
  rw [← hN] at hc72 hn h0 hW
  rw [← hM] at e hn hk
  subst e
  have HWt := hid (waiting_any N (by omega) b w hc72)
  rw [← hW] at HWt h0
  rw [← hN, ← hW] at hk
  have hsum : (N : Int) + (M : Int) = (T : Int) := by omega
  have hTl : (T : Int) < 1152921504606846976 := by omega
  have hW0 : (0 : Int) < (W : Int) := by omega
  have hW1 : (W : Int) < 64 := by omega
  have hsl := slice_from b 8 W (by omega)
  have HTe := hid hT
  have HNe := hid hN
  have HMe := hid hM
  have HWe : Hid (W = l.length % 64) := hid (by rw [← hN]; exact hW)
  have HB0 : Hid (Blk w b (hcs (st l) (rs l ++ g) l.length) 75) := hid hB
  have HGL0 := hid hg
  have HGL' := hid hgl
  have HRS : Hid ((rs l).length = W) := hid (by rw [rs_length, ← hN]; exact hW.symm)
  have HGG : Hid (g.length = 64 - W) := hid (by rw [List.length_append, HRS.out] at hgl; omega)
  obtain ⟨k, hkM⟩ : ∃ k, k = 64 - W := ⟨_, rfl⟩
  have HMIN : Hid (Nat.min x.length (64 - W) = k) := hid (by rw [← hM, hkM]; exact Nat.min_eq_right (by omega))
  have hWk : (W : Int) + (k : Int) = 64 := by omega
  have hkx : k ≤ M := by omega
  have HKM := hid hkM
  obtain ⟨hae, hb0, hFb0⟩ := ha (by omega)
  subst hae
  clear hb0 hFb0
  have hcc' : M ≤ c := by rw [hM]; exact hcc
  have hkM' : (k : Int) ≤ (M : Int) := by omega
  obtain ⟨p0, hp0⟩ : ∃ p0, p0 = some (if c = k then (⟨b0, off, none⟩ : Addr) else ⟨b0, off + k, none⟩) := ⟨_, rfl⟩
  have hst := slice_tail b0 off M c k (by omega) hcc' p0 hp0
  have hst2 : ∀ u, (Instr.sliceAt 23 (.slice (some ⟨b0, off, none⟩) M c) (some (.int .i64 (k : Int))) none none).run Tryd.prog u = .ok (.slice p0 (M - k) (c - k)) u := fun u => (run_sliceAt_slice u 23 _ _ _ _ Tryd.underlying23).trans (hst u)
  have HP0 := hid hp0
  have HMC := hid hcc'
  clear hp0
  clear hkM' hcc' hkM ha hcc
  have hMl : (M : Int) < 1152921504606846976 := by omega
  have hNl : (N : Int) < 1152921504606846976 := by omega
  have HKX := hid hkx
  clear hT hN hM hB hg hgl hF hb hcell hnn hW hn h0 hk hkx
  obtain ⟨w2, hw2⟩ : ∃ w2, w.setCell ⟨b, 72, none⟩ (.int .u64 T) = w2 := ⟨_, rfl⟩
  have HG2 : Hid (w.grownBy w2 (some b)) := hid (by rw [← hw2]; exact gset _ _ _)
  have HBK : Hid (Blk w2 b (hcs (st l) (rs l ++ g) T) 75) := hid (by rw [← hw2, ← hcs_set (st l) (rs l ++ g) l.length T HGL'.out]; exact HB0.out.set _ _)
  have HRD : Hid (Rd w2 F (.slice (some ⟨b0, off, none⟩) M c) x) := hid (by have := HX0.out.on HG2.out (fun k hk => by injection hk with hk; rw [← hk]; exact HF.out); rw [← HMe.out] at this; exact this)
  have HGL : Hid (Glob w2) := hid (HGL0.out.on HG2.out (fun k hk => by injection hk with hk; have := HB2.out; omega))
  obtain ⟨hc, HHC⟩ : ∃ hc, Hid (hcs (st l) (rs l ++ g) T = hc) := ⟨_, hid rfl⟩
  have HHL : Hid (hc.length = 73) := hid (by rw [← HHC.out]; exact hcs_length _ _ _ HGL'.out)
  have HHR : Hid (splice hc (8 + W) (Lib.byteCells (x.take k)) = hcs (st l) (rs l ++ (x.take k ++ g.drop k)) T) := hid (by
    have h2 := hcs_rest (st l) (rs l) (x.take k) g T (by rw [List.length_take, HGG.out]; omega)
    rw [HRS.out, HHC.out, List.length_take, Nat.min_eq_left (by have := HMe.out; have := HKX.out; omega)] at h2
    exact h2)
  rw [HHC.out] at HBK
  go_enter Tryd.func18, Tryd.ntmps18
  go_upto_region 2 with (go_at_call 34; refine (HWt.out).mono ?_; rintro e w' ⟨rfl, hw⟩; have hw' := hw.symm; clear hw; subst hw')
  clear hMl hNl hTl hsum
  go_wp2_with (first
    | (refine wpList_copy_blk rfl _ _ rfl b (8 + W) (64 - W) (64 - W) rfl F x HRD.out hc 75 HBK.out k HMIN.out (by rw [HHL.out]; omega) ?_; intro w3 B3 g3 s3; have HB3 := hid B3; have HG3 := hid g3; clear B3 g3 s3))
  obtain ⟨S, HS⟩ : ∃ S, Hid (st l = S) := ⟨_, hid rfl⟩
  obtain ⟨D, HDe⟩ : ∃ D, Hid (rs l ++ x.take k = D) := ⟨_, hid rfl⟩
  have HDL : Hid (D.length = 64) := hid (by rw [← HDe.out, List.length_append, HRS.out, List.length_take, Nat.min_eq_left (by have := HMe.out; have := HKX.out; omega)]; omega)
  have HB3' : Hid (Blk w3 b (hcs S D T) 75) := hid (by
    have := HB3.out
    rw [HHR.out, ← List.append_assoc, List.drop_eq_nil_of_le (by rw [HGG.out, HKM.out]; exact Nat.le_refl _), List.append_nil, HDe.out, HS.out] at this
    exact this)
  obtain ⟨S', HS'⟩ : ∃ S', Hid (comp S D = S') := ⟨_, hid rfl⟩
  obtain ⟨X, HX⟩ : ∃ X, Hid (Lib.byteCells D = X) := ⟨_, hid rfl⟩
  have HXL : Hid (X.length = 64) := hid (by rw [← HX.out, byteCells_length, HDL.out])
  have HGw : Hid (Glob w3) := hid (HGL.out.on HG3.out (fun k hk => by injection hk with hk; have := HB2.out; omega))
  have HCh : Hid (∀ u, w3.grownBy u none → Calls Tryd.prog 35 #[.agg S.cells.toArray, .agg X.toArray] u fun e w' => e = .returned (.agg S'.cells.toArray) ∧ u.grownBy w' none) := fun u hu => by
    have := changed_any S (by rw [← HS.out]; exact st_ok l) D HDL.out u (HGw.out.keep hu)
    rw [HX.out, HS'.out] at this
    exact this
  have HSR : Hid (w3.rangeAt b 0 S.cells) := hid (HB3'.out.range [] S.cells (Lib.byteCells D ++ [.int .u64 T]) 0 rfl rfl)
  have HRG : Hid (w3.rangeAt b 8 X) := hid (by rw [← HX.out]; exact HB3'.out.range S.cells (Lib.byteCells D) [.int .u64 T] 8 rfl rfl)
  obtain ⟨sc0, HS0⟩ : ∃ sc0, Hid (S.cells = sc0) := ⟨_, hid rfl⟩
  obtain ⟨sc1, HS1⟩ : ∃ sc1, Hid (S'.cells = sc1) := ⟨_, hid rfl⟩
  rw [HS0.out] at HSR HCh
  rw [HS1.out] at HCh
  have HS0L : Hid (sc0.length = 8) := hid (by rw [← HS0.out]; rfl)
  have HS1L : Hid (sc1.length = 8) := hid (by rw [← HS1.out]; rfl)
  have HS11 : Hid (∀ v ∈ sc1, v.oneCell' = true) := hid (by rw [← HS1.out]; exact wcs_one _)
  have HBL : Hid ((hcs S D T).length = 73) := hid (hcs_length S D T HDL.out)
  have HRK : Hid (∀ u, w3.grownBy u none → u.rangeAt b 0 sc0) := hid (fun u hu j v hv => by rw [cell_at hu (World.block_lt_of_cell? w3 _ (HSR.out j v hv)) (by simp)]; exact HSR.out j v hv)
  have HXK : Hid (∀ u, w3.grownBy u none → u.rangeAt b 8 X) := hid (fun u hu j v hv => by rw [cell_at hu (World.block_lt_of_cell? w3 _ (HRG.out j v hv)) (by simp)]; exact HRG.out j v hv)
  refine wp_region_lastA (by kernel_rfl) (by kernel_rfl) 12 rfl (by kernel_rfl) rfl rfl (fun u => w3.grownBy u none) (gdrew1 w3 none) _ rfl ?_
  intro A hA
  have hA0 : A.eval (.tmp 0) = .pointer (some ⟨b, 0, none⟩) := by rw [hA]; rfl
  have hA1 : A.eval (.tmp 1) = .slice (some ⟨b0, off, none⟩) M c := by rw [hA]; rfl
  have hsz : A.tmps.size = 68 := by rw [hA]; rfl
  have HA := hid hA
  clear hA
  dsimp only [List.dropLast]
  with_reducible refine wpQuiet_one ?gd (.pointer (some ⟨b, 0, none⟩)) ?q ?_
  case gd => rfl
  case q =>
    intro u hu
    with_reducible refine quietAt_mv (.tmp 0) (.pointer (some ⟨b, 0, none⟩)) ?h0 ?h1
    case h0 => rfl
    case h1 => (repeat with_reducible refine (ev_ne _ _ _ _ (by decide)).trans ?_); with_reducible first | exact hA0 | exact hA1 | exact ev_same _ _ _ (by (repeat with_reducible refine lt_put ?_); rw [hsz]; decide)
  dsimp only
  with_reducible refine wpQuiet_one ?gd (.pointer (some ⟨b, 0, none⟩)) ?q ?_
  case gd => rfl
  case q =>
    intro u hu
    with_reducible refine quietAt_mv (.tmp 0) (.pointer (some ⟨b, 0, none⟩)) ?h0 ?h1
    case h0 => rfl
    case h1 => (repeat with_reducible refine (ev_ne _ _ _ _ (by decide)).trans ?_); with_reducible first | exact hA0 | exact hA1 | exact ev_same _ _ _ (by (repeat with_reducible refine lt_put ?_); rw [hsz]; decide)
  dsimp only
  with_reducible refine wpQuiet_one ?gd (.pointer (some ⟨b, 0, none⟩)) ?q ?_
  case gd => rfl
  case q =>
    intro u hu
    with_reducible refine quietAt_nil (.tmp 32) ?h0 ⟨b, 0, none⟩ ?h1
    case h0 => rfl
    case h1 => (repeat with_reducible refine (ev_ne _ _ _ _ (by decide)).trans ?_); with_reducible first | exact hA0 | exact hA1 | exact ev_same _ _ _ (by (repeat with_reducible refine lt_put ?_); rw [hsz]; decide)
  dsimp only
  with_reducible refine wpQuiet_one ?gd (.pointer (some ⟨b, 0, none⟩)) ?q ?_
  case gd => rfl
  case q =>
    intro u hu
    with_reducible refine quietAt_field 75 (.tmp 33) 0 ?h0 ⟨b, 0, none⟩ ⟨b, 0, none⟩ ?h1 ?h2
    case h0 => rfl
    case h1 => (repeat with_reducible refine (ev_ne _ _ _ _ (by decide)).trans ?_); with_reducible first | exact hA0 | exact hA1 | exact ev_same _ _ _ (by (repeat with_reducible refine lt_put ?_); rw [hsz]; decide)
    case h2 => kernel_rfl
  dsimp only
  with_reducible refine wpQuiet_one ?gd (.agg sc0.toArray) ?q ?_
  case gd => rfl
  case q =>
    intro u hu
    with_reducible refine quietAt_load 72 (.tmp 34) ?h0 b 0 sc0 (.array 8 66) ?h1 ?h2 ?h3 ?h4 ?h5
    case h0 => rfl
    case h1 => (repeat with_reducible refine (ev_ne _ _ _ _ (by decide)).trans ?_); with_reducible first | exact hA0 | exact hA1 | exact ev_same _ _ _ (by (repeat with_reducible refine lt_put ?_); rw [hsz]; decide)
    case h2 => exact HRK.out u hu
    case h3 => exact Tryd.underlying72
    case h4 => rfl
    case h5 => rw [HS0L.out]; exact Tryd.size72
  dsimp only
  with_reducible refine wpQuiet_one ?gd (.pointer (some ⟨b, 0, none⟩)) ?q ?_
  case gd => rfl
  case q =>
    intro u hu
    with_reducible refine quietAt_mv (.tmp 0) (.pointer (some ⟨b, 0, none⟩)) ?h0 ?h1
    case h0 => rfl
    case h1 => (repeat with_reducible refine (ev_ne _ _ _ _ (by decide)).trans ?_); with_reducible first | exact hA0 | exact hA1 | exact ev_same _ _ _ (by (repeat with_reducible refine lt_put ?_); rw [hsz]; decide)
  dsimp only
  with_reducible refine wpQuiet_one ?gd (.pointer (some ⟨b, 0, none⟩)) ?q ?_
  case gd => rfl
  case q =>
    intro u hu
    with_reducible refine quietAt_nil (.tmp 36) ?h0 ⟨b, 0, none⟩ ?h1
    case h0 => rfl
    case h1 => (repeat with_reducible refine (ev_ne _ _ _ _ (by decide)).trans ?_); with_reducible first | exact hA0 | exact hA1 | exact ev_same _ _ _ (by (repeat with_reducible refine lt_put ?_); rw [hsz]; decide)
  dsimp only
  with_reducible refine wpQuiet_one ?gd (.pointer (some ⟨b, 8, none⟩)) ?q ?_
  case gd => rfl
  case q =>
    intro u hu
    with_reducible refine quietAt_field 75 (.tmp 37) 1 ?h0 ⟨b, 0, none⟩ ⟨b, 8, none⟩ ?h1 ?h2
    case h0 => rfl
    case h1 => (repeat with_reducible refine (ev_ne _ _ _ _ (by decide)).trans ?_); with_reducible first | exact hA0 | exact hA1 | exact ev_same _ _ _ (by (repeat with_reducible refine lt_put ?_); rw [hsz]; decide)
    case h2 => kernel_rfl
  dsimp only
  with_reducible refine wpQuiet_one ?gd (.agg X.toArray) ?q ?_
  case gd => rfl
  case q =>
    intro u hu
    with_reducible refine quietAt_load 73 (.tmp 38) ?h0 b 8 X (.array 64 5) ?h1 ?h2 ?h3 ?h4 ?h5
    case h0 => rfl
    case h1 => (repeat with_reducible refine (ev_ne _ _ _ _ (by decide)).trans ?_); with_reducible first | exact hA0 | exact hA1 | exact ev_same _ _ _ (by (repeat with_reducible refine lt_put ?_); rw [hsz]; decide)
    case h2 => exact HXK.out u hu
    case h3 => exact Tryd.underlying73
    case h4 => rfl
    case h5 => rw [HXL.out]; exact Tryd.size73
  dsimp only
  with_reducible refine wpQuiet_one ?gd (.agg sc1.toArray) ?q ?_
  case gd => rfl
  case q =>
    intro u hu
    with_reducible refine quietAt_call 35 Tryd.f35 ?h0 ?h1 ?h2 #[.tmp 35, .tmp 39] #[72, 73] ?h3 (.agg sc1.toArray) #[.agg sc0.toArray, .agg X.toArray] ?h4 ?h5
    case h0 => exact Tryd.func35
    case h1 => kernel_rfl
    case h2 => kernel_rfl
    case h3 => rfl
    case h4 => exact map2 _ _ _ _ _ (by (repeat with_reducible refine (ev_ne _ _ _ _ (by decide)).trans ?_); with_reducible first | exact hA0 | exact hA1 | exact ev_same _ _ _ (by (repeat with_reducible refine lt_put ?_); rw [hsz]; decide)) (by (repeat with_reducible refine (ev_ne _ _ _ _ (by decide)).trans ?_); with_reducible first | exact hA0 | exact hA1 | exact ev_same _ _ _ (by (repeat with_reducible refine lt_put ?_); rw [hsz]; decide))
    case h5 => exact (HCh.out u hu).mono fun e w' h => ⟨h.1, gtrans hu h.2⟩
  dsimp only
  with_reducible refine wpQuiet_one ?gd (.pointer (some ⟨b, 0, none⟩)) ?q ?_
  case gd => rfl
  case q =>
    intro u hu
    with_reducible refine quietAt_nil (.tmp 31) ?h0 ⟨b, 0, none⟩ ?h1
    case h0 => rfl
    case h1 => (repeat with_reducible refine (ev_ne _ _ _ _ (by decide)).trans ?_); with_reducible first | exact hA0 | exact hA1 | exact ev_same _ _ _ (by (repeat with_reducible refine lt_put ?_); rw [hsz]; decide)
  dsimp only
  with_reducible refine wpQuiet_one ?gd (.pointer (some ⟨b, 0, none⟩)) ?q ?_
  case gd => rfl
  case q =>
    intro u hu
    with_reducible refine quietAt_field 75 (.tmp 41) 0 ?h0 ⟨b, 0, none⟩ ⟨b, 0, none⟩ ?h1 ?h2
    case h0 => rfl
    case h1 => (repeat with_reducible refine (ev_ne _ _ _ _ (by decide)).trans ?_); with_reducible first | exact hA0 | exact hA1 | exact ev_same _ _ _ (by (repeat with_reducible refine lt_put ?_); rw [hsz]; decide)
    case h2 => kernel_rfl
  dsimp only
  refine wpQuiet_nil ?_
  intro w4 hg4
  with_reducible refine wp_store_part 72 (.tmp 42) (.tmp 40) ?sx0 b 0 _ sc1 75 ?sx1 ?sx2 (HB3'.out.keep hg4) ?sx3 ?sx4 HS11.out ?sx5
  case sx0 => rfl
  case sx1 => (repeat with_reducible refine (ev_ne _ _ _ _ (by decide)).trans ?_); with_reducible first | exact hA0 | exact hA1 | exact ev_same _ _ _ (by (repeat with_reducible refine lt_put ?_); rw [hsz]; decide)
  case sx2 => (repeat with_reducible refine (ev_ne _ _ _ _ (by decide)).trans ?_); with_reducible first | exact hA0 | exact hA1 | exact ev_same _ _ _ (by (repeat with_reducible refine lt_put ?_); rw [hsz]; decide)
  case sx3 => rw [HS1L.out, HBL.out]; decide
  case sx4 => rw [HS1L.out]; exact Tryd.size72
  intro w5 B5 g5 s5
  rw [HA.out]
  obtain ⟨l0, HL0e⟩ : ∃ l0, Hid (l ++ x.take k = l0) := ⟨_, hid rfl⟩
  obtain ⟨x0, HX0e⟩ : ∃ x0, Hid (x.drop k = x0) := ⟨_, hid rfl⟩
  have hfl := st_fill l (x.take k) (by rw [← HWe.out, List.length_take, Nat.min_eq_left (by have := HMe.out; have := HKX.out; omega)]; omega)
  have HL0 : Hid (l0.length % 64 = 0) := hid (by rw [← HL0e.out, List.length_append, List.length_take, Nat.min_eq_left (by have := HMe.out; have := HKX.out; omega)]; have := HWe.out; omega)
  have HBK5 : Hid (Blk w5 b (hcs (st l0) D T) 75) := hid (by
    rw [← HL0e.out, hfl.1, HS.out, HDe.out, HS'.out, ← hcs_state S S' D T, HS1.out]
    exact B5)
  have HG5' := hid (gtrans (gtrans HG2.out HG3.out) (gtrans (gsome hg4 (some b)) g5))
  have HGL5 : Hid (Glob w5) := hid (HGL0.out.on HG5'.out (fun k hk => by injection hk with hk; have := HB2.out; omega))
  have HRD5 : Hid (Rd w5 F (.slice (some ⟨b0, off, none⟩) x.length c) x) := hid (HX0.out.on HG5'.out (fun k hk => by injection hk with hk; rw [← hk]; exact HF.out))
  have HYD : Hid (∀ p, (0 < x.length - k → p = some ⟨b0, off + k, none⟩) → (p = none → c - k = 0) → Rd w5 F (.slice p (x.length - k) (c - k)) (x.drop k)) := hid (fun p hp hpn => Rd.drop k (by have := HMe.out; have := HKX.out; omega) HRD5.out (fun _ => rfl) hp hpn)
  rw [← HMe.out, HX0e.out] at HYD
  have HTT : Hid (T = (l0 ++ x0).length) := hid (by rw [← HL0e.out, ← HX0e.out, List.append_assoc, List.take_append_drop, List.length_append]; exact HTe.out)
  have HLX : Hid (l0 ++ x0 = l ++ x) := hid (by rw [← HL0e.out, ← HX0e.out, List.append_assoc, List.take_append_drop])
  clear B5 g5 s5 hg4 hA0 hA1 hsz HA hfl HRD HBK HHR HB3 HB3' HHC HHL HS HS' HX HXL HGw HCh HSR HRG HS0 HS1 HS0L HS1L HS11 HBL HRK HXK hw2 hc72 hf72 HWt HG2 HG3 HGL HB0
  have HRD : Hid (Rd w5 F (.slice p0 (M - k) (c - k)) x0) := hid (HYD.out _ (fun h => by rw [HP0.out, if_neg (by have := HKX.out; have := HMC.out; omega)]) (fun h => by rw [HP0.out] at h; cases h))
  go_wp2_with fail

  go_loopw [1] (fun bv wr => ∃ (d y r : List UInt8), Hid (l0 ++ x0 = d ++ y) ∧ Hid (d.length % 64 = 0) ∧ Hid (Rd wr F bv y) ∧ Hid (r.length = 64) ∧ Hid (Blk wr b (hcs (st d) r T) 75) ∧ Hid (w5.grownBy wr (some b))) (fun bv _ => vlen bv)
  case atStart => exact ⟨l0, x0, D, hid rfl, HL0, HRD, HDL, HBK5, hid (grefl _ _)⟩
  case round =>
    obtain ⟨d, y, r, HD, HDM, HY, HRL, HB, HW⟩ := hrel
    by_cases hlt : 64 ≤ y.length
    · obtain ⟨sb, so, sc, hbv, hsc, hsb, hFb, hrg⟩ := HY.out.front 64 (by decide) hlt
      have HHB := hid hbv
      obtain ⟨Y, hY⟩ : ∃ Y, Y = y.length := ⟨_, rfl⟩
      rw [← hY] at hbv hsc hlt
      subst hbv
      have HYE := hid hY
      obtain ⟨X, HX⟩ : ∃ X, Hid (Lib.byteCells (y.take 64) = X) := ⟨_, hid rfl⟩
      rw [HX.out] at hrg
      have HRG := hid hrg
      have HXL : Hid (X.length = 64) := hid (by rw [← HX.out, byteCells_length, List.length_take]; omega)
      obtain ⟨S, HS⟩ : ∃ S, Hid (st d = S) := ⟨_, hid rfl⟩
      obtain ⟨S', HS'⟩ : ∃ S', Hid (comp S (y.take 64) = S') := ⟨_, hid rfl⟩
      rw [HS.out] at HB
      have HSR := hid (HB.out.range [] S.cells (Lib.byteCells r ++ [.int .u64 T]) 0 rfl rfl)
      have HGw := hid ((HGL5.out.on HW.out (fun k hk => by injection hk with hk; have := HB2.out; omega)))
      have HCh : Hid (∀ u, wr.grownBy u none → Calls Tryd.prog 35 #[.agg S.cells.toArray, .agg X.toArray] u fun e w' => e = .returned (.agg S'.cells.toArray) ∧ u.grownBy w' none) := fun u hu => by
        have := changed_any S (by rw [← HS.out]; exact st_ok d) (y.take 64) (by rw [List.length_take]; omega) u (HGw.out.keep hu)
        rw [HX.out, HS'.out] at this
        exact this
      obtain ⟨sc0, HS0⟩ : ∃ sc0, Hid (S.cells = sc0) := ⟨_, hid rfl⟩
      obtain ⟨sc1, HS1⟩ : ∃ sc1, Hid (S'.cells = sc1) := ⟨_, hid rfl⟩
      rw [HS0.out] at HSR HCh
      rw [HS1.out] at HCh
      have HS0L : Hid (sc0.length = 8) := hid (by rw [← HS0.out]; rfl)
      have HS1L : Hid (sc1.length = 8) := hid (by rw [← HS1.out]; rfl)
      have HS11 : Hid (∀ v ∈ sc1, v.oneCell' = true) := hid (by rw [← HS1.out]; exact wcs_one _)
      have HNE : Hid (sb ≠ b) := hid (fun e => HF.out (e ▸ hFb))
      have HBL : Hid ((hcs S r T).length = 73) := hid (hcs_length S r T HRL.out)
      have hY64 : ¬ (Y : Int) < 64 := by omega
      have hYc : (Y : Int) ≤ (sc : Int) := by omega
      have h64c : (64 : Int) ≤ (sc : Int) := by omega
      have hY64' : (64 : Int) ≤ (Y : Int) := by omega
      have HRK : Hid (∀ u, wr.grownBy u none → u.rangeAt b 0 sc0) := hid (fun u hu j v hv => by rw [cell_at hu (World.block_lt_of_cell? wr _ (HSR.out j v hv)) (by simp)]; exact HSR.out j v hv)
      have HXK : Hid (∀ u, wr.grownBy u none → u.rangeAt sb so X) := hid (fun u hu j v hv => by rw [cell_at hu (World.block_lt_of_cell? wr _ (HRG.out j v hv)) (by simp)]; exact HRG.out j v hv)
      clear hrg hY hsb hFb
      go_wp2_with fail
      refine wp_region_lastA (by kernel_rfl) (by kernel_rfl) 11 rfl (by kernel_rfl) rfl rfl (fun u => wr.grownBy u none) (gdrew1 wr none) _ rfl ?_
      intro A hA
      have hA0 : A.eval (.tmp 0) = .pointer (some ⟨b, 0, none⟩) := by rw [hA]; rfl
      have hA1 : A.eval (.tmp 1) = .slice (some ⟨sb, so, none⟩) Y sc := by rw [hA]; rfl
      have hsz : A.tmps.size = 68 := by rw [hA]; rfl
      have HA := hid hA
      clear hA
      dsimp only [List.dropLast]
      with_reducible refine wpQuiet_one ?gd (.pointer (some ⟨b, 0, none⟩)) ?q ?_
      case gd => rfl
      case q =>
        intro u hu
        with_reducible refine quietAt_mv (.tmp 0) (.pointer (some ⟨b, 0, none⟩)) ?h0 ?h1
        case h0 => rfl
        case h1 => (repeat with_reducible refine (ev_ne _ _ _ _ (by decide)).trans ?_); with_reducible first | exact hA0 | exact hA1 | exact ev_same _ _ _ (by (repeat with_reducible refine lt_put ?_); rw [hsz]; decide)
      dsimp only
      with_reducible refine wpQuiet_one ?gd (.pointer (some ⟨b, 0, none⟩)) ?q ?_
      case gd => rfl
      case q =>
        intro u hu
        with_reducible refine quietAt_mv (.tmp 0) (.pointer (some ⟨b, 0, none⟩)) ?h0 ?h1
        case h0 => rfl
        case h1 => (repeat with_reducible refine (ev_ne _ _ _ _ (by decide)).trans ?_); with_reducible first | exact hA0 | exact hA1 | exact ev_same _ _ _ (by (repeat with_reducible refine lt_put ?_); rw [hsz]; decide)
      dsimp only
      with_reducible refine wpQuiet_one ?gd (.pointer (some ⟨b, 0, none⟩)) ?q ?_
      case gd => rfl
      case q =>
        intro u hu
        with_reducible refine quietAt_nil (.tmp 50) ?h0 ⟨b, 0, none⟩ ?h1
        case h0 => rfl
        case h1 => (repeat with_reducible refine (ev_ne _ _ _ _ (by decide)).trans ?_); with_reducible first | exact hA0 | exact hA1 | exact ev_same _ _ _ (by (repeat with_reducible refine lt_put ?_); rw [hsz]; decide)
      dsimp only
      with_reducible refine wpQuiet_one ?gd (.pointer (some ⟨b, 0, none⟩)) ?q ?_
      case gd => rfl
      case q =>
        intro u hu
        with_reducible refine quietAt_field 75 (.tmp 51) 0 ?h0 ⟨b, 0, none⟩ ⟨b, 0, none⟩ ?h1 ?h2
        case h0 => rfl
        case h1 => (repeat with_reducible refine (ev_ne _ _ _ _ (by decide)).trans ?_); with_reducible first | exact hA0 | exact hA1 | exact ev_same _ _ _ (by (repeat with_reducible refine lt_put ?_); rw [hsz]; decide)
        case h2 => kernel_rfl
      dsimp only
      with_reducible refine wpQuiet_one ?gd (.agg sc0.toArray) ?q ?_
      case gd => rfl
      case q =>
        intro u hu
        with_reducible refine quietAt_load 72 (.tmp 52) ?h0 b 0 sc0 (.array 8 66) ?h1 ?h2 ?h3 ?h4 ?h5
        case h0 => rfl
        case h1 => (repeat with_reducible refine (ev_ne _ _ _ _ (by decide)).trans ?_); with_reducible first | exact hA0 | exact hA1 | exact ev_same _ _ _ (by (repeat with_reducible refine lt_put ?_); rw [hsz]; decide)
        case h2 => exact HRK.out u hu
        case h3 => exact Tryd.underlying72
        case h4 => rfl
        case h5 => rw [HS0L.out]; exact Tryd.size72
      dsimp only
      with_reducible refine wpQuiet_one ?gd (.slice (some ⟨sb, so, none⟩) Y sc) ?q ?_
      case gd => rfl
      case q =>
        intro u hu
        with_reducible refine quietAt_mv (.tmp 1) (.slice (some ⟨sb, so, none⟩) Y sc) ?h0 ?h1
        case h0 => rfl
        case h1 => (repeat with_reducible refine (ev_ne _ _ _ _ (by decide)).trans ?_); with_reducible first | exact hA0 | exact hA1 | exact ev_same _ _ _ (by (repeat with_reducible refine lt_put ?_); rw [hsz]; decide)
      dsimp only
      with_reducible refine wpQuiet_one ?gd (.pointer (some ⟨sb, so, none⟩)) ?q ?_
      case gd => rfl
      case q =>
        intro u hu
        with_reducible refine quietAt_arr 73 (.tmp 54) ?h0 (some ⟨sb, so, none⟩) Y sc 64 5 ?h1 ?h2 ?h3
        case h0 => rfl
        case h1 => (repeat with_reducible refine (ev_ne _ _ _ _ (by decide)).trans ?_); with_reducible first | exact hA0 | exact hA1 | exact ev_same _ _ _ (by (repeat with_reducible refine lt_put ?_); rw [hsz]; decide)
        case h2 => exact Tryd.underlying73
        case h3 => omega
      dsimp only
      with_reducible refine wpQuiet_one ?gd (.agg X.toArray) ?q ?_
      case gd => rfl
      case q =>
        intro u hu
        with_reducible refine quietAt_load 73 (.tmp 55) ?h0 sb so X (.array 64 5) ?h1 ?h2 ?h3 ?h4 ?h5
        case h0 => rfl
        case h1 => (repeat with_reducible refine (ev_ne _ _ _ _ (by decide)).trans ?_); with_reducible first | exact hA0 | exact hA1 | exact ev_same _ _ _ (by (repeat with_reducible refine lt_put ?_); rw [hsz]; decide)
        case h2 => exact HXK.out u hu
        case h3 => exact Tryd.underlying73
        case h4 => rfl
        case h5 => rw [HXL.out]; exact Tryd.size73
      dsimp only
      with_reducible refine wpQuiet_one ?gd (.agg sc1.toArray) ?q ?_
      case gd => rfl
      case q =>
        intro u hu
        with_reducible refine quietAt_call 35 Tryd.f35 ?h0 ?h1 ?h2 #[.tmp 53, .tmp 56] #[72, 73] ?h3 (.agg sc1.toArray) #[.agg sc0.toArray, .agg X.toArray] ?h4 ?h5
        case h0 => exact Tryd.func35
        case h1 => kernel_rfl
        case h2 => kernel_rfl
        case h3 => rfl
        case h4 => exact map2 _ _ _ _ _ (by (repeat with_reducible refine (ev_ne _ _ _ _ (by decide)).trans ?_); with_reducible first | exact hA0 | exact hA1 | exact ev_same _ _ _ (by (repeat with_reducible refine lt_put ?_); rw [hsz]; decide)) (by (repeat with_reducible refine (ev_ne _ _ _ _ (by decide)).trans ?_); with_reducible first | exact hA0 | exact hA1 | exact ev_same _ _ _ (by (repeat with_reducible refine lt_put ?_); rw [hsz]; decide))
        case h5 => exact (HCh.out u hu).mono fun e w' h => ⟨h.1, gtrans hu h.2⟩
      dsimp only
      with_reducible refine wpQuiet_one ?gd (.pointer (some ⟨b, 0, none⟩)) ?q ?_
      case gd => rfl
      case q =>
        intro u hu
        with_reducible refine quietAt_nil (.tmp 49) ?h0 ⟨b, 0, none⟩ ?h1
        case h0 => rfl
        case h1 => (repeat with_reducible refine (ev_ne _ _ _ _ (by decide)).trans ?_); with_reducible first | exact hA0 | exact hA1 | exact ev_same _ _ _ (by (repeat with_reducible refine lt_put ?_); rw [hsz]; decide)
      dsimp only
      with_reducible refine wpQuiet_one ?gd (.pointer (some ⟨b, 0, none⟩)) ?q ?_
      case gd => rfl
      case q =>
        intro u hu
        with_reducible refine quietAt_field 75 (.tmp 58) 0 ?h0 ⟨b, 0, none⟩ ⟨b, 0, none⟩ ?h1 ?h2
        case h0 => rfl
        case h1 => (repeat with_reducible refine (ev_ne _ _ _ _ (by decide)).trans ?_); with_reducible first | exact hA0 | exact hA1 | exact ev_same _ _ _ (by (repeat with_reducible refine lt_put ?_); rw [hsz]; decide)
        case h2 => kernel_rfl
      dsimp only
      refine wpQuiet_nil ?_
      intro w3 hg3
      with_reducible refine wp_store_part 72 (.tmp 59) (.tmp 57) ?h0 b 0 _ sc1 75 ?h1 ?h2 (HB.out.keep hg3) ?h3 ?h4 HS11.out ?h5
      case h0 => rfl
      case h1 => (repeat with_reducible refine (ev_ne _ _ _ _ (by decide)).trans ?_); with_reducible first | exact hA0 | exact hA1 | exact ev_same _ _ _ (by (repeat with_reducible refine lt_put ?_); rw [hsz]; decide)
      case h2 => (repeat with_reducible refine (ev_ne _ _ _ _ (by decide)).trans ?_); with_reducible first | exact hA0 | exact hA1 | exact ev_same _ _ _ (by (repeat with_reducible refine lt_put ?_); rw [hsz]; decide)
      case h3 => rw [HS1L.out, HBL.out]; decide
      case h4 => rw [HS1L.out]; exact Tryd.size72
      intro w4 B4 g4 s4
      rw [HA.out]
      have HB4 : Hid (Blk w4 b (hcs (st (d ++ y.take 64)) r T) 75) := hid (by
        have hb := st_block d (y.take 64) HDM.out (by rw [List.length_take]; have := HYE.out; omega)
        rw [hb.1, HS.out, HS'.out, ← hcs_state S S' r T, HS1.out]
        exact B4)
      have HG4 := hid ((gsome hg3 (some b)))
      have HG4' := hid (gtrans HG4.out g4)
      have HY4 : Hid (Rd w4 F (.slice (some ⟨sb, so, none⟩) y.length sc) y) := hid (by
        have := HY.out.on HG4'.out (fun k hk => by injection hk with hk; rw [← hk]; exact HF.out)
        rw [HYE.out] at this
        exact this)
      have HYD : Hid (∀ p, (0 < y.length - 64 → p = some ⟨sb, so + 64, none⟩) → (p = none → sc - 64 = 0) → Rd w4 F (.slice p (y.length - 64) (sc - 64)) (y.drop 64)) := hid (fun p hp hpn => Rd.drop 64 (by have := HYE.out; omega) HY4.out (fun _ => rfl) hp hpn)
      rw [← HYE.out] at HYD
      clear B4 g4 s4 hg3 hA0 hA1 hsz HA
      go_wp2_with fail
      all_goals
        go_roundw
        case rel =>
          refine ⟨d ++ y.take 64, y.drop 64, r, hid (by rw [HD.out, List.append_assoc, List.take_append_drop]), hid (by rw [List.length_append, List.length_take]; have := HDM.out; have := HYE.out; omega), hid (HYD.out _ (fun h => by rw [if_neg (by omega)]) (fun h => by split at h <;> cases h)), HRL, HB4, hid (gtrans HW.out HG4'.out)⟩
        case measure => show Y - 64 < Y; omega
    · obtain ⟨sa, sb, so, sc, hbv, hsc, hsn, hsa, hcl⟩ := HY.out
      have HHB := hid hbv
      obtain ⟨Y, hY⟩ : ∃ Y, Y = y.length := ⟨_, rfl⟩
      rw [← hY] at hbv hlt
      subst hbv
      have HYE := hid hY
      have hY64 : (Y : Int) < 64 := by omega
      have hY64' : ¬ (64 : Int) ≤ (Y : Int) := by omega
      obtain ⟨hc, HHC⟩ : ∃ hc, Hid (hcs (st d) r T = hc) := ⟨_, hid rfl⟩
      have HHL : Hid (hc.length = 73) := hid (by rw [← HHC.out]; exact hcs_length _ _ _ HRL.out)
      rw [HHC.out] at HB
      clear hY hsc hsn hsa hcl
      go_wp2_with (refine wpList_copy_blk rfl _ _ rfl b 8 64 64 rfl F y HY.out hc 75 HB.out Y (by rw [← HYE.out]; exact Nat.min_eq_left (by omega)) (by rw [HHL.out]; omega) ?_; intro w5 B5 g5 s5; have HB5 := hid B5; have HGz := hid g5; clear B5 g5 s5)
      go_end0
      refine ⟨rfl, ⟨r.drop Y, ?_, ?_⟩, ?_⟩
      · have h1 := st_short d y (by have := HDM.out; have := HYE.out; omega)
        rw [← HLX.out, HD.out, h1.2, List.eq_nil_of_length_eq_zero (show (rs d).length = 0 by rw [rs_length]; exact HDM.out), List.nil_append, List.length_append, List.length_drop, HRL.out, ← HYE.out]
        omega
      · have h1 := st_short d y (by have := HDM.out; have := HYE.out; omega)
        have h2 := hcs_rest (st d) [] y r T (by rw [HRL.out, ← HYE.out]; omega)
        have hT : T = (d ++ y).length := by rw [← HD.out]; exact HTT.out
        rw [← HLX.out, HD.out, h1.1, h1.2, List.eq_nil_of_length_eq_zero (show (rs d).length = 0 by rw [rs_length]; exact HDM.out), ← hT, HYE.out]
        simp only [List.nil_append, List.length_nil, Nat.add_zero] at h2 ⊢
        rw [← h2]
        have := HB5.out
        rw [← HHC.out, List.take_of_length_le (by rw [HYE.out]; exact Nat.le_refl _)] at this
        exact this
      · exact gtrans HG5'.out (gtrans HW.out HGz.out)
end Go.Proofs.YtmiojplbcjhggaaDoor
