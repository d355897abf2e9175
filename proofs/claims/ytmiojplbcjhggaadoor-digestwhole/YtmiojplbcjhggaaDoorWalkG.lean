/- Write. -/
import Derived.Test.YtmiojplbcjhggaaDoorWalkF
import Derived.Test.YtmiojplbcjhggaaDoorQLast
namespace Go.Proofs.YtmiojplbcjhggaaDoor
open Go Go.RowKit
open Go.RowKit (wrap32 wrap64)

def vlen : Value → Nat
  | .slice _ n _ => n
  | _ => 0
/-- a load of many cells in a region that draws its order. -/
theorem step_load_part {P : Program} {ops : Array Oper} {o : Oper} {a : Act} {w : World} {K : Act → World → Prop} {Q : Exit → Act → World → Prop} {E : Prop} (hgd : o.guard = none) (ty : TypeId) (x : Operand) (ho : o.op = .load ty x) (b off : Nat) (vs : List Value) (d : TypeDesc) (hx : a.eval x = .pointer (some ⟨b, off, none⟩)) (hc : w.rangeAt b off vs)
    (hu : P.underlying ty = some d) (hd : d.isRow = true) (hi : (P.info? ty).map (·.size) = some vs.length)
    (h : K (a.put o.dst (.agg vs.toArray)) w) : if Region.wanted o (yielded ops a.tmps) = true then Oper.wp P o a w K Q else E := by
  have hw : Region.wanted o (yielded ops a.tmps) = true := by simp [Region.wanted, hgd]
  rw [if_pos hw]
  exact wp_load_mid ty x ho b off hx vs d hc hu hd hi h
set_option maxRecDepth 100000 in
set_option maxHeartbeats 800000 in
theorem write_even (w : World) (b : Nat) (l : List UInt8) (v : Value) (F : Nat → Prop) (x : List UInt8) (hs : Hs w b l) (hx : Rd w F v x) (hF : ¬ F b) (hg : Glob w) (hb : 2 ≤ b) (hn : l.length + x.length < 1152921504606846976) (h0 : l.length % 64 = 0) :
    Calls Tryd.prog 18 #[.pointer (some ⟨b, 0, none⟩), v] w fun e w' => e = .returned (.tuple #[]) ∧ Hs w' b (l ++ x) ∧ w.grownBy w' (some b) := by
  have HF := hid hF
  have HB2 := hid hb
  have hc72 := hs.taken
  obtain ⟨g, hgl, hB⟩ := hs
  have hf72 := hB.frozen 72
  obtain ⟨a, b0, off, c, e, hcc, hnn, ha, hcell⟩ := hx
  have HX0 : Hid (Rd w F (.slice a x.length c) x) := hid ⟨a, b0, off, c, rfl, hcc, hnn, ha, hcell⟩
  obtain ⟨N, hN⟩ : ∃ N, N = l.length := ⟨_, rfl⟩
  obtain ⟨M, hM⟩ : ∃ M, M = x.length := ⟨_, rfl⟩
  obtain ⟨T, hT⟩ : ∃ T, T = l.length + x.length := ⟨_, rfl⟩
  rw [← hN] at hc72 hn h0
  rw [← hM] at e hn
  subst e
  have HWt := hid (waiting_any N (by omega) b w hc72)
  rw [h0] at HWt
  have hsum : (N : Int) + (M : Int) = (T : Int) := by omega
  have hTl : (T : Int) < 1152921504606846976 := by omega
  have HTe := hid hT
  have HNe := hid hN
  have HMe := hid hM
  have HB0 : Hid (Blk w b (hcs (st l) (rs l ++ g) l.length) 75) := hid hB
  have HGL0 := hid hg
  have HE0 := hid h0
  have HGL' := hid hgl
  clear hT hN hM hB hg h0 hgl hF hb hcell ha hnn hcc
  have hMl : (M : Int) < 1152921504606846976 := by omega
  have hNl : (N : Int) < 1152921504606846976 := by omega
  clear hn
  go_enter Tryd.func18, Tryd.ntmps18
  go_wp2_with (first
    | (go_at_call 34; refine (HWt.out).mono ?_; rintro e w' ⟨rfl, hw⟩; have hw' := hw.symm; clear hw; subst hw'))
  obtain ⟨w2, hw2⟩ : ∃ w2, w.setCell ⟨b, 72, none⟩ (.int .u64 T) = w2 := ⟨_, rfl⟩
  rw [hw2]
  have HG2 : Hid (w.grownBy w2 (some b)) := hid (by rw [← hw2]; exact gset _ _ _)
  have HBK : Hid (Blk w2 b (hcs (st l) (rs l ++ g) T) 75) := hid (by rw [← hw2, ← hcs_set (st l) (rs l ++ g) l.length T HGL'.out]; exact HB0.out.set _ _)
  have HRD : Hid (Rd w2 F (.slice a M c) x) := hid (by have := HX0.out.on HG2.out (fun k hk => by injection hk with hk; rw [← hk]; exact HF.out); rw [← HMe.out] at this; exact this)
  have HGL : Hid (Glob w2) := hid (HGL0.out.on HG2.out (fun k hk => by injection hk with hk; have := HB2.out; omega))
  have HL0 : Hid (l.length % 64 = 0) := hid (by rw [← HNe.out]; exact HE0.out)
  obtain ⟨r0, HRr⟩ : ∃ r0, Hid (rs l ++ g = r0) := ⟨_, hid rfl⟩
  have HR0 := hid HGL'.out
  rw [HRr.out] at HBK HR0
  clear hw2 hc72 hf72 HWt

  go_loopw [1] (fun bv wr => ∃ (d y r : List UInt8), Hid (l ++ x = d ++ y) ∧ Hid (d.length % 64 = 0) ∧ Hid (Rd wr F bv y) ∧ Hid (r.length = 64) ∧ Hid (Blk wr b (hcs (st d) r T) 75) ∧ Hid (w2.grownBy wr (some b))) (fun bv _ => vlen bv)
  case atStart => exact ⟨l, x, r0, hid rfl, HL0, HRD, HR0, HBK, hid (grefl _ _)⟩
  case round =>
    obtain ⟨d, y, r, HD, HDM, HY, HRL, HB, HW⟩ := hrel
    by_cases hlt : 64 ≤ y.length
    · obtain ⟨sb, so, sc, hbv, hsc, hsb, hFb, hrg⟩ := HY.out.front 64 (by decide) hlt
      have HHB := hid hbv
      obtain ⟨Y, hY⟩ : ∃ Y, Y = y.length := ⟨_, rfl⟩
      rw [← hY] at hbv hsc hlt
      subst hbv
      have HYE := hid hY
      obtain ⟨X, HX⟩ : ∃ X, Hid (Lib.byteCells (y.take 64) = X) := ⟨_, hid rfl⟩
      rw [HX.out] at hrg
      have HRG := hid hrg
      have HXL : Hid (X.length = 64) := hid (by rw [← HX.out, byteCells_length, List.length_take]; omega)
      obtain ⟨S, HS⟩ : ∃ S, Hid (st d = S) := ⟨_, hid rfl⟩
      obtain ⟨S', HS'⟩ : ∃ S', Hid (comp S (y.take 64) = S') := ⟨_, hid rfl⟩
      rw [HS.out] at HB
      have HSR := hid (HB.out.range [] S.cells (Lib.byteCells r ++ [.int .u64 T]) 0 rfl rfl)
      have HGw := hid ((HGL.out.on HW.out (fun k hk => by injection hk with hk; have := HB2.out; omega)))
      have HCh : Hid (∀ u, wr.grownBy u none → Calls Tryd.prog 35 #[.agg S.cells.toArray, .agg X.toArray] u fun e w' => e = .returned (.agg S'.cells.toArray) ∧ u.grownBy w' none) := fun u hu => by
        have := changed_any S (by rw [← HS.out]; exact st_ok d) (y.take 64) (by rw [List.length_take]; omega) u (HGw.out.keep hu)
        rw [HX.out, HS'.out] at this
        exact this
      obtain ⟨sc0, HS0⟩ : ∃ sc0, Hid (S.cells = sc0) := ⟨_, hid rfl⟩
      obtain ⟨sc1, HS1⟩ : ∃ sc1, Hid (S'.cells = sc1) := ⟨_, hid rfl⟩
      rw [HS0.out] at HSR HCh
      rw [HS1.out] at HCh
      have HS0L : Hid (sc0.length = 8) := hid (by rw [← HS0.out]; rfl)
      have HS1L : Hid (sc1.length = 8) := hid (by rw [← HS1.out]; rfl)
      have HS11 : Hid (∀ v ∈ sc1, v.oneCell' = true) := hid (by rw [← HS1.out]; exact wcs_one _)
      have HNE : Hid (sb ≠ b) := hid (fun e => HF.out (e ▸ hFb))
      have HBL : Hid ((hcs S r T).length = 73) := hid (hcs_length S r T HRL.out)
      have hY64 : ¬ (Y : Int) < 64 := by omega
      have hYc : (Y : Int) ≤ (sc : Int) := by omega
      have h64c : (64 : Int) ≤ (sc : Int) := by omega
      have hY64' : (64 : Int) ≤ (Y : Int) := by omega
      have HRK : Hid (∀ u, wr.grownBy u none → u.rangeAt b 0 sc0) := hid (fun u hu j v hv => by rw [cell_at hu (World.block_lt_of_cell? wr _ (HSR.out j v hv)) (by simp)]; exact HSR.out j v hv)
      have HXK : Hid (∀ u, wr.grownBy u none → u.rangeAt sb so X) := hid (fun u hu j v hv => by rw [cell_at hu (World.block_lt_of_cell? wr _ (HRG.out j v hv)) (by simp)]; exact HRG.out j v hv)
      clear hrg hY hsb hFb
      go_wp2_with fail
      refine wp_region_lastA (by kernel_rfl) (by kernel_rfl) 11 rfl (by kernel_rfl) rfl rfl (fun u => wr.grownBy u none) (gdrew1 wr none) _ rfl ?_
      intro A hA
      have hA0 : A.eval (.tmp 0) = .pointer (some ⟨b, 0, none⟩) := by rw [hA]; rfl
      have hA1 : A.eval (.tmp 1) = .slice (some ⟨sb, so, none⟩) Y sc := by rw [hA]; rfl
      have hsz : A.tmps.size = 68 := by rw [hA]; rfl
      have HA := hid hA
      clear hA
      dsimp only [List.dropLast]
      with_reducible refine wpQuiet_one ?gd (.pointer (some ⟨b, 0, none⟩)) ?q ?_
      case gd => rfl
      case q =>
        intro u hu
        with_reducible refine quietAt_mv (.tmp 0) (.pointer (some ⟨b, 0, none⟩)) ?h0 ?h1
        case h0 => rfl
        case h1 => (repeat with_reducible refine (ev_ne _ _ _ _ (by decide)).trans ?_); with_reducible first | exact hA0 | exact hA1 | exact ev_same _ _ _ (by (repeat with_reducible refine lt_put ?_); rw [hsz]; decide)
      dsimp only
      with_reducible refine wpQuiet_one ?gd (.pointer (some ⟨b, 0, none⟩)) ?q ?_
      case gd => rfl
      case q =>
        intro u hu
        with_reducible refine quietAt_mv (.tmp 0) (.pointer (some ⟨b, 0, none⟩)) ?h0 ?h1
        case h0 => rfl
        case h1 => (repeat with_reducible refine (ev_ne _ _ _ _ (by decide)).trans ?_); with_reducible first | exact hA0 | exact hA1 | exact ev_same _ _ _ (by (repeat with_reducible refine lt_put ?_); rw [hsz]; decide)
      dsimp only
      with_reducible refine wpQuiet_one ?gd (.pointer (some ⟨b, 0, none⟩)) ?q ?_
      case gd => rfl
      case q =>
        intro u hu
        with_reducible refine quietAt_nil (.tmp 50) ?h0 ⟨b, 0, none⟩ ?h1
        case h0 => rfl
        case h1 => (repeat with_reducible refine (ev_ne _ _ _ _ (by decide)).trans ?_); with_reducible first | exact hA0 | exact hA1 | exact ev_same _ _ _ (by (repeat with_reducible refine lt_put ?_); rw [hsz]; decide)
      dsimp only
      with_reducible refine wpQuiet_one ?gd (.pointer (some ⟨b, 0, none⟩)) ?q ?_
      case gd => rfl
      case q =>
        intro u hu
        with_reducible refine quietAt_field 75 (.tmp 51) 0 ?h0 ⟨b, 0, none⟩ ⟨b, 0, none⟩ ?h1 ?h2
        case h0 => rfl
        case h1 => (repeat with_reducible refine (ev_ne _ _ _ _ (by decide)).trans ?_); with_reducible first | exact hA0 | exact hA1 | exact ev_same _ _ _ (by (repeat with_reducible refine lt_put ?_); rw [hsz]; decide)
        case h2 => kernel_rfl
      dsimp only
      with_reducible refine wpQuiet_one ?gd (.agg sc0.toArray) ?q ?_
      case gd => rfl
      case q =>
        intro u hu
        with_reducible refine quietAt_load 72 (.tmp 52) ?h0 b 0 sc0 (.array 8 66) ?h1 ?h2 ?h3 ?h4 ?h5
        case h0 => rfl
        case h1 => (repeat with_reducible refine (ev_ne _ _ _ _ (by decide)).trans ?_); with_reducible first | exact hA0 | exact hA1 | exact ev_same _ _ _ (by (repeat with_reducible refine lt_put ?_); rw [hsz]; decide)
        case h2 => exact HRK.out u hu
        case h3 => exact Tryd.underlying72
        case h4 => rfl
        case h5 => rw [HS0L.out]; exact Tryd.size72
      dsimp only
      with_reducible refine wpQuiet_one ?gd (.slice (some ⟨sb, so, none⟩) Y sc) ?q ?_
      case gd => rfl
      case q =>
        intro u hu
        with_reducible refine quietAt_mv (.tmp 1) (.slice (some ⟨sb, so, none⟩) Y sc) ?h0 ?h1
        case h0 => rfl
        case h1 => (repeat with_reducible refine (ev_ne _ _ _ _ (by decide)).trans ?_); with_reducible first | exact hA0 | exact hA1 | exact ev_same _ _ _ (by (repeat with_reducible refine lt_put ?_); rw [hsz]; decide)
      dsimp only
      with_reducible refine wpQuiet_one ?gd (.pointer (some ⟨sb, so, none⟩)) ?q ?_
      case gd => rfl
      case q =>
        intro u hu
        with_reducible refine quietAt_arr 73 (.tmp 54) ?h0 (some ⟨sb, so, none⟩) Y sc 64 5 ?h1 ?h2 ?h3
        case h0 => rfl
        case h1 => (repeat with_reducible refine (ev_ne _ _ _ _ (by decide)).trans ?_); with_reducible first | exact hA0 | exact hA1 | exact ev_same _ _ _ (by (repeat with_reducible refine lt_put ?_); rw [hsz]; decide)
        case h2 => exact Tryd.underlying73
        case h3 => omega
      dsimp only
      with_reducible refine wpQuiet_one ?gd (.agg X.toArray) ?q ?_
      case gd => rfl
      case q =>
        intro u hu
        with_reducible refine quietAt_load 73 (.tmp 55) ?h0 sb so X (.array 64 5) ?h1 ?h2 ?h3 ?h4 ?h5
        case h0 => rfl
        case h1 => (repeat with_reducible refine (ev_ne _ _ _ _ (by decide)).trans ?_); with_reducible first | exact hA0 | exact hA1 | exact ev_same _ _ _ (by (repeat with_reducible refine lt_put ?_); rw [hsz]; decide)
        case h2 => exact HXK.out u hu
        case h3 => exact Tryd.underlying73
        case h4 => rfl
        case h5 => rw [HXL.out]; exact Tryd.size73
      dsimp only
      with_reducible refine wpQuiet_one ?gd (.agg sc1.toArray) ?q ?_
      case gd => rfl
      case q =>
        intro u hu
        with_reducible refine quietAt_call 35 Tryd.f35 ?h0 ?h1 ?h2 #[.tmp 53, .tmp 56] #[72, 73] ?h3 (.agg sc1.toArray) #[.agg sc0.toArray, .agg X.toArray] ?h4 ?h5
        case h0 => exact Tryd.func35
        case h1 => kernel_rfl
        case h2 => kernel_rfl
        case h3 => rfl
        case h4 => exact map2 _ _ _ _ _ (by (repeat with_reducible refine (ev_ne _ _ _ _ (by decide)).trans ?_); with_reducible first | exact hA0 | exact hA1 | exact ev_same _ _ _ (by (repeat with_reducible refine lt_put ?_); rw [hsz]; decide)) (by (repeat with_reducible refine (ev_ne _ _ _ _ (by decide)).trans ?_); with_reducible first | exact hA0 | exact hA1 | exact ev_same _ _ _ (by (repeat with_reducible refine lt_put ?_); rw [hsz]; decide))
        case h5 => exact (HCh.out u hu).mono fun e w' h => ⟨h.1, gtrans hu h.2⟩
      dsimp only
      with_reducible refine wpQuiet_one ?gd (.pointer (some ⟨b, 0, none⟩)) ?q ?_
      case gd => rfl
      case q =>
        intro u hu
        with_reducible refine quietAt_nil (.tmp 49) ?h0 ⟨b, 0, none⟩ ?h1
        case h0 => rfl
        case h1 => (repeat with_reducible refine (ev_ne _ _ _ _ (by decide)).trans ?_); with_reducible first | exact hA0 | exact hA1 | exact ev_same _ _ _ (by (repeat with_reducible refine lt_put ?_); rw [hsz]; decide)
      dsimp only
      with_reducible refine wpQuiet_one ?gd (.pointer (some ⟨b, 0, none⟩)) ?q ?_
      case gd => rfl
      case q =>
        intro u hu
        with_reducible refine quietAt_field 75 (.tmp 58) 0 ?h0 ⟨b, 0, none⟩ ⟨b, 0, none⟩ ?h1 ?h2
        case h0 => rfl
        case h1 => (repeat with_reducible refine (ev_ne _ _ _ _ (by decide)).trans ?_); with_reducible first | exact hA0 | exact hA1 | exact ev_same _ _ _ (by (repeat with_reducible refine lt_put ?_); rw [hsz]; decide)
        case h2 => kernel_rfl
      dsimp only
      refine wpQuiet_nil ?_
      intro w3 hg3
      with_reducible refine wp_store_part 72 (.tmp 59) (.tmp 57) ?h0 b 0 _ sc1 75 ?h1 ?h2 (HB.out.keep hg3) ?h3 ?h4 HS11.out ?h5
      case h0 => rfl
      case h1 => (repeat with_reducible refine (ev_ne _ _ _ _ (by decide)).trans ?_); with_reducible first | exact hA0 | exact hA1 | exact ev_same _ _ _ (by (repeat with_reducible refine lt_put ?_); rw [hsz]; decide)
      case h2 => (repeat with_reducible refine (ev_ne _ _ _ _ (by decide)).trans ?_); with_reducible first | exact hA0 | exact hA1 | exact ev_same _ _ _ (by (repeat with_reducible refine lt_put ?_); rw [hsz]; decide)
      case h3 => rw [HS1L.out, HBL.out]; decide
      case h4 => rw [HS1L.out]; exact Tryd.size72
      intro w4 B4 g4 s4
      rw [HA.out]
      have HB4 : Hid (Blk w4 b (hcs (st (d ++ y.take 64)) r T) 75) := hid (by
        have hb := st_block d (y.take 64) HDM.out (by rw [List.length_take]; have := HYE.out; omega)
        rw [hb.1, HS.out, HS'.out, ← hcs_state S S' r T, HS1.out]
        exact B4)
      have HG4 := hid ((gsome hg3 (some b)))
      have HG4' := hid (gtrans HG4.out g4)
      have HY4 : Hid (Rd w4 F (.slice (some ⟨sb, so, none⟩) y.length sc) y) := hid (by
        have := HY.out.on HG4'.out (fun k hk => by injection hk with hk; rw [← hk]; exact HF.out)
        rw [HYE.out] at this
        exact this)
      have HYD : Hid (∀ p, (0 < y.length - 64 → p = some ⟨sb, so + 64, none⟩) → (p = none → sc - 64 = 0) → Rd w4 F (.slice p (y.length - 64) (sc - 64)) (y.drop 64)) := hid (fun p hp hpn => Rd.drop 64 (by have := HYE.out; omega) HY4.out (fun _ => rfl) hp hpn)
      rw [← HYE.out] at HYD
      clear B4 g4 s4 hg3 hA0 hA1 hsz HA
      go_wp2_with fail
      all_goals
        go_roundw
        case rel =>
          refine ⟨d ++ y.take 64, y.drop 64, r, hid (by rw [HD.out, List.append_assoc, List.take_append_drop]), hid (by rw [List.length_append, List.length_take]; have := HDM.out; have := HYE.out; omega), hid (HYD.out _ (fun h => by rw [if_neg (by omega)]) (fun h => by split at h <;> cases h)), HRL, HB4, hid (gtrans HW.out HG4'.out)⟩
        case measure => show Y - 64 < Y; omega
    · obtain ⟨sa, sb, so, sc, hbv, hsc, hsn, hsa, hcl⟩ := HY.out
      have HHB := hid hbv
      obtain ⟨Y, hY⟩ : ∃ Y, Y = y.length := ⟨_, rfl⟩
      rw [← hY] at hbv hlt
      subst hbv
      have HYE := hid hY
      have hY64 : (Y : Int) < 64 := by omega
      have hY64' : ¬ (64 : Int) ≤ (Y : Int) := by omega
      obtain ⟨hc, HHC⟩ : ∃ hc, Hid (hcs (st d) r T = hc) := ⟨_, hid rfl⟩
      have HHL : Hid (hc.length = 73) := hid (by rw [← HHC.out]; exact hcs_length _ _ _ HRL.out)
      rw [HHC.out] at HB
      clear hY hsc hsn hsa hcl
      go_wp2_with (refine wpList_copy_blk rfl _ _ rfl b 8 64 64 rfl F y HY.out hc 75 HB.out Y (by rw [← HYE.out]; exact Nat.min_eq_left (by omega)) (by rw [HHL.out]; omega) ?_; intro w5 B5 g5 s5; have HB5 := hid B5; have HG5 := hid g5; clear B5 g5 s5)
      go_end0
      refine ⟨rfl, ⟨r.drop Y, ?_, ?_⟩, ?_⟩
      · have h1 := st_short d y (by have := HDM.out; have := HYE.out; omega)
        rw [HD.out, h1.2, List.eq_nil_of_length_eq_zero (show (rs d).length = 0 by rw [rs_length]; exact HDM.out), List.nil_append, List.length_append, List.length_drop, HRL.out, ← HYE.out]
        omega
      · have h1 := st_short d y (by have := HDM.out; have := HYE.out; omega)
        have h2 := hcs_rest (st d) [] y r T (by rw [HRL.out, ← HYE.out]; omega)
        have hT : T = (d ++ y).length := by rw [← HD.out]; rw [List.length_append]; exact HTe.out
        rw [HD.out, h1.1, h1.2, List.eq_nil_of_length_eq_zero (show (rs d).length = 0 by rw [rs_length]; exact HDM.out), ← hT, HYE.out]
        simp only [List.nil_append, List.length_nil, Nat.add_zero] at h2 ⊢
        rw [← h2]
        have := HB5.out
        rw [← HHC.out, List.take_of_length_le (by rw [HYE.out]; exact Nat.le_refl _)] at this
        exact this
      · exact gtrans HG2.out (gtrans HW.out HG5.out)
end Go.Proofs.YtmiojplbcjhggaaDoor
