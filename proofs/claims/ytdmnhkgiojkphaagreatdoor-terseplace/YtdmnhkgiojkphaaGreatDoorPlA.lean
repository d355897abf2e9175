/- TersePlace's walk. -/
import Derived.Test.YtdmnhkgiojkphaaGreatDoorX38
import Derived.Test.YtdmnhkgiojkphaaGreatDoorSeF
import Derived.Test.YtdmnhkgiojkphaaGreatDoorX46
namespace Go.Proofs.YtdmnhkgiojkphaaGreatDoor
open Go Go.RowKit Go.Maps
open Go.RowKit (wrap32 wrap64)

theorem addI (x y : Operand) (i : Nat) (h : i ≤ 140737488355328) (u : World) : (do eqGuard .add 3 x y (.int .i64 (i : Nat)) (.int .i64 1); binOp .add 3 (.int .i64 (i : Nat)) (.int .i64 1) : Sem Value).run Tryz.prog u = .ok (.int .i64 ((i + 1 : Nat) : Int)) u := by
  have hw : IntKind.i64.wrap ((i : Int) + 1) = (i : Int) + 1 := by rw [IntKind.wrap_i64]; omega
  go_simp
theorem remI (x y : Operand) (i n : Nat) (h : 0 < n) (hn : n ≤ 140737488355328) (u : World) : (do eqGuard .rem 3 x y (.int .i64 ((i + 1 : Nat) : Int)) (.int .i64 (n : Nat)); binOp .rem 3 (.int .i64 ((i + 1 : Nat) : Int)) (.int .i64 (n : Nat)) : Sem Value).run Tryz.prog u = .ok (.int .i64 (((i + 1) % n : Nat) : Int)) u := by
  have h0 : ¬ n = 0 := by omega
  go_simp
  rw [Int.tmod_eq_emod_of_nonneg (by omega)]
theorem find_ends (t : Tree) (hn : cntT t ≤ 1099511627776) (key : ByteArray) (w : World) (F : Nat → Prop) (v : Value) (hv : RdT w F t v) (hG : Glob w) : Calls Tryz.prog 30 #[v, .string key] w fun e w' => (∃ v, e = .returned v) ∧ w.grownBy w' none := by
  refine (find_any t hn key w F v hv hG).mono ?_
  rintro e w' ⟨hg, h⟩
  rcases h with ⟨_, rfl⟩ | ⟨_, _, _, rfl, _⟩
  · exact ⟨⟨_, rfl⟩, hg⟩
  · exact ⟨⟨_, rfl⟩, hg⟩
theorem seatVal (t : Tree) (ht : cntT t ≤ 1099511627776) (w : World) (B : Nat) (G : Nat → Prop) (sb : Nat) (v : Value) (hv : RdT w (fun g => g < B) t v) (hS : SeatAt w B G sb) :
    Calls Tryz.prog 32 #[.pointer (some ⟨sb, 0, none⟩), v] w fun e w' => ∃ k' f' n' s' ka' kn' kc' ia' il' ic' G', e = .returned (.agg #[.int .i64 k', .bool f', .int .i64 n', .string s', .slice ka' kn' kc', .slice ia' il' ic']) ∧ SeatAt w' B G' sb ∧ RdT w' G' t (.agg #[.int .i64 k', .bool f', .int .i64 n', .string s', .slice ka' kn' kc', .slice ia' il' ic']) ∧ Moved G w w' := by
  refine (seatValue_any _ (Nat.le_refl _) t ht w B G sb v hv hS).mono ?_
  rintro e w' ⟨G', v', rfl, h1, h2, _, h3⟩
  obtain ⟨ka, kn, kc, ia, il, ic, e⟩ := RdT_six h2
  subst e
  exact ⟨_, _, _, _, _, _, _, _, _, _, G', rfl, h1, h2, h3⟩
set_option maxRecDepth 100000 in
set_option maxHeartbeats 8000000 in
theorem place_walk (w : World) (l : List Tree) (hb : BndL l) (hf : FitsL l) (hll : l.length ≤ 140737488355328) (hG : Glob w) (v : Value) (hv : RdS w (fun _ => True) l v) :
    Calls Tryz.prog 6 #[v] w fun e w' => e = .returned (.bool true) ∧ Below w.heap.size w w' := by
  have HMu := hid (much_any _ l (Nat.le_refl _) hb hll 3000 (Nat.le_of_ble_eq_true rfl) w (fun _ => True) v hv)
  obtain ⟨a, c, rfl, hc, hk⟩ := hv
  obtain ⟨B, HB⟩ : ∃ z, Hid (w.heap.size = z) := ⟨_, hid rfl⟩
  rw [HB.out]
  have HGl : Hid (∀ u : World, Below B w u → Glob u) := hid (fun u hu => hG.below (hu.mono (by rw [← HB.out]; exact hG.1)))
  have HWk : Hid (∀ u : World, Below B w u → Calls Tryz.prog 17 #[] u fun e w' => e = .returned (.bool true) ∧ u.grownBy w' none) := hid (fun u hu => wakes_any u (HGl.out u hu))
  have HIt : Hid (muchL l ≤ 3000 → ∀ i (hi : i < l.length), ∃ (g o : Nat) (k : Int) (f : Bool) (z : Int) (x : ByteArray) (ka : Option Addr) (kn kc : Nat) (ia : Option Addr) (il ic : Nat), a = some ⟨g, o, none⟩ ∧ cntT l[i] ≤ 2560000 ∧ Fits l[i] ∧
      (∀ u : World, Below B w u → u.cell? ⟨g, o + i * 6, none⟩ = some (.int .i64 k) ∧ u.cell? ⟨g, o + i * 6 + 1, none⟩ = some (.bool f) ∧ u.cell? ⟨g, o + i * 6 + 2, none⟩ = some (.int .i64 z) ∧ u.cell? ⟨g, o + i * 6 + 3, none⟩ = some (.string x) ∧ u.cell? ⟨g, o + i * 6 + 4, none⟩ = some (.slice ka kn kc) ∧ u.cell? ⟨g, o + i * 6 + 5, none⟩ = some (.slice ia il ic) ∧ RdT u (fun q => q < B) l[i] (.agg #[.int .i64 k, .bool f, .int .i64 z, .string x, .slice ka kn kc, .slice ia il ic]))) := hid (fun hmu i hi => by
    obtain ⟨g, o, e, hg, hFg, hr⟩ := hk (by omega)
    obtain ⟨k, f, z, x, ka, kn, kc, ia, il, ic, c0, c1, c2, c3, c4, c5, hT⟩ := hr.shaped (Stays.refl _ _) hFg hg i hi
    refine ⟨g, o, k, f, z, x, ka, kn, kc, ia, il, ic, e, ?_, FitsL_mem hf _ (List.getElem_mem hi), fun u hu => ?_⟩
    · have h1 := cntT_much l[i]
      have h2 := muchL_mem (List.getElem_mem hi)
      omega
    · have hs : Stays (fun q => q < B) w u := ⟨hu.size, fun q hq _ => hu.block q hq⟩
      have hgB : g < B := by rw [← HB.out]; exact hg
      have hT' : RdT w (fun q => q < B) l[i] _ := RdT.kept (F := fun _ => True) (Stays.refl _ _) (fun q _ hq => by rw [← HB.out]; exact hq) _ hT
      exact ⟨hs.cell hgB hg c0, hs.cell hgB hg c1, hs.cell hgB hg c2, hs.cell hgB hg c3, hs.cell hgB hg c4, hs.cell hgB hg c5, hT'.on hs⟩)
  have HNum : Hid (∀ (u : World) (E : Int), Calls Tryz.prog 14 #[.int .i64 E] u fun e w' => e = .returned (.int .i64 E) ∧ u.grownBy w' none) := hid (fun u E => (num_any u E).mono (by rintro e w' ⟨rfl, rfl⟩; exact ⟨rfl, grefl _ _⟩))
  obtain ⟨n, HN⟩ : ∃ n, Hid (l.length = n) := ⟨_, hid rfl⟩
  rw [HN.out] at HMu hc hll ⊢
  clear hk hb hf hG
  go_enter Tryz.func6, Tryz.ntmps6
  go_wp2_with fail
  refine HMu.out.mono ?_
  rintro e w1 ⟨r, rfl, hg1, hr⟩
  have HBw1 : Hid (Below B w w1) := hid (below_of_grown hg1 (by rw [HB.out]; exact Nat.le_refl _) (fun k hk => by cases hk))
  by_cases h4 : (3000 : Int) < (r : Int)
  · clear HIt hr hg1
    go_wp2_with fail
    go_ret
    exact ⟨rfl, HBw1.out⟩
  · have HML : Hid (muchL l ≤ 3000) := hid (by rcases hr with h | h <;> omega)
    have HBs1 : Hid (B ≤ w1.heap.size) := hid (by have := HBw1.out.size; rw [HB.out] at this; exact this)
    replace HIt := hid (HIt.out HML.out)
    clear hr hg1 HML HMu
    go_upto_region 4 with (first
      | (with_reducible refine wpList_build_row (by with_unfolding_all rfl) 96 (by with_unfolding_all rfl) (SRow nilV nilV nilV) built96 ?_)
      | ((with_reducible refine wpList_box_row (by with_unfolding_all rfl) 96 _ (by with_unfolding_all rfl) (SRow nilV nilV nilV) (by with_unfolding_all rfl) ?_); intro w2 B2 s2 g2; have HB2 := hid B2; have HG2 := hid g2; clear B2 s2 g2))
    obtain ⟨sb, hsb⟩ : ∃ z, w1.heap.size = z := ⟨_, rfl⟩
    have HBs : Hid (B ≤ sb) := hid (by rw [← hsb]; exact HBs1.out)
    have HBw2 : Hid (Below B w w2) := hid (HBw1.out.trans (below_of_grown HG2.out HBs1.out (fun k hk => by cases hk)))
    have HSt0 : Hid (SeatAt w2 B (fun g => g = sb) sb) := hid (SeatAt.new (by rw [← hsb]; exact HB2.out) HBs.out)
    rw [hsb]
    clear hsb HB2 HG2 HBw1 HBs1
    go_wp2_with fail
    go_loopw [4] (fun iv wr => ∃ (i : Nat) (G : Nat → Prop), iv = .int .i64 i ∧ i ≤ n ∧ Hid (SeatAt wr B G sb) ∧ Hid (Below B w wr)) (fun iv _ => n - (intOf iv).toNat)
    case atStart => exact ⟨0, _, rfl, Nat.zero_le _, HSt0, HBw2⟩
    case round =>
      clear HSt0 HBw2
      obtain ⟨i, GS, rfl, hi, HSt, HGW⟩ := hrel
      obtain ⟨w0, hw0⟩ : ∃ x : World, x = wr := ⟨_, rfl⟩
      rw [← hw0] at HSt HGW ⊢
      clear hw0
      by_cases hlt : i < n
      · have hlt' : (i : Int) < (n : Int) := by omega
        have hil : i < l.length := by rw [HN.out]; exact hlt
        obtain ⟨g, o, k, f, z, x, ka, kn, kc, ia, il, ic, rfl, hcn, hft, hcell⟩ := HIt.out i hil
        have HFt := hid hft
        have HCN := hid hcn
        obtain ⟨t, HT⟩ : ∃ t, Hid (l[i] = t) := ⟨_, hid rfl⟩
        rw [HT.out] at hcell HFt HCN
        have HPL : Hid ((pr t).length ≤ 1099511627776) := hid (by have := pr_le t HFt.out; have := HCN.out; omega)
        have HCL : Hid (cntT t ≤ 1099511627776) := hid (by have := HCN.out; omega)
        have HCell : Hid (∀ u : World, Below B w u → u.cell? ⟨g, o + i * 6, none⟩ = some (.int .i64 k) ∧ u.cell? ⟨g, o + i * 6 + 1, none⟩ = some (.bool f) ∧ u.cell? ⟨g, o + i * 6 + 2, none⟩ = some (.int .i64 z) ∧ u.cell? ⟨g, o + i * 6 + 3, none⟩ = some (.string x) ∧ u.cell? ⟨g, o + i * 6 + 4, none⟩ = some (.slice ka kn kc) ∧ u.cell? ⟨g, o + i * 6 + 5, none⟩ = some (.slice ia il ic) ∧ RdT u (fun q => q < B) t (.agg #[.int .i64 k, .bool f, .int .i64 z, .string x, .slice ka kn kc, .slice ia il ic])) := hid hcell
        obtain ⟨z0, z1, z2, z3, z4, z5, hT⟩ := HCell.out w0 HGW.out
        have HC32 := hid (seatVal t HCL.out w0 B GS sb _ hT HSt.out)
        clear hcell hft hcn hT
        go_upto_region 8 with (first
          | ((with_reducible refine wpList_store_all (by with_unfolding_all rfl) 26 _ _ (by with_unfolding_all rfl) w2.heap.size Z6 [.int .i64 k', .bool f', .int .i64 n', .string s', .slice ka' kn' kc', .slice ia' il' ic'] 26 (by with_unfolding_all rfl) (by with_unfolding_all rfl) HB3.out (by with_unfolding_all rfl) (by with_unfolding_all exact Tryz.size26) (one6 _ _ _ _ _ _ _ _ _ _) ?_); intro w4 B4 g4 s4; have HB4 := hid B4; have HG4 : Hid (w3.grownBy w4 (some w2.heap.size)) := hid g4; clear B4 g4 s4)
          | ((with_reducible refine wpList_alloc_row (by with_unfolding_all rfl) 26 (by with_unfolding_all rfl) Z6 Tryz.zero26 ?_); intro w3 B3 s3 g3; have HB3 := hid B3; have HG3 := hid g3; clear B3 s3 g3)
          | (go_at_call 32; (with_reducible refine HC32.out.mono ?_); rintro e w2 ⟨k', f', n', s', ka', kn', kc', ia', il', ic', GX, rfl, hS, hR, hM⟩; have HS2 := hid hS; have HR2 := hid hR; have HM2 := hid hM; clear hS hR hM))
        obtain ⟨b4, hb4⟩ : ∃ b, w2.heap.size = b := ⟨_, rfl⟩
        have HBS := hid hb4
        rw [hb4] at HB4 HG4 ⊢
        clear hb4
        have HB0 : Hid (B ≤ w0.heap.size) := hid (by have := HGW.out.size; rw [HB.out] at this; exact this)
        have HG24 : Hid (w2.grownBy w4 none) := hid (HG3.out.andThen HG4.out (fun j hj => .inl (by injection hj with hj; have := HBS.out; omega)))
        have HBw4 : Hid (Below B w w4) := hid ((HGW.out.trans (HM2.out.below HB0.out (fun q hq hg => by have := (HSt.out.lt hg).1; omega))).trans (below_of_grown HG24.out (Nat.le_trans HB0.out HM2.out.size) (fun k hk => by cases hk)))
        have HBu : Hid (∀ u : World, w4.grownBy u none → Below B w u) := hid (fun u hu => HBw4.out.trans (below_of_grown hu (Nat.le_trans (Nat.le_trans HB0.out HM2.out.size) HG24.out.size) (fun k hk => by cases hk)))
        have HX : Hid (∀ u : World, w4.grownBy u none → u.heap[b4]? = some (.cells #[.int .i64 k', .bool f', .int .i64 n', .string s', .slice ka' kn' kc', .slice ia' il' ic'] 26 (0, 0)) ∧ RdT u GX t (.agg #[.int .i64 k', .bool f', .int .i64 n', .string s', .slice ka' kn' kc', .slice ia' il' ic'])) := hid (fun u hu => ⟨(HB4.out.keep hu), HR2.out.on (Stays.none (gtrans HG24.out hu))⟩)
        have HSu : Hid (∀ u : World, w4.grownBy u none → SeatAt u B GX sb) := hid (fun u hu => HS2.out.stay (Stays.none (gtrans HG24.out hu)))
        have HV : Hid (∀ u : World, w4.grownBy u none → u.cell? ⟨g, o + i * 6, none⟩ = some (.int .i64 k) ∧ u.cell? ⟨g, o + i * 6 + 1, none⟩ = some (.bool f) ∧ u.cell? ⟨g, o + i * 6 + 2, none⟩ = some (.int .i64 z) ∧ u.cell? ⟨g, o + i * 6 + 3, none⟩ = some (.string x) ∧ u.cell? ⟨g, o + i * 6 + 4, none⟩ = some (.slice ka kn kc) ∧ u.cell? ⟨g, o + i * 6 + 5, none⟩ = some (.slice ia il ic) ∧ RdT u (fun q => q < B) t (.agg #[.int .i64 k, .bool f, .int .i64 z, .string x, .slice ka kn kc, .slice ia il ic])) := hid (fun u hu => HCell.out u (HBu.out u hu))
        obtain ⟨E, HE⟩ : ∃ E, Hid (checkT t 0 = E) := ⟨_, hid rfl⟩
        obtain ⟨T, HTT⟩ : ∃ T, Hid (toldP t = T) := ⟨_, hid rfl⟩
        have HC11' : Hid (∀ u : World, w4.grownBy u none → Calls Tryz.prog 11 #[.agg #[.int .i64 k, .bool f, .int .i64 z, .string x, .slice ka kn kc, .slice ia il ic]] u fun e w' => e = .returned (.int .i64 E) ∧ u.grownBy w' none) := hid (fun u hu => by rw [← HE.out]; exact checkRf_any t HCL.out u _ _ (HV.out u hu).2.2.2.2.2.2)
        have HC12 : Hid (∀ u : World, w4.grownBy u none → Calls Tryz.prog 12 #[.agg #[.int .i64 k, .bool f, .int .i64 z, .string x, .slice ka kn kc, .slice ia il ic]] u fun e w' => e = .returned (.tuple #[.string T, .int .i64 E]) ∧ u.grownBy w' none) := hid (fun u hu => by
          rw [← HE.out, ← HTT.out]
          unfold toldP
          by_cases h0 : checkT t 0 = 0
          · rw [if_pos h0, h0]; exact printRf_ok t h0 HFt.out HCL.out HPL.out u _ _ (HV.out u hu).2.2.2.2.2.2
          · rw [if_neg h0]; exact printRf_bad t h0 HCL.out u _ _ (HV.out u hu).2.2.2.2.2.2)
        have HC13 : Hid (∀ u : World, w4.grownBy u none → Calls Tryz.prog 13 #[.agg #[.int .i64 k', .bool f', .int .i64 n', .string s', .slice ka' kn' kc', .slice ia' il' ic']] u fun e w' => e = .returned (.tuple #[.string T, .int .i64 E]) ∧ u.grownBy w' none) := hid (fun u hu => by
          rw [← HE.out, ← HTT.out]
          have hGu := HGl.out u (HBu.out u hu)
          have hR := (HX.out u hu).2
          unfold toldP
          by_cases h0 : checkT t 0 = 0
          · rw [if_pos h0, h0]; exact print_ok t h0 HFt.out HCL.out HPL.out u _ _ hR hGu
          · rw [if_neg h0]; exact print_bad t h0 HCL.out u _ _ hR hGu)
        have HC15' : Hid (∀ u : World, w4.grownBy u none → Calls Tryz.prog 15 #[.agg #[.int .i64 k', .bool f', .int .i64 n', .string s', .slice ka' kn' kc', .slice ia' il' ic']] u fun e w' => e = .returned (.int .i64 E) ∧ u.grownBy w' none) := hid (fun u hu => by rw [← HE.out]; exact checkF_any t HCL.out u _ _ (HX.out u hu).2 (HGl.out u (HBu.out u hu)))
        have HC20' : Hid (∀ u : World, w4.grownBy u none → Calls Tryz.prog 20 #[.agg #[.int .i64 k', .bool f', .int .i64 n', .string s', .slice ka' kn' kc', .slice ia' il' ic'], .agg #[.int .i64 k, .bool f, .int .i64 z, .string x, .slice ka kn kc, .slice ia il ic]] u fun e w' => e = .returned (.bool true) ∧ u.grownBy w' none) := hid (fun u hu => eqValue_same _ (Nat.le_refl _) t HCL.out u _ _ _ _ (HX.out u hu).2 (HV.out u hu).2.2.2.2.2.2)
        have HC30' : Hid (∀ u : World, w4.grownBy u none → Calls Tryz.prog 30 #[.agg #[.int .i64 k', .bool f', .int .i64 n', .string s', .slice ka' kn' kc', .slice ia' il' ic'], .string ⟨#[107]⟩] u fun e w' => (∃ v, e = .returned v) ∧ u.grownBy w' none) := hid (fun u hu => find_ends t HCL.out _ u _ _ (HX.out u hu).2 (HGl.out u (HBu.out u hu)))
        have hcur : w4.grownBy w4 none := grefl _ _
        obtain ⟨z0, z1, z2, z3, z4, z5, -⟩ := HV.out w4 hcur
        obtain ⟨⟨x0, x1, x2, x3, x4, x5⟩, xf⟩ := cells6 (HX.out w4 hcur).1
        go_upto_region 10 with (first
          | (go_at_call 12; (with_reducible refine (HC12.out _ hcur).mono ?_); rintro e w6 ⟨rfl, hg6⟩; have hcur := gtrans hcur hg6; obtain ⟨z0, z1, z2, z3, z4, z5, -⟩ := HV.out w6 hcur; obtain ⟨⟨x0, x1, x2, x3, x4, x5⟩, xf⟩ := cells6 (HX.out w6 hcur).1; clear hg6)
          | (go_at_call 13; (with_reducible refine (HC13.out _ hcur).mono ?_); rintro e w7 ⟨rfl, hg7⟩; have hcur := gtrans hcur hg7; obtain ⟨z0, z1, z2, z3, z4, z5, -⟩ := HV.out w7 hcur; obtain ⟨⟨x0, x1, x2, x3, x4, x5⟩, xf⟩ := cells6 (HX.out w7 hcur).1; clear hg7))
        have HC4 := hid hcur
        have HXR : Hid (∀ u : World, w6.grownBy u none → u.rangeAt b4 0 [.int .i64 k', .bool f', .int .i64 n', .string s', .slice ka' kn' kc', .slice ia' il' ic']) := hid (fun u hu => by
          obtain ⟨⟨p0, p1, p2, p3, p4, p5⟩, -⟩ := cells6 (HX.out u (gtrans HC4.out hu)).1
          exact range6 p0 p1 p2 p3 p4 p5)
        have HVR : Hid (∀ u : World, w6.grownBy u none → u.rangeAt g (o + i * 6) [.int .i64 k, .bool f, .int .i64 z, .string x, .slice ka kn kc, .slice ia il ic]) := hid (fun u hu => by
          obtain ⟨p0, p1, p2, p3, p4, p5, -⟩ := HV.out u (gtrans HC4.out hu)
          exact range6 p0 p1 p2 p3 p4 p5)
        have HC15 : Hid (∀ u : World, w6.grownBy u none → Calls Tryz.prog 15 #[.agg ([.int .i64 k', .bool f', .int .i64 n', .string s', .slice ka' kn' kc', .slice ia' il' ic'] : List Value).toArray] u fun e w' => e = .returned (.int .i64 E) ∧ u.grownBy w' none) := hid (fun u hu => HC15'.out u (gtrans HC4.out hu))
        have HC11 : Hid (∀ u : World, w6.grownBy u none → Calls Tryz.prog 11 #[.agg ([.int .i64 k, .bool f, .int .i64 z, .string x, .slice ka kn kc, .slice ia il ic] : List Value).toArray] u fun e w' => e = .returned (.int .i64 E) ∧ u.grownBy w' none) := hid (fun u hu => HC11'.out u (gtrans HC4.out hu))
        have HC20 : Hid (∀ u : World, w6.grownBy u none → Calls Tryz.prog 20 #[.agg ([.int .i64 k', .bool f', .int .i64 n', .string s', .slice ka' kn' kc', .slice ia' il' ic'] : List Value).toArray, .agg ([.int .i64 k, .bool f, .int .i64 z, .string x, .slice ka kn kc, .slice ia il ic] : List Value).toArray] u fun e w' => e = .returned (.bool true) ∧ u.grownBy w' none) := hid (fun u hu => HC20'.out u (gtrans HC4.out hu))
        obtain ⟨j, Hj⟩ : ∃ j, Hid ((i + 1) % n = j) := ⟨_, hid rfl⟩
        have hjn : j < n := by rw [← Hj.out]; exact Nat.mod_lt _ (by omega)
        have hjl : j < l.length := by rw [HN.out]; exact hjn
        obtain ⟨U6, R, HUL, HUR, HC28⟩ : ∃ (U6 : List Value) (R : Bool), Hid (U6.length = 6) ∧ Hid (∀ u : World, w6.grownBy u none → u.rangeAt g (o + j * 6) U6) ∧ Hid (∀ u : World, w6.grownBy u none → Calls Tryz.prog 28 #[.agg ([.int .i64 k', .bool f', .int .i64 n', .string s', .slice ka' kn' kc', .slice ia' il' ic'] : List Value).toArray, .agg U6.toArray] u fun e w' => e = .returned (.bool R) ∧ u.grownBy w' none) := by
          obtain ⟨g', o', k2, f2, z2, y2, ka2, kn2, kc2, ia2, il2, ic2, ea, hcn2, _, hcell2⟩ := HIt.out j hjl
          injection ea with ea
          injection ea with e1 e2
          subst e1
          subst e2
          refine ⟨[.int .i64 k2, .bool f2, .int .i64 z2, .string y2, .slice ka2 kn2 kc2, .slice ia2 il2 ic2], (if checkT t 0 = 0 ∧ checkT l[j] 0 = 0 then eqT t l[j] else false), hid rfl, hid (fun u hu => ?_), hid (fun u hu => ?_)⟩
          · obtain ⟨p0, p1, p2, p3, p4, p5, -⟩ := hcell2 u (HBu.out u (gtrans HC4.out hu))
            exact range6 p0 p1 p2 p3 p4 p5
          · exact equalA_any t l[j] HCL.out (by omega) u _ _ _ _ (HX.out u (gtrans HC4.out hu)).2 (hcell2 u (HBu.out u (gtrans HC4.out hu))).2.2.2.2.2.2 (HGl.out u (HBu.out u (gtrans HC4.out hu)))
        obtain ⟨X6, hX6⟩ : ∃ X : List Value, [.int .i64 k', .bool f', .int .i64 n', .string s', .slice ka' kn' kc', .slice ia' il' ic'] = X := ⟨_, rfl⟩
        have HXL : Hid (X6.length = 6) := hid (by rw [← hX6]; rfl)
        rw [hX6] at HXR HC15 HC20 HC28
        obtain ⟨V6, hV6⟩ : ∃ X : List Value, [.int .i64 k, .bool f, .int .i64 z, .string x, .slice ka kn kc, .slice ia il ic] = X := ⟨_, rfl⟩
        have HVL : Hid (V6.length = 6) := hid (by rw [← hV6]; rfl)
        rw [hV6] at HVR HC11 HC20
        have HNeI := hid (fun (x y : Operand) (u : World) => neI x y E u)
        have HNeS := hid (fun (x y : Operand) (u : World) => neS x y T u)
        have HAdd := hid (fun (x y : Operand) (u : World) => addI x y i (by omega) u)
        have HRem : Hid (∀ (x y : Operand) (u : World), (do eqGuard .rem 3 x y (.int .i64 ((i + 1 : Nat) : Int)) (.int .i64 (n : Nat)); binOp .rem 3 (.int .i64 ((i + 1 : Nat) : Int)) (.int .i64 (n : Nat)) : Sem Value).run Tryz.prog u = .ok (.int .i64 (j : Nat)) u) := hid (fun x y u => by rw [← Hj.out]; exact remI x y i n (by omega) (by omega) u)
        clear hX6 hV6 hcur z0 z1 z2 z3 z4 z5 x0 x1 x2 x3 x4 x5 xf HV HC11' HC12 HC13 HC15' HC20' HE HTT HC32 HB3 HB4 HS2 HR2 HM2 HG3 HG4 HCell HBS HIt HFt HCN HPL HCL HGl HT hjl Hj HB0 HG24 HBw4 HSt
        refine wp_region_listX (by kernel_rfl) [fun v _ => v = (Value.agg X6.toArray), fun v _ => v = (Value.int .i64 E), fun v _ => v = (Value.int .i64 E), fun v _ => v = (Value.slice (some ⟨g, o, none⟩) n c), fun v _ => v = (Value.int .i64 (i : Nat)), fun v _ => v = (Value.pointer (some ⟨g, o + i * 6, none⟩)), fun v _ => v = (Value.agg V6.toArray), fun v _ => v = (Value.int .i64 E), fun v _ => v = (Value.bool false), fun v _ => v = (Value.bool false), fun v _ => v = (Value.string T), fun v _ => v = (Value.string T), fun v _ => v = (Value.bool false), fun v _ => v = (Value.bool false), fun v _ => v = (Value.bool false), fun v _ => v = (Value.int .i64 E), fun v _ => v = (Value.int .i64 E), fun v _ => v = (Value.int .i64 E), fun v _ => v = (Value.bool false), fun v _ => v = (Value.bool false)] (none) (fun _ => none) 20 (by kernel_rfl) (by kernel_rfl) (by kernel_rfl) (by kernel_rfl) (by decide) noRow_one (fun _ => .inl rfl) ⟨fun i v u u' hki h hg => h, fun i v u u' hki h hg => h, fun i v u u' hki h hg => h, fun i v u u' hki h hg => h, fun i v u u' hki h hg => h, fun i v u u' hki h hg => h, fun i v u u' hki h hg => h, fun i v u u' hki h hg => h, fun i v u u' hki h hg => h, fun i v u u' hki h hg => h, fun i v u u' hki h hg => h, fun i v u u' hki h hg => h, fun i v u u' hki h hg => h, fun i v u u' hki h hg => h, fun i v u u' hki h hg => h, fun i v u u' hki h hg => h, fun i v u u' hki h hg => h, fun i v u u' hki h hg => h, fun i v u u' hki h hg => h, fun i v u u' hki h hg => h, trivial⟩ ⟨?_, ?_, ?_, ?_, ?_, ?_, ?_, ?_, ?_, ?_, ?_, ?_, ?_, ?_, ?_, ?_, ?_, ?_, ?_, ?_, trivial⟩ ?_
        · intro A u hu hpu hsz hout hdeps
          have e5 : A.eval (.tmp 5) = (.pointer (some ⟨b4, 0, none⟩)) := (hout 5 (by kernel_rfl)).trans rfl
          refine ifw_none rfl ?_
          with_reducible refine shown_q (Value.agg X6.toArray) ?qq_3_0 (fun _ _ => ?qr_3_0)
          case qr_3_0 => exact (rfl : (Value.agg X6.toArray) = (Value.agg X6.toArray))
          with_reducible refine quietAt_load 26 (.tmp 5) ?h0_3_0 b4 0 X6 (.struct (Tryz.prog.fieldsOf 26)) ?h1_3_0 ?h2_3_0 ?h3_3_0 ?h4_3_0 ?h5_3_0
          case h0_3_0 => rfl
          case h1_3_0 => exact e5
          case h2_3_0 => exact (HXR.out u hu)
          case h3_3_0 => exact Tryz.underlying26
          case h4_3_0 => rfl
          case h5_3_0 => exact (by rw [HXL.out]; exact Tryz.size26)
        · intro A u hu hpu hsz hout hdeps
          have e40 : A.eval (.tmp 40) = (.agg X6.toArray) := by have h := depL hdeps 0 (by kernel_rfl) 40 (by kernel_rfl); exact h
          refine ifw_none rfl ?_
          with_reducible refine shown_q (Value.int .i64 E) ?qq_3_1 (fun _ _ => ?qr_3_1)
          case qr_3_1 => exact (rfl : (Value.int .i64 E) = (Value.int .i64 E))
          with_reducible refine quietAt_call 15 Tryz.f15 ?h0_3_1 ?h1_3_1 ?h2_3_1 #[.tmp 40] #[26] ?h3_3_1 (Value.int .i64 E) #[(Value.agg X6.toArray)] ?h4_3_1 ?h5_3_1
          case h0_3_1 => exact Tryz.func15
          case h1_3_1 => kernel_rfl
          case h2_3_1 => kernel_rfl
          case h3_3_1 => rfl
          case h4_3_1 => exact map1 _ _ _ e40
          case h5_3_1 => exact HC15.out u hu
        · intro A u hu hpu hsz hout hdeps
          have e41 : A.eval (.tmp 41) = (.int .i64 E) := by have h := depL hdeps 1 (by kernel_rfl) 41 (by kernel_rfl); exact h
          refine ifw_none rfl ?_
          with_reducible refine shown_q (Value.int .i64 E) ?qq_3_2 (fun _ _ => ?qr_3_2)
          case qr_3_2 => exact (rfl : (Value.int .i64 E) = (Value.int .i64 E))
          with_reducible refine quietAt_call 14 Tryz.f14 ?h0_3_2 ?h1_3_2 ?h2_3_2 #[.tmp 41] #[31] ?h3_3_2 (Value.int .i64 E) #[(Value.int .i64 E)] ?h4_3_2 ?h5_3_2
          case h0_3_2 => exact Tryz.func14
          case h1_3_2 => kernel_rfl
          case h2_3_2 => kernel_rfl
          case h3_3_2 => rfl
          case h4_3_2 => exact map1 _ _ _ e41
          case h5_3_2 => exact HNum.out u E
        · intro A u hu hpu hsz hout hdeps
          have e0 : A.eval (.tmp 0) = (.slice (some ⟨g, o, none⟩) n c) := (hout 0 (by kernel_rfl)).trans rfl
          refine ifw_none rfl ?_
          with_reducible refine shown_q (Value.slice (some ⟨g, o, none⟩) n c) ?qq_3_3 (fun _ _ => ?qr_3_3)
          case qr_3_3 => exact (rfl : (Value.slice (some ⟨g, o, none⟩) n c) = (Value.slice (some ⟨g, o, none⟩) n c))
          with_reducible refine quietAt_mv (.tmp 0) (Value.slice (some ⟨g, o, none⟩) n c) ?h0_3_3 ?h1_3_3
          case h0_3_3 => rfl
          case h1_3_3 => exact e0
        · intro A u hu hpu hsz hout hdeps
          have e4 : A.eval (.tmp 4) = (.int .i64 (i : Nat)) := (hout 4 (by kernel_rfl)).trans rfl
          refine ifw_none rfl ?_
          with_reducible refine shown_q (Value.int .i64 (i : Nat)) ?qq_3_4 (fun _ _ => ?qr_3_4)
          case qr_3_4 => exact (rfl : (Value.int .i64 (i : Nat)) = (Value.int .i64 (i : Nat)))
          with_reducible refine quietAt_mv (.tmp 4) (Value.int .i64 (i : Nat)) ?h0_3_4 ?h1_3_4
          case h0_3_4 => rfl
          case h1_3_4 => exact e4
        · intro A u hu hpu hsz hout hdeps
          have e43 : A.eval (.tmp 43) = (.slice (some ⟨g, o, none⟩) n c) := by have h := depL hdeps 3 (by kernel_rfl) 43 (by kernel_rfl); exact h
          have e44 : A.eval (.tmp 44) = (.int .i64 (i : Nat)) := by have h := depL hdeps 4 (by kernel_rfl) 44 (by kernel_rfl); exact h
          refine ifw_none rfl ?_
          with_reducible refine shown_q (Value.pointer (some ⟨g, o + i * 6, none⟩)) ?qq_3_5 (fun _ _ => ?qr_3_5)
          case qr_3_5 => exact (rfl : (Value.pointer (some ⟨g, o + i * 6, none⟩)) = (Value.pointer (some ⟨g, o + i * 6, none⟩)))
          with_reducible refine quietAt_idx 22 (.tmp 43) (.tmp 44) (Value.slice (some ⟨g, o, none⟩) n c) (Value.int .i64 (i : Nat)) (Value.pointer (some ⟨g, o + i * 6, none⟩)) ?h0_3_5 ?h1_3_5 ?h2_3_5 ?h3_3_5
          case h0_3_5 => rfl
          case h1_3_5 => exact e43
          case h2_3_5 => exact e44
          case h3_3_5 => exact idx22 g o n c i hlt u
        · intro A u hu hpu hsz hout hdeps
          have e45 : A.eval (.tmp 45) = (.pointer (some ⟨g, o + i * 6, none⟩)) := by have h := depL hdeps 5 (by kernel_rfl) 45 (by kernel_rfl); exact h
          refine ifw_none rfl ?_
          with_reducible refine shown_q (Value.agg V6.toArray) ?qq_3_6 (fun _ _ => ?qr_3_6)
          case qr_3_6 => exact (rfl : (Value.agg V6.toArray) = (Value.agg V6.toArray))
          with_reducible refine quietAt_load 26 (.tmp 45) ?h0_3_6 g (o + i * 6) V6 (.struct (Tryz.prog.fieldsOf 26)) ?h1_3_6 ?h2_3_6 ?h3_3_6 ?h4_3_6 ?h5_3_6
          case h0_3_6 => rfl
          case h1_3_6 => exact e45
          case h2_3_6 => exact (HVR.out u hu)
          case h3_3_6 => exact Tryz.underlying26
          case h4_3_6 => rfl
          case h5_3_6 => exact (by rw [HVL.out]; exact Tryz.size26)
        · intro A u hu hpu hsz hout hdeps
          have e46 : A.eval (.tmp 46) = (.agg V6.toArray) := by have h := depL hdeps 6 (by kernel_rfl) 46 (by kernel_rfl); exact h
          refine ifw_none rfl ?_
          with_reducible refine shown_q (Value.int .i64 E) ?qq_3_7 (fun _ _ => ?qr_3_7)
          case qr_3_7 => exact (rfl : (Value.int .i64 E) = (Value.int .i64 E))
          with_reducible refine quietAt_call 11 Tryz.f11 ?h0_3_7 ?h1_3_7 ?h2_3_7 #[.tmp 46] #[26] ?h3_3_7 (Value.int .i64 E) #[(Value.agg V6.toArray)] ?h4_3_7 ?h5_3_7
          case h0_3_7 => exact Tryz.func11
          case h1_3_7 => kernel_rfl
          case h2_3_7 => kernel_rfl
          case h3_3_7 => rfl
          case h4_3_7 => exact map1 _ _ _ e46
          case h5_3_7 => exact HC11.out u hu
        · intro A u hu hpu hsz hout hdeps
          have e42 : A.eval (.tmp 42) = (.int .i64 E) := by have h := depL hdeps 2 (by kernel_rfl) 42 (by kernel_rfl); exact h
          have e47 : A.eval (.tmp 47) = (.int .i64 E) := by have h := depL hdeps 7 (by kernel_rfl) 47 (by kernel_rfl); exact h
          refine ifw_none rfl ?_
          with_reducible refine shown_q (Value.bool false) ?qq_3_8 (fun _ _ => ?qr_3_8)
          case qr_3_8 => exact (rfl : (Value.bool false) = (Value.bool false))
          with_reducible refine quietAt_bin .neq 3 (.tmp 42) (.tmp 47) 3 (Value.int .i64 E) (Value.int .i64 E) (Value.bool false) ?h0_3_8 ?h1_3_8 ?h2_3_8 ?h3_3_8
          case h0_3_8 => rfl
          case h1_3_8 => exact e42
          case h2_3_8 => exact e47
          case h3_3_8 => exact HNeI.out _ _ u
        · intro A u hu hpu hsz hout hdeps
          have e48 : A.eval (.tmp 48) = (.bool false) := by have h := depL hdeps 8 (by kernel_rfl) 48 (by kernel_rfl); exact h
          refine ifw_none rfl ?_
          with_reducible refine shown_q (Value.bool false) ?qq_3_9 (fun _ _ => ?qr_3_9)
          case qr_3_9 => exact (rfl : (Value.bool false) = (Value.bool false))
          with_reducible refine quietAt_mv (.tmp 48) (Value.bool false) ?h0_3_9 ?h1_3_9
          case h0_3_9 => rfl
          case h1_3_9 => exact e48
        · intro A u hu hpu hsz hout hdeps
          have e49 : A.eval (.tmp 49) = (.bool false) := by have h := depL hdeps 9 (by kernel_rfl) 49 (by kernel_rfl); exact h
          have e6 : A.eval (.tmp 6) = (.string T) := (hout 6 (by kernel_rfl)).trans rfl
          refine ifw_want 9 false 49 rfl rfl e49 ?_
          with_reducible refine shown_q (Value.string T) ?qq_3_10 (fun _ _ => ?qr_3_10)
          case qr_3_10 => exact (rfl : (Value.string T) = (Value.string T))
          with_reducible refine quietAt_mv (.tmp 6) (Value.string T) ?h0_3_10 ?h1_3_10
          case h0_3_10 => rfl
          case h1_3_10 => exact e6
        · intro A u hu hpu hsz hout hdeps
          have e49 : A.eval (.tmp 49) = (.bool false) := by have h := depL hdeps 9 (by kernel_rfl) 49 (by kernel_rfl); exact h
          have e8 : A.eval (.tmp 8) = (.string T) := (hout 8 (by kernel_rfl)).trans rfl
          refine ifw_want 9 false 49 rfl rfl e49 ?_
          with_reducible refine shown_q (Value.string T) ?qq_3_11 (fun _ _ => ?qr_3_11)
          case qr_3_11 => exact (rfl : (Value.string T) = (Value.string T))
          with_reducible refine quietAt_mv (.tmp 8) (Value.string T) ?h0_3_11 ?h1_3_11
          case h0_3_11 => rfl
          case h1_3_11 => exact e8
        · intro A u hu hpu hsz hout hdeps
          have e49 : A.eval (.tmp 49) = (.bool false) := by have h := depL hdeps 9 (by kernel_rfl) 49 (by kernel_rfl); exact h
          have e50 : A.eval (.tmp 50) = (.string T) := by have h := depL hdeps 10 (by kernel_rfl) 50 (by kernel_rfl); exact h
          have e51 : A.eval (.tmp 51) = (.string T) := by have h := depL hdeps 11 (by kernel_rfl) 51 (by kernel_rfl); exact h
          refine ifw_want 9 false 49 rfl rfl e49 ?_
          with_reducible refine shown_q (Value.bool false) ?qq_3_12 (fun _ _ => ?qr_3_12)
          case qr_3_12 => exact (rfl : (Value.bool false) = (Value.bool false))
          with_reducible refine quietAt_bin .neq 9 (.tmp 50) (.tmp 51) 9 (Value.string T) (Value.string T) (Value.bool false) ?h0_3_12 ?h1_3_12 ?h2_3_12 ?h3_3_12
          case h0_3_12 => rfl
          case h1_3_12 => exact e50
          case h2_3_12 => exact e51
          case h3_3_12 => exact HNeS.out _ _ u
        · intro A u hu hpu hsz hout hdeps
          have e49 : A.eval (.tmp 49) = (.bool false) := by have h := depL hdeps 9 (by kernel_rfl) 49 (by kernel_rfl); exact h
          have e52 : A.eval (.tmp 52) = (.bool false) := by have h := depL hdeps 12 (by kernel_rfl) 52 (by kernel_rfl); exact h
          refine ifw_none rfl ?_
          with_reducible refine shown_q (Value.bool false) ?qq_3_13 (fun _ _ => ?qr_3_13)
          case qr_3_13 => exact (rfl : (Value.bool false) = (Value.bool false))
          with_reducible refine quietAt_pick (.tmp 49) (.const (.bool true)) (.tmp 52) false (Value.bool false) ?h0_3_13 ?h1_3_13 ?h2_3_13
          case h0_3_13 => rfl
          case h1_3_13 => exact e49
          case h2_3_13 => rw [if_neg (by decide)]; exact e52
        · intro A u hu hpu hsz hout hdeps
          have e53 : A.eval (.tmp 53) = (.bool false) := by have h := depL hdeps 13 (by kernel_rfl) 53 (by kernel_rfl); exact h
          refine ifw_none rfl ?_
          with_reducible refine shown_q (Value.bool false) ?qq_3_14 (fun _ _ => ?qr_3_14)
          case qr_3_14 => exact (rfl : (Value.bool false) = (Value.bool false))
          with_reducible refine quietAt_mv (.tmp 53) (Value.bool false) ?h0_3_14 ?h1_3_14
          case h0_3_14 => rfl
          case h1_3_14 => exact e53
        · intro A u hu hpu hsz hout hdeps
          have e54 : A.eval (.tmp 54) = (.bool false) := by have h := depL hdeps 14 (by kernel_rfl) 54 (by kernel_rfl); exact h
          have e7 : A.eval (.tmp 7) = (.int .i64 E) := (hout 7 (by kernel_rfl)).trans rfl
          refine ifw_want 14 false 54 rfl rfl e54 ?_
          with_reducible refine shown_q (Value.int .i64 E) ?qq_3_15 (fun _ _ => ?qr_3_15)
          case qr_3_15 => exact (rfl : (Value.int .i64 E) = (Value.int .i64 E))
          with_reducible refine quietAt_mv (.tmp 7) (Value.int .i64 E) ?h0_3_15 ?h1_3_15
          case h0_3_15 => rfl
          case h1_3_15 => exact e7
        · intro A u hu hpu hsz hout hdeps
          have e54 : A.eval (.tmp 54) = (.bool false) := by have h := depL hdeps 14 (by kernel_rfl) 54 (by kernel_rfl); exact h
          have e55 : A.eval (.tmp 55) = (.int .i64 E) := by have h := depL hdeps 15 (by kernel_rfl) 55 (by kernel_rfl); exact h
          refine ifw_want 14 false 54 rfl rfl e54 ?_
          with_reducible refine shown_q (Value.int .i64 E) ?qq_3_16 (fun _ _ => ?qr_3_16)
          case qr_3_16 => exact (rfl : (Value.int .i64 E) = (Value.int .i64 E))
          with_reducible refine quietAt_call 14 Tryz.f14 ?h0_3_16 ?h1_3_16 ?h2_3_16 #[.tmp 55] #[31] ?h3_3_16 (Value.int .i64 E) #[(Value.int .i64 E)] ?h4_3_16 ?h5_3_16
          case h0_3_16 => exact Tryz.func14
          case h1_3_16 => kernel_rfl
          case h2_3_16 => kernel_rfl
          case h3_3_16 => rfl
          case h4_3_16 => exact map1 _ _ _ e55
          case h5_3_16 => exact HNum.out u E
        · intro A u hu hpu hsz hout hdeps
          have e54 : A.eval (.tmp 54) = (.bool false) := by have h := depL hdeps 14 (by kernel_rfl) 54 (by kernel_rfl); exact h
          have e9 : A.eval (.tmp 9) = (.int .i64 E) := (hout 9 (by kernel_rfl)).trans rfl
          refine ifw_want 14 false 54 rfl rfl e54 ?_
          with_reducible refine shown_q (Value.int .i64 E) ?qq_3_17 (fun _ _ => ?qr_3_17)
          case qr_3_17 => exact (rfl : (Value.int .i64 E) = (Value.int .i64 E))
          with_reducible refine quietAt_mv (.tmp 9) (Value.int .i64 E) ?h0_3_17 ?h1_3_17
          case h0_3_17 => rfl
          case h1_3_17 => exact e9
        · intro A u hu hpu hsz hout hdeps
          have e54 : A.eval (.tmp 54) = (.bool false) := by have h := depL hdeps 14 (by kernel_rfl) 54 (by kernel_rfl); exact h
          have e56 : A.eval (.tmp 56) = (.int .i64 E) := by have h := depL hdeps 16 (by kernel_rfl) 56 (by kernel_rfl); exact h
          have e57 : A.eval (.tmp 57) = (.int .i64 E) := by have h := depL hdeps 17 (by kernel_rfl) 57 (by kernel_rfl); exact h
          refine ifw_want 14 false 54 rfl rfl e54 ?_
          with_reducible refine shown_q (Value.bool false) ?qq_3_18 (fun _ _ => ?qr_3_18)
          case qr_3_18 => exact (rfl : (Value.bool false) = (Value.bool false))
          with_reducible refine quietAt_bin .neq 3 (.tmp 56) (.tmp 57) 3 (Value.int .i64 E) (Value.int .i64 E) (Value.bool false) ?h0_3_18 ?h1_3_18 ?h2_3_18 ?h3_3_18
          case h0_3_18 => rfl
          case h1_3_18 => exact e56
          case h2_3_18 => exact e57
          case h3_3_18 => exact HNeI.out _ _ u
        · intro A u hu hpu hsz hout hdeps
          have e54 : A.eval (.tmp 54) = (.bool false) := by have h := depL hdeps 14 (by kernel_rfl) 54 (by kernel_rfl); exact h
          have e58 : A.eval (.tmp 58) = (.bool false) := by have h := depL hdeps 18 (by kernel_rfl) 58 (by kernel_rfl); exact h
          refine ifw_none rfl ?_
          with_reducible refine shown_q (Value.bool false) ?qq_3_19 (fun _ _ => ?qr_3_19)
          case qr_3_19 => exact (rfl : (Value.bool false) = (Value.bool false))
          with_reducible refine quietAt_pick (.tmp 54) (.const (.bool true)) (.tmp 58) false (Value.bool false) ?h0_3_19 ?h1_3_19 ?h2_3_19
          case h0_3_19 => rfl
          case h1_3_19 => exact e54
          case h2_3_19 => rw [if_neg (by decide)]; exact e58
        · intro A u8 listed hh hall
          have hA := hh.frame
          have HU_u8 := hid hh.grown
          obtain ⟨x40, hx40⟩ : ∃ x, A.eval (.tmp 40) = x := ⟨_, rfl⟩
          have f40 : (fun v _ => v = (Value.agg X6.toArray)) x40 u8 := by rw [← hx40]; exact hh.got 0 _ 40 rfl rfl (hall 0 (by decide))
          obtain ⟨x41, hx41⟩ : ∃ x, A.eval (.tmp 41) = x := ⟨_, rfl⟩
          have f41 : (fun v _ => v = (Value.int .i64 E)) x41 u8 := by rw [← hx41]; exact hh.got 1 _ 41 rfl rfl (hall 1 (by decide))
          obtain ⟨x42, hx42⟩ : ∃ x, A.eval (.tmp 42) = x := ⟨_, rfl⟩
          have f42 : (fun v _ => v = (Value.int .i64 E)) x42 u8 := by rw [← hx42]; exact hh.got 2 _ 42 rfl rfl (hall 2 (by decide))
          obtain ⟨x43, hx43⟩ : ∃ x, A.eval (.tmp 43) = x := ⟨_, rfl⟩
          have f43 : (fun v _ => v = (Value.slice (some ⟨g, o, none⟩) n c)) x43 u8 := by rw [← hx43]; exact hh.got 3 _ 43 rfl rfl (hall 3 (by decide))
          obtain ⟨x44, hx44⟩ : ∃ x, A.eval (.tmp 44) = x := ⟨_, rfl⟩
          have f44 : (fun v _ => v = (Value.int .i64 (i : Nat))) x44 u8 := by rw [← hx44]; exact hh.got 4 _ 44 rfl rfl (hall 4 (by decide))
          obtain ⟨x45, hx45⟩ : ∃ x, A.eval (.tmp 45) = x := ⟨_, rfl⟩
          have f45 : (fun v _ => v = (Value.pointer (some ⟨g, o + i * 6, none⟩))) x45 u8 := by rw [← hx45]; exact hh.got 5 _ 45 rfl rfl (hall 5 (by decide))
          obtain ⟨x46, hx46⟩ : ∃ x, A.eval (.tmp 46) = x := ⟨_, rfl⟩
          have f46 : (fun v _ => v = (Value.agg V6.toArray)) x46 u8 := by rw [← hx46]; exact hh.got 6 _ 46 rfl rfl (hall 6 (by decide))
          obtain ⟨x47, hx47⟩ : ∃ x, A.eval (.tmp 47) = x := ⟨_, rfl⟩
          have f47 : (fun v _ => v = (Value.int .i64 E)) x47 u8 := by rw [← hx47]; exact hh.got 7 _ 47 rfl rfl (hall 7 (by decide))
          obtain ⟨x48, hx48⟩ : ∃ x, A.eval (.tmp 48) = x := ⟨_, rfl⟩
          have f48 : (fun v _ => v = (Value.bool false)) x48 u8 := by rw [← hx48]; exact hh.got 8 _ 48 rfl rfl (hall 8 (by decide))
          obtain ⟨x49, hx49⟩ : ∃ x, A.eval (.tmp 49) = x := ⟨_, rfl⟩
          have f49 : (fun v _ => v = (Value.bool false)) x49 u8 := by rw [← hx49]; exact hh.got 9 _ 49 rfl rfl (hall 9 (by decide))
          obtain ⟨x50, hx50⟩ : ∃ x, A.eval (.tmp 50) = x := ⟨_, rfl⟩
          have f50 : (fun v _ => v = (Value.string T)) x50 u8 := by rw [← hx50]; exact hh.got 10 _ 50 rfl rfl (hall 10 (by decide))
          obtain ⟨x51, hx51⟩ : ∃ x, A.eval (.tmp 51) = x := ⟨_, rfl⟩
          have f51 : (fun v _ => v = (Value.string T)) x51 u8 := by rw [← hx51]; exact hh.got 11 _ 51 rfl rfl (hall 11 (by decide))
          obtain ⟨x52, hx52⟩ : ∃ x, A.eval (.tmp 52) = x := ⟨_, rfl⟩
          have f52 : (fun v _ => v = (Value.bool false)) x52 u8 := by rw [← hx52]; exact hh.got 12 _ 52 rfl rfl (hall 12 (by decide))
          obtain ⟨x53, hx53⟩ : ∃ x, A.eval (.tmp 53) = x := ⟨_, rfl⟩
          have f53 : (fun v _ => v = (Value.bool false)) x53 u8 := by rw [← hx53]; exact hh.got 13 _ 53 rfl rfl (hall 13 (by decide))
          obtain ⟨x54, hx54⟩ : ∃ x, A.eval (.tmp 54) = x := ⟨_, rfl⟩
          have f54 : (fun v _ => v = (Value.bool false)) x54 u8 := by rw [← hx54]; exact hh.got 14 _ 54 rfl rfl (hall 14 (by decide))
          obtain ⟨x55, hx55⟩ : ∃ x, A.eval (.tmp 55) = x := ⟨_, rfl⟩
          have f55 : (fun v _ => v = (Value.int .i64 E)) x55 u8 := by rw [← hx55]; exact hh.got 15 _ 55 rfl rfl (hall 15 (by decide))
          obtain ⟨x56, hx56⟩ : ∃ x, A.eval (.tmp 56) = x := ⟨_, rfl⟩
          have f56 : (fun v _ => v = (Value.int .i64 E)) x56 u8 := by rw [← hx56]; exact hh.got 16 _ 56 rfl rfl (hall 16 (by decide))
          obtain ⟨x57, hx57⟩ : ∃ x, A.eval (.tmp 57) = x := ⟨_, rfl⟩
          have f57 : (fun v _ => v = (Value.int .i64 E)) x57 u8 := by rw [← hx57]; exact hh.got 17 _ 57 rfl rfl (hall 17 (by decide))
          obtain ⟨x58, hx58⟩ : ∃ x, A.eval (.tmp 58) = x := ⟨_, rfl⟩
          have f58 : (fun v _ => v = (Value.bool false)) x58 u8 := by rw [← hx58]; exact hh.got 18 _ 58 rfl rfl (hall 18 (by decide))
          obtain ⟨x59, hx59⟩ : ∃ x, A.eval (.tmp 59) = x := ⟨_, rfl⟩
          have f59 : (fun v _ => v = (Value.bool false)) x59 u8 := by rw [← hx59]; exact hh.got 19 _ 59 rfl rfl (hall 19 (by decide))
          dsimp only [wrote, List.foldl] at hA
          rw [hx40, hx41, hx42, hx43, hx44, hx45, hx46, hx47, hx48, hx49, hx50, hx51, hx52, hx53, hx54, hx55, hx56, hx57, hx58, hx59] at hA
          clear hh hall hx40 hx41 hx42 hx43 hx44 hx45 hx46 hx47 hx48 hx49 hx50 hx51 hx52 hx53 hx54 hx55 hx56 hx57 hx58 hx59
          replace f40 := (f40 : x40 = (.agg X6.toArray))
          subst f40
          replace f41 := (f41 : x41 = (.int .i64 E))
          subst f41
          replace f42 := (f42 : x42 = (.int .i64 E))
          subst f42
          replace f43 := (f43 : x43 = (.slice (some ⟨g, o, none⟩) n c))
          subst f43
          replace f44 := (f44 : x44 = (.int .i64 (i : Nat)))
          subst f44
          replace f45 := (f45 : x45 = (.pointer (some ⟨g, o + i * 6, none⟩)))
          subst f45
          replace f46 := (f46 : x46 = (.agg V6.toArray))
          subst f46
          replace f47 := (f47 : x47 = (.int .i64 E))
          subst f47
          replace f48 := (f48 : x48 = (.bool false))
          subst f48
          replace f49 := (f49 : x49 = (.bool false))
          subst f49
          replace f50 := (f50 : x50 = (.string T))
          subst f50
          replace f51 := (f51 : x51 = (.string T))
          subst f51
          replace f52 := (f52 : x52 = (.bool false))
          subst f52
          replace f53 := (f53 : x53 = (.bool false))
          subst f53
          replace f54 := (f54 : x54 = (.bool false))
          subst f54
          replace f55 := (f55 : x55 = (.int .i64 E))
          subst f55
          replace f56 := (f56 : x56 = (.int .i64 E))
          subst f56
          replace f57 := (f57 : x57 = (.int .i64 E))
          subst f57
          replace f58 := (f58 : x58 = (.bool false))
          subst f58
          replace f59 := (f59 : x59 = (.bool false))
          subst f59
          subst hA
          show wpList _ _ _ [] _ _
          unfold wpList
          simp only [Act.put, List.setIfInBounds_toArray, List.set_cons_succ, List.set_cons_zero]
          go_upto_region 12 with fail
          refine wp_region_listX (by kernel_rfl) [fun v _ => v = (Value.agg X6.toArray), fun v _ => v = (Value.slice (some ⟨g, o, none⟩) n c), fun v _ => v = (Value.int .i64 (i : Nat)), fun v _ => v = (Value.int .i64 ((i + 1 : Nat) : Int)), fun v _ => v = (Value.slice (some ⟨g, o, none⟩) n c), fun v _ => v = (Value.int .i64 (n : Nat)), fun v _ => v = (Value.int .i64 (j : Nat)), fun v _ => v = (Value.pointer (some ⟨g, o + j * 6, none⟩)), fun v _ => v = (Value.agg U6.toArray), fun v _ => v = (Value.bool R)] (none) (fun _ => none) 10 (by kernel_rfl) (by kernel_rfl) (by kernel_rfl) (by kernel_rfl) (by decide) noRow_one (fun _ => .inl rfl) ⟨fun i v u u' hki h hg => h, fun i v u u' hki h hg => h, fun i v u u' hki h hg => h, fun i v u u' hki h hg => h, fun i v u u' hki h hg => h, fun i v u u' hki h hg => h, fun i v u u' hki h hg => h, fun i v u u' hki h hg => h, fun i v u u' hki h hg => h, fun i v u u' hki h hg => h, trivial⟩ ⟨?_, ?_, ?_, ?_, ?_, ?_, ?_, ?_, ?_, ?_, trivial⟩ ?_
          · intro A u hu hpu hsz hout hdeps
            have e5 : A.eval (.tmp 5) = (.pointer (some ⟨b4, 0, none⟩)) := (hout 5 (by kernel_rfl)).trans rfl
            refine ifw_none rfl ?_
            with_reducible refine shown_q (Value.agg X6.toArray) ?qq_2_0 (fun _ _ => ?qr_2_0)
            case qr_2_0 => exact (rfl : (Value.agg X6.toArray) = (Value.agg X6.toArray))
            with_reducible refine quietAt_load 26 (.tmp 5) ?h0_2_0 b4 0 X6 (.struct (Tryz.prog.fieldsOf 26)) ?h1_2_0 ?h2_2_0 ?h3_2_0 ?h4_2_0 ?h5_2_0
            case h0_2_0 => rfl
            case h1_2_0 => exact e5
            case h2_2_0 => exact (HXR.out u (gtrans HU_u8.out hu))
            case h3_2_0 => exact Tryz.underlying26
            case h4_2_0 => rfl
            case h5_2_0 => exact (by rw [HXL.out]; exact Tryz.size26)
          · intro A u hu hpu hsz hout hdeps
            have e0 : A.eval (.tmp 0) = (.slice (some ⟨g, o, none⟩) n c) := (hout 0 (by kernel_rfl)).trans rfl
            refine ifw_none rfl ?_
            with_reducible refine shown_q (Value.slice (some ⟨g, o, none⟩) n c) ?qq_2_1 (fun _ _ => ?qr_2_1)
            case qr_2_1 => exact (rfl : (Value.slice (some ⟨g, o, none⟩) n c) = (Value.slice (some ⟨g, o, none⟩) n c))
            with_reducible refine quietAt_mv (.tmp 0) (Value.slice (some ⟨g, o, none⟩) n c) ?h0_2_1 ?h1_2_1
            case h0_2_1 => rfl
            case h1_2_1 => exact e0
          · intro A u hu hpu hsz hout hdeps
            have e4 : A.eval (.tmp 4) = (.int .i64 (i : Nat)) := (hout 4 (by kernel_rfl)).trans rfl
            refine ifw_none rfl ?_
            with_reducible refine shown_q (Value.int .i64 (i : Nat)) ?qq_2_2 (fun _ _ => ?qr_2_2)
            case qr_2_2 => exact (rfl : (Value.int .i64 (i : Nat)) = (Value.int .i64 (i : Nat)))
            with_reducible refine quietAt_mv (.tmp 4) (Value.int .i64 (i : Nat)) ?h0_2_2 ?h1_2_2
            case h0_2_2 => rfl
            case h1_2_2 => exact e4
          · intro A u hu hpu hsz hout hdeps
            have e62 : A.eval (.tmp 62) = (.int .i64 (i : Nat)) := by have h := depL hdeps 2 (by kernel_rfl) 62 (by kernel_rfl); exact h
            refine ifw_none rfl ?_
            with_reducible refine shown_q (Value.int .i64 ((i + 1 : Nat) : Int)) ?qq_2_3 (fun _ _ => ?qr_2_3)
            case qr_2_3 => exact (rfl : (Value.int .i64 ((i + 1 : Nat) : Int)) = (Value.int .i64 ((i + 1 : Nat) : Int)))
            with_reducible refine quietAt_bin .add 3 (.tmp 62) (.const (.int .i64 1)) 3 (Value.int .i64 (i : Nat)) (Value.int .i64 1) (Value.int .i64 ((i + 1 : Nat) : Int)) ?h0_2_3 ?h1_2_3 ?h2_2_3 ?h3_2_3
            case h0_2_3 => rfl
            case h1_2_3 => exact e62
            case h2_2_3 => exact rfl
            case h3_2_3 => exact HAdd.out _ _ u
          · intro A u hu hpu hsz hout hdeps
            have e0 : A.eval (.tmp 0) = (.slice (some ⟨g, o, none⟩) n c) := (hout 0 (by kernel_rfl)).trans rfl
            refine ifw_none rfl ?_
            with_reducible refine shown_q (Value.slice (some ⟨g, o, none⟩) n c) ?qq_2_4 (fun _ _ => ?qr_2_4)
            case qr_2_4 => exact (rfl : (Value.slice (some ⟨g, o, none⟩) n c) = (Value.slice (some ⟨g, o, none⟩) n c))
            with_reducible refine quietAt_mv (.tmp 0) (Value.slice (some ⟨g, o, none⟩) n c) ?h0_2_4 ?h1_2_4
            case h0_2_4 => rfl
            case h1_2_4 => exact e0
          · intro A u hu hpu hsz hout hdeps
            have e64 : A.eval (.tmp 64) = (.slice (some ⟨g, o, none⟩) n c) := by have h := depL hdeps 4 (by kernel_rfl) 64 (by kernel_rfl); exact h
            refine ifw_none rfl ?_
            with_reducible refine shown_q (Value.int .i64 (n : Nat)) ?qq_2_5 (fun _ _ => ?qr_2_5)
            case qr_2_5 => exact (rfl : (Value.int .i64 (n : Nat)) = (Value.int .i64 (n : Nat)))
            with_reducible refine quietAt_len (.tmp 64) 22 ?h0_2_5 (some ⟨g, o, none⟩) n c ?h1_2_5 ?h2_2_5
            case h0_2_5 => rfl
            case h1_2_5 => exact e64
            case h2_2_5 => kernel_rfl
          · intro A u hu hpu hsz hout hdeps
            have e63 : A.eval (.tmp 63) = (.int .i64 ((i + 1 : Nat) : Int)) := by have h := depL hdeps 3 (by kernel_rfl) 63 (by kernel_rfl); exact h
            have e65 : A.eval (.tmp 65) = (.int .i64 (n : Nat)) := by have h := depL hdeps 5 (by kernel_rfl) 65 (by kernel_rfl); exact h
            refine ifw_none rfl ?_
            with_reducible refine shown_q (Value.int .i64 (j : Nat)) ?qq_2_6 (fun _ _ => ?qr_2_6)
            case qr_2_6 => exact (rfl : (Value.int .i64 (j : Nat)) = (Value.int .i64 (j : Nat)))
            with_reducible refine quietAt_bin .rem 3 (.tmp 63) (.tmp 65) 3 (Value.int .i64 ((i + 1 : Nat) : Int)) (Value.int .i64 (n : Nat)) (Value.int .i64 (j : Nat)) ?h0_2_6 ?h1_2_6 ?h2_2_6 ?h3_2_6
            case h0_2_6 => rfl
            case h1_2_6 => exact e63
            case h2_2_6 => exact e65
            case h3_2_6 => exact HRem.out _ _ u
          · intro A u hu hpu hsz hout hdeps
            have e61 : A.eval (.tmp 61) = (.slice (some ⟨g, o, none⟩) n c) := by have h := depL hdeps 1 (by kernel_rfl) 61 (by kernel_rfl); exact h
            have e66 : A.eval (.tmp 66) = (.int .i64 (j : Nat)) := by have h := depL hdeps 6 (by kernel_rfl) 66 (by kernel_rfl); exact h
            refine ifw_none rfl ?_
            with_reducible refine shown_q (Value.pointer (some ⟨g, o + j * 6, none⟩)) ?qq_2_7 (fun _ _ => ?qr_2_7)
            case qr_2_7 => exact (rfl : (Value.pointer (some ⟨g, o + j * 6, none⟩)) = (Value.pointer (some ⟨g, o + j * 6, none⟩)))
            with_reducible refine quietAt_idx 22 (.tmp 61) (.tmp 66) (Value.slice (some ⟨g, o, none⟩) n c) (Value.int .i64 (j : Nat)) (Value.pointer (some ⟨g, o + j * 6, none⟩)) ?h0_2_7 ?h1_2_7 ?h2_2_7 ?h3_2_7
            case h0_2_7 => rfl
            case h1_2_7 => exact e61
            case h2_2_7 => exact e66
            case h3_2_7 => exact idx22 g o n c j hjn u
          · intro A u hu hpu hsz hout hdeps
            have e67 : A.eval (.tmp 67) = (.pointer (some ⟨g, o + j * 6, none⟩)) := by have h := depL hdeps 7 (by kernel_rfl) 67 (by kernel_rfl); exact h
            refine ifw_none rfl ?_
            with_reducible refine shown_q (Value.agg U6.toArray) ?qq_2_8 (fun _ _ => ?qr_2_8)
            case qr_2_8 => exact (rfl : (Value.agg U6.toArray) = (Value.agg U6.toArray))
            with_reducible refine quietAt_load 26 (.tmp 67) ?h0_2_8 g (o + j * 6) U6 (.struct (Tryz.prog.fieldsOf 26)) ?h1_2_8 ?h2_2_8 ?h3_2_8 ?h4_2_8 ?h5_2_8
            case h0_2_8 => rfl
            case h1_2_8 => exact e67
            case h2_2_8 => exact (HUR.out u (gtrans HU_u8.out hu))
            case h3_2_8 => exact Tryz.underlying26
            case h4_2_8 => rfl
            case h5_2_8 => exact (by rw [HUL.out]; exact Tryz.size26)
          · intro A u hu hpu hsz hout hdeps
            have e60 : A.eval (.tmp 60) = (.agg X6.toArray) := by have h := depL hdeps 0 (by kernel_rfl) 60 (by kernel_rfl); exact h
            have e68 : A.eval (.tmp 68) = (.agg U6.toArray) := by have h := depL hdeps 8 (by kernel_rfl) 68 (by kernel_rfl); exact h
            refine ifw_none rfl ?_
            with_reducible refine shown_q (Value.bool R) ?qq_2_9 (fun _ _ => ?qr_2_9)
            case qr_2_9 => exact (rfl : (Value.bool R) = (Value.bool R))
            with_reducible refine quietAt_call 28 Tryz.f28 ?h0_2_9 ?h1_2_9 ?h2_2_9 #[.tmp 60, .tmp 68] #[26, 26] ?h3_2_9 (Value.bool R) #[(Value.agg X6.toArray), (Value.agg U6.toArray)] ?h4_2_9 ?h5_2_9
            case h0_2_9 => exact Tryz.func28
            case h1_2_9 => kernel_rfl
            case h2_2_9 => kernel_rfl
            case h3_2_9 => rfl
            case h4_2_9 => exact map2 _ _ _ _ _ e60 e68
            case h5_2_9 => exact HC28.out u (gtrans HU_u8.out hu)
          · intro A u9 listed hh hall
            have hA := hh.frame
            have HU_u9 := hid hh.grown
            obtain ⟨x60, hx60⟩ : ∃ x, A.eval (.tmp 60) = x := ⟨_, rfl⟩
            have f60 : (fun v _ => v = (Value.agg X6.toArray)) x60 u9 := by rw [← hx60]; exact hh.got 0 _ 60 rfl rfl (hall 0 (by decide))
            obtain ⟨x61, hx61⟩ : ∃ x, A.eval (.tmp 61) = x := ⟨_, rfl⟩
            have f61 : (fun v _ => v = (Value.slice (some ⟨g, o, none⟩) n c)) x61 u9 := by rw [← hx61]; exact hh.got 1 _ 61 rfl rfl (hall 1 (by decide))
            obtain ⟨x62, hx62⟩ : ∃ x, A.eval (.tmp 62) = x := ⟨_, rfl⟩
            have f62 : (fun v _ => v = (Value.int .i64 (i : Nat))) x62 u9 := by rw [← hx62]; exact hh.got 2 _ 62 rfl rfl (hall 2 (by decide))
            obtain ⟨x63, hx63⟩ : ∃ x, A.eval (.tmp 63) = x := ⟨_, rfl⟩
            have f63 : (fun v _ => v = (Value.int .i64 ((i + 1 : Nat) : Int))) x63 u9 := by rw [← hx63]; exact hh.got 3 _ 63 rfl rfl (hall 3 (by decide))
            obtain ⟨x64, hx64⟩ : ∃ x, A.eval (.tmp 64) = x := ⟨_, rfl⟩
            have f64 : (fun v _ => v = (Value.slice (some ⟨g, o, none⟩) n c)) x64 u9 := by rw [← hx64]; exact hh.got 4 _ 64 rfl rfl (hall 4 (by decide))
            obtain ⟨x65, hx65⟩ : ∃ x, A.eval (.tmp 65) = x := ⟨_, rfl⟩
            have f65 : (fun v _ => v = (Value.int .i64 (n : Nat))) x65 u9 := by rw [← hx65]; exact hh.got 5 _ 65 rfl rfl (hall 5 (by decide))
            obtain ⟨x66, hx66⟩ : ∃ x, A.eval (.tmp 66) = x := ⟨_, rfl⟩
            have f66 : (fun v _ => v = (Value.int .i64 (j : Nat))) x66 u9 := by rw [← hx66]; exact hh.got 6 _ 66 rfl rfl (hall 6 (by decide))
            obtain ⟨x67, hx67⟩ : ∃ x, A.eval (.tmp 67) = x := ⟨_, rfl⟩
            have f67 : (fun v _ => v = (Value.pointer (some ⟨g, o + j * 6, none⟩))) x67 u9 := by rw [← hx67]; exact hh.got 7 _ 67 rfl rfl (hall 7 (by decide))
            obtain ⟨x68, hx68⟩ : ∃ x, A.eval (.tmp 68) = x := ⟨_, rfl⟩
            have f68 : (fun v _ => v = (Value.agg U6.toArray)) x68 u9 := by rw [← hx68]; exact hh.got 8 _ 68 rfl rfl (hall 8 (by decide))
            obtain ⟨x69, hx69⟩ : ∃ x, A.eval (.tmp 69) = x := ⟨_, rfl⟩
            have f69 : (fun v _ => v = (Value.bool R)) x69 u9 := by rw [← hx69]; exact hh.got 9 _ 69 rfl rfl (hall 9 (by decide))
            dsimp only [wrote, List.foldl] at hA
            rw [hx60, hx61, hx62, hx63, hx64, hx65, hx66, hx67, hx68, hx69] at hA
            clear hh hall hx60 hx61 hx62 hx63 hx64 hx65 hx66 hx67 hx68 hx69
            replace f60 := (f60 : x60 = (.agg X6.toArray))
            subst f60
            replace f61 := (f61 : x61 = (.slice (some ⟨g, o, none⟩) n c))
            subst f61
            replace f62 := (f62 : x62 = (.int .i64 (i : Nat)))
            subst f62
            replace f63 := (f63 : x63 = (.int .i64 ((i + 1 : Nat) : Int)))
            subst f63
            replace f64 := (f64 : x64 = (.slice (some ⟨g, o, none⟩) n c))
            subst f64
            replace f65 := (f65 : x65 = (.int .i64 (n : Nat)))
            subst f65
            replace f66 := (f66 : x66 = (.int .i64 (j : Nat)))
            subst f66
            replace f67 := (f67 : x67 = (.pointer (some ⟨g, o + j * 6, none⟩)))
            subst f67
            replace f68 := (f68 : x68 = (.agg U6.toArray))
            subst f68
            replace f69 := (f69 : x69 = (.bool R))
            subst f69
            subst hA
            show wpList _ _ _ [] _ _
            unfold wpList
            simp only [Act.put, List.setIfInBounds_toArray, List.set_cons_succ, List.set_cons_zero]
            have HW1 := hid (gtrans HU_u8.out HU_u9.out)
            obtain ⟨⟨x0, x1, x2, x3, x4, x5⟩, xf⟩ := cells6 (HX.out u9 (gtrans HC4.out HW1.out)).1
            go_upto_region 14 with (go_at_call 30; (with_reducible refine (HC30'.out _ (gtrans HC4.out HW1.out)).mono ?_); rintro e w9 ⟨⟨v30, rfl⟩, hg9⟩; have HW2 := hid (gtrans HW1.out hg9); clear hg9)
            clear x0 x1 x2 x3 x4 x5 xf
            refine wp_region_listX (by kernel_rfl) [fun v _ => v = (Value.agg X6.toArray), fun v _ => v = (Value.slice (some ⟨g, o, none⟩) n c), fun v _ => v = (Value.int .i64 (i : Nat)), fun v _ => v = (Value.pointer (some ⟨g, o + i * 6, none⟩)), fun v _ => v = (Value.agg V6.toArray), fun v _ => v = (Value.bool true), fun v _ => v = (Value.bool false)] (none) (fun _ => none) 7 (by kernel_rfl) (by kernel_rfl) (by kernel_rfl) (by kernel_rfl) (by decide) noRow_one (fun _ => .inl rfl) ⟨fun i v u u' hki h hg => h, fun i v u u' hki h hg => h, fun i v u u' hki h hg => h, fun i v u u' hki h hg => h, fun i v u u' hki h hg => h, fun i v u u' hki h hg => h, fun i v u u' hki h hg => h, trivial⟩ ⟨?_, ?_, ?_, ?_, ?_, ?_, ?_, trivial⟩ ?_
            · intro A u hu hpu hsz hout hdeps
              have e5 : A.eval (.tmp 5) = (.pointer (some ⟨b4, 0, none⟩)) := (hout 5 (by kernel_rfl)).trans rfl
              refine ifw_none rfl ?_
              with_reducible refine shown_q (Value.agg X6.toArray) ?qq_1_0 (fun _ _ => ?qr_1_0)
              case qr_1_0 => exact (rfl : (Value.agg X6.toArray) = (Value.agg X6.toArray))
              with_reducible refine quietAt_load 26 (.tmp 5) ?h0_1_0 b4 0 X6 (.struct (Tryz.prog.fieldsOf 26)) ?h1_1_0 ?h2_1_0 ?h3_1_0 ?h4_1_0 ?h5_1_0
              case h0_1_0 => rfl
              case h1_1_0 => exact e5
              case h2_1_0 => exact (HXR.out u (gtrans HW2.out hu))
              case h3_1_0 => exact Tryz.underlying26
              case h4_1_0 => rfl
              case h5_1_0 => exact (by rw [HXL.out]; exact Tryz.size26)
            · intro A u hu hpu hsz hout hdeps
              have e0 : A.eval (.tmp 0) = (.slice (some ⟨g, o, none⟩) n c) := (hout 0 (by kernel_rfl)).trans rfl
              refine ifw_none rfl ?_
              with_reducible refine shown_q (Value.slice (some ⟨g, o, none⟩) n c) ?qq_1_1 (fun _ _ => ?qr_1_1)
              case qr_1_1 => exact (rfl : (Value.slice (some ⟨g, o, none⟩) n c) = (Value.slice (some ⟨g, o, none⟩) n c))
              with_reducible refine quietAt_mv (.tmp 0) (Value.slice (some ⟨g, o, none⟩) n c) ?h0_1_1 ?h1_1_1
              case h0_1_1 => rfl
              case h1_1_1 => exact e0
            · intro A u hu hpu hsz hout hdeps
              have e4 : A.eval (.tmp 4) = (.int .i64 (i : Nat)) := (hout 4 (by kernel_rfl)).trans rfl
              refine ifw_none rfl ?_
              with_reducible refine shown_q (Value.int .i64 (i : Nat)) ?qq_1_2 (fun _ _ => ?qr_1_2)
              case qr_1_2 => exact (rfl : (Value.int .i64 (i : Nat)) = (Value.int .i64 (i : Nat)))
              with_reducible refine quietAt_mv (.tmp 4) (Value.int .i64 (i : Nat)) ?h0_1_2 ?h1_1_2
              case h0_1_2 => rfl
              case h1_1_2 => exact e4
            · intro A u hu hpu hsz hout hdeps
              have e73 : A.eval (.tmp 73) = (.slice (some ⟨g, o, none⟩) n c) := by have h := depL hdeps 1 (by kernel_rfl) 73 (by kernel_rfl); exact h
              have e74 : A.eval (.tmp 74) = (.int .i64 (i : Nat)) := by have h := depL hdeps 2 (by kernel_rfl) 74 (by kernel_rfl); exact h
              refine ifw_none rfl ?_
              with_reducible refine shown_q (Value.pointer (some ⟨g, o + i * 6, none⟩)) ?qq_1_3 (fun _ _ => ?qr_1_3)
              case qr_1_3 => exact (rfl : (Value.pointer (some ⟨g, o + i * 6, none⟩)) = (Value.pointer (some ⟨g, o + i * 6, none⟩)))
              with_reducible refine quietAt_idx 22 (.tmp 73) (.tmp 74) (Value.slice (some ⟨g, o, none⟩) n c) (Value.int .i64 (i : Nat)) (Value.pointer (some ⟨g, o + i * 6, none⟩)) ?h0_1_3 ?h1_1_3 ?h2_1_3 ?h3_1_3
              case h0_1_3 => rfl
              case h1_1_3 => exact e73
              case h2_1_3 => exact e74
              case h3_1_3 => exact idx22 g o n c i hlt u
            · intro A u hu hpu hsz hout hdeps
              have e75 : A.eval (.tmp 75) = (.pointer (some ⟨g, o + i * 6, none⟩)) := by have h := depL hdeps 3 (by kernel_rfl) 75 (by kernel_rfl); exact h
              refine ifw_none rfl ?_
              with_reducible refine shown_q (Value.agg V6.toArray) ?qq_1_4 (fun _ _ => ?qr_1_4)
              case qr_1_4 => exact (rfl : (Value.agg V6.toArray) = (Value.agg V6.toArray))
              with_reducible refine quietAt_load 26 (.tmp 75) ?h0_1_4 g (o + i * 6) V6 (.struct (Tryz.prog.fieldsOf 26)) ?h1_1_4 ?h2_1_4 ?h3_1_4 ?h4_1_4 ?h5_1_4
              case h0_1_4 => rfl
              case h1_1_4 => exact e75
              case h2_1_4 => exact (HVR.out u (gtrans HW2.out hu))
              case h3_1_4 => exact Tryz.underlying26
              case h4_1_4 => rfl
              case h5_1_4 => exact (by rw [HVL.out]; exact Tryz.size26)
            · intro A u hu hpu hsz hout hdeps
              have e72 : A.eval (.tmp 72) = (.agg X6.toArray) := by have h := depL hdeps 0 (by kernel_rfl) 72 (by kernel_rfl); exact h
              have e76 : A.eval (.tmp 76) = (.agg V6.toArray) := by have h := depL hdeps 4 (by kernel_rfl) 76 (by kernel_rfl); exact h
              refine ifw_none rfl ?_
              with_reducible refine shown_q (Value.bool true) ?qq_1_5 (fun _ _ => ?qr_1_5)
              case qr_1_5 => exact (rfl : (Value.bool true) = (Value.bool true))
              with_reducible refine quietAt_call 20 Tryz.f20 ?h0_1_5 ?h1_1_5 ?h2_1_5 #[.tmp 72, .tmp 76] #[26, 26] ?h3_1_5 (Value.bool true) #[(Value.agg X6.toArray), (Value.agg V6.toArray)] ?h4_1_5 ?h5_1_5
              case h0_1_5 => exact Tryz.func20
              case h1_1_5 => kernel_rfl
              case h2_1_5 => kernel_rfl
              case h3_1_5 => rfl
              case h4_1_5 => exact map2 _ _ _ _ _ e72 e76
              case h5_1_5 => exact HC20.out u (gtrans HW2.out hu)
            · intro A u hu hpu hsz hout hdeps
              have e77 : A.eval (.tmp 77) = (.bool true) := by have h := depL hdeps 5 (by kernel_rfl) 77 (by kernel_rfl); exact h
              refine ifw_none rfl ?_
              with_reducible refine shown_q (Value.bool false) ?qq_1_6 (fun _ _ => ?qr_1_6)
              case qr_1_6 => exact (rfl : (Value.bool false) = (Value.bool false))
              with_reducible refine quietAt_un .not 4 (.tmp 77) (Value.bool true) (Value.bool false) ?h0_1_6 ?h1_1_6 ?h2_1_6
              case h0_1_6 => rfl
              case h1_1_6 => exact e77
              case h2_1_6 => rfl
            · intro A v8 listed hh hall
              have hA := hh.frame
              have HU_v8 := hid hh.grown
              obtain ⟨x72, hx72⟩ : ∃ x, A.eval (.tmp 72) = x := ⟨_, rfl⟩
              have f72 : (fun v _ => v = (Value.agg X6.toArray)) x72 v8 := by rw [← hx72]; exact hh.got 0 _ 72 rfl rfl (hall 0 (by decide))
              obtain ⟨x73, hx73⟩ : ∃ x, A.eval (.tmp 73) = x := ⟨_, rfl⟩
              have f73 : (fun v _ => v = (Value.slice (some ⟨g, o, none⟩) n c)) x73 v8 := by rw [← hx73]; exact hh.got 1 _ 73 rfl rfl (hall 1 (by decide))
              obtain ⟨x74, hx74⟩ : ∃ x, A.eval (.tmp 74) = x := ⟨_, rfl⟩
              have f74 : (fun v _ => v = (Value.int .i64 (i : Nat))) x74 v8 := by rw [← hx74]; exact hh.got 2 _ 74 rfl rfl (hall 2 (by decide))
              obtain ⟨x75, hx75⟩ : ∃ x, A.eval (.tmp 75) = x := ⟨_, rfl⟩
              have f75 : (fun v _ => v = (Value.pointer (some ⟨g, o + i * 6, none⟩))) x75 v8 := by rw [← hx75]; exact hh.got 3 _ 75 rfl rfl (hall 3 (by decide))
              obtain ⟨x76, hx76⟩ : ∃ x, A.eval (.tmp 76) = x := ⟨_, rfl⟩
              have f76 : (fun v _ => v = (Value.agg V6.toArray)) x76 v8 := by rw [← hx76]; exact hh.got 4 _ 76 rfl rfl (hall 4 (by decide))
              obtain ⟨x77, hx77⟩ : ∃ x, A.eval (.tmp 77) = x := ⟨_, rfl⟩
              have f77 : (fun v _ => v = (Value.bool true)) x77 v8 := by rw [← hx77]; exact hh.got 5 _ 77 rfl rfl (hall 5 (by decide))
              obtain ⟨x78, hx78⟩ : ∃ x, A.eval (.tmp 78) = x := ⟨_, rfl⟩
              have f78 : (fun v _ => v = (Value.bool false)) x78 v8 := by rw [← hx78]; exact hh.got 6 _ 78 rfl rfl (hall 6 (by decide))
              dsimp only [wrote, List.foldl] at hA
              rw [hx72, hx73, hx74, hx75, hx76, hx77, hx78] at hA
              clear hh hall hx72 hx73 hx74 hx75 hx76 hx77 hx78
              replace f72 := (f72 : x72 = (.agg X6.toArray))
              subst f72
              replace f73 := (f73 : x73 = (.slice (some ⟨g, o, none⟩) n c))
              subst f73
              replace f74 := (f74 : x74 = (.int .i64 (i : Nat)))
              subst f74
              replace f75 := (f75 : x75 = (.pointer (some ⟨g, o + i * 6, none⟩)))
              subst f75
              replace f76 := (f76 : x76 = (.agg V6.toArray))
              subst f76
              replace f77 := (f77 : x77 = (.bool true))
              subst f77
              replace f78 := (f78 : x78 = (.bool false))
              subst f78
              subst hA
              show wpList _ _ _ [] _ _
              unfold wpList
              simp only [Act.put, List.setIfInBounds_toArray, List.set_cons_succ, List.set_cons_zero]
              go_wp2_with fail
              have HW3 := hid (gtrans HC4.out (gtrans HW2.out HU_v8.out))
              go_roundw
              case rel => exact ⟨i + 1, GX, by go_num, by omega, hid (HSu.out _ HW3.out), hid (HBu.out _ HW3.out)⟩
              case measure => simp [intOf]; omega
      · have hlt' : ¬ (i : Int) < (n : Int) := by omega
        clear HIt
        go_wp2_with (go_at_call 17; (with_reducible refine (HWk.out _ HGW.out).mono ?_); rintro e w8 ⟨rfl, hg8⟩; have HG8 := hid hg8; clear hg8)
        go_ret
        exact ⟨rfl, HGW.out.trans (below_of_grown HG8.out (by have := HGW.out.size; rw [HB.out] at this; exact this) (fun k hk => by cases hk))⟩
end Go.Proofs.YtdmnhkgiojkphaaGreatDoor
