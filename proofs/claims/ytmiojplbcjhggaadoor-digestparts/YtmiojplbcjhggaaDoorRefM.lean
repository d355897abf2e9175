/- The reference's Mac. -/
import Derived.Test.YtmiojplbcjhggaaDoorRefC
namespace Go.Proofs.YtmiojplbcjhggaaDoor
open Go Go.RowKit
open Go.RowKit (wrap32 wrap64)

def bk (K : List UInt8) (x : UInt8) (i : Nat) : List UInt8 := (K.take i).map (· ^^^ x)
theorem bk_length (K : List UInt8) (x : UInt8) (i : Nat) (h : i ≤ K.length) : (bk K x i).length = i := by rw [bk, List.length_map, List.length_take]; omega
theorem bk_succ (K : List UInt8) (x : UInt8) (i : Nat) (h : i < K.length) : bk K x (i + 1) = bk K x i ++ [K[i] ^^^ x] := by rw [bk, List.take_succ_eq_append_getElem h, List.map_append]; rfl
theorem bk_full (K : List UInt8) (x : UInt8) (h : K.length = 64) : bk K x 64 = K.map (· ^^^ x) := by rw [bk, List.take_of_length_le (by omega)]
theorem Out.same_first {B C j : Nat} {w : World} {v v' : Value} {l l' : List UInt8} (h : Out B w v l) (h' : Out C w v' l') (hl : 0 < l.length) (hl' : 0 < l'.length) (hv : v.ownBlock = some j) (hv' : v'.ownBlock = some j) : l[0] = l'[0] := by
  obtain ⟨g, c, rfl, _, _, _, hc⟩ := h.form hl
  obtain ⟨g', c', rfl, _, _, _, hc'⟩ := h'.form hl'
  have e1 : g = j := by simpa [Value.ownBlock] using hv
  have e2 : g' = j := by simpa [Value.ownBlock] using hv'
  subst e1
  subst e2
  have h3 := (hc 0 hl).symm.trans (hc' 0 hl')
  injection h3 with h3
  injection h3 with _ h3
  exact UInt8.toNat_inj.1 (by omega)
theorem xor_ne (a x y : UInt8) (h : x ≠ y) : a ^^^ x ≠ a ^^^ y := fun e => h (by
  have := congrArg (a ^^^ ·) e
  simpa [← UInt8.xor_assoc] using this)
theorem apartP {C k i : Nat} {w : World} {a b : Value} {P : List UInt8} {x y : UInt8} (hxy : x ≠ y) (hk : 0 < i → 0 < k) (ha : Out C w a (bk P x k)) (hb : Out C w b (bk P y i)) (hz : i = 0 → b = .slice none 0 0) (hP : 0 < P.length) : ∀ j, b.ownBlock = some j → a.ownBlock ≠ some j := by
  intro j hj hj'
  by_cases h0 : i = 0
  · rw [hz h0] at hj
    simp [Value.ownBlock] at hj
  · have hk' := hk (by omega)
    have l1 : 0 < (bk P x k).length := by rw [bk, List.length_map, List.length_take]; omega
    have l2 : 0 < (bk P y i).length := by rw [bk, List.length_map, List.length_take]; omega
    have := ha.same_first hb l1 l2 hj' hj
    simp only [bk, List.getElem_map, List.getElem_take] at this
    exact xor_ne _ _ _ hxy this
theorem Blk.rd32 {w : World} {b : Nat} {S : List Value} {l : List UInt8} {t : TypeId} (h : Blk w b S t) (hS : Lib.byteCells l = S) (hl : l.length = 32) : Rd w (fun k => k = b) (.slice (some ⟨b, 0, none⟩) 32 32) l := by
  subst hS
  refine ⟨_, b, 0, 32, by rw [hl], by rw [hl]; exact Nat.le_refl _, (fun h => by cases h), fun _ => ⟨rfl, h.lt, rfl⟩, fun i hi => ?_⟩
  rw [Nat.zero_add, h.cell i]
  simp [Lib.byteCells, List.getElem?_eq_getElem hi]

set_option maxRecDepth 100000 in
set_option maxHeartbeats 1600000 in
theorem macR_any (w : World) (vk vb : Value) (F G : Nat → Prop) (key x : List UInt8) (hk : Rd w F vk key) (hx : Rd w G vb x) (hkl : key.length ≤ 1048576) (hxl : x.length ≤ 1048576) :
    Calls Tryd.prog 22 #[vk, vb] w fun e w' => e = .returned (.agg (Lib.byteCells (macL key x)).toArray) ∧ w.grownBy w' none := by
  have HK0 : Hid (∀ u, w.grownBy u none → Rd u F vk key) := fun u hu => hk.keep hu
  have HX : Hid (∀ u, w.grownBy u none → Rd u (fun k => k < w.heap.size) vb x) := fun u hu => (hx.mono (G := fun k => k < w.heap.size) (fun k hk _ => hk)).keep hu
  have HXL := hid hxl
  have HL := hid hkl
  obtain ⟨ka, kb, ko, kc, hke, -⟩ := hk
  subst hke
  obtain ⟨n, HN⟩ : ∃ n, Hid (key.length = n) := ⟨_, hid rfl⟩
  rw [HN.out] at HK0 ⊢
  obtain ⟨R, HRe⟩ : ∃ R, Hid (Lib.byteCells (macL key x) = R) := ⟨_, hid rfl⟩
  rw [HRe.out]
  clear hx hkl hxl
  by_cases hbig : 64 < n
  · have hb2 : (64 : Int) < (n : Int) := by omega
    go_enter Tryd.func22, Tryd.ntmps22
    go_wp2_with (first
      | ((with_reducible refine wpList_alloc_row rfl 24 rfl y32 Tryd.zero24 ?_); intro w1 B1 s1 g1; have HB1 := hid B1; have HG1 := hid g1; have HZ1 := hid s1; clear B1 g1 s1)
      | (go_at_call 30; (with_reducible refine (copyR_any _ _ F key (HK0.out _ HG1.out) (by have := HL.out; omega)).mono ?_); rintro e w2 ⟨v2, rfl, hO2, hg2⟩; have HO2 := hid hO2; have HG2 := hid hg2; clear hO2 hg2; obtain ⟨ra, rb, ro, rc, hv2, -⟩ := HO2.out.rd; subst hv2; rw [HN.out] at HO2 ⊢))
    obtain ⟨b0, hb0⟩ : ∃ b, b = w.heap.size := ⟨_, rfl⟩
    obtain ⟨B, hB⟩ : ∃ b, b = w1.heap.size := ⟨_, rfl⟩
    rw [← hb0] at HB1 ⊢
    rw [← hB] at HO2
    have HNB := hid (show w.heap.size ≤ b0 ∧ b0 < B by have := HZ1.out; omega)
    have HBr2 : Hid (Blk w2 b0 y32 24) := hid (HB1.out.keep HG2.out)
    have HGw2 : Hid (w.grownBy w2 none) := hid (gtrans HG1.out HG2.out)
    have HB2 : Hid (B ≤ w2.heap.size) := hid (by rw [hB]; exact HG2.out.size)
    clear HB1 HG1 HG2 HZ1 hb0 hB HK0
    have HKs : Hid (short key = sumL key) := hid (by unfold short; rw [if_pos (by rw [HN.out]; exact hbig)])
    have HKL : Hid ((sumL key).length ≤ 64) := hid (by rw [sumL_length]; decide)
    obtain ⟨S0, HS0⟩ : ∃ S, Hid (Lib.byteCells (sumL key) = S) := ⟨_, hid rfl⟩
    have HS0L : Hid (S0.length = 32) := hid (by rw [← HS0.out, byteCells_length, sumL_length])
    have HS0o : Hid (∀ v ∈ S0, v.oneCell' = true) := hid (by rw [← HS0.out]; exact bcs_one _)
    clear hbig
    go_wp2_with (first
      | (go_at_call 9; (with_reducible refine (sumR_any _ _ _ key HO2.out.rd (by have := HL.out; omega)).mono ?_); rw [HS0.out]; rintro e w3 ⟨rfl, hg3⟩; have HG3 := hid hg3; clear hg3)
      | ((with_reducible refine wpList_alloc_row rfl 24 rfl y32 Tryd.zero24 ?_); intro w4 B4 s4 g4; have HB4 := hid B4; have HG4 := hid g4; have HZ4 := hid s4; clear B4 g4 s4)
      | ((refine wpList_store_all rfl 24 _ _ rfl w3.heap.size y32 S0 24 rfl rfl HB4.out (by rw [HS0L.out]; rfl) (by rw [HS0L.out]; exact Tryd.size24) HS0o.out ?_); intro w6 B6 g6 s6; have HB6 := hid B6; have HG6 := hid g6; have HZ6 := hid s6; clear B6 g6 s6)
      | (go_at_call 30; (with_reducible refine (copyR_any _ _ (fun k => k = w3.heap.size) (sumL key) (HB6.out.rd32 HS0.out (sumL_length _)) (by rw [sumL_length]; decide)).mono ?_); rintro e w5 ⟨v5, rfl, hO5, hg5⟩; have HO5' := hid hO5; have HG5' := hid hg5; clear hO5 hg5))
    have HB5 : Hid (B ≤ w5.heap.size) := hid (by have := HB2.out; have := HG3.out.size; have := HG4.out.size; have := HG6.out.size; have := HG5'.out.size; omega)
    have HO5 : Hid (Out B w5 v5 (sumL key)) := hid (HO5'.out.below (by have := HB2.out; have := HG3.out.size; have := HG4.out.size; have := HG6.out.size; omega))
    have HBr : Hid (Blk w5 b0 y32 24) := hid ((((HBr2.out.keep HG3.out).keep HG4.out).on HG6.out (fun e => by have e' : w3.heap.size = b0 := Option.some.inj e; have := HBr2.out.lt; have := HG3.out.size; omega)).keep HG5'.out)
    have HG5 : Hid (w.grownBy w5 none) := hid (gtrans ((gtrans (gtrans HGw2.out HG3.out) HG4.out).andThen HG6.out (fun q hq => .inl (by have hq' : w3.heap.size = q := Option.some.inj hq; have := HGw2.out.size; have := HG3.out.size; omega))) HG5'.out)
    clear HO2 HB2 HBr2 HGw2 HG3 HG4 HG6 HG5' HO5' HB4 HB6 HZ4 HZ6 HS0 HS0L HS0o HN
    generalize sumL key = K at HO5 HKL HKs
    go_wp2_with fail
    go_loopw [5] (fun kv wr => ∃ j : Nat, Hid (K.length + j ≤ 64) ∧ Hid (Out B wr kv (K ++ List.replicate j 0)) ∧ Hid (Blk wr b0 y32 24) ∧ Hid (w.grownBy wr none) ∧ Hid (B ≤ wr.heap.size)) (fun kv _ => 64 - vlen kv)
    case atStart => exact ⟨0, hid (by have := HKL.out; omega), hid (by simpa using HO5.out), HBr, HG5, HB5⟩
    case round =>
      clear HO5 HBr HG5 HB5
      obtain ⟨j, HJ, HO, HBr, HG, HB5⟩ := hrel
      obtain ⟨ra, rb, ro, rc, hve, -⟩ := HO.out.rd
      subst hve
      obtain ⟨M, HM⟩ : ∃ M, Hid (K.length + j = M) := ⟨_, hid rfl⟩
      have e0 : (K ++ List.replicate j 0).length = M := by rw [List.length_append, List.length_replicate]; exact HM.out
      rw [e0] at HO ⊢
      clear e0
      by_cases hlt : M < 64
      · have ht : (M : Int) < 64 := by omega
        have HML := hid hlt
        clear hlt
        go_wp2_with (at_builtin; refine wpList_append_byteW rfl _ _ rfl B wr.heap.size _ 0 (HO.out.keep (galloc wr _ none)) rfl (litL wr _) (by rw [List.length_append, List.length_replicate, HM.out]; have := HML.out; omega) (by have := HB5.out; simp; omega) ?_; intro v6 w6 hO6 hg6)
        have hge := gtrans (galloc wr _ _) hg6
        go_roundw
        case rel => exact ⟨j + 1, hid (by have := HML.out; have := HM.out; omega), hid (by rw [List.replicate_succ', ← List.append_assoc]; exact hO6), hid (HBr.out.on hge (fun e => by have := HO.out.block _ e; have := HNB.out; omega)), hid (HG.out.andThen hge (fun q hq => .inl (by have := HO.out.block _ hq; have := HNB.out; omega))), hid (Nat.le_trans HB5.out hge.size)⟩
        case measure =>
          obtain ⟨g6, c6, e6, -⟩ := hO6.form (by rw [List.length_append]; simp)
          have hl6 : (K ++ List.replicate j 0 ++ [0]).length = M + 1 := by rw [List.length_append, List.length_append, List.length_replicate, HM.out]; rfl
          rw [e6, hl6]
          show 64 - (M + 1) < 64 - M
          have := HML.out
          omega
      · have hM64 : M = 64 := by have := HJ.out; have := HM.out; omega
        subst hM64
        have HP : Hid (K ++ List.replicate j 0 = kpad K) := hid (by unfold kpad; rw [show 64 - K.length = j by have := HM.out; omega])
        rw [HP.out] at HO
        have HPL : Hid ((kpad K).length = 64) := hid (kpad_length K (by have := HJ.out; omega))
        have HD : Hid (macL key x = sumL ((kpad K).map (· ^^^ 0x5c) ++ sumL ((kpad K).map (· ^^^ 0x36) ++ x))) := hid (by unfold macL bent; rw [HKs.out])
        generalize kpad K = P at HO HPL HD
        obtain ⟨g, cap, hvf, hcap, hgB, hgs, hcel⟩ := HO.out.form (by rw [HPL.out]; decide)
        rw [HPL.out] at hvf hcap
        injection hvf with f1 f2 f3
        subst f1 f3
        have HCel := hid hcel
        have HGS := hid hgs
        have HGB := hid hgB
        clear hcel hgs hgB f2 HM HJ HP HKL HKs hlt
        obtain ⟨wo, hwo⟩ : ∃ x, x = wr := ⟨_, rfl⟩
        subst hwo
        obtain ⟨C, HC⟩ : ∃ C, Hid (wo.heap.size = C) := ⟨_, hid rfl⟩
        have HCn : Hid (b0 < C ∧ g < C ∧ w.heap.size ≤ C) := hid ⟨by rw [← HC.out]; exact HBr.out.lt, by rw [← HC.out]; exact HGS.out, by rw [← HC.out]; exact HG.out.size⟩
        clear HB5
        go_wp2_with fail
        go_loopw [7, 8, 9] (fun av ov iv wr => ∃ i : Nat, i ≤ 64 ∧ iv = .int .i64 i ∧ Hid (i = 0 → ov = .slice none 0 0) ∧ Hid (Out C wr av (bk P 0x36 i)) ∧ Hid (Out C wr ov (bk P 0x5c i)) ∧ Hid (wo.grownBy wr none)) (fun _ _ iv _ => 64 - (intOf iv).toNat)
        case atStart => exact ⟨0, Nat.zero_le _, rfl, hid (fun _ => rfl), hid (Out.nil _ _), hid (Out.nil _ _), hid (grefl _ _)⟩
        case round =>
          obtain ⟨i, hi, rfl, HZ, HA, HB, HW⟩ := hrel
          have HCs : Hid (C ≤ wr.heap.size) := hid (by rw [← HC.out]; exact HW.out.size)
          by_cases hlt : i < 64
          · have hlt' : (i : Int) < 64 := by omega
            have hiP : i < P.length := by rw [HPL.out]; exact hlt
            have hck := HCel.out i hiP
            rw [← cell_at HW.out HGS.out (by simp)] at hck
            obtain ⟨u1, HU1⟩ : ∃ u, Hid (P[i] ^^^ 0x36 = u) := ⟨_, hid rfl⟩
            obtain ⟨u2, HU2⟩ : ∃ u, Hid (P[i] ^^^ 0x5c = u) := ⟨_, hid rfl⟩
            have hx1 := xor8 P[i] 0x36
            have hx2 := xor8 P[i] 0x5c
            rw [HU1.out] at hx1
            rw [HU2.out] at hx2
            have HS1 := hid (bk_succ P 0x36 i hiP)
            have HS2 := hid (bk_succ P 0x5c i hiP)
            rw [HU1.out] at HS1
            rw [HU2.out] at HS2
            obtain ⟨y, HY⟩ : ∃ y : Int, Hid ((P[i].toNat : Int) = y) := ⟨_, hid rfl⟩
            rw [HY.out] at hck hx1 hx2
            replace hx1 : Go.bits .xor .u8 y 54 = (u1.toNat : Int) := hx1
            replace hx2 : Go.bits .xor .u8 y 92 = (u2.toNat : Int) := hx2
            have hgw : g < wr.heap.size := by have := HCn.out; have := HCs.out; omega
            have HL1 := hid (bk_length P 0x36 i (by omega))
            have HL2 := hid (bk_length P 0x5c i (by omega))
            have HP0 : Hid (0 < P.length) := hid (by omega)
            have HAp := hid (apartP (k := i) (i := i) (by decide) (fun h => h) HA.out HB.out HZ.out HP0.out)
            clear HU1 HU2 HY hiP
            go_wp2_with (first
              | (at_builtin; refine wpList_append_byteW rfl _ _ rfl C wr.heap.size _ u1 (HA.out.keep (galloc wr _ none)) rfl (litL wr _) (by rw [HL1.out]; omega) (by have := HCs.out; simp; omega) ?_; intro v6 w6 hO6 hg6; rw [← HS1.out] at hO6; have HO6 := hid hO6; have HGe := hid (gtrans (galloc wr _ _) hg6); have HBo := hid (HB.out.on HGe.out (fun q hq e => HAp.out q e hq)); have HCs6 : Hid (C ≤ w6.heap.size) := hid (Nat.le_trans HCs.out HGe.out.size); have hck6 := hck; rw [← cell_at HGe.out hgw (fun e => by have := HA.out.block _ e; have := HCn.out; omega)] at hck6; have hgw6 : g < w6.heap.size := Nat.lt_of_lt_of_le hgw HGe.out.size; clear hO6 hg6)
              | (at_builtin; refine wpList_append_byteW rfl _ _ rfl C w6.heap.size _ u2 (HBo.out.keep (galloc w6 _ none)) rfl (litL w6 _) (by rw [HL2.out]; omega) (by have := HCs6.out; simp; omega) ?_; intro v7 w7 hO7 hg7; rw [← HS2.out] at hO7; have HO7 := hid hO7; have HGf := hid (gtrans (galloc w6 _ _) hg7); have HAp6 := hid (apartP (k := i + 1) (i := i) (by decide) (fun _ => by omega) HO6.out HBo.out HZ.out HP0.out); have HAo := hid (HO6.out.on HGf.out (fun q hq e => HAp6.out q hq e)); clear hO7 hg7))
            go_roundw
            case rel => exact ⟨i + 1, by omega, by go_num, hid (fun h => by omega), HAo, HO7, hid ((HW.out.andThen HGe.out (fun q hq => .inl (by have := HA.out.block _ hq; have := HC.out; omega))).andThen HGf.out (fun q hq => .inl (by have := HBo.out.block _ hq; have := HC.out; omega)))⟩
            case measure => simp [intOf]; omega
          · obtain rfl : i = 64 := by omega
            have HAp := hid (apartP (k := 64) (i := 64) (by decide) (fun h => h) HA.out HB.out HZ.out (by rw [HPL.out]; decide))
            rw [bk_full _ _ HPL.out] at HA HB
            obtain ⟨I, HI⟩ : ∃ I, Hid (P.map (· ^^^ 0x36) = I) := ⟨_, hid rfl⟩
            obtain ⟨O, HO'⟩ : ∃ O, Hid (P.map (· ^^^ 0x5c) = O) := ⟨_, hid rfl⟩
            rw [HI.out] at HA HD
            rw [HO'.out] at HB HD
            have HIL : Hid (I.length = 64) := hid (by rw [← HI.out, List.length_map]; exact HPL.out)
            have HOL : Hid (O.length = 64) := hid (by rw [← HO'.out, List.length_map]; exact HPL.out)
            have HGw : Hid (w.grownBy wr none) := hid (gtrans HG.out HW.out)
            have HBw := hid (HBr.out.keep HW.out)
            obtain ⟨S1, HS1⟩ : ∃ S, Hid (Lib.byteCells (sumL (I ++ x)) = S) := ⟨_, hid rfl⟩
            have HSL : Hid (S1.length = 32) := hid (by rw [← HS1.out, byteCells_length, sumL_length])
            have HS1o : Hid (∀ v ∈ S1, v.oneCell' = true) := hid (by rw [← HS1.out]; exact bcs_one _)
            have HR : Hid (Lib.byteCells (sumL (O ++ sumL (I ++ x))) = R) := hid (by rw [← HRe.out, HD.out])
            have HRL : Hid (R.length = 32) := hid (by rw [← HR.out, byteCells_length, sumL_length])
            have HR1 : Hid (∀ v ∈ R, v.oneCell' = true) := hid (by rw [← HR.out]; exact bcs_one _)
            clear hlt HO HCel HPL HD HBr HG HW HI HO' HL
            go_wp2_with (first
              | (at_builtin; refine wpList_append_rdW rfl _ _ rfl C (fun k => k < w.heap.size) I x HA.out (HX.out _ HGw.out) (by rw [HIL.out]; have := HXL.out; omega) HCs.out ?_; intro v8 w8 hO8 hg8 _; have HO8 := hid hO8; have HG8 := hid hg8; clear hO8 hg8)
              | (go_at_call 9; (with_reducible refine (sumR_any _ _ _ _ HO8.out.rd (by rw [List.length_append, HIL.out]; have := HXL.out; omega)).mono ?_); rw [HS1.out]; rintro e w9 ⟨rfl, hg9⟩; have HG9 := hid hg9; clear hg9)
              | ((with_reducible refine wpList_alloc_row rfl 24 rfl y32 Tryd.zero24 ?_); intro w10 B10 s10 g10; have HB10 := hid B10; have HG10 := hid g10; have HZ10 := hid s10; clear B10 g10 s10)
              | ((refine wpList_store_all rfl 24 _ _ rfl w9.heap.size y32 S1 24 rfl rfl HB10.out (by rw [HSL.out]; rfl) (by rw [HSL.out]; exact Tryd.size24) HS1o.out ?_); intro w11 B11 g11 s11; have HB11 := hid B11; have HG11 := hid g11; have HZ11 := hid s11; clear B11 g11 s11; have HCm : Hid (C ≤ w9.heap.size) := hid (Nat.le_trans HCs.out (Nat.le_trans HG8.out.size HG9.out.size)); have HBo := hid ((((HB.out.on HG8.out (fun q hq e => HAp.out q e hq)).keep HG9.out).keep HG10.out).on HG11.out (fun q hq e => by have hq' : w9.heap.size = q := Option.some.inj hq; have := (World.ownsRow.lt HB.out q e).2; have := HG8.out.size; have := HG9.out.size; omega)); have HBf0 := hid ((((HBw.out.on HG8.out (fun e => by have := HA.out.block _ e; have := HCn.out; omega)).keep HG9.out).keep HG10.out).on HG11.out (fun e => by have e' : w9.heap.size = b0 := Option.some.inj e; have := HCm.out; have := HCn.out; omega)))
              | (at_builtin; refine wpList_append_rdW rfl _ _ rfl C (fun k => k = w9.heap.size) O (sumL (I ++ x)) HBo.out (HB11.out.rd32 HS1.out (sumL_length _)) (by rw [HOL.out, sumL_length]; decide) (by have := HCm.out; have := HZ10.out; have := HZ11.out; omega) ?_; intro v12 w12 hO12 hg12 _; have HO12 := hid hO12; have HG12 := hid hg12; clear hO12 hg12)
              | (go_at_call 9; (with_reducible refine (sumR_any _ _ _ _ HO12.out.rd (by rw [List.length_append, HOL.out, sumL_length]; decide)).mono ?_); rw [HR.out]; rintro e w13 ⟨rfl, hg13⟩; have HG13 := hid hg13; clear hg13; have HBf := hid ((HBf0.out.on HG12.out (fun e => by have := HBo.out.block _ e; have := HCn.out; omega)).keep HG13.out))
              | (have := HG13; (refine wpList_store_all rfl 24 _ _ rfl b0 y32 R 24 rfl rfl (HBf.out) (by rw [HRL.out]; rfl) (by rw [HRL.out]; exact Tryd.size24) HR1.out ?_); intro w14 B14 g14 s14; have HB14 := hid B14; have HG14 := hid g14; clear B14 g14 s14))
            refine bodyPost_ret (results_blk rfl _ b0 24 R _ rfl HB14.out Tryd.underlying24 rfl (by rw [HRL.out]; exact Tryd.size24)) rfl ?_
            refine ⟨rfl, ?_⟩
            have t8 := HGw.out.andThen HG8.out (fun q hq => .inl (by have := HA.out.block _ hq; have := HCn.out; omega))
            have t11 := (gtrans (gtrans t8 HG9.out) HG10.out).andThen HG11.out (fun q hq => .inl (by have hq' : w9.heap.size = q := Option.some.inj hq; have := HCm.out; have := HCn.out; omega))
            have t12 := t11.andThen HG12.out (fun q hq => .inl (by have := HBo.out.block _ hq; have := HCn.out; omega))
            exact (gtrans t12 HG13.out).andThen HG14.out (fun q hq => .inl (by have hq' : b0 = q := Option.some.inj hq; have := HNB.out; omega))
  · have hb2 : ¬ (64 : Int) < (n : Int) := by omega
    go_enter Tryd.func22, Tryd.ntmps22
    go_wp2_with (first
      | ((with_reducible refine wpList_alloc_row rfl 24 rfl y32 Tryd.zero24 ?_); intro w1 B1 s1 g1; have HB1 := hid B1; have HG1 := hid g1; have HZ1 := hid s1; clear B1 g1 s1)
      | (go_at_call 30; (with_reducible refine (copyR_any _ _ F key (HK0.out _ HG1.out) (by have := HL.out; omega)).mono ?_); rintro e w2 ⟨v2, rfl, hO2, hg2⟩; have HO2 := hid hO2; have HG2 := hid hg2; clear hO2 hg2; obtain ⟨ra, rb, ro, rc, hv2, -⟩ := HO2.out.rd; subst hv2; rw [HN.out] at HO2 ⊢))
    obtain ⟨b0, hb0⟩ : ∃ b, b = w.heap.size := ⟨_, rfl⟩
    obtain ⟨B, hB⟩ : ∃ b, b = w1.heap.size := ⟨_, rfl⟩
    rw [← hb0] at HB1 ⊢
    rw [← hB] at HO2
    have HNB := hid (show w.heap.size ≤ b0 ∧ b0 < B by have := HZ1.out; omega)
    have HBr2 : Hid (Blk w2 b0 y32 24) := hid (HB1.out.keep HG2.out)
    have HGw2 : Hid (w.grownBy w2 none) := hid (gtrans HG1.out HG2.out)
    have HB2 : Hid (B ≤ w2.heap.size) := hid (by rw [hB]; exact HG2.out.size)
    clear HB1 HG1 HG2 HZ1 hb0 hB HK0
    have HKs : Hid (short key = key) := hid (by unfold short; rw [if_neg (by rw [HN.out]; exact hbig)])
    have HKL : Hid (key.length ≤ 64) := hid (by rw [HN.out]; omega)
    obtain ⟨v5, HV5⟩ : ∃ v, Hid (Value.slice ra n rc = v) := ⟨_, hid rfl⟩
    have HB5 := HB2
    have HO5 := HO2
    have HBr := HBr2
    have HG5 := HGw2
    clear HO2 HB2 HBr2 HGw2 HN HV5
    obtain ⟨K, HKK⟩ : ∃ K, Hid (K = key) := ⟨_, hid rfl⟩
    rw [← HKK.out] at HO5 HKL
    have HKs2 : Hid (short key = K) := hid (by rw [HKK.out]; exact HKs.out)
    clear HKs
    have HKs := HKs2
    clear HKs2 HKK
    go_wp2_with fail
    go_loopw [5] (fun kv wr => ∃ j : Nat, Hid (K.length + j ≤ 64) ∧ Hid (Out B wr kv (K ++ List.replicate j 0)) ∧ Hid (Blk wr b0 y32 24) ∧ Hid (w.grownBy wr none) ∧ Hid (B ≤ wr.heap.size)) (fun kv _ => 64 - vlen kv)
    case atStart => exact ⟨0, hid (by have := HKL.out; omega), hid (by simpa using HO5.out), HBr, HG5, HB5⟩
    case round =>
      clear HO5 HBr HG5 HB5
      obtain ⟨j, HJ, HO, HBr, HG, HB5⟩ := hrel
      obtain ⟨ra, rb, ro, rc, hve, -⟩ := HO.out.rd
      subst hve
      obtain ⟨M, HM⟩ : ∃ M, Hid (K.length + j = M) := ⟨_, hid rfl⟩
      have e0 : (K ++ List.replicate j 0).length = M := by rw [List.length_append, List.length_replicate]; exact HM.out
      rw [e0] at HO ⊢
      clear e0
      by_cases hlt : M < 64
      · have ht : (M : Int) < 64 := by omega
        have HML := hid hlt
        clear hlt
        go_wp2_with (at_builtin; refine wpList_append_byteW rfl _ _ rfl B wr.heap.size _ 0 (HO.out.keep (galloc wr _ none)) rfl (litL wr _) (by rw [List.length_append, List.length_replicate, HM.out]; have := HML.out; omega) (by have := HB5.out; simp; omega) ?_; intro v6 w6 hO6 hg6)
        have hge := gtrans (galloc wr _ _) hg6
        go_roundw
        case rel => exact ⟨j + 1, hid (by have := HML.out; have := HM.out; omega), hid (by rw [List.replicate_succ', ← List.append_assoc]; exact hO6), hid (HBr.out.on hge (fun e => by have := HO.out.block _ e; have := HNB.out; omega)), hid (HG.out.andThen hge (fun q hq => .inl (by have := HO.out.block _ hq; have := HNB.out; omega))), hid (Nat.le_trans HB5.out hge.size)⟩
        case measure =>
          obtain ⟨g6, c6, e6, -⟩ := hO6.form (by rw [List.length_append]; simp)
          have hl6 : (K ++ List.replicate j 0 ++ [0]).length = M + 1 := by rw [List.length_append, List.length_append, List.length_replicate, HM.out]; rfl
          rw [e6, hl6]
          show 64 - (M + 1) < 64 - M
          have := HML.out
          omega
      · have hM64 : M = 64 := by have := HJ.out; have := HM.out; omega
        subst hM64
        have HP : Hid (K ++ List.replicate j 0 = kpad K) := hid (by unfold kpad; rw [show 64 - K.length = j by have := HM.out; omega])
        rw [HP.out] at HO
        have HPL : Hid ((kpad K).length = 64) := hid (kpad_length K (by have := HJ.out; omega))
        have HD : Hid (macL key x = sumL ((kpad K).map (· ^^^ 0x5c) ++ sumL ((kpad K).map (· ^^^ 0x36) ++ x))) := hid (by unfold macL bent; rw [HKs.out])
        generalize kpad K = P at HO HPL HD
        obtain ⟨g, cap, hvf, hcap, hgB, hgs, hcel⟩ := HO.out.form (by rw [HPL.out]; decide)
        rw [HPL.out] at hvf hcap
        injection hvf with f1 f2 f3
        subst f1 f3
        have HCel := hid hcel
        have HGS := hid hgs
        have HGB := hid hgB
        clear hcel hgs hgB f2 HM HJ HP HKL HKs hlt
        obtain ⟨wo, hwo⟩ : ∃ x, x = wr := ⟨_, rfl⟩
        subst hwo
        obtain ⟨C, HC⟩ : ∃ C, Hid (wo.heap.size = C) := ⟨_, hid rfl⟩
        have HCn : Hid (b0 < C ∧ g < C ∧ w.heap.size ≤ C) := hid ⟨by rw [← HC.out]; exact HBr.out.lt, by rw [← HC.out]; exact HGS.out, by rw [← HC.out]; exact HG.out.size⟩
        clear HB5
        go_wp2_with fail
        go_loopw [7, 8, 9] (fun av ov iv wr => ∃ i : Nat, i ≤ 64 ∧ iv = .int .i64 i ∧ Hid (i = 0 → ov = .slice none 0 0) ∧ Hid (Out C wr av (bk P 0x36 i)) ∧ Hid (Out C wr ov (bk P 0x5c i)) ∧ Hid (wo.grownBy wr none)) (fun _ _ iv _ => 64 - (intOf iv).toNat)
        case atStart => exact ⟨0, Nat.zero_le _, rfl, hid (fun _ => rfl), hid (Out.nil _ _), hid (Out.nil _ _), hid (grefl _ _)⟩
        case round =>
          obtain ⟨i, hi, rfl, HZ, HA, HB, HW⟩ := hrel
          have HCs : Hid (C ≤ wr.heap.size) := hid (by rw [← HC.out]; exact HW.out.size)
          by_cases hlt : i < 64
          · have hlt' : (i : Int) < 64 := by omega
            have hiP : i < P.length := by rw [HPL.out]; exact hlt
            have hck := HCel.out i hiP
            rw [← cell_at HW.out HGS.out (by simp)] at hck
            obtain ⟨u1, HU1⟩ : ∃ u, Hid (P[i] ^^^ 0x36 = u) := ⟨_, hid rfl⟩
            obtain ⟨u2, HU2⟩ : ∃ u, Hid (P[i] ^^^ 0x5c = u) := ⟨_, hid rfl⟩
            have hx1 := xor8 P[i] 0x36
            have hx2 := xor8 P[i] 0x5c
            rw [HU1.out] at hx1
            rw [HU2.out] at hx2
            have HS1 := hid (bk_succ P 0x36 i hiP)
            have HS2 := hid (bk_succ P 0x5c i hiP)
            rw [HU1.out] at HS1
            rw [HU2.out] at HS2
            obtain ⟨y, HY⟩ : ∃ y : Int, Hid ((P[i].toNat : Int) = y) := ⟨_, hid rfl⟩
            rw [HY.out] at hck hx1 hx2
            replace hx1 : Go.bits .xor .u8 y 54 = (u1.toNat : Int) := hx1
            replace hx2 : Go.bits .xor .u8 y 92 = (u2.toNat : Int) := hx2
            have hgw : g < wr.heap.size := by have := HCn.out; have := HCs.out; omega
            have HL1 := hid (bk_length P 0x36 i (by omega))
            have HL2 := hid (bk_length P 0x5c i (by omega))
            have HP0 : Hid (0 < P.length) := hid (by omega)
            have HAp := hid (apartP (k := i) (i := i) (by decide) (fun h => h) HA.out HB.out HZ.out HP0.out)
            clear HU1 HU2 HY hiP
            go_wp2_with (first
              | (at_builtin; refine wpList_append_byteW rfl _ _ rfl C wr.heap.size _ u1 (HA.out.keep (galloc wr _ none)) rfl (litL wr _) (by rw [HL1.out]; omega) (by have := HCs.out; simp; omega) ?_; intro v6 w6 hO6 hg6; rw [← HS1.out] at hO6; have HO6 := hid hO6; have HGe := hid (gtrans (galloc wr _ _) hg6); have HBo := hid (HB.out.on HGe.out (fun q hq e => HAp.out q e hq)); have HCs6 : Hid (C ≤ w6.heap.size) := hid (Nat.le_trans HCs.out HGe.out.size); have hck6 := hck; rw [← cell_at HGe.out hgw (fun e => by have := HA.out.block _ e; have := HCn.out; omega)] at hck6; have hgw6 : g < w6.heap.size := Nat.lt_of_lt_of_le hgw HGe.out.size; clear hO6 hg6)
              | (at_builtin; refine wpList_append_byteW rfl _ _ rfl C w6.heap.size _ u2 (HBo.out.keep (galloc w6 _ none)) rfl (litL w6 _) (by rw [HL2.out]; omega) (by have := HCs6.out; simp; omega) ?_; intro v7 w7 hO7 hg7; rw [← HS2.out] at hO7; have HO7 := hid hO7; have HGf := hid (gtrans (galloc w6 _ _) hg7); have HAp6 := hid (apartP (k := i + 1) (i := i) (by decide) (fun _ => by omega) HO6.out HBo.out HZ.out HP0.out); have HAo := hid (HO6.out.on HGf.out (fun q hq e => HAp6.out q hq e)); clear hO7 hg7))
            go_roundw
            case rel => exact ⟨i + 1, by omega, by go_num, hid (fun h => by omega), HAo, HO7, hid ((HW.out.andThen HGe.out (fun q hq => .inl (by have := HA.out.block _ hq; have := HC.out; omega))).andThen HGf.out (fun q hq => .inl (by have := HBo.out.block _ hq; have := HC.out; omega)))⟩
            case measure => simp [intOf]; omega
          · obtain rfl : i = 64 := by omega
            have HAp := hid (apartP (k := 64) (i := 64) (by decide) (fun h => h) HA.out HB.out HZ.out (by rw [HPL.out]; decide))
            rw [bk_full _ _ HPL.out] at HA HB
            obtain ⟨I, HI⟩ : ∃ I, Hid (P.map (· ^^^ 0x36) = I) := ⟨_, hid rfl⟩
            obtain ⟨O, HO'⟩ : ∃ O, Hid (P.map (· ^^^ 0x5c) = O) := ⟨_, hid rfl⟩
            rw [HI.out] at HA HD
            rw [HO'.out] at HB HD
            have HIL : Hid (I.length = 64) := hid (by rw [← HI.out, List.length_map]; exact HPL.out)
            have HOL : Hid (O.length = 64) := hid (by rw [← HO'.out, List.length_map]; exact HPL.out)
            have HGw : Hid (w.grownBy wr none) := hid (gtrans HG.out HW.out)
            have HBw := hid (HBr.out.keep HW.out)
            obtain ⟨S1, HS1⟩ : ∃ S, Hid (Lib.byteCells (sumL (I ++ x)) = S) := ⟨_, hid rfl⟩
            have HSL : Hid (S1.length = 32) := hid (by rw [← HS1.out, byteCells_length, sumL_length])
            have HS1o : Hid (∀ v ∈ S1, v.oneCell' = true) := hid (by rw [← HS1.out]; exact bcs_one _)
            have HR : Hid (Lib.byteCells (sumL (O ++ sumL (I ++ x))) = R) := hid (by rw [← HRe.out, HD.out])
            have HRL : Hid (R.length = 32) := hid (by rw [← HR.out, byteCells_length, sumL_length])
            have HR1 : Hid (∀ v ∈ R, v.oneCell' = true) := hid (by rw [← HR.out]; exact bcs_one _)
            clear hlt HO HCel HPL HD HBr HG HW HI HO' HL
            go_wp2_with (first
              | (at_builtin; refine wpList_append_rdW rfl _ _ rfl C (fun k => k < w.heap.size) I x HA.out (HX.out _ HGw.out) (by rw [HIL.out]; have := HXL.out; omega) HCs.out ?_; intro v8 w8 hO8 hg8 _; have HO8 := hid hO8; have HG8 := hid hg8; clear hO8 hg8)
              | (go_at_call 9; (with_reducible refine (sumR_any _ _ _ _ HO8.out.rd (by rw [List.length_append, HIL.out]; have := HXL.out; omega)).mono ?_); rw [HS1.out]; rintro e w9 ⟨rfl, hg9⟩; have HG9 := hid hg9; clear hg9)
              | ((with_reducible refine wpList_alloc_row rfl 24 rfl y32 Tryd.zero24 ?_); intro w10 B10 s10 g10; have HB10 := hid B10; have HG10 := hid g10; have HZ10 := hid s10; clear B10 g10 s10)
              | ((refine wpList_store_all rfl 24 _ _ rfl w9.heap.size y32 S1 24 rfl rfl HB10.out (by rw [HSL.out]; rfl) (by rw [HSL.out]; exact Tryd.size24) HS1o.out ?_); intro w11 B11 g11 s11; have HB11 := hid B11; have HG11 := hid g11; have HZ11 := hid s11; clear B11 g11 s11; have HCm : Hid (C ≤ w9.heap.size) := hid (Nat.le_trans HCs.out (Nat.le_trans HG8.out.size HG9.out.size)); have HBo := hid ((((HB.out.on HG8.out (fun q hq e => HAp.out q e hq)).keep HG9.out).keep HG10.out).on HG11.out (fun q hq e => by have hq' : w9.heap.size = q := Option.some.inj hq; have := (World.ownsRow.lt HB.out q e).2; have := HG8.out.size; have := HG9.out.size; omega)); have HBf0 := hid ((((HBw.out.on HG8.out (fun e => by have := HA.out.block _ e; have := HCn.out; omega)).keep HG9.out).keep HG10.out).on HG11.out (fun e => by have e' : w9.heap.size = b0 := Option.some.inj e; have := HCm.out; have := HCn.out; omega)))
              | (at_builtin; refine wpList_append_rdW rfl _ _ rfl C (fun k => k = w9.heap.size) O (sumL (I ++ x)) HBo.out (HB11.out.rd32 HS1.out (sumL_length _)) (by rw [HOL.out, sumL_length]; decide) (by have := HCm.out; have := HZ10.out; have := HZ11.out; omega) ?_; intro v12 w12 hO12 hg12 _; have HO12 := hid hO12; have HG12 := hid hg12; clear hO12 hg12)
              | (go_at_call 9; (with_reducible refine (sumR_any _ _ _ _ HO12.out.rd (by rw [List.length_append, HOL.out, sumL_length]; decide)).mono ?_); rw [HR.out]; rintro e w13 ⟨rfl, hg13⟩; have HG13 := hid hg13; clear hg13; have HBf := hid ((HBf0.out.on HG12.out (fun e => by have := HBo.out.block _ e; have := HCn.out; omega)).keep HG13.out))
              | (have := HG13; (refine wpList_store_all rfl 24 _ _ rfl b0 y32 R 24 rfl rfl (HBf.out) (by rw [HRL.out]; rfl) (by rw [HRL.out]; exact Tryd.size24) HR1.out ?_); intro w14 B14 g14 s14; have HB14 := hid B14; have HG14 := hid g14; clear B14 g14 s14))
            refine bodyPost_ret (results_blk rfl _ b0 24 R _ rfl HB14.out Tryd.underlying24 rfl (by rw [HRL.out]; exact Tryd.size24)) rfl ?_
            refine ⟨rfl, ?_⟩
            have t8 := HGw.out.andThen HG8.out (fun q hq => .inl (by have := HA.out.block _ hq; have := HCn.out; omega))
            have t11 := (gtrans (gtrans t8 HG9.out) HG10.out).andThen HG11.out (fun q hq => .inl (by have hq' : w9.heap.size = q := Option.some.inj hq; have := HCm.out; have := HCn.out; omega))
            have t12 := t11.andThen HG12.out (fun q hq => .inl (by have := HBo.out.block _ hq; have := HCn.out; omega))
            exact (gtrans t12 HG13.out).andThen HG14.out (fun q hq => .inl (by have hq' : b0 = q := Option.some.inj hq; have := HNB.out; omega))
end Go.Proofs.YtmiojplbcjhggaaDoor
