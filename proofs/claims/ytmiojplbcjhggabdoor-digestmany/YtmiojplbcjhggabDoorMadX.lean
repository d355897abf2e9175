/- The walk of DigestMade. -/
import Derived.Test.YtmiojplbcjhggabDoorKeyed
namespace Go.Proofs.YtmiojplbcjhggabDoor
open Go Go.RowKit
open Go.RowKit (wrap32 wrap64)

section
variable {P : Program} {ops : Array Oper} {S : World → Prop} {o : Oper} {a : Act}
theorem yieldsIf_mv (hw : Region.wanted o (yielded ops a.tmps) = true) (x : Operand) (ho : o.op = .move x) (v : Value) (hx : a.eval x = v) : YieldsIf P ops S o v a :=
  .inl ⟨hw, fun w _ => by
    unfold execOp
    simp only [ho, hx]
    rfl⟩
theorem yieldsIf_slice0 (hw : Region.wanted o (yielded ops a.tmps) = true) (t : TypeId) (x : Operand) (ho : o.op = .slice t x none none none) (vx v : Value) (hx : a.eval x = vx) (hr : ∀ u : World, (Instr.sliceAt t vx none none none).run P u = .ok v u) : YieldsIf P ops S o v a :=
  .inl ⟨hw, fun w _ => by
    subst hx
    unfold execOp
    simp only [ho, Option.map_none]
    rw [Sem.run_bind, hr]
    rfl⟩
theorem yieldsIf_bin (hw : Region.wanted o (yielded ops a.tmps) = true) (op : BinOp) (t : TypeId) (x y : Operand) (ty : TypeId) (ho : o.op = .binOp op t x y ty) (vx vy v : Value) (hx : a.eval x = vx) (hy : a.eval y = vy) (hr : ∀ u : World, (do eqGuard op t x y vx vy; binOp op t vx vy : Sem Value).run P u = .ok v u) : YieldsIf P ops S o v a :=
  .inl ⟨hw, fun w _ => by
    subst hx hy
    unfold execOp
    simp only [ho]
    rw [Sem.run_bind, hr]
    rfl⟩
theorem yieldsIf_pickf (hw : Region.wanted o (yielded ops a.tmps) = true) (c x y : Operand) (ho : o.op = .pick c x y) (hc : a.eval c = .bool false) (v : Value) (hy : a.eval y = v) : YieldsIf P ops S o v a :=
  .inl ⟨hw, fun w _ => by
    unfold execOp
    simp only [ho, hc, hy]
    rfl⟩
end
theorem kpad_of64 (l : List UInt8) (h : l.length = 64) : kpad l = l := by
  unfold kpad
  rw [h]
  simp
theorem short_of (l : List UInt8) (h : l.length ≤ 64) : short l = l := by
  unfold short
  rw [if_neg (by omega)]
theorem bent_zero (s : List UInt8) : bent s 0 = kpad s := by
  unfold bent
  have : (fun x : UInt8 => x ^^^ 0) = id := funext fun x => by simp
  rw [this, List.map_id]
theorem mac_fill (k t : List UInt8) : macL (bent (short k) 0) t = macL k t := by
  have h := short_length k
  rw [bent_zero]
  have hk : (kpad (short k)).length = 64 := kpad_length _ h
  unfold macL
  rw [short_of (kpad (short k)) (by omega)]
  unfold bent
  rw [kpad_of64 _ hk]
set_option maxRecDepth 100000 in
set_option maxHeartbeats 1600000 in
theorem made_walk (w : World) (aA aB : Option Addr) (bA oA nA cA bB oB nB cB : Nat) (VA VB : Nat → Value) (LA LB : Nat → List UInt8) (hG : Glob w) (hnA : nA ≤ 140737488355328) (hnB : nB ≤ 140737488355328)
    (hA : RowsB w aA bA oA nA VA LA) (hB : RowsB w aB bB oB nB VB LB) :
    Calls Tryd.prog 3 #[.agg #[.slice aA nA cA, .slice aB nB cB]] w fun e w' => e = .returned (.bool true) ∧ w.grownBy w' none := by
  have HWk : Hid (∀ u, w.grownBy u none → Calls Tryd.prog 12 #[] u fun e w' => e = .returned (.bool true) ∧ u.grownBy w' none) := fun u hu => wakes_any u (hG.keep hu)
  have HA : Hid (∀ u, w.grownBy u none → RowsB u aA bA oA nA VA LA) := fun u hu => hA.on hu
  have HB : Hid (∀ u, w.grownBy u none → RowsB u aB bB oB nB VB LB) := fun u hu => hB.on hu
  have HGl : Hid (∀ u, w.grownBy u none → Glob u) := fun u hu => hG.keep hu
  obtain ⟨W1, hW1⟩ : ∃ x, w.alloc (.cells #[.slice aA nA cA, .slice aB nB cB] 24) = x := ⟨_, rfl⟩
  have hP := heap_new w #[.slice aA nA cA, .slice aB nB cB] 24
  rw [hW1] at hP
  have HP : Hid (∀ u, W1.grownBy u none → u.heap[w.heap.size]? = some (.cells #[.slice aA nA cA, .slice aB nB cB] 24 (0, 0))) := hid (fun u hu => heap_at hu (by simp) hP)
  have HW1 : Hid (w.grownBy W1 none) := hid (by rw [← hW1]; exact galloc _ _ _)
  obtain ⟨S, HS⟩ : ∃ x, Hid (w.heap.size = x) := ⟨_, hid rfl⟩
  obtain ⟨B0, HB0⟩ : ∃ x, Hid (w.heap.size = x) := ⟨_, hid rfl⟩
  rw [HS.out] at HP
  have hs := HS.out
  clear hP hA hB hG
  go_enter Tryd.func3, Tryd.ntmps3
  go_wp2_with fail
  go_loopw [3, 4] (fun sv iv wr => ∃ (s i : Nat), sv = .int .i64 s ∧ iv = .int .i64 i ∧ i ≤ nB ∧ Hid (s ≤ 262144) ∧ Hid (W1.grownBy wr none)) (fun _ iv _ => nB - (intOf iv).toNat)
  case atStart => exact ⟨0, 0, rfl, rfl, Nat.zero_le _, hid (Nat.zero_le _), hid (grefl _ _)⟩
  case round =>
    obtain ⟨s, i, rfl, rfl, hi, HS20, HG⟩ := hrel
    obtain ⟨y0, y1⟩ := cells2 (HP.out wr HG.out)
    by_cases hlt : i < nB
    · have i1 : (i : Int) < (nB : Int) := by omega
      by_cases hkp : 0 < nA
      · have k1 : (0 : Int) < (nA : Int) := by omega
        obtain ⟨rfl, hbA⟩ := (HA.out w (grefl _ _)).1 (by omega)
        obtain ⟨rfl, hbB⟩ := (HB.out w (grefl _ _)).1 (by omega)
        obtain ⟨r, hr⟩ : ∃ r, i % nA = r := ⟨_, rfl⟩
        have hrl : r < nA := by rw [← hr]; exact Nat.mod_lt _ hkp
        have er : (i : Int) % (nA : Int) = (r : Int) := by omega
        have er2 : Int.tmod (i : Int) (nA : Int) = (r : Int) := by rw [Int.tmod_eq_emod_of_nonneg (by omega)]; exact er
        have r1' : (r : Int) < (nA : Int) := by omega
        obtain ⟨-, r1, l1⟩ := (HA.out w (grefl _ _)).2 r hrl
        obtain ⟨-, r2, l2⟩ := (HB.out w (grefl _ _)).2 i hlt
        obtain ⟨a1, b1, o1, q1, e1, -⟩ := r1
        obtain ⟨a2, b2, o2, q2, e2, -⟩ := r2
        obtain ⟨X, HX⟩ : ∃ x, Hid (LA r = x) := ⟨_, hid rfl⟩
        obtain ⟨Z, HZ⟩ : ∃ x, Hid (LB i = x) := ⟨_, hid rfl⟩
        obtain ⟨N1, HN1⟩ : ∃ x, Hid ((LA r).length = x) := ⟨_, hid rfl⟩
        obtain ⟨N2, HN2⟩ : ∃ x, Hid ((LB i).length = x) := ⟨_, hid rfl⟩
        rw [HN1.out] at e1 l1
        rw [HN2.out] at e2 l2
        have HNX : Hid (X.length = N1) := hid (by rw [← HX.out]; exact HN1.out)
        have HNZ : Hid (Z.length = N2) := hid (by rw [← HZ.out]; exact HN2.out)
        have HL1 := hid l1
        have HL2 := hid l2
        clear l1 l2 hbA hbB
        have HC : Hid (∀ u, W1.grownBy u none → u.cell? ⟨S, 0, none⟩ = some (.slice (some ⟨bA, oA, none⟩) nA cA) ∧ u.cell? ⟨S, 1, none⟩ = some (.slice (some ⟨bB, oB, none⟩) nB cB) ∧ u.cell? ⟨bA, oA + r, none⟩ = some (.slice a1 N1 q1) ∧ u.cell? ⟨bB, oB + i, none⟩ = some (.slice a2 N2 q2) ∧ bA < u.heap.size ∧ bB < u.heap.size ∧ S < u.heap.size) := fun u hu => by
          have hwu := gtrans HW1.out hu
          obtain ⟨z0, z1⟩ := cells2 (HP.out u hu)
          exact ⟨z0, z1, by rw [← e1]; exact ((HA.out u hwu).2 r hrl).1, by rw [← e2]; exact ((HB.out u hwu).2 i hlt).1, ((HA.out u hwu).1 (by omega)).2, ((HB.out u hwu).1 (by omega)).2, (Array.getElem?_eq_some_iff.1 (HP.out u hu)).1⟩
        have HR1 : Hid (∀ u, W1.grownBy u none → Rd u (fun k => k < B0) (.slice a1 N1 q1) X) := fun u hu => by
          rw [← HX.out, ← e1, ← HB0.out]
          exact (((HA.out w (grefl _ _)).2 r hrl).2.1.mono (fun k hk _ => hk)).keep (gtrans HW1.out hu)
        have HR2 : Hid (∀ u, W1.grownBy u none → Rd u (fun k => k < B0) (.slice a2 N2 q2) Z) := fun u hu => by
          rw [← HZ.out, ← e2, ← HB0.out]
          exact (((HB.out w (grefl _ _)).2 i hlt).2.1.mono (fun k hk _ => hk)).keep (gtrans HW1.out hu)
        obtain ⟨T, hT⟩ : ∃ x : Int, (s : Int) = x := ⟨_, rfl⟩
        obtain ⟨Y, hY⟩ : ∃ x : Int, (N1 : Int) = x := ⟨_, rfl⟩
        obtain ⟨Y2, hY2⟩ : ∃ x : Int, (N2 : Int) = x := ⟨_, rfl⟩
        have t0 : 0 ≤ T := by omega
        have t1 : T ≤ 262144 := by have := HS20.out; omega
        have w0 : 0 ≤ Y := by omega
        have w1 : Y ≤ 140737488351232 := by have := HL1.out; omega
        have w2 : 0 ≤ Y2 := by omega
        have w3 : Y2 ≤ 140737488351232 := by have := HL2.out; omega
        obtain ⟨y0, y1, y2, y3, y4, y5, y6⟩ := HC.out wr HG.out
        have HER := hid hr
        have HEr := hid er
        clear hr
        go_wp2_with fail
        go_quiet (fail)
        rename_i nq
        obtain ⟨u0, hu0⟩ : ∃ x, wr.drewN nq = x := ⟨_, rfl⟩
        rw [hu0]
        have HU0 : Hid (W1.grownBy u0 none) := hid (by rw [← hu0]; exact gtrans HG.out (gdrew _ _ _))
        clear hu0 y0 y1 y2 y3 y4 y5 y6
        obtain ⟨y0, y1, y2, y3, y4, y5, y6⟩ := HC.out u0 HU0.out
        by_cases hbig : 262144 < s + N1 + N2
        · have hb2 : (262144 : Int) < T + Y + Y2 := by omega
          clear hbig
          go_wp2_with (go_at_call 12; (with_reducible refine (HWk.out _ (gtrans HW1.out HU0.out)).mono ?_); rintro e w9 ⟨rfl, hg9⟩; have HG9 := hid hg9; clear hg9)
          go_ret
          exact ⟨rfl, gtrans (gtrans HW1.out HU0.out) HG9.out⟩
        · have hb2 : ¬ (262144 : Int) < T + Y + Y2 := by omega
          have HBG := hid hbig
          have HN1m : Hid (N1 ≤ 262144) := hid (by omega)
          have HN2m : Hid (N2 ≤ 262144) := hid (by omega)
          clear hbig
          obtain ⟨M, HMe⟩ : ∃ S, Hid (Lib.byteCells (macL X Z) = S) := ⟨_, hid rfl⟩
          have HML : Hid (M.length = 32) := hid (by rw [← HMe.out, byteCells_length, macL_length])
          have HM1 : Hid (∀ v ∈ M, v.oneCell' = true) := hid (by rw [← HMe.out]; exact bcs_one _)
          obtain ⟨SK, HSK⟩ : ∃ S, Hid (short X = S) := ⟨_, hid rfl⟩
          have HSKl : Hid (SK.length ≤ 64) := hid (by rw [← HSK.out]; exact short_length X)
          have HCk : Hid (∀ u, W1.grownBy u none → Calls Tryd.prog 8 #[.slice a1 N1 q1] u fun e w' => ∃ v', e = .returned v' ∧ Out u.heap.size w' v' X ∧ u.grownBy w' none) := fun u hu => copyR_any u _ _ X (HR1.out u hu) (by rw [HNX.out]; have := HN1m.out; omega)
          have HCt : Hid (∀ u, W1.grownBy u none → Calls Tryd.prog 8 #[.slice a2 N2 q2] u fun e w' => ∃ v', e = .returned v' ∧ Out u.heap.size w' v' Z ∧ u.grownBy w' none) := fun u hu => copyR_any u _ _ Z (HR2.out u hu) (by rw [HNZ.out]; have := HN2m.out; omega)
          have HMa : Hid (∀ (u : World) (v v' : Value) (B B' : Nat), Out B u v X → Out B' u v' Z → W1.grownBy u none → Calls Tryd.prog 7 #[v, v'] u fun e w' => e = .returned (.agg M.toArray) ∧ u.grownBy w' none) := fun u v v' B B' h1 h2 hu => by
            rw [← HMe.out]
            exact mac_any u v v' _ _ X Z h1.rd h2.rd (by rw [HNX.out]; have := HN1m.out; omega) (HGl.out u (gtrans HW1.out hu)) (by rw [HNZ.out]; have := HN2m.out; omega)
          have HSu : Hid (∀ (u : World) (v : Value) (B : Nat) (l : List UInt8), Out B u v l → l.length ≤ 600000 → W1.grownBy u none → Calls Tryd.prog 9 #[v] u fun e w' => e = .returned (.agg (Lib.byteCells (sumL l)).toArray) ∧ u.grownBy w' none) := fun u v B l h1 h2 hu => dsum_any u v _ l h1.rd (HGl.out u (gtrans HW1.out hu)) (by omega)
          have HNe : Hid (∀ u : World, (binOp .neq 26 (.agg M.toArray) (.agg M.toArray)).run Tryd.prog u = .ok (.bool false) u) := fun u => by
            rw [← HMe.out]
            exact neq_self _ (macL_length _ _) u
          have HWd : Hid (∀ u, W1.grownBy u none → Calls Tryd.prog 11 #[.slice a1 N1 q1, .slice a2 N2 q2] u fun e w' => e = .returned (.bool true) ∧ u.grownBy w' none) := fun u hu => word_any u _ _ _ _ X Z (HR1.out u hu) (HR2.out u hu) (by rw [HNX.out]; exact HN1m.out) (by rw [HNZ.out]; exact HN2m.out) (HGl.out u (gtrans HW1.out hu))
          go_upto_region 10 with (first
            | (have := HT2; clear this; go_at_call 7; (with_reducible refine (HMa.out _ _ _ _ _ HO2k.out HO2.out HT2.out).mono ?_); rintro e c3 ⟨rfl, hg3⟩; have HT3 := hid (gtrans HT2.out hg3); clear hg3)
            | (have := HT1; clear this; go_at_call 8; (with_reducible refine (HCt.out _ HT1.out).mono ?_); rintro e c2 ⟨v2, rfl, hO2, hg2⟩; have HO2 := hid hO2; have HO2k := hid (HO1.out.keep hg2); have HT2 := hid (gtrans HT1.out hg2); clear hO2 hg2)
            | (go_at_call 8; (with_reducible refine (HCk.out _ HU0.out).mono ?_); rintro e c1 ⟨v1, rfl, hO1, hg1⟩; have HO1 := hid hO1; have HT1 := hid (gtrans HU0.out hg1); clear hO1 hg1)
            | (refine wpList_alloc_row rfl 26 rfl y32 Tryd.zero26 ?_; intro c4 B4 s4 g4; have HD4 := hid B4; have HT4 := hid (gtrans HT3.out g4); clear B4 g4 s4)
            | (refine wpList_store_all rfl 26 _ _ rfl c3.heap.size y32 M 26 rfl rfl HD4.out (by rw [HML.out]; rfl) (by rw [HML.out]; exact Tryd.size26) HM1.out ?_; intro c5 B5 g5 s5; have HD5 := hid B5; have HT5 := hid (HT4.out.andThen g5 (fun j hj => .inl (by injection hj with hj; have := HT3.out.size; omega))); clear B5 g5 s5))
          obtain ⟨p7, hp7⟩ : ∃ x, c3.heap.size = x := ⟨_, rfl⟩
          rw [hp7] at HD5 ⊢
          clear hp7 HD4 HT4 HT3 HT2 HT1 HO1 HO2 HO2k HMa y0 y1 y2 y3 y4 y5 y6
          by_cases hbk : 64 < N1
          · have hbk' : (64 : Int) < Y := by omega
            have HSb : Hid (sumL X = SK) := hid (by rw [← HSK.out]; unfold short; rw [if_pos (by rw [HNX.out]; exact hbk)])
            obtain ⟨C0, HC0⟩ : ∃ x, Hid (Lib.byteCells (sumL X) = x) := ⟨_, hid rfl⟩
            have HC0l : Hid (C0.length = 32) := hid (by rw [← HC0.out, byteCells_length, sumL_length])
            have HC01 : Hid (∀ v ∈ C0, v.oneCell' = true) := hid (by rw [← HC0.out]; exact bcs_one _)
            clear hbk
            go_upto_region 14 with (first
              | (have := HT9; clear this; go_at_call 8; (refine (copyR_any _ _ _ (sumL X) (HE9.out.rdn HC0.out (sumL_length _)) (by rw [sumL_length]; decide)).mono ?_); rintro e c10 ⟨v10, rfl, hO10, hg10⟩; have HV := hid (hO10.rd.mono (G := fun _ => True) (fun _ _ _ => trivial)); have HT := hid (gtrans HT9.out hg10); have HD := hid (HD9.out.keep hg10); clear hO10 hg10)
              | (have := HT6; clear this; go_at_call 8; (with_reducible refine (HCk.out _ HT6.out).mono ?_); rintro e c7 ⟨v7, rfl, hO7, hg7⟩; have HO7 := hid hO7; have HT7 := hid (gtrans HT6.out hg7); have HD7 := hid (HD6.out.keep hg7); clear hO7 hg7)
              | (go_at_call 8; (with_reducible refine (HCk.out _ HT5.out).mono ?_); rintro e c6 ⟨v6, rfl, hO6, hg6⟩; have HT6 := hid (gtrans HT5.out hg6); have HD6 := hid (HD5.out.keep hg6); clear hO6 hg6)
              | (go_at_call 9; (with_reducible refine (HSu.out _ _ _ X HO7.out (by rw [HNX.out]; have := HN1m.out; omega) HT7.out).mono ?_); rw [HC0.out]; rintro e c8 ⟨rfl, hg8⟩; have HT8 := hid (gtrans HT7.out hg8); have HD8 := hid (HD7.out.keep hg8); clear hg8)
              | (refine wpList_alloc_row rfl 26 rfl y32 Tryd.zero26 ?_; intro c8a B4 s4 g4; have HE8 := hid B4; have HT8a := hid (gtrans HT8.out g4); have HD8a := hid (HD8.out.keep g4); clear B4 g4 s4)
              | (refine wpList_store_all rfl 26 _ _ rfl c8.heap.size y32 C0 26 rfl rfl HE8.out (by rw [HC0l.out]; rfl) (by rw [HC0l.out]; exact Tryd.size26) HC01.out ?_; intro c9 B5 g5 s5; have HE9 := hid B5; have HT9 := hid (HT8a.out.andThen g5 (fun j hj => .inl (by injection hj with hj; have := HT8.out.size; omega))); have HD9 := hid (HD8a.out.on g5 (fun e => by have e' : c8.heap.size = p7 := Option.some.inj e; have := HD8.out.lt; omega)); clear B5 g5 s5))
            rw [HSb.out] at HV
            clear HT6 HD6 HO7 HT7 HD7 HT8 HD8 HE8 HT8a HD8a HE9 HT9 HD9 HC0 HC0l HC01 HT5 HD5 HSb HCk
            obtain ⟨wd, hwd⟩ : ∃ x, x = c10 := ⟨_, rfl⟩
            subst hwd
            obtain ⟨sv, hsv⟩ : ∃ x, x = v10 := ⟨_, rfl⟩
            subst hsv
            have HF36 : Hid (∀ u, wd.grownBy u none → Calls Tryd.prog 10 #[sv, .int .u8 54] u fun e w' => ∃ v', e = .returned v' ∧ Out u.heap.size w' v' (bent SK 0x36) ∧ u.grownBy w' none) := fun u hu => filled_any u sv _ SK 0x36 (HV.out.keep hu) HSKl.out
            have HF5c : Hid (∀ u, wd.grownBy u none → Calls Tryd.prog 10 #[sv, .int .u8 92] u fun e w' => ∃ v', e = .returned v' ∧ Out u.heap.size w' v' (bent SK 0x5c) ∧ u.grownBy w' none) := fun u hu => filled_any u sv _ SK 0x5c (HV.out.keep hu) HSKl.out
            have HF0 : Hid (∀ u, wd.grownBy u none → Calls Tryd.prog 10 #[sv, .int .u8 0] u fun e w' => ∃ v', e = .returned v' ∧ Out u.heap.size w' v' (bent SK 0) ∧ u.grownBy w' none) := fun u hu => filled_any u sv _ SK 0 (HV.out.keep hu) HSKl.out
            have HBl : Hid (∀ d, (bent SK d).length = 64) := hid (fun d => bent_length SK d HSKl.out)
            obtain ⟨I3, HI3⟩ : ∃ x, Hid (sumL (bent SK 0x36 ++ Z) = x) := ⟨_, hid rfl⟩
            have HI3l : Hid (I3.length = 32) := hid (by rw [← HI3.out]; exact sumL_length _)
            have HMm : Hid (sumL (bent SK 0x5c ++ I3) = macL X Z) := hid (by rw [← HI3.out, ← HSK.out]; rfl)
            obtain ⟨C3, HC3⟩ : ∃ x, Hid (Lib.byteCells I3 = x) := ⟨_, hid rfl⟩
            have HC3l : Hid (C3.length = 32) := hid (by rw [← HC3.out, byteCells_length]; exact HI3l.out)
            have HC31 : Hid (∀ v ∈ C3, v.oneCell' = true) := hid (by rw [← HC3.out]; exact bcs_one _)
            go_upto_region 15 with (first
              | (go_at_call 10; (with_reducible refine (HF36.out _ (grefl _ _)).mono ?_); rintro e d1 ⟨x1, rfl, hO1, hg1⟩; have HO1 := hid hO1; have HG1 := hid hg1; clear hO1 hg1)
              | (refine wpList_append_rdW rfl _ _ rfl wd.heap.size _ (bent SK 0x36) Z HO1.out (HR2.out _ (gtrans HT.out HG1.out)) (by rw [HBl.out, HNZ.out]; have := HN2m.out; omega) HG1.out.size ?_; intro x2 d2 hO2 hg2 _; have HO2 := hid hO2; have HG2 := hid (HG1.out.andThen hg2 (fun j hj => .inl (HO1.out.block j hj))); clear hO2 hg2)
              | (go_at_call 9; (with_reducible refine (HSu.out _ _ _ _ HO2.out (by rw [List.length_append, HBl.out, HNZ.out]; have := HN2m.out; omega) (gtrans HT.out HG2.out)).mono ?_); rw [HI3.out, HC3.out]; rintro e d3 ⟨rfl, hg3⟩; have HG3 := hid (gtrans HG2.out hg3); clear hg3)
              | (refine wpList_alloc_row rfl 26 rfl y32 Tryd.zero26 ?_; intro d4 B4 s4 g4; have HE4 := hid B4; have HG4 := hid (gtrans HG3.out g4); clear B4 g4 s4)
              | (refine wpList_store_all rfl 26 _ _ rfl d3.heap.size y32 C3 26 rfl rfl HE4.out (by rw [HC3l.out]; rfl) (by rw [HC3l.out]; exact Tryd.size26) HC31.out ?_; intro d5 B5 g5 s5; have HE5 := hid B5; have HG5 := hid (HG4.out.andThen g5 (fun j hj => .inl (by injection hj with hj; have := HG3.out.size; omega))); clear B5 g5 s5))
            obtain ⟨p10, hp10⟩ : ∃ x, d3.heap.size = x := ⟨_, rfl⟩
            rw [hp10] at HE5 ⊢
            clear hp10 HO1 HG1 HO2 HG2 HG3 HE4 HG4
            have HSk : Hid (∀ u, d5.grownBy u none → u.rangeAt p7 0 M) := fun u hu => (HD.out.keep (gtrans HG5.out hu)).whole
            have HRd : Hid (∀ u, d5.grownBy u none → Rd u (fun g => g = p10) (.slice (some ⟨p10, 0, none⟩) 32 32) I3) := fun u hu => (HE5.out.keep hu).rdn HC3.out HI3l.out
            have HF5c' : Hid (∀ u, d5.grownBy u none → Calls Tryd.prog 10 #[sv, .int .u8 92] u fun e w' => ∃ v', e = .returned v' ∧ Out d5.heap.size w' v' (bent SK 0x5c) ∧ u.grownBy w' none) := fun u hu => (HF5c.out u (gtrans HG5.out hu)).mono fun e w' ⟨v', he, ho, hg⟩ => ⟨v', he, ho.below hu.size, hg⟩
            have HF0' : Hid (∀ u, d5.grownBy u none → Calls Tryd.prog 10 #[sv, .int .u8 0] u fun e w' => ∃ v', e = .returned v' ∧ Out d5.heap.size w' v' (bent SK 0) ∧ u.grownBy w' none) := fun u hu => (HF0.out u (gtrans HG5.out hu)).mono fun e w' ⟨v', he, ho, hg⟩ => ⟨v', he, ho.below hu.size, hg⟩
            have HCt' : Hid (∀ u, d5.grownBy u none → Calls Tryd.prog 8 #[.slice a2 N2 q2] u fun e w' => ∃ v', e = .returned v' ∧ Out d5.heap.size w' v' Z ∧ u.grownBy w' none) := fun u hu => (HCt.out u (gtrans HT.out (gtrans HG5.out hu))).mono fun e w' ⟨v', he, ho, hg⟩ => ⟨v', he, ho.below hu.size, hg⟩
            have HSu' : Hid (∀ (u : World) (v : Value), d5.grownBy u none → Out d5.heap.size u v (bent SK 0x5c ++ I3) → Calls Tryd.prog 9 #[v] u fun e w' => e = .returned (.agg M.toArray) ∧ u.grownBy w' none) := fun u v hu h => by
              have := HSu.out u v _ _ h (by rw [List.length_append, HBl.out, HI3l.out]; decide) (gtrans HT.out (gtrans HG5.out hu))
              rw [HMm.out, HMe.out] at this
              exact this
            have HMf : Hid (∀ (u : World) (v v' : Value), d5.grownBy u none → Out d5.heap.size u v (bent SK 0) → Out d5.heap.size u v' Z → Calls Tryd.prog 7 #[v, v'] u fun e w' => e = .returned (.agg M.toArray) ∧ u.grownBy w' none) := fun u v v' hu h1 h2 => by
              have := mac_any u v v' _ _ (bent SK 0) Z h1.rd h2.rd (by rw [HBl.out]; decide) (HGl.out u (gtrans HW1.out (gtrans HT.out (gtrans HG5.out hu)))) (by rw [HNZ.out]; have := HN2m.out; omega)
              rw [← HSK.out, mac_fill, HMe.out] at this
              exact this
            have HNeG : Hid (∀ (x y : Operand) (u : World), (do eqGuard .neq 26 x y (.agg M.toArray) (.agg M.toArray); binOp .neq 26 (.agg M.toArray) (.agg M.toArray) : Sem Value).run Tryd.prog u = .ok (.bool false) u) := fun x y u => by
              rw [← HMe.out, neqG_32]
              exact neq_self _ (macL_length _ _) u
            clear HF36 HF5c HF0 HCt HSu HI3 HMm HE5
            refine wp_region_held_drew (S := fun u => u.rangeAt p7 0 M) (by kernel_rfl) ?_ (fun hHeld => ?_)
            · exact HSk.out _ (gdrew1 _ _)
            refine wpAnyH_take (i := 2) (oi := { dst := some 69, op := Op.slice 26 (Operand.tmp 10) none none none, type := 25, pos := "outright.go:64", after := #[], guard := none }) (v := (.slice (some ⟨p10, 0, none⟩) 32 32)) rfl (by kernel_rfl) (by kernel_rfl) (by kernel_rfl) (fun _ _ _ h => h) (yieldsIf_slice0 rfl 26 (.tmp 10) rfl _ _ rfl (arr24 p10)) (by assumption) ?_
            (try simp only [Act.put, List.setIfInBounds_toArray, List.set_cons_zero, List.set_cons_succ])
            refine wpAnyH_take (i := 0) (oi := { dst := some 67, op := Op.move (Operand.tmp 8), type := 25, pos := "outright.go:64", after := #[], guard := none }) (v := sv) rfl (by kernel_rfl) (by kernel_rfl) (by kernel_rfl) (fun _ _ _ h => h) (yieldsIf_mv rfl (.tmp 8) rfl _ rfl) (by assumption) ?_
            (try simp only [Act.put, List.setIfInBounds_toArray, List.set_cons_zero, List.set_cons_succ])
            refine wpAnyH_take (i := 5) (oi := { dst := some 72, op := Op.load 26 (Operand.tmp 7), type := 26, pos := "outright.go:64", after := #[], guard := none }) (v := (.agg M.toArray)) rfl (by kernel_rfl) (by kernel_rfl) (by kernel_rfl) (fun _ _ _ h => h) (yieldsIf_load_mid rfl 26 (.tmp 7) rfl p7 0 rfl M (.array 32 5) (fun _ h => h) Tryd.underlying26 rfl (by rw [HML.out]; exact Tryd.size26)) (by assumption) ?_
            (try simp only [Act.put, List.setIfInBounds_toArray, List.set_cons_zero, List.set_cons_succ])
            refine wpAnyH_ready (rs := [1]) (by kernel_rfl) (by simp) ?_
            refine AllReadyH.cons rfl (fun K hK => ?_) AllReadyH.nil
            go_simp
            go_wp2_with (go_at_call 10; (with_reducible refine (HF5c'.out _ (gdrew1 _ _)).mono ?_); rintro e e1 ⟨x1, rfl, hO1, hg1⟩; have HX1 := hid hO1; have HQ1 := hid (gtrans (gdrew1 d5 none) hg1); clear hO1 hg1)
            refine hK.out _ _ ?_ (fun hHeld => ?_)
            · exact HSk.out _ HQ1.out
            clear hK K
            (try simp only [Act.put, List.setIfInBounds_toArray, List.set_cons_zero, List.set_cons_succ])
            refine wpAnyH_ready (rs := [3]) (by kernel_rfl) (by simp) ?_
            refine AllReadyH.cons rfl (fun K hK => ?_) AllReadyH.nil
            refine step_append_rd rfl (.tmp 68) (.tmp 69) rfl d5.heap.size _ (bent SK 0x5c) I3 HX1.out (HRd.out _ HQ1.out) (by rw [HBl.out, HI3l.out]; decide) HQ1.out.size ?_
            intro x2 e2 hO2 hg2
            have HX2 := hid hO2
            have HQ2 : Hid (d5.grownBy e2 none) := hid (HQ1.out.andThen hg2 (fun j hj => .inl (HX1.out.block j hj)))
            clear hO2 hg2
            refine hK.out _ _ ?_ (fun hHeld => ?_)
            · exact HSk.out _ HQ2.out
            clear hK K
            (try simp only [Act.put, List.setIfInBounds_toArray])
            refine wpAnyH_ready (rs := [4]) (by kernel_rfl) (by simp) ?_
            refine AllReadyH.cons rfl (fun K hK => ?_) AllReadyH.nil
            go_simp
            go_wp2_with (go_at_call 9; (with_reducible refine (HSu'.out _ _ HQ2.out HX2.out).mono ?_); rintro e e3 ⟨rfl, hg3⟩; have HQ3 := hid (gtrans HQ2.out hg3); clear hg3)
            refine hK.out _ _ ?_ (fun hHeld => ?_)
            · exact HSk.out _ HQ3.out
            clear hK K
            (try simp only [Act.put, List.setIfInBounds_toArray, List.set_cons_zero, List.set_cons_succ])
            refine wpAnyH_take (i := 6) (oi := { dst := some 73, op := Op.binOp BinOp.neq 26 (Operand.tmp 71) (Operand.tmp 72) 26, type := 4, pos := "outright.go:64", after := #[{ on := 4, ground := Ground.data }, { on := 5, ground := Ground.data }], guard := none }) (v := (.bool false)) rfl (by kernel_rfl) (by kernel_rfl) (by kernel_rfl) (fun _ _ _ h => h) (yieldsIf_bin rfl .neq 26 (.tmp 71) (.tmp 72) 26 rfl _ _ _ rfl rfl (HNeG.out _ _)) (by assumption) ?_
            (try simp only [Act.put, List.setIfInBounds_toArray, List.set_cons_zero, List.set_cons_succ])
            refine wpAnyH_take (i := 7) (oi := { dst := some 74, op := Op.move (Operand.tmp 73), type := 4, pos := "outright.go:64", after := #[{ on := 6, ground := Ground.data }, { on := 4, ground := Ground.chain }], guard := none }) (v := (.bool false)) rfl (by kernel_rfl) (by kernel_rfl) (by kernel_rfl) (fun _ _ _ h => h) (yieldsIf_mv rfl (.tmp 73) rfl _ rfl) (by assumption) ?_
            (try simp only [Act.put, List.setIfInBounds_toArray, List.set_cons_zero, List.set_cons_succ])
            refine wpAnyH_take (i := 8) (oi := { dst := some 75, op := Op.move (Operand.tmp 8), type := 25, pos := "outright.go:64", after := #[{ on := 7, ground := Ground.guard }], guard := some (7, false) }) (v := sv) rfl (by kernel_rfl) (by kernel_rfl) (by kernel_rfl) (fun _ _ _ h => h) (yieldsIf_mv rfl (.tmp 8) rfl _ rfl) (by assumption) ?_
            (try simp only [Act.put, List.setIfInBounds_toArray, List.set_cons_zero, List.set_cons_succ])
            refine wpAnyH_take (i := 10) (oi := { dst := some 77, op := Op.move (Operand.tmp 6), type := 25, pos := "outright.go:64", after := #[{ on := 7, ground := Ground.guard }], guard := some (7, false) }) (v := (.slice a2 N2 q2)) rfl (by kernel_rfl) (by kernel_rfl) (by kernel_rfl) (fun _ _ _ h => h) (yieldsIf_mv rfl (.tmp 6) rfl _ rfl) (by assumption) ?_
            (try simp only [Act.put, List.setIfInBounds_toArray, List.set_cons_zero, List.set_cons_succ])
            refine wpAnyH_take (i := 13) (oi := { dst := some 80, op := Op.load 26 (Operand.tmp 7), type := 26, pos := "outright.go:64", after := #[{ on := 7, ground := Ground.guard }], guard := some (7, false) }) (v := (.agg M.toArray)) rfl (by kernel_rfl) (by kernel_rfl) (by kernel_rfl) (fun _ _ _ h => h) (yieldsIf_load_mid rfl 26 (.tmp 7) rfl p7 0 rfl M (.array 32 5) (fun _ h => h) Tryd.underlying26 rfl (by rw [HML.out]; exact Tryd.size26)) (by assumption) ?_
            (try simp only [Act.put, List.setIfInBounds_toArray, List.set_cons_zero, List.set_cons_succ])
            refine wpAnyH_ready (rs := [9]) (by kernel_rfl) (by simp) ?_
            refine AllReadyH.cons rfl (fun K hK => ?_) AllReadyH.nil
            go_simp
            go_wp2_with (go_at_call 10; (with_reducible refine (HF0'.out _ HQ3.out).mono ?_); rintro e e4 ⟨x4, rfl, hO4, hg4⟩; have HX4 := hid hO4; have HQ4 := hid (gtrans HQ3.out hg4); clear hO4 hg4)
            refine hK.out _ _ ?_ (fun hHeld => ?_)
            · exact HSk.out _ HQ4.out
            clear hK K
            (try simp only [Act.put, List.setIfInBounds_toArray, List.set_cons_zero, List.set_cons_succ])
            refine wpAnyH_ready (rs := [11]) (by kernel_rfl) (by simp) ?_
            refine AllReadyH.cons rfl (fun K hK => ?_) AllReadyH.nil
            go_simp
            go_wp2_with (go_at_call 8; (with_reducible refine (HCt'.out _ HQ4.out).mono ?_); rintro e e5 ⟨x5, rfl, hO5, hg5⟩; have HX5 := hid hO5; have HQ5 := hid (gtrans HQ4.out hg5); have HX45 := hid (HX4.out.keep hg5); clear hO5 hg5)
            refine hK.out _ _ ?_ (fun hHeld => ?_)
            · exact HSk.out _ HQ5.out
            clear hK K
            (try simp only [Act.put, List.setIfInBounds_toArray, List.set_cons_zero, List.set_cons_succ])
            refine wpAnyH_ready (rs := [12]) (by kernel_rfl) (by simp) ?_
            refine AllReadyH.cons rfl (fun K hK => ?_) AllReadyH.nil
            go_simp
            go_wp2_with (go_at_call 7; (with_reducible refine (HMf.out _ _ _ HQ5.out HX45.out HX5.out).mono ?_); rintro e e6 ⟨rfl, hg6⟩; have HQ6 := hid (gtrans HQ5.out hg6); clear hg6)
            refine hK.out _ _ ?_ (fun hHeld => ?_)
            · exact HSk.out _ HQ6.out
            clear hK K
            (try simp only [Act.put, List.setIfInBounds_toArray, List.set_cons_zero, List.set_cons_succ])
            refine wpAnyH_take (i := 14) (oi := { dst := some 81, op := Op.binOp BinOp.neq 26 (Operand.tmp 79) (Operand.tmp 80) 26, type := 4, pos := "outright.go:64", after := #[{ on := 12, ground := Ground.data }, { on := 13, ground := Ground.data }, { on := 7, ground := Ground.guard }], guard := some (7, false) }) (v := (.bool false)) rfl (by kernel_rfl) (by kernel_rfl) (by kernel_rfl) (fun _ _ _ h => h) (yieldsIf_bin rfl .neq 26 (.tmp 79) (.tmp 80) 26 rfl _ _ _ rfl rfl (HNeG.out _ _)) (by assumption) ?_
            (try simp only [Act.put, List.setIfInBounds_toArray, List.set_cons_zero, List.set_cons_succ])
            refine wpAnyH_take (i := 15) (oi := { dst := some 82, op := Op.pick (Operand.tmp 74) (Operand.const (Value.bool true)) (Operand.tmp 81), type := 4, pos := "outright.go:64", after := #[{ on := 7, ground := Ground.data }, { on := 14, ground := Ground.data }], guard := none }) (v := (.bool false)) rfl (by kernel_rfl) (by kernel_rfl) (by kernel_rfl) (fun _ _ _ h => h) (yieldsIf_pickf rfl (.tmp 74) _ (.tmp 81) rfl rfl _ rfl) (by assumption) ?_
            (try simp only [Act.put, List.setIfInBounds_toArray, List.set_cons_zero, List.set_cons_succ])
            refine wpAnyH_done (by kernel_rfl) ?_ _
            have HQe := hid (gtrans HT.out (gtrans HG5.out HQ6.out))
            go_wp2_with (go_at_call 11; (with_reducible refine (HWd.out _ HQe.out).mono ?_); rintro e e7 ⟨rfl, hg7⟩; have HQ7 := hid (gtrans HQe.out hg7); clear hg7)
            go_roundw
            case rel => exact ⟨s + N1 + N2, i + 1, by rw [show ((s + N1 + N2 : Nat) : Int) = T + Y + Y2 by omega], by go_num, by omega, hid (by have := HBG.out; omega), HQ7⟩
            case measure => simp [intOf]; omega
          · have hbk' : ¬ (64 : Int) < Y := by omega
            have HSb : Hid (X = SK) := hid (by rw [← HSK.out]; unfold short; rw [if_neg (by rw [HNX.out]; exact hbk)])
            clear hbk
            go_upto_region 14 with (go_at_call 8; (with_reducible refine (HCk.out _ HT5.out).mono ?_); rintro e c6 ⟨v6, rfl, hO6, hg6⟩; have HV := hid (hO6.rd.mono (G := fun _ => True) (fun _ _ _ => trivial)); have HT := hid (gtrans HT5.out hg6); have HD := hid (HD5.out.keep hg6); clear hO6 hg6)
            rw [HSb.out] at HV
            clear HT5 HD5 HSb HCk
            obtain ⟨wd, hwd⟩ : ∃ x, x = c6 := ⟨_, rfl⟩
            subst hwd
            obtain ⟨sv, hsv⟩ : ∃ x, x = v6 := ⟨_, rfl⟩
            subst hsv
            have HF36 : Hid (∀ u, wd.grownBy u none → Calls Tryd.prog 10 #[sv, .int .u8 54] u fun e w' => ∃ v', e = .returned v' ∧ Out u.heap.size w' v' (bent SK 0x36) ∧ u.grownBy w' none) := fun u hu => filled_any u sv _ SK 0x36 (HV.out.keep hu) HSKl.out
            have HF5c : Hid (∀ u, wd.grownBy u none → Calls Tryd.prog 10 #[sv, .int .u8 92] u fun e w' => ∃ v', e = .returned v' ∧ Out u.heap.size w' v' (bent SK 0x5c) ∧ u.grownBy w' none) := fun u hu => filled_any u sv _ SK 0x5c (HV.out.keep hu) HSKl.out
            have HF0 : Hid (∀ u, wd.grownBy u none → Calls Tryd.prog 10 #[sv, .int .u8 0] u fun e w' => ∃ v', e = .returned v' ∧ Out u.heap.size w' v' (bent SK 0) ∧ u.grownBy w' none) := fun u hu => filled_any u sv _ SK 0 (HV.out.keep hu) HSKl.out
            have HBl : Hid (∀ d, (bent SK d).length = 64) := hid (fun d => bent_length SK d HSKl.out)
            obtain ⟨I3, HI3⟩ : ∃ x, Hid (sumL (bent SK 0x36 ++ Z) = x) := ⟨_, hid rfl⟩
            have HI3l : Hid (I3.length = 32) := hid (by rw [← HI3.out]; exact sumL_length _)
            have HMm : Hid (sumL (bent SK 0x5c ++ I3) = macL X Z) := hid (by rw [← HI3.out, ← HSK.out]; rfl)
            obtain ⟨C3, HC3⟩ : ∃ x, Hid (Lib.byteCells I3 = x) := ⟨_, hid rfl⟩
            have HC3l : Hid (C3.length = 32) := hid (by rw [← HC3.out, byteCells_length]; exact HI3l.out)
            have HC31 : Hid (∀ v ∈ C3, v.oneCell' = true) := hid (by rw [← HC3.out]; exact bcs_one _)
            go_upto_region 15 with (first
              | (go_at_call 10; (with_reducible refine (HF36.out _ (grefl _ _)).mono ?_); rintro e d1 ⟨x1, rfl, hO1, hg1⟩; have HO1 := hid hO1; have HG1 := hid hg1; clear hO1 hg1)
              | (refine wpList_append_rdW rfl _ _ rfl wd.heap.size _ (bent SK 0x36) Z HO1.out (HR2.out _ (gtrans HT.out HG1.out)) (by rw [HBl.out, HNZ.out]; have := HN2m.out; omega) HG1.out.size ?_; intro x2 d2 hO2 hg2 _; have HO2 := hid hO2; have HG2 := hid (HG1.out.andThen hg2 (fun j hj => .inl (HO1.out.block j hj))); clear hO2 hg2)
              | (go_at_call 9; (with_reducible refine (HSu.out _ _ _ _ HO2.out (by rw [List.length_append, HBl.out, HNZ.out]; have := HN2m.out; omega) (gtrans HT.out HG2.out)).mono ?_); rw [HI3.out, HC3.out]; rintro e d3 ⟨rfl, hg3⟩; have HG3 := hid (gtrans HG2.out hg3); clear hg3)
              | (refine wpList_alloc_row rfl 26 rfl y32 Tryd.zero26 ?_; intro d4 B4 s4 g4; have HE4 := hid B4; have HG4 := hid (gtrans HG3.out g4); clear B4 g4 s4)
              | (refine wpList_store_all rfl 26 _ _ rfl d3.heap.size y32 C3 26 rfl rfl HE4.out (by rw [HC3l.out]; rfl) (by rw [HC3l.out]; exact Tryd.size26) HC31.out ?_; intro d5 B5 g5 s5; have HE5 := hid B5; have HG5 := hid (HG4.out.andThen g5 (fun j hj => .inl (by injection hj with hj; have := HG3.out.size; omega))); clear B5 g5 s5))
            obtain ⟨p10, hp10⟩ : ∃ x, d3.heap.size = x := ⟨_, rfl⟩
            rw [hp10] at HE5 ⊢
            clear hp10 HO1 HG1 HO2 HG2 HG3 HE4 HG4
            have HSk : Hid (∀ u, d5.grownBy u none → u.rangeAt p7 0 M) := fun u hu => (HD.out.keep (gtrans HG5.out hu)).whole
            have HRd : Hid (∀ u, d5.grownBy u none → Rd u (fun g => g = p10) (.slice (some ⟨p10, 0, none⟩) 32 32) I3) := fun u hu => (HE5.out.keep hu).rdn HC3.out HI3l.out
            have HF5c' : Hid (∀ u, d5.grownBy u none → Calls Tryd.prog 10 #[sv, .int .u8 92] u fun e w' => ∃ v', e = .returned v' ∧ Out d5.heap.size w' v' (bent SK 0x5c) ∧ u.grownBy w' none) := fun u hu => (HF5c.out u (gtrans HG5.out hu)).mono fun e w' ⟨v', he, ho, hg⟩ => ⟨v', he, ho.below hu.size, hg⟩
            have HF0' : Hid (∀ u, d5.grownBy u none → Calls Tryd.prog 10 #[sv, .int .u8 0] u fun e w' => ∃ v', e = .returned v' ∧ Out d5.heap.size w' v' (bent SK 0) ∧ u.grownBy w' none) := fun u hu => (HF0.out u (gtrans HG5.out hu)).mono fun e w' ⟨v', he, ho, hg⟩ => ⟨v', he, ho.below hu.size, hg⟩
            have HCt' : Hid (∀ u, d5.grownBy u none → Calls Tryd.prog 8 #[.slice a2 N2 q2] u fun e w' => ∃ v', e = .returned v' ∧ Out d5.heap.size w' v' Z ∧ u.grownBy w' none) := fun u hu => (HCt.out u (gtrans HT.out (gtrans HG5.out hu))).mono fun e w' ⟨v', he, ho, hg⟩ => ⟨v', he, ho.below hu.size, hg⟩
            have HSu' : Hid (∀ (u : World) (v : Value), d5.grownBy u none → Out d5.heap.size u v (bent SK 0x5c ++ I3) → Calls Tryd.prog 9 #[v] u fun e w' => e = .returned (.agg M.toArray) ∧ u.grownBy w' none) := fun u v hu h => by
              have := HSu.out u v _ _ h (by rw [List.length_append, HBl.out, HI3l.out]; decide) (gtrans HT.out (gtrans HG5.out hu))
              rw [HMm.out, HMe.out] at this
              exact this
            have HMf : Hid (∀ (u : World) (v v' : Value), d5.grownBy u none → Out d5.heap.size u v (bent SK 0) → Out d5.heap.size u v' Z → Calls Tryd.prog 7 #[v, v'] u fun e w' => e = .returned (.agg M.toArray) ∧ u.grownBy w' none) := fun u v v' hu h1 h2 => by
              have := mac_any u v v' _ _ (bent SK 0) Z h1.rd h2.rd (by rw [HBl.out]; decide) (HGl.out u (gtrans HW1.out (gtrans HT.out (gtrans HG5.out hu)))) (by rw [HNZ.out]; have := HN2m.out; omega)
              rw [← HSK.out, mac_fill, HMe.out] at this
              exact this
            have HNeG : Hid (∀ (x y : Operand) (u : World), (do eqGuard .neq 26 x y (.agg M.toArray) (.agg M.toArray); binOp .neq 26 (.agg M.toArray) (.agg M.toArray) : Sem Value).run Tryd.prog u = .ok (.bool false) u) := fun x y u => by
              rw [← HMe.out, neqG_32]
              exact neq_self _ (macL_length _ _) u
            clear HF36 HF5c HF0 HCt HSu HI3 HMm HE5
            refine wp_region_held_drew (S := fun u => u.rangeAt p7 0 M) (by kernel_rfl) ?_ (fun hHeld => ?_)
            · exact HSk.out _ (gdrew1 _ _)
            refine wpAnyH_take (i := 2) (oi := { dst := some 69, op := Op.slice 26 (Operand.tmp 10) none none none, type := 25, pos := "outright.go:64", after := #[], guard := none }) (v := (.slice (some ⟨p10, 0, none⟩) 32 32)) rfl (by kernel_rfl) (by kernel_rfl) (by kernel_rfl) (fun _ _ _ h => h) (yieldsIf_slice0 rfl 26 (.tmp 10) rfl _ _ rfl (arr24 p10)) (by assumption) ?_
            (try simp only [Act.put, List.setIfInBounds_toArray, List.set_cons_zero, List.set_cons_succ])
            refine wpAnyH_take (i := 0) (oi := { dst := some 67, op := Op.move (Operand.tmp 8), type := 25, pos := "outright.go:64", after := #[], guard := none }) (v := sv) rfl (by kernel_rfl) (by kernel_rfl) (by kernel_rfl) (fun _ _ _ h => h) (yieldsIf_mv rfl (.tmp 8) rfl _ rfl) (by assumption) ?_
            (try simp only [Act.put, List.setIfInBounds_toArray, List.set_cons_zero, List.set_cons_succ])
            refine wpAnyH_take (i := 5) (oi := { dst := some 72, op := Op.load 26 (Operand.tmp 7), type := 26, pos := "outright.go:64", after := #[], guard := none }) (v := (.agg M.toArray)) rfl (by kernel_rfl) (by kernel_rfl) (by kernel_rfl) (fun _ _ _ h => h) (yieldsIf_load_mid rfl 26 (.tmp 7) rfl p7 0 rfl M (.array 32 5) (fun _ h => h) Tryd.underlying26 rfl (by rw [HML.out]; exact Tryd.size26)) (by assumption) ?_
            (try simp only [Act.put, List.setIfInBounds_toArray, List.set_cons_zero, List.set_cons_succ])
            refine wpAnyH_ready (rs := [1]) (by kernel_rfl) (by simp) ?_
            refine AllReadyH.cons rfl (fun K hK => ?_) AllReadyH.nil
            go_simp
            go_wp2_with (go_at_call 10; (with_reducible refine (HF5c'.out _ (gdrew1 _ _)).mono ?_); rintro e e1 ⟨x1, rfl, hO1, hg1⟩; have HX1 := hid hO1; have HQ1 := hid (gtrans (gdrew1 d5 none) hg1); clear hO1 hg1)
            refine hK.out _ _ ?_ (fun hHeld => ?_)
            · exact HSk.out _ HQ1.out
            clear hK K
            (try simp only [Act.put, List.setIfInBounds_toArray, List.set_cons_zero, List.set_cons_succ])
            refine wpAnyH_ready (rs := [3]) (by kernel_rfl) (by simp) ?_
            refine AllReadyH.cons rfl (fun K hK => ?_) AllReadyH.nil
            refine step_append_rd rfl (.tmp 68) (.tmp 69) rfl d5.heap.size _ (bent SK 0x5c) I3 HX1.out (HRd.out _ HQ1.out) (by rw [HBl.out, HI3l.out]; decide) HQ1.out.size ?_
            intro x2 e2 hO2 hg2
            have HX2 := hid hO2
            have HQ2 : Hid (d5.grownBy e2 none) := hid (HQ1.out.andThen hg2 (fun j hj => .inl (HX1.out.block j hj)))
            clear hO2 hg2
            refine hK.out _ _ ?_ (fun hHeld => ?_)
            · exact HSk.out _ HQ2.out
            clear hK K
            (try simp only [Act.put, List.setIfInBounds_toArray])
            refine wpAnyH_ready (rs := [4]) (by kernel_rfl) (by simp) ?_
            refine AllReadyH.cons rfl (fun K hK => ?_) AllReadyH.nil
            go_simp
            go_wp2_with (go_at_call 9; (with_reducible refine (HSu'.out _ _ HQ2.out HX2.out).mono ?_); rintro e e3 ⟨rfl, hg3⟩; have HQ3 := hid (gtrans HQ2.out hg3); clear hg3)
            refine hK.out _ _ ?_ (fun hHeld => ?_)
            · exact HSk.out _ HQ3.out
            clear hK K
            (try simp only [Act.put, List.setIfInBounds_toArray, List.set_cons_zero, List.set_cons_succ])
            refine wpAnyH_take (i := 6) (oi := { dst := some 73, op := Op.binOp BinOp.neq 26 (Operand.tmp 71) (Operand.tmp 72) 26, type := 4, pos := "outright.go:64", after := #[{ on := 4, ground := Ground.data }, { on := 5, ground := Ground.data }], guard := none }) (v := (.bool false)) rfl (by kernel_rfl) (by kernel_rfl) (by kernel_rfl) (fun _ _ _ h => h) (yieldsIf_bin rfl .neq 26 (.tmp 71) (.tmp 72) 26 rfl _ _ _ rfl rfl (HNeG.out _ _)) (by assumption) ?_
            (try simp only [Act.put, List.setIfInBounds_toArray, List.set_cons_zero, List.set_cons_succ])
            refine wpAnyH_take (i := 7) (oi := { dst := some 74, op := Op.move (Operand.tmp 73), type := 4, pos := "outright.go:64", after := #[{ on := 6, ground := Ground.data }, { on := 4, ground := Ground.chain }], guard := none }) (v := (.bool false)) rfl (by kernel_rfl) (by kernel_rfl) (by kernel_rfl) (fun _ _ _ h => h) (yieldsIf_mv rfl (.tmp 73) rfl _ rfl) (by assumption) ?_
            (try simp only [Act.put, List.setIfInBounds_toArray, List.set_cons_zero, List.set_cons_succ])
            refine wpAnyH_take (i := 8) (oi := { dst := some 75, op := Op.move (Operand.tmp 8), type := 25, pos := "outright.go:64", after := #[{ on := 7, ground := Ground.guard }], guard := some (7, false) }) (v := sv) rfl (by kernel_rfl) (by kernel_rfl) (by kernel_rfl) (fun _ _ _ h => h) (yieldsIf_mv rfl (.tmp 8) rfl _ rfl) (by assumption) ?_
            (try simp only [Act.put, List.setIfInBounds_toArray, List.set_cons_zero, List.set_cons_succ])
            refine wpAnyH_take (i := 10) (oi := { dst := some 77, op := Op.move (Operand.tmp 6), type := 25, pos := "outright.go:64", after := #[{ on := 7, ground := Ground.guard }], guard := some (7, false) }) (v := (.slice a2 N2 q2)) rfl (by kernel_rfl) (by kernel_rfl) (by kernel_rfl) (fun _ _ _ h => h) (yieldsIf_mv rfl (.tmp 6) rfl _ rfl) (by assumption) ?_
            (try simp only [Act.put, List.setIfInBounds_toArray, List.set_cons_zero, List.set_cons_succ])
            refine wpAnyH_take (i := 13) (oi := { dst := some 80, op := Op.load 26 (Operand.tmp 7), type := 26, pos := "outright.go:64", after := #[{ on := 7, ground := Ground.guard }], guard := some (7, false) }) (v := (.agg M.toArray)) rfl (by kernel_rfl) (by kernel_rfl) (by kernel_rfl) (fun _ _ _ h => h) (yieldsIf_load_mid rfl 26 (.tmp 7) rfl p7 0 rfl M (.array 32 5) (fun _ h => h) Tryd.underlying26 rfl (by rw [HML.out]; exact Tryd.size26)) (by assumption) ?_
            (try simp only [Act.put, List.setIfInBounds_toArray, List.set_cons_zero, List.set_cons_succ])
            refine wpAnyH_ready (rs := [9]) (by kernel_rfl) (by simp) ?_
            refine AllReadyH.cons rfl (fun K hK => ?_) AllReadyH.nil
            go_simp
            go_wp2_with (go_at_call 10; (with_reducible refine (HF0'.out _ HQ3.out).mono ?_); rintro e e4 ⟨x4, rfl, hO4, hg4⟩; have HX4 := hid hO4; have HQ4 := hid (gtrans HQ3.out hg4); clear hO4 hg4)
            refine hK.out _ _ ?_ (fun hHeld => ?_)
            · exact HSk.out _ HQ4.out
            clear hK K
            (try simp only [Act.put, List.setIfInBounds_toArray, List.set_cons_zero, List.set_cons_succ])
            refine wpAnyH_ready (rs := [11]) (by kernel_rfl) (by simp) ?_
            refine AllReadyH.cons rfl (fun K hK => ?_) AllReadyH.nil
            go_simp
            go_wp2_with (go_at_call 8; (with_reducible refine (HCt'.out _ HQ4.out).mono ?_); rintro e e5 ⟨x5, rfl, hO5, hg5⟩; have HX5 := hid hO5; have HQ5 := hid (gtrans HQ4.out hg5); have HX45 := hid (HX4.out.keep hg5); clear hO5 hg5)
            refine hK.out _ _ ?_ (fun hHeld => ?_)
            · exact HSk.out _ HQ5.out
            clear hK K
            (try simp only [Act.put, List.setIfInBounds_toArray, List.set_cons_zero, List.set_cons_succ])
            refine wpAnyH_ready (rs := [12]) (by kernel_rfl) (by simp) ?_
            refine AllReadyH.cons rfl (fun K hK => ?_) AllReadyH.nil
            go_simp
            go_wp2_with (go_at_call 7; (with_reducible refine (HMf.out _ _ _ HQ5.out HX45.out HX5.out).mono ?_); rintro e e6 ⟨rfl, hg6⟩; have HQ6 := hid (gtrans HQ5.out hg6); clear hg6)
            refine hK.out _ _ ?_ (fun hHeld => ?_)
            · exact HSk.out _ HQ6.out
            clear hK K
            (try simp only [Act.put, List.setIfInBounds_toArray, List.set_cons_zero, List.set_cons_succ])
            refine wpAnyH_take (i := 14) (oi := { dst := some 81, op := Op.binOp BinOp.neq 26 (Operand.tmp 79) (Operand.tmp 80) 26, type := 4, pos := "outright.go:64", after := #[{ on := 12, ground := Ground.data }, { on := 13, ground := Ground.data }, { on := 7, ground := Ground.guard }], guard := some (7, false) }) (v := (.bool false)) rfl (by kernel_rfl) (by kernel_rfl) (by kernel_rfl) (fun _ _ _ h => h) (yieldsIf_bin rfl .neq 26 (.tmp 79) (.tmp 80) 26 rfl _ _ _ rfl rfl (HNeG.out _ _)) (by assumption) ?_
            (try simp only [Act.put, List.setIfInBounds_toArray, List.set_cons_zero, List.set_cons_succ])
            refine wpAnyH_take (i := 15) (oi := { dst := some 82, op := Op.pick (Operand.tmp 74) (Operand.const (Value.bool true)) (Operand.tmp 81), type := 4, pos := "outright.go:64", after := #[{ on := 7, ground := Ground.data }, { on := 14, ground := Ground.data }], guard := none }) (v := (.bool false)) rfl (by kernel_rfl) (by kernel_rfl) (by kernel_rfl) (fun _ _ _ h => h) (yieldsIf_pickf rfl (.tmp 74) _ (.tmp 81) rfl rfl _ rfl) (by assumption) ?_
            (try simp only [Act.put, List.setIfInBounds_toArray, List.set_cons_zero, List.set_cons_succ])
            refine wpAnyH_done (by kernel_rfl) ?_ _
            have HQe := hid (gtrans HT.out (gtrans HG5.out HQ6.out))
            go_wp2_with (go_at_call 11; (with_reducible refine (HWd.out _ HQe.out).mono ?_); rintro e e7 ⟨rfl, hg7⟩; have HQ7 := hid (gtrans HQe.out hg7); clear hg7)
            go_roundw
            case rel => exact ⟨s + N1 + N2, i + 1, by rw [show ((s + N1 + N2 : Nat) : Int) = T + Y + Y2 by omega], by go_num, by omega, hid (by have := HBG.out; omega), HQ7⟩
            case measure => simp [intOf]; omega
      · have hkz : ¬ (0 : Int) < (nA : Int) := by omega
        go_wp2_with (go_at_call 12; (with_reducible refine (HWk.out _ (gtrans HW1.out HG.out)).mono ?_); rintro e w9 ⟨rfl, hg9⟩; have HG9 := hid hg9; clear hg9)
        go_ret
        exact ⟨rfl, gtrans (gtrans HW1.out HG.out) HG9.out⟩
    · have hge : ¬ (i : Int) < (nB : Int) := by omega
      go_wp2_with (go_at_call 12; (with_reducible refine (HWk.out _ (gtrans HW1.out HG.out)).mono ?_); rintro e w9 ⟨rfl, hg9⟩; have HG9 := hid hg9; clear hg9)
      go_ret
      exact ⟨rfl, gtrans (gtrans HW1.out HG.out) HG9.out⟩
end Go.Proofs.YtmiojplbcjhggabDoor
