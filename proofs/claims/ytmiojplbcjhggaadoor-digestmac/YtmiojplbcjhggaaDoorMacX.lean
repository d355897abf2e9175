/- The walk of DigestMac. -/
import Derived.Test.YtmiojplbcjhggaaDoorRefM
import Derived.Test.YtmiojplbcjhggaaDoorRefE
import Derived.Test.YtmiojplbcjhggaaDoorSameB
import Derived.Test.YtmiojplbcjhggaaDoorExA
namespace Go.Proofs.YtmiojplbcjhggaaDoor
open Go Go.RowKit
open Go.RowKit (wrap32 wrap64)

set_option maxRecDepth 100000 in
set_option maxHeartbeats 1600000 in
theorem mac_walk (w : World) (aA aB : Option Addr) (bA oA nA cA bB oB nB cB : Nat) (VA VB : Nat → Value) (LA LB : Nat → List UInt8) (hG : Glob w) (hnA : nA ≤ 140737488355328) (hnB : nB ≤ 140737488355328)
    (hA : RowsB w aA bA oA nA VA LA) (hB : RowsB w aB bB oB nB VB LB) :
    Calls Tryd.prog 5 #[.agg #[.slice aA nA cA, .slice aB nB cB]] w fun e w' => e = .returned (.bool true) ∧ w.grownBy w' none := by
  have HWk : Hid (∀ u, w.grownBy u none → Calls Tryd.prog 15 #[] u fun e w' => e = .returned (.bool true) ∧ u.grownBy w' none) := fun u hu => wakes_any u (hG.keep hu)
  have HA : Hid (∀ u, w.grownBy u none → RowsB u aA bA oA nA VA LA) := fun u hu => hA.on hu
  have HB : Hid (∀ u, w.grownBy u none → RowsB u aB bB oB nB VB LB) := fun u hu => hB.on hu
  have HGl : Hid (∀ u, w.grownBy u none → Glob u) := fun u hu => hG.keep hu
  obtain ⟨W1, hW1⟩ : ∃ x, w.alloc (.cells #[.slice aA nA cA, .slice aB nB cB] 45) = x := ⟨_, rfl⟩
  have hP := heap_new w #[.slice aA nA cA, .slice aB nB cB] 45
  rw [hW1] at hP
  have HP : Hid (∀ u, W1.grownBy u none → u.heap[w.heap.size]? = some (.cells #[.slice aA nA cA, .slice aB nB cB] 45 (0, 0))) := hid (fun u hu => heap_at hu (by simp) hP)
  have HW1 : Hid (w.grownBy W1 none) := hid (by rw [← hW1]; exact galloc _ _ _)
  obtain ⟨S, HS⟩ : ∃ x, Hid (w.heap.size = x) := ⟨_, hid rfl⟩
  obtain ⟨B0, HB0⟩ : ∃ x, Hid (w.heap.size = x) := ⟨_, hid rfl⟩
  rw [HS.out] at HP
  have hs := HS.out
  clear hP hA hB hG
  go_enter Tryd.func5, Tryd.ntmps5
  go_wp2_with fail
  go_loopw [3, 4] (fun sv iv wr => ∃ (s i : Nat), sv = .int .i64 s ∧ iv = .int .i64 i ∧ i ≤ nB ∧ Hid (s ≤ 262144) ∧ Hid (W1.grownBy wr none)) (fun _ iv _ => nB - (intOf iv).toNat)
  case atStart => exact ⟨0, 0, rfl, rfl, Nat.zero_le _, hid (Nat.zero_le _), hid (grefl _ _)⟩
  case round =>
    obtain ⟨s, i, rfl, rfl, hi, HS20, HG⟩ := hrel
    obtain ⟨y0, y1⟩ := cells2 (HP.out wr HG.out)
    by_cases hlt : i < nB
    · have i1 : (i : Int) < (nB : Int) := by omega
      by_cases hkp : 0 < nA
      · have k1 : (0 : Int) < (nA : Int) := by omega
        obtain ⟨rfl, hbA⟩ := (HA.out w (grefl _ _)).1 (by omega)
        obtain ⟨rfl, hbB⟩ := (HB.out w (grefl _ _)).1 (by omega)
        obtain ⟨r, hr⟩ : ∃ r, i % nA = r := ⟨_, rfl⟩
        have hrl : r < nA := by rw [← hr]; exact Nat.mod_lt _ hkp
        have er : (i : Int) % (nA : Int) = (r : Int) := by omega
        have er2 : Int.tmod (i : Int) (nA : Int) = (r : Int) := by rw [Int.tmod_eq_emod_of_nonneg (by omega)]; exact er
        have r1' : (r : Int) < (nA : Int) := by omega
        obtain ⟨-, r1, l1⟩ := (HA.out w (grefl _ _)).2 r hrl
        obtain ⟨-, r2, l2⟩ := (HB.out w (grefl _ _)).2 i hlt
        obtain ⟨a1, b1, o1, q1, e1, -⟩ := r1
        obtain ⟨a2, b2, o2, q2, e2, -⟩ := r2
        obtain ⟨X, HX⟩ : ∃ x, Hid (LA r = x) := ⟨_, hid rfl⟩
        obtain ⟨Z, HZ⟩ : ∃ x, Hid (LB i = x) := ⟨_, hid rfl⟩
        obtain ⟨N1, HN1⟩ : ∃ x, Hid ((LA r).length = x) := ⟨_, hid rfl⟩
        obtain ⟨N2, HN2⟩ : ∃ x, Hid ((LB i).length = x) := ⟨_, hid rfl⟩
        rw [HN1.out] at e1 l1
        rw [HN2.out] at e2 l2
        have HNX : Hid (X.length = N1) := hid (by rw [← HX.out]; exact HN1.out)
        have HNZ : Hid (Z.length = N2) := hid (by rw [← HZ.out]; exact HN2.out)
        have HL1 := hid l1
        have HL2 := hid l2
        clear l1 l2 hbA hbB
        have HC : Hid (∀ u, W1.grownBy u none → u.cell? ⟨S, 0, none⟩ = some (.slice (some ⟨bA, oA, none⟩) nA cA) ∧ u.cell? ⟨S, 1, none⟩ = some (.slice (some ⟨bB, oB, none⟩) nB cB) ∧ u.cell? ⟨bA, oA + r, none⟩ = some (.slice a1 N1 q1) ∧ u.cell? ⟨bB, oB + i, none⟩ = some (.slice a2 N2 q2) ∧ bA < u.heap.size ∧ bB < u.heap.size ∧ S < u.heap.size) := fun u hu => by
          have hwu := gtrans HW1.out hu
          obtain ⟨z0, z1⟩ := cells2 (HP.out u hu)
          exact ⟨z0, z1, by rw [← e1]; exact ((HA.out u hwu).2 r hrl).1, by rw [← e2]; exact ((HB.out u hwu).2 i hlt).1, ((HA.out u hwu).1 (by omega)).2, ((HB.out u hwu).1 (by omega)).2, (Array.getElem?_eq_some_iff.1 (HP.out u hu)).1⟩
        have HR1 : Hid (∀ u, W1.grownBy u none → Rd u (fun k => k < B0) (.slice a1 N1 q1) X) := fun u hu => by
          rw [← HX.out, ← e1, ← HB0.out]
          exact (((HA.out w (grefl _ _)).2 r hrl).2.1.mono (fun k hk _ => hk)).keep (gtrans HW1.out hu)
        have HR2 : Hid (∀ u, W1.grownBy u none → Rd u (fun k => k < B0) (.slice a2 N2 q2) Z) := fun u hu => by
          rw [← HZ.out, ← e2, ← HB0.out]
          exact (((HB.out w (grefl _ _)).2 i hlt).2.1.mono (fun k hk _ => hk)).keep (gtrans HW1.out hu)
        obtain ⟨T, hT⟩ : ∃ x : Int, (s : Int) = x := ⟨_, rfl⟩
        obtain ⟨Y, hY⟩ : ∃ x : Int, (N1 : Int) = x := ⟨_, rfl⟩
        obtain ⟨Y2, hY2⟩ : ∃ x : Int, (N2 : Int) = x := ⟨_, rfl⟩
        have t0 : 0 ≤ T := by omega
        have t1 : T ≤ 262144 := by have := HS20.out; omega
        have w0 : 0 ≤ Y := by omega
        have w1 : Y ≤ 140737488351232 := by have := HL1.out; omega
        have w2 : 0 ≤ Y2 := by omega
        have w3 : Y2 ≤ 140737488351232 := by have := HL2.out; omega
        obtain ⟨y0, y1, y2, y3, y4, y5, y6⟩ := HC.out wr HG.out
        have HER := hid hr
        have HEr := hid er
        clear hr
        go_wp2_with fail
        go_quiet (fail)
        rename_i nq
        obtain ⟨u0, hu0⟩ : ∃ x, wr.drewN nq = x := ⟨_, rfl⟩
        rw [hu0]
        have HU0 : Hid (W1.grownBy u0 none) := hid (by rw [← hu0]; exact gtrans HG.out (gdrew _ _ _))
        clear hu0 y0 y1 y2 y3 y4 y5 y6
        obtain ⟨y0, y1, y2, y3, y4, y5, y6⟩ := HC.out u0 HU0.out
        by_cases hbig : 262144 < s + N1 + N2
        · have hb2 : (262144 : Int) < T + Y + Y2 := by omega
          clear hbig
          go_wp2_with (go_at_call 15; (with_reducible refine (HWk.out _ (gtrans HW1.out HU0.out)).mono ?_); rintro e w9 ⟨rfl, hg9⟩; have HG9 := hid hg9; clear hg9)
          go_ret
          exact ⟨rfl, gtrans (gtrans HW1.out HU0.out) HG9.out⟩
        · have hb2 : ¬ (262144 : Int) < T + Y + Y2 := by omega
          have HBG := hid hbig
          have HN1m : Hid (N1 ≤ 262144) := hid (by omega)
          have HN2m : Hid (N2 ≤ 262144) := hid (by omega)
          clear hbig
          obtain ⟨M, HMe⟩ : ∃ S, Hid (Lib.byteCells (macL X Z) = S) := ⟨_, hid rfl⟩
          have HML : Hid (M.length = 32) := hid (by rw [← HMe.out, byteCells_length, macL_length])
          have HM1 : Hid (∀ v ∈ M, v.oneCell' = true) := hid (by rw [← HMe.out]; exact bcs_one _)
          have HMr : Hid (∀ u, W1.grownBy u none → Calls Tryd.prog 22 #[.slice a1 N1 q1, .slice a2 N2 q2] u fun e w' => e = .returned (.agg M.toArray) ∧ u.grownBy w' none) := fun u hu => by
            rw [← HMe.out]
            exact macR_any u _ _ _ _ X Z (HR1.out u hu) (HR2.out u hu) (by rw [HNX.out]; have := HN1m.out; omega) (by rw [HNZ.out]; have := HN2m.out; omega)
          have HLe : Hid (∀ u, W1.grownBy u none → Calls Tryd.prog 10 #[.slice a1 N1 q1] u fun e w' => ∃ v, e = .returned v ∧ LentW u.heap.size w' v X ∧ u.grownBy w' none) := fun u hu => lendW_any u _ _ _ (HR1.out u hu) (by rw [HNX.out]; exact HL1.out)
          have HLf : Hid (∀ u, W1.grownBy u none → Calls Tryd.prog 10 #[.slice a2 N2 q2] u fun e w' => ∃ v, e = .returned v ∧ LentW u.heap.size w' v Z ∧ u.grownBy w' none) := fun u hu => lendW_any u _ _ _ (HR2.out u hu) (by rw [HNZ.out]; exact HL2.out)
          have HNe : Hid (∀ (x y : Operand) (u : World), (do eqGuard .neq 24 x y (.agg M.toArray) (.agg M.toArray); binOp .neq 24 (.agg M.toArray) (.agg M.toArray) : Sem Value).run Tryd.prog u = .ok (.bool false) u) := fun x y u => by
            rw [← HMe.out, neqG_32]
            exact neq_self _ (macL_length _ _) u
          go_wp2_with (first
            | (go_at_call 22; (with_reducible refine (HMr.out _ HU0.out).mono ?_); rintro e u1 ⟨rfl, hg1⟩; have HU1 := hid (gtrans HU0.out hg1); clear hg1)
            | (refine wpList_alloc_row rfl 24 rfl y32 Tryd.zero24 ?_; intro u2 B2 s2 g2; have HB2 := hid B2; have HU2 := hid (gtrans HU1.out g2); have HS2 := hid s2; clear B2 g2 s2)
            | (refine wpList_store_all rfl 24 _ _ rfl _ y32 M 24 rfl rfl HB2.out (by rw [HML.out]; rfl) (by rw [HML.out]; exact Tryd.size24) HM1.out ?_; intro u3 B3 g3 s3; have HB3 := hid B3; have HU3 := hid (HU2.out.andThen g3 (fun j hj => .inl (by injection hj with hj; have := HU1.out.size; omega))); have HS3 := hid s3; clear B3 g3 s3)
            | (go_at_call 10; (with_reducible refine (HLe.out _ HU3.out).mono ?_); rintro e u4 ⟨v4, rfl, hl4, hg4⟩; have HV4 := hid hl4; have HU4 := hid (gtrans HU3.out hg4); have HB4 := hid (HB3.out.keep hg4); have HS4 := hid hg4.size; clear hl4 hg4)
            | (go_at_call 10; (with_reducible refine (HLf.out _ HU4.out).mono ?_); rintro e u5 ⟨v5, rfl, hl5, hg5⟩; have HV5 := hid hl5; have HU5 := hid (gtrans HU4.out hg5); have HB5 := hid (HB4.out.keep hg5); have HV45 := hid (HV4.out.keep hg5); clear hl5 hg5))
          obtain ⟨bw, hbw⟩ : ∃ x, u1.heap.size = x := ⟨_, rfl⟩
          have HBW1 : Hid (W1.heap.size ≤ bw) := hid (by rw [← hbw]; exact HU1.out.size)
          have HBW0 : Hid (B0 ≤ bw) := hid (by rw [← hbw, ← HB0.out]; exact (gtrans HW1.out HU1.out).size)
          have HBW : Hid (bw < u3.heap.size) := hid (by rw [← hbw]; have := HS2.out; have := HS3.out; omega)
          rw [hbw] at HB5 ⊢
          clear hbw HB4 HB3 HB2 HS2 HS3 HU1 HU2 HMr HLe HLf
          obtain ⟨bx, cx, hve4, hbx, hOx⟩ := HV45.out
          obtain ⟨bz, cz, hve5, hbz, hOz⟩ := HV5.out
          subst hve4
          subst hve5
          have hbx4 : bx < u4.heap.size := by
            obtain ⟨b', c', e', _, hO'⟩ := HV4.out
            injection e' with e1 e2 e3
            injection e1 with e1
            injection e1 with e1
            subst e1
            exact (World.ownsRow.lt hO' bx rfl).2
          rw [HNX.out] at hOx ⊢
          rw [HNZ.out] at hOz ⊢
          have HOx := hid hOx
          have HOz := hid hOz
          have HBX : Hid (bw < bx ∧ B0 ≤ bx ∧ bw < bz ∧ B0 ≤ bz ∧ bx ≠ bz) := hid (by have := HBW.out; have := HBW0.out; have := HS4.out; omega)
          have HVx : Hid (LentW 0 u5 (.slice (some ⟨bx, 0, none⟩) N1 cx) X) := hid ⟨bx, cx, by rw [HNX.out], Nat.zero_le _, by rw [HNX.out]; exact HOx.out⟩
          have HVz : Hid (LentW 0 u5 (.slice (some ⟨bz, 0, none⟩) N2 cz) Z) := hid ⟨bz, cz, by rw [HNZ.out], Nat.zero_le _, by rw [HNZ.out]; exact HOz.out⟩
          clear hbx hOx hbz hOz HV4 HV5 HV45 HU3 HBW hbx4 HU4 HS4
          have HD23 : Hid (∀ u, u5.grownBy u none → Calls Tryd.prog 23 #[.slice (some ⟨bx, 0, none⟩) N1 cx, .slice (some ⟨bz, 0, none⟩) N2 cz] u fun e w' => e = .returned (.agg M.toArray) ∧ u.grownBy w' none) := fun u hu => by
            rw [← HMe.out]
            exact mac_any u _ _ _ _ X Z ((HVx.out.keep hu).lent.rd) ((HVz.out.keep hu).lent.rd) (by rw [HNX.out]; have := HN1m.out; omega) (HGl.out u (gtrans HW1.out (gtrans HU5.out hu))) (by rw [HNZ.out]; have := HN2m.out; omega)
          have HIx : Hid (∀ u, u5.grownBy u none → Calls Tryd.prog 12 #[.slice (some ⟨bx, 0, none⟩) N1 cx, .slice a1 N1 q1] u fun e w' => e = .returned (.bool true) ∧ u.grownBy w' none) := fun u hu => (intact_any u 0 _ _ _ X ((HVx.out.keep hu).lent) (HR1.out u (gtrans HU5.out hu)) (by rw [HNX.out]; exact HL1.out)).mono (fun e w' ⟨he, m, hm⟩ => ⟨he, by rw [hm]; exact gdrew _ _ _⟩)
          have HIz : Hid (∀ u, u5.grownBy u none → Calls Tryd.prog 12 #[.slice (some ⟨bz, 0, none⟩) N2 cz, .slice a2 N2 q2] u fun e w' => e = .returned (.bool true) ∧ u.grownBy w' none) := fun u hu => (intact_any u 0 _ _ _ Z ((HVz.out.keep hu).lent) (HR2.out u (gtrans HU5.out hu)) (by rw [HNZ.out]; exact HL2.out)).mono (fun e w' ⟨he, m, hm⟩ => ⟨he, by rw [hm]; exact gdrew _ _ _⟩)
          have HBq : Hid (∀ u, u5.grownBy u none → Blk u bw M 24) := fun u hu => HB5.out.keep hu
          refine wp_region_quietA (by kernel_rfl) (by kernel_rfl) (fun u => u5.grownBy u none) (gdrew1 u5 none) _ rfl ?_
          intro A hA
          have hA5 : A.eval (.tmp 5) = (.slice a1 N1 q1) := by rw [hA]; rfl
          have hA6 : A.eval (.tmp 6) = (.slice a2 N2 q2) := by rw [hA]; rfl
          have hA7 : A.eval (.tmp 7) = (.pointer (some ⟨bw, 0, none⟩)) := by rw [hA]; rfl
          have hA8 : A.eval (.tmp 8) = (.slice (some ⟨bx, 0, none⟩) N1 cx) := by rw [hA]; rfl
          have hA9 : A.eval (.tmp 9) = (.slice (some ⟨bz, 0, none⟩) N2 cz) := by rw [hA]; rfl
          have hsz : A.tmps.size = 104 := by rw [hA]; rfl
          have HAx := hid hA
          clear hA
          with_reducible refine wpQuiet_one ?gd (.slice (some ⟨bx, 0, none⟩) N1 cx) ?q ?_
          case gd => rfl
          case q =>
            intro u hu
            with_reducible refine quietAt_mv (.tmp 8) (.slice (some ⟨bx, 0, none⟩) N1 cx) ?h0 ?h1
            case h0 => rfl
            case h1 => (repeat with_reducible refine (ev_ne _ _ _ _ (by decide)).trans ?_); with_reducible first | exact hA5 | exact hA6 | exact hA7 | exact hA8 | exact hA9 | exact ev_same _ _ _ (by (repeat with_reducible refine lt_put ?_); rw [hsz]; decide)
          dsimp only
          with_reducible refine wpQuiet_one ?gd (.slice (some ⟨bz, 0, none⟩) N2 cz) ?q ?_
          case gd => rfl
          case q =>
            intro u hu
            with_reducible refine quietAt_mv (.tmp 9) (.slice (some ⟨bz, 0, none⟩) N2 cz) ?h0 ?h1
            case h0 => rfl
            case h1 => (repeat with_reducible refine (ev_ne _ _ _ _ (by decide)).trans ?_); with_reducible first | exact hA5 | exact hA6 | exact hA7 | exact hA8 | exact hA9 | exact ev_same _ _ _ (by (repeat with_reducible refine lt_put ?_); rw [hsz]; decide)
          dsimp only
          with_reducible refine wpQuiet_one ?gd (.agg M.toArray) ?q ?_
          case gd => rfl
          case q =>
            intro u hu
            with_reducible refine quietAt_call 23 Tryd.f23 ?h0 ?h1 ?h2 #[.tmp 55, .tmp 56] #[23, 23] ?h3 (.agg M.toArray) #[(.slice (some ⟨bx, 0, none⟩) N1 cx), (.slice (some ⟨bz, 0, none⟩) N2 cz)] ?h4 ?h5
            case h0 => exact Tryd.func23
            case h1 => kernel_rfl
            case h2 => kernel_rfl
            case h3 => rfl
            case h4 => exact map2 _ _ _ _ _ (by (repeat with_reducible refine (ev_ne _ _ _ _ (by decide)).trans ?_); with_reducible first | exact hA5 | exact hA6 | exact hA7 | exact hA8 | exact hA9 | exact ev_same _ _ _ (by (repeat with_reducible refine lt_put ?_); rw [hsz]; decide)) (by (repeat with_reducible refine (ev_ne _ _ _ _ (by decide)).trans ?_); with_reducible first | exact hA5 | exact hA6 | exact hA7 | exact hA8 | exact hA9 | exact ev_same _ _ _ (by (repeat with_reducible refine lt_put ?_); rw [hsz]; decide))
            case h5 => exact (HD23.out u hu).mono fun e w' h => ⟨h.1, gtrans hu h.2⟩
          dsimp only
          with_reducible refine wpQuiet_one ?gd (.agg M.toArray) ?q ?_
          case gd => rfl
          case q =>
            intro u hu
            with_reducible refine quietAt_load 24 (.tmp 7) ?h0 bw 0 M (.array 32 5) ?h1 ?h2 ?h3 ?h4 ?h5
            case h0 => rfl
            case h1 => (repeat with_reducible refine (ev_ne _ _ _ _ (by decide)).trans ?_); with_reducible first | exact hA5 | exact hA6 | exact hA7 | exact hA8 | exact hA9 | exact ev_same _ _ _ (by (repeat with_reducible refine lt_put ?_); rw [hsz]; decide)
            case h2 => exact (HBq.out u hu).whole
            case h3 => exact Tryd.underlying24
            case h4 => rfl
            case h5 => rw [HML.out]; exact Tryd.size24
          dsimp only
          with_reducible refine wpQuiet_one ?gd (.bool false) ?q ?_
          case gd => rfl
          case q =>
            intro u hu
            with_reducible refine quietAt_bin .neq 24 (.tmp 57) (.tmp 58) 24 (.agg M.toArray) (.agg M.toArray) (.bool false) ?h0 ?h1 ?h2 ?h3
            case h0 => rfl
            case h1 => (repeat with_reducible refine (ev_ne _ _ _ _ (by decide)).trans ?_); with_reducible first | exact hA5 | exact hA6 | exact hA7 | exact hA8 | exact hA9 | exact ev_same _ _ _ (by (repeat with_reducible refine lt_put ?_); rw [hsz]; decide)
            case h2 => (repeat with_reducible refine (ev_ne _ _ _ _ (by decide)).trans ?_); with_reducible first | exact hA5 | exact hA6 | exact hA7 | exact hA8 | exact hA9 | exact ev_same _ _ _ (by (repeat with_reducible refine lt_put ?_); rw [hsz]; decide)
            case h3 => exact HNe.out _ _ u
          dsimp only
          with_reducible refine wpQuiet_one ?gd (.bool false) ?q ?_
          case gd => rfl
          case q =>
            intro u hu
            with_reducible refine quietAt_mv (.tmp 59) (.bool false) ?h0 ?h1
            case h0 => rfl
            case h1 => (repeat with_reducible refine (ev_ne _ _ _ _ (by decide)).trans ?_); with_reducible first | exact hA5 | exact hA6 | exact hA7 | exact hA8 | exact hA9 | exact ev_same _ _ _ (by (repeat with_reducible refine lt_put ?_); rw [hsz]; decide)
          dsimp only
          with_reducible refine wpQuiet_want' 5 false 60 ?gd ?gb ?gv (.slice (some ⟨bx, 0, none⟩) N1 cx) ?q ?_
          case gd => rfl
          case gb => rfl
          case gv => (repeat with_reducible refine (ev_ne _ _ _ _ (by decide)).trans ?_); with_reducible first | exact hA5 | exact hA6 | exact hA7 | exact hA8 | exact hA9 | exact ev_same _ _ _ (by (repeat with_reducible refine lt_put ?_); rw [hsz]; decide)
          case q =>
            intro u hu
            with_reducible refine quietAt_mv (.tmp 8) (.slice (some ⟨bx, 0, none⟩) N1 cx) ?h0 ?h1
            case h0 => rfl
            case h1 => (repeat with_reducible refine (ev_ne _ _ _ _ (by decide)).trans ?_); with_reducible first | exact hA5 | exact hA6 | exact hA7 | exact hA8 | exact hA9 | exact ev_same _ _ _ (by (repeat with_reducible refine lt_put ?_); rw [hsz]; decide)
          dsimp only
          with_reducible refine wpQuiet_want' 5 false 60 ?gd ?gb ?gv (.slice (some ⟨bz, 0, none⟩) N2 cz) ?q ?_
          case gd => rfl
          case gb => rfl
          case gv => (repeat with_reducible refine (ev_ne _ _ _ _ (by decide)).trans ?_); with_reducible first | exact hA5 | exact hA6 | exact hA7 | exact hA8 | exact hA9 | exact ev_same _ _ _ (by (repeat with_reducible refine lt_put ?_); rw [hsz]; decide)
          case q =>
            intro u hu
            with_reducible refine quietAt_mv (.tmp 9) (.slice (some ⟨bz, 0, none⟩) N2 cz) ?h0 ?h1
            case h0 => rfl
            case h1 => (repeat with_reducible refine (ev_ne _ _ _ _ (by decide)).trans ?_); with_reducible first | exact hA5 | exact hA6 | exact hA7 | exact hA8 | exact hA9 | exact ev_same _ _ _ (by (repeat with_reducible refine lt_put ?_); rw [hsz]; decide)
          dsimp only
          with_reducible refine wpQuiet_want' 5 false 60 ?gd ?gb ?gv (.agg M.toArray) ?q ?_
          case gd => rfl
          case gb => rfl
          case gv => (repeat with_reducible refine (ev_ne _ _ _ _ (by decide)).trans ?_); with_reducible first | exact hA5 | exact hA6 | exact hA7 | exact hA8 | exact hA9 | exact ev_same _ _ _ (by (repeat with_reducible refine lt_put ?_); rw [hsz]; decide)
          case q =>
            intro u hu
            with_reducible refine quietAt_call 23 Tryd.f23 ?h0 ?h1 ?h2 #[.tmp 61, .tmp 62] #[23, 23] ?h3 (.agg M.toArray) #[(.slice (some ⟨bx, 0, none⟩) N1 cx), (.slice (some ⟨bz, 0, none⟩) N2 cz)] ?h4 ?h5
            case h0 => exact Tryd.func23
            case h1 => kernel_rfl
            case h2 => kernel_rfl
            case h3 => rfl
            case h4 => exact map2 _ _ _ _ _ (by (repeat with_reducible refine (ev_ne _ _ _ _ (by decide)).trans ?_); with_reducible first | exact hA5 | exact hA6 | exact hA7 | exact hA8 | exact hA9 | exact ev_same _ _ _ (by (repeat with_reducible refine lt_put ?_); rw [hsz]; decide)) (by (repeat with_reducible refine (ev_ne _ _ _ _ (by decide)).trans ?_); with_reducible first | exact hA5 | exact hA6 | exact hA7 | exact hA8 | exact hA9 | exact ev_same _ _ _ (by (repeat with_reducible refine lt_put ?_); rw [hsz]; decide))
            case h5 => exact (HD23.out u hu).mono fun e w' h => ⟨h.1, gtrans hu h.2⟩
          dsimp only
          with_reducible refine wpQuiet_want' 5 false 60 ?gd ?gb ?gv (.agg M.toArray) ?q ?_
          case gd => rfl
          case gb => rfl
          case gv => (repeat with_reducible refine (ev_ne _ _ _ _ (by decide)).trans ?_); with_reducible first | exact hA5 | exact hA6 | exact hA7 | exact hA8 | exact hA9 | exact ev_same _ _ _ (by (repeat with_reducible refine lt_put ?_); rw [hsz]; decide)
          case q =>
            intro u hu
            with_reducible refine quietAt_load 24 (.tmp 7) ?h0 bw 0 M (.array 32 5) ?h1 ?h2 ?h3 ?h4 ?h5
            case h0 => rfl
            case h1 => (repeat with_reducible refine (ev_ne _ _ _ _ (by decide)).trans ?_); with_reducible first | exact hA5 | exact hA6 | exact hA7 | exact hA8 | exact hA9 | exact ev_same _ _ _ (by (repeat with_reducible refine lt_put ?_); rw [hsz]; decide)
            case h2 => exact (HBq.out u hu).whole
            case h3 => exact Tryd.underlying24
            case h4 => rfl
            case h5 => rw [HML.out]; exact Tryd.size24
          dsimp only
          with_reducible refine wpQuiet_want' 5 false 60 ?gd ?gb ?gv (.bool false) ?q ?_
          case gd => rfl
          case gb => rfl
          case gv => (repeat with_reducible refine (ev_ne _ _ _ _ (by decide)).trans ?_); with_reducible first | exact hA5 | exact hA6 | exact hA7 | exact hA8 | exact hA9 | exact ev_same _ _ _ (by (repeat with_reducible refine lt_put ?_); rw [hsz]; decide)
          case q =>
            intro u hu
            with_reducible refine quietAt_bin .neq 24 (.tmp 63) (.tmp 64) 24 (.agg M.toArray) (.agg M.toArray) (.bool false) ?h0 ?h1 ?h2 ?h3
            case h0 => rfl
            case h1 => (repeat with_reducible refine (ev_ne _ _ _ _ (by decide)).trans ?_); with_reducible first | exact hA5 | exact hA6 | exact hA7 | exact hA8 | exact hA9 | exact ev_same _ _ _ (by (repeat with_reducible refine lt_put ?_); rw [hsz]; decide)
            case h2 => (repeat with_reducible refine (ev_ne _ _ _ _ (by decide)).trans ?_); with_reducible first | exact hA5 | exact hA6 | exact hA7 | exact hA8 | exact hA9 | exact ev_same _ _ _ (by (repeat with_reducible refine lt_put ?_); rw [hsz]; decide)
            case h3 => exact HNe.out _ _ u
          dsimp only
          with_reducible refine wpQuiet_one ?gd (.bool false) ?q ?_
          case gd => rfl
          case q =>
            intro u hu
            with_reducible refine quietAt_pick (.tmp 60) (.const (.bool true)) (.tmp 65) false (.bool false) ?h0 ?h1 ?h2
            case h0 => rfl
            case h1 => (repeat with_reducible refine (ev_ne _ _ _ _ (by decide)).trans ?_); with_reducible first | exact hA5 | exact hA6 | exact hA7 | exact hA8 | exact hA9 | exact ev_same _ _ _ (by (repeat with_reducible refine lt_put ?_); rw [hsz]; decide)
            case h2 => rw [if_neg (by decide)]; (repeat with_reducible refine (ev_ne _ _ _ _ (by decide)).trans ?_); with_reducible first | exact hA5 | exact hA6 | exact hA7 | exact hA8 | exact hA9 | exact ev_same _ _ _ (by (repeat with_reducible refine lt_put ?_); rw [hsz]; decide)
          dsimp only
          with_reducible refine wpQuiet_one ?gd (.bool false) ?q ?_
          case gd => rfl
          case q =>
            intro u hu
            with_reducible refine quietAt_mv (.tmp 66) (.bool false) ?h0 ?h1
            case h0 => rfl
            case h1 => (repeat with_reducible refine (ev_ne _ _ _ _ (by decide)).trans ?_); with_reducible first | exact hA5 | exact hA6 | exact hA7 | exact hA8 | exact hA9 | exact ev_same _ _ _ (by (repeat with_reducible refine lt_put ?_); rw [hsz]; decide)
          dsimp only
          with_reducible refine wpQuiet_want' 12 false 67 ?gd ?gb ?gv (.slice (some ⟨bx, 0, none⟩) N1 cx) ?q ?_
          case gd => rfl
          case gb => rfl
          case gv => (repeat with_reducible refine (ev_ne _ _ _ _ (by decide)).trans ?_); with_reducible first | exact hA5 | exact hA6 | exact hA7 | exact hA8 | exact hA9 | exact ev_same _ _ _ (by (repeat with_reducible refine lt_put ?_); rw [hsz]; decide)
          case q =>
            intro u hu
            with_reducible refine quietAt_mv (.tmp 8) (.slice (some ⟨bx, 0, none⟩) N1 cx) ?h0 ?h1
            case h0 => rfl
            case h1 => (repeat with_reducible refine (ev_ne _ _ _ _ (by decide)).trans ?_); with_reducible first | exact hA5 | exact hA6 | exact hA7 | exact hA8 | exact hA9 | exact ev_same _ _ _ (by (repeat with_reducible refine lt_put ?_); rw [hsz]; decide)
          dsimp only
          with_reducible refine wpQuiet_want' 12 false 67 ?gd ?gb ?gv (.slice a1 N1 q1) ?q ?_
          case gd => rfl
          case gb => rfl
          case gv => (repeat with_reducible refine (ev_ne _ _ _ _ (by decide)).trans ?_); with_reducible first | exact hA5 | exact hA6 | exact hA7 | exact hA8 | exact hA9 | exact ev_same _ _ _ (by (repeat with_reducible refine lt_put ?_); rw [hsz]; decide)
          case q =>
            intro u hu
            with_reducible refine quietAt_mv (.tmp 5) (.slice a1 N1 q1) ?h0 ?h1
            case h0 => rfl
            case h1 => (repeat with_reducible refine (ev_ne _ _ _ _ (by decide)).trans ?_); with_reducible first | exact hA5 | exact hA6 | exact hA7 | exact hA8 | exact hA9 | exact ev_same _ _ _ (by (repeat with_reducible refine lt_put ?_); rw [hsz]; decide)
          dsimp only
          with_reducible refine wpQuiet_want' 12 false 67 ?gd ?gb ?gv (.bool true) ?q ?_
          case gd => rfl
          case gb => rfl
          case gv => (repeat with_reducible refine (ev_ne _ _ _ _ (by decide)).trans ?_); with_reducible first | exact hA5 | exact hA6 | exact hA7 | exact hA8 | exact hA9 | exact ev_same _ _ _ (by (repeat with_reducible refine lt_put ?_); rw [hsz]; decide)
          case q =>
            intro u hu
            with_reducible refine quietAt_call 12 Tryd.f12 ?h0 ?h1 ?h2 #[.tmp 68, .tmp 69] #[23, 23] ?h3 (.bool true) #[(.slice (some ⟨bx, 0, none⟩) N1 cx), (.slice a1 N1 q1)] ?h4 ?h5
            case h0 => exact Tryd.func12
            case h1 => kernel_rfl
            case h2 => kernel_rfl
            case h3 => rfl
            case h4 => exact map2 _ _ _ _ _ (by (repeat with_reducible refine (ev_ne _ _ _ _ (by decide)).trans ?_); with_reducible first | exact hA5 | exact hA6 | exact hA7 | exact hA8 | exact hA9 | exact ev_same _ _ _ (by (repeat with_reducible refine lt_put ?_); rw [hsz]; decide)) (by (repeat with_reducible refine (ev_ne _ _ _ _ (by decide)).trans ?_); with_reducible first | exact hA5 | exact hA6 | exact hA7 | exact hA8 | exact hA9 | exact ev_same _ _ _ (by (repeat with_reducible refine lt_put ?_); rw [hsz]; decide))
            case h5 => exact (HIx.out u hu).mono fun e w' h => ⟨h.1, gtrans hu h.2⟩
          dsimp only
          with_reducible refine wpQuiet_want' 12 false 67 ?gd ?gb ?gv (.bool false) ?q ?_
          case gd => rfl
          case gb => rfl
          case gv => (repeat with_reducible refine (ev_ne _ _ _ _ (by decide)).trans ?_); with_reducible first | exact hA5 | exact hA6 | exact hA7 | exact hA8 | exact hA9 | exact ev_same _ _ _ (by (repeat with_reducible refine lt_put ?_); rw [hsz]; decide)
          case q =>
            intro u hu
            with_reducible refine quietAt_un .not 4 (.tmp 70) (.bool true) (.bool false) ?h0 ?h1 ?h2
            case h0 => rfl
            case h1 => (repeat with_reducible refine (ev_ne _ _ _ _ (by decide)).trans ?_); with_reducible first | exact hA5 | exact hA6 | exact hA7 | exact hA8 | exact hA9 | exact ev_same _ _ _ (by (repeat with_reducible refine lt_put ?_); rw [hsz]; decide)
            case h2 => rfl
          dsimp only
          with_reducible refine wpQuiet_one ?gd (.bool false) ?q ?_
          case gd => rfl
          case q =>
            intro u hu
            with_reducible refine quietAt_pick (.tmp 67) (.const (.bool true)) (.tmp 71) false (.bool false) ?h0 ?h1 ?h2
            case h0 => rfl
            case h1 => (repeat with_reducible refine (ev_ne _ _ _ _ (by decide)).trans ?_); with_reducible first | exact hA5 | exact hA6 | exact hA7 | exact hA8 | exact hA9 | exact ev_same _ _ _ (by (repeat with_reducible refine lt_put ?_); rw [hsz]; decide)
            case h2 => rw [if_neg (by decide)]; (repeat with_reducible refine (ev_ne _ _ _ _ (by decide)).trans ?_); with_reducible first | exact hA5 | exact hA6 | exact hA7 | exact hA8 | exact hA9 | exact ev_same _ _ _ (by (repeat with_reducible refine lt_put ?_); rw [hsz]; decide)
          dsimp only
          with_reducible refine wpQuiet_one ?gd (.bool false) ?q ?_
          case gd => rfl
          case q =>
            intro u hu
            with_reducible refine quietAt_mv (.tmp 72) (.bool false) ?h0 ?h1
            case h0 => rfl
            case h1 => (repeat with_reducible refine (ev_ne _ _ _ _ (by decide)).trans ?_); with_reducible first | exact hA5 | exact hA6 | exact hA7 | exact hA8 | exact hA9 | exact ev_same _ _ _ (by (repeat with_reducible refine lt_put ?_); rw [hsz]; decide)
          dsimp only
          with_reducible refine wpQuiet_want' 18 false 73 ?gd ?gb ?gv (.slice (some ⟨bz, 0, none⟩) N2 cz) ?q ?_
          case gd => rfl
          case gb => rfl
          case gv => (repeat with_reducible refine (ev_ne _ _ _ _ (by decide)).trans ?_); with_reducible first | exact hA5 | exact hA6 | exact hA7 | exact hA8 | exact hA9 | exact ev_same _ _ _ (by (repeat with_reducible refine lt_put ?_); rw [hsz]; decide)
          case q =>
            intro u hu
            with_reducible refine quietAt_mv (.tmp 9) (.slice (some ⟨bz, 0, none⟩) N2 cz) ?h0 ?h1
            case h0 => rfl
            case h1 => (repeat with_reducible refine (ev_ne _ _ _ _ (by decide)).trans ?_); with_reducible first | exact hA5 | exact hA6 | exact hA7 | exact hA8 | exact hA9 | exact ev_same _ _ _ (by (repeat with_reducible refine lt_put ?_); rw [hsz]; decide)
          dsimp only
          with_reducible refine wpQuiet_want' 18 false 73 ?gd ?gb ?gv (.slice a2 N2 q2) ?q ?_
          case gd => rfl
          case gb => rfl
          case gv => (repeat with_reducible refine (ev_ne _ _ _ _ (by decide)).trans ?_); with_reducible first | exact hA5 | exact hA6 | exact hA7 | exact hA8 | exact hA9 | exact ev_same _ _ _ (by (repeat with_reducible refine lt_put ?_); rw [hsz]; decide)
          case q =>
            intro u hu
            with_reducible refine quietAt_mv (.tmp 6) (.slice a2 N2 q2) ?h0 ?h1
            case h0 => rfl
            case h1 => (repeat with_reducible refine (ev_ne _ _ _ _ (by decide)).trans ?_); with_reducible first | exact hA5 | exact hA6 | exact hA7 | exact hA8 | exact hA9 | exact ev_same _ _ _ (by (repeat with_reducible refine lt_put ?_); rw [hsz]; decide)
          dsimp only
          with_reducible refine wpQuiet_want' 18 false 73 ?gd ?gb ?gv (.bool true) ?q ?_
          case gd => rfl
          case gb => rfl
          case gv => (repeat with_reducible refine (ev_ne _ _ _ _ (by decide)).trans ?_); with_reducible first | exact hA5 | exact hA6 | exact hA7 | exact hA8 | exact hA9 | exact ev_same _ _ _ (by (repeat with_reducible refine lt_put ?_); rw [hsz]; decide)
          case q =>
            intro u hu
            with_reducible refine quietAt_call 12 Tryd.f12 ?h0 ?h1 ?h2 #[.tmp 74, .tmp 75] #[23, 23] ?h3 (.bool true) #[(.slice (some ⟨bz, 0, none⟩) N2 cz), (.slice a2 N2 q2)] ?h4 ?h5
            case h0 => exact Tryd.func12
            case h1 => kernel_rfl
            case h2 => kernel_rfl
            case h3 => rfl
            case h4 => exact map2 _ _ _ _ _ (by (repeat with_reducible refine (ev_ne _ _ _ _ (by decide)).trans ?_); with_reducible first | exact hA5 | exact hA6 | exact hA7 | exact hA8 | exact hA9 | exact ev_same _ _ _ (by (repeat with_reducible refine lt_put ?_); rw [hsz]; decide)) (by (repeat with_reducible refine (ev_ne _ _ _ _ (by decide)).trans ?_); with_reducible first | exact hA5 | exact hA6 | exact hA7 | exact hA8 | exact hA9 | exact ev_same _ _ _ (by (repeat with_reducible refine lt_put ?_); rw [hsz]; decide))
            case h5 => exact (HIz.out u hu).mono fun e w' h => ⟨h.1, gtrans hu h.2⟩
          dsimp only
          with_reducible refine wpQuiet_want' 18 false 73 ?gd ?gb ?gv (.bool false) ?q ?_
          case gd => rfl
          case gb => rfl
          case gv => (repeat with_reducible refine (ev_ne _ _ _ _ (by decide)).trans ?_); with_reducible first | exact hA5 | exact hA6 | exact hA7 | exact hA8 | exact hA9 | exact ev_same _ _ _ (by (repeat with_reducible refine lt_put ?_); rw [hsz]; decide)
          case q =>
            intro u hu
            with_reducible refine quietAt_un .not 4 (.tmp 76) (.bool true) (.bool false) ?h0 ?h1 ?h2
            case h0 => rfl
            case h1 => (repeat with_reducible refine (ev_ne _ _ _ _ (by decide)).trans ?_); with_reducible first | exact hA5 | exact hA6 | exact hA7 | exact hA8 | exact hA9 | exact ev_same _ _ _ (by (repeat with_reducible refine lt_put ?_); rw [hsz]; decide)
            case h2 => rfl
          dsimp only
          with_reducible refine wpQuiet_one ?gd (.bool false) ?q ?_
          case gd => rfl
          case q =>
            intro u hu
            with_reducible refine quietAt_pick (.tmp 73) (.const (.bool true)) (.tmp 77) false (.bool false) ?h0 ?h1 ?h2
            case h0 => rfl
            case h1 => (repeat with_reducible refine (ev_ne _ _ _ _ (by decide)).trans ?_); with_reducible first | exact hA5 | exact hA6 | exact hA7 | exact hA8 | exact hA9 | exact ev_same _ _ _ (by (repeat with_reducible refine lt_put ?_); rw [hsz]; decide)
            case h2 => rw [if_neg (by decide)]; (repeat with_reducible refine (ev_ne _ _ _ _ (by decide)).trans ?_); with_reducible first | exact hA5 | exact hA6 | exact hA7 | exact hA8 | exact hA9 | exact ev_same _ _ _ (by (repeat with_reducible refine lt_put ?_); rw [hsz]; decide)
          dsimp only
          with_reducible refine wpQuiet_nil ?_
          intro u6 hu6
          rw [HAx.out]
          simp only [Act.put, List.setIfInBounds_toArray, List.set_cons_succ, List.set_cons_zero]
          clear HAx hA5 hA6 hA7 hA8 hA9 hsz HD23 HIx HIz HBq
          have HU6 := hid (gtrans HU5.out hu6)
          have HOx6 := hid (HOx.out.keep hu6)
          have HOz6 := hid (HOz.out.keep hu6)
          clear hu6 HOx HOz HB5 HVx HVz HU5 y0 y1 y2 y3 y4 y5 y6
          have HOt : Hid (∀ u, W1.grownBy u none → Calls Tryd.prog 13 #[.slice a1 N1 q1] u fun e w' => ∃ v, e = .returned v ∧ Hid (∃ l', l'.length = X.length ∧ Out u.heap.size w' v l' ∧ u.grownBy w' none)) := fun u hu => other_any u _ _ X (HR1.out u hu) (by rw [HNX.out]; have := HN1m.out; omega)
          have HOs : Hid (∀ u, W1.grownBy u none → Calls Tryd.prog 13 #[.slice a2 N2 q2] u fun e w' => ∃ v, e = .returned v ∧ Hid (∃ l', l'.length = Z.length ∧ Out u.heap.size w' v l' ∧ u.grownBy w' none)) := fun u hu => other_any u _ _ Z (HR2.out u hu) (by rw [HNZ.out]; have := HN2m.out; omega)
          have HInto : Hid (∀ (u : World) (v : Value) (F : Nat → Prop) (p q : List UInt8) (bb cc NN : Nat), NN ≤ 140737488351232 → p.length = NN → q.length = NN → ¬ F bb → Rd u F v q → Out bb u (.slice (some ⟨bb, 0, none⟩) (NN + 70) cc) (p ++ mkL 70) → Calls Tryd.prog 14 #[.slice (some ⟨bb, 0, none⟩) NN cc, v] u fun e w' => e = .returned (.tuple #[]) ∧ Out bb w' (.slice (some ⟨bb, 0, none⟩) (NN + 70) cc) (q ++ mkL 70) ∧ u.grownBy w' (some bb)) := fun u v F p q bb cc NN hNN hp hq hF hr ho => by
            have h := into_any u 0 bb cc v F p q (Nat.zero_le _) (by rw [hp]; exact ho) hr hF (by rw [hp, hq]) (by rw [hp]; exact hNN)
            rw [hp, hq] at h
            refine h.mono ?_
            rintro e w' ⟨he, ⟨b', c', hv, -, hO⟩, hg⟩
            injection hv with e1 e2 e3
            injection e1 with e1
            injection e1 with e1
            subst e1 e3
            rw [hq] at hO
            exact ⟨he, hO, hg⟩
          have HDm : Hid (∀ (u : World) (p q : List UInt8) (T : List Value), p.length = N1 → q.length = N2 → Lib.byteCells (macL p q) = T → Out bx u (.slice (some ⟨bx, 0, none⟩) (N1 + 70) cx) (p ++ mkL 70) → Out bz u (.slice (some ⟨bz, 0, none⟩) (N2 + 70) cz) (q ++ mkL 70) → W1.grownBy u none → Calls Tryd.prog 23 #[.slice (some ⟨bx, 0, none⟩) N1 cx, .slice (some ⟨bz, 0, none⟩) N2 cz] u fun e w' => e = .returned (.agg T.toArray) ∧ u.grownBy w' none) := fun u p q T hp hq hT ho ho2 hu => by
            have hL : LentW 0 u (.slice (some ⟨bx, 0, none⟩) N1 cx) p := ⟨bx, cx, by rw [hp], Nat.zero_le _, by rw [hp]; exact ho⟩
            have hL2 : LentW 0 u (.slice (some ⟨bz, 0, none⟩) N2 cz) q := ⟨bz, cz, by rw [hq], Nat.zero_le _, by rw [hq]; exact ho2⟩
            rw [← hT]
            exact mac_any u _ _ _ _ p q hL.lent.rd hL2.lent.rd (by rw [hp]; have := HN1m.out; omega) (HGl.out u (gtrans HW1.out hu)) (by rw [hq]; have := HN2m.out; omega)
          have HRm : Hid (∀ (u : World) (v v' : Value) (F G : Nat → Prop) (p q : List UInt8) (T : List Value), p.length = N1 → q.length = N2 → Lib.byteCells (macL p q) = T → Rd u F v p → Rd u G v' q → Calls Tryd.prog 22 #[v, v'] u fun e w' => e = .returned (.agg T.toArray) ∧ u.grownBy w' none) := fun u v v' F G p q T hp hq hT hr hr2 => by
            rw [← hT]
            exact macR_any u v v' F G p q hr hr2 (by rw [hp]; have := HN1m.out; omega) (by rw [hq]; have := HN2m.out; omega)
          have HNs : Hid (∀ (p q : List UInt8) (T : List Value) (x y : Operand) (u : World), Lib.byteCells (macL p q) = T → (do eqGuard .neq 24 x y (.agg T.toArray) (.agg T.toArray); binOp .neq 24 (.agg T.toArray) (.agg T.toArray) : Sem Value).run Tryd.prog u = .ok (.bool false) u) := fun p q T x y u hT => by
            rw [← hT, neqG_32]
            exact neq_self _ (macL_length _ _) u
          have HBx6 : Hid (bx < u6.heap.size ∧ bz < u6.heap.size) := hid ⟨(World.ownsRow.lt HOx6.out bx rfl).2, (World.ownsRow.lt HOz6.out bz rfl).2⟩
          obtain ⟨M6, HM6⟩ : ∃ x, Hid (u6.heap.size = x) := ⟨_, hid rfl⟩
          rw [HM6.out] at HBx6
          go_wp2_with (first
            | (go_at_call 13; (with_reducible refine (HOt.out _ HU6.out).mono ?_); rintro e u7 ⟨v7, rfl, HH7⟩; obtain ⟨l7, hl7, hO7, hg7⟩ := HH7.out; rw [HM6.out] at hO7; have HL7 : Hid (l7.length = N1) := hid (by rw [hl7]; exact HNX.out); have HO7 := hid hO7; have HZ7 : Hid (M6 ≤ u7.heap.size) := hid (by rw [← HM6.out]; exact hg7.size); have HU7 := hid (gtrans HU6.out hg7); have HOx7 := hid (HOx6.out.keep hg7); have HOz7 := hid (HOz6.out.keep hg7); clear hl7 hO7 hg7 HH7; clear HU6 HOx6 HOz6; obtain ⟨S7, HS7⟩ : ∃ S, Hid (Lib.byteCells (macL l7 Z) = S) := ⟨_, hid rfl⟩)
            | (have := HU7; go_at_call 14; (with_reducible refine (HInto.out _ _ (fun g => M6 ≤ g) X l7 bx cx N1 HL1.out HNX.out HL7.out (by have := HBx6.out; omega) HO7.out.rd HOx7.out).mono ?_); rintro e u8 ⟨rfl, hO8, hg8⟩; have HZ8 : Hid (M6 ≤ u8.heap.size) := hid (Nat.le_trans HZ7.out hg8.size); have HOx8 := hid hO8; have HU8 := hid (HU7.out.andThen hg8 (fun j hj => .inl (by injection hj with hj; have := HBX.out; have := HBW1.out; omega))); have HO8 := hid (HO7.out.on hg8 (fun j hj e => by injection hj with hj; have := HO7.out.block _ e; have := HBx6.out; omega)); have HOz8 := hid (HOz7.out.on hg8 (fun j hj e => by injection hj with hj; have e' : bz = j := Option.some.inj e; have := HBX.out; omega)); clear hO8 hg8; clear HOx7 HO7 HU7 HOz7)
            | (have := HU8; go_at_call 23; (with_reducible refine (HDm.out _ l7 Z S7 HL7.out HNZ.out HS7.out HOx8.out HOz8.out HU8.out).mono ?_); rintro e u9 ⟨rfl, hg9⟩; have HZ9 : Hid (M6 ≤ u9.heap.size) := hid (Nat.le_trans HZ8.out hg9.size); have HU9 := hid (gtrans HU8.out hg9); have HOx9 := hid (HOx8.out.keep hg9); have HOz9 := hid (HOz8.out.keep hg9); have HO9 := hid (HO8.out.keep hg9); clear hg9; clear HOx8 HO8 HOz8 HU8)
            | (have := HU9; go_at_call 22; (with_reducible refine (HRm.out _ _ _ _ _ l7 Z S7 HL7.out HNZ.out HS7.out HO9.out.rd (HR2.out _ HU9.out)).mono ?_); rintro e u10 ⟨rfl, hg10⟩; have HM10 : Hid (M6 ≤ u10.heap.size) := hid (Nat.le_trans HZ9.out hg10.size); have HU10 := hid (gtrans HU9.out hg10); have HOx10 := hid (HOx9.out.keep hg10); have HOz10 := hid (HOz9.out.keep hg10); have HO10 := hid (HO9.out.keep hg10); clear hg10; clear HOx9 HO9 HOz9 HU9)
            | (with_reducible refine wpList_bin (by with_unfolding_all rfl) .neq 24 _ _ _ (by with_unfolding_all rfl) _ _ _ (by with_unfolding_all rfl) (by with_unfolding_all rfl) (HNs.out l7 Z S7 _ _ _ HS7.out) ?_)
            | (have := HU10; go_at_call 13; (with_reducible refine (HOs.out _ HU10.out).mono ?_); rintro e u11 ⟨v11, rfl, HH11⟩; obtain ⟨l11, hl11, hO11, hg11⟩ := HH11.out; have HL11 : Hid (l11.length = N2) := hid (by rw [hl11]; exact HNZ.out); have HO11 := hid (hO11.below (C := M6) HM10.out); have HU11 := hid (gtrans HU10.out hg11); have HOx11 := hid (HOx10.out.keep hg11); have HOz11 := hid (HOz10.out.keep hg11); have HO711 := hid (HO10.out.keep hg11); clear hl11 hO11 hg11 HH11; clear HU10 HOx10 HOz10 HO10; obtain ⟨S11, HS11⟩ : ∃ S, Hid (Lib.byteCells (macL l7 l11) = S) := ⟨_, hid rfl⟩)
            | (have := HU11; go_at_call 14; (with_reducible refine (HInto.out _ _ (fun g => M6 ≤ g) Z l11 bz cz N2 HL2.out HNZ.out HL11.out (by have := HBx6.out; omega) HO11.out.rd HOz11.out).mono ?_); rintro e u12 ⟨rfl, hO12, hg12⟩; have HOz12 := hid hO12; have HU12 := hid (HU11.out.andThen hg12 (fun j hj => .inl (by injection hj with hj; have := HBX.out; have := HBW1.out; omega))); have HO12 := hid (HO11.out.on hg12 (fun j hj e => by injection hj with hj; have := HO11.out.block _ e; have := HBx6.out; omega)); have HO712 := hid (HO711.out.on hg12 (fun j hj e => by injection hj with hj; have := HO711.out.block _ e; have := HBx6.out; omega)); have HOx12 := hid (HOx11.out.on hg12 (fun j hj e => by injection hj with hj; have e' : bx = j := Option.some.inj e; have := HBX.out; omega)); clear hO12 hg12; clear HOz11 HO11 HU11 HOx11 HO711)
            | (have := HU12; go_at_call 23; (with_reducible refine (HDm.out _ l7 l11 S11 HL7.out HL11.out HS11.out HOx12.out HOz12.out HU12.out).mono ?_); rintro e u13 ⟨rfl, hg13⟩; have HU13 := hid (gtrans HU12.out hg13); have HO13 := hid (HO12.out.keep hg13); have HO713 := hid (HO712.out.keep hg13); clear hg13; clear HOx12 HO12 HOz12 HU12 HO712)
            | (have := HU13; go_at_call 22; (with_reducible refine (HRm.out _ _ _ _ _ l7 l11 S11 HL7.out HL11.out HS11.out HO713.out.rd HO13.out.rd).mono ?_); rintro e u14 ⟨rfl, hg14⟩; have HU14 := hid (gtrans HU13.out hg14); clear hg14; clear HU13)
            | (with_reducible refine wpList_bin (by with_unfolding_all rfl) .neq 24 _ _ _ (by with_unfolding_all rfl) _ _ _ (by with_unfolding_all rfl) (by with_unfolding_all rfl) (HNs.out l7 l11 S11 _ _ _ HS11.out) ?_))
          go_roundw
          case rel => exact ⟨s + N1 + N2, i + 1, by rw [show ((s + N1 + N2 : Nat) : Int) = T + Y + Y2 by omega], by go_num, by omega, hid (by have := HBG.out; omega), HU14⟩
          case measure => simp [intOf]; omega
      · have hkz : ¬ (0 : Int) < (nA : Int) := by omega
        go_wp2_with (go_at_call 15; (with_reducible refine (HWk.out _ (gtrans HW1.out HG.out)).mono ?_); rintro e w9 ⟨rfl, hg9⟩; have HG9 := hid hg9; clear hg9)
        go_ret
        exact ⟨rfl, gtrans (gtrans HW1.out HG.out) HG9.out⟩
    · have hge : ¬ (i : Int) < (nB : Int) := by omega
      go_wp2_with (go_at_call 15; (with_reducible refine (HWk.out _ (gtrans HW1.out HG.out)).mono ?_); rintro e w9 ⟨rfl, hg9⟩; have HG9 := hid hg9; clear hg9)
      go_ret
      exact ⟨rfl, gtrans (gtrans HW1.out HG.out) HG9.out⟩
end Go.Proofs.YtmiojplbcjhggaaDoor
