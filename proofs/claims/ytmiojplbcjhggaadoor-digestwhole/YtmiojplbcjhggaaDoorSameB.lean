/- The walk of DigestSame. -/
import Derived.Test.YtmiojplbcjhggaaDoorSameA
namespace Go.Proofs.YtmiojplbcjhggaaDoor
open Go Go.RowKit
open Go.RowKit (wrap32 wrap64)

/-- A row of rows of bytes, as the walk reads it. -/
def RowsB (W : World) (a : Option Addr) (b o n : Nat) (V : Nat → Value) (L : Nat → List UInt8) : Prop :=
  (0 < n → a = some ⟨b, o, none⟩ ∧ b < W.heap.size) ∧ ∀ i, i < n → W.cell? ⟨b, o + i, none⟩ = some (V i) ∧ Rd W (fun _ => True) (V i) (L i) ∧ (L i).length ≤ 140737488351232
theorem RowsB.on {W u : World} {a : Option Addr} {b o n : Nat} {V : Nat → Value} {L : Nat → List UInt8} (h : RowsB W a b o n V L) (hg : W.grownBy u none) : RowsB u a b o n V L :=
  ⟨fun h0 => ⟨(h.1 h0).1, Nat.lt_of_lt_of_le (h.1 h0).2 hg.size⟩, fun i hi => by
    have hb := (h.1 (by omega)).2
    obtain ⟨c0, r1, l1⟩ := h.2 i hi
    exact ⟨(cell_at hg hb (by simp)).trans c0, r1.keep hg, l1⟩⟩
theorem cells2 {w : World} {k : Nat} {a b : Value} {t : TypeId} (h : w.heap[k]? = some (.cells #[a, b] t (0, 0))) : w.cell? ⟨k, 0, none⟩ = some a ∧ w.cell? ⟨k, 1, none⟩ = some b :=
  ⟨by simp [World.cell?, h], by simp [World.cell?, h]⟩
theorem Lent.lt {B : Nat} {w : World} {v : Value} {l : List UInt8} (h : Lent B w v l) : ∃ a c, v = .slice a l.length c := by
  obtain ⟨b, c, rfl, _⟩ := h
  exact ⟨_, _, rfl⟩

set_option maxRecDepth 100000 in
set_option maxHeartbeats 1000000 in
theorem same_walk (w : World) (aA aB : Option Addr) (bA oA nA cA bB oB nB cB : Nat) (VA VB : Nat → Value) (LA LB : Nat → List UInt8) (hG : Glob w) (hnA : nA ≤ 140737488355328) (hnB : nB ≤ 140737488355328)
    (hA : RowsB w aA bA oA nA VA LA) (hB : RowsB w aB bB oB nB VB LB) :
    Calls Tryd.prog 6 #[.agg #[.slice aA nA cA, .slice aB nB cB]] w fun e w' => e = .returned (.bool true) ∧ w.grownBy w' none := by
  have HWk : Hid (∀ u, w.grownBy u none → Calls Tryd.prog 15 #[] u fun e w' => e = .returned (.bool true) ∧ u.grownBy w' none) := fun u hu => wakes_any u (hG.keep hu)
  have HA : Hid (∀ u, w.grownBy u none → RowsB u aA bA oA nA VA LA) := fun u hu => hA.on hu
  have HB : Hid (∀ u, w.grownBy u none → RowsB u aB bB oB nB VB LB) := fun u hu => hB.on hu
  obtain ⟨W1, hW1⟩ : ∃ x, w.alloc (.cells #[.slice aA nA cA, .slice aB nB cB] 49) = x := ⟨_, rfl⟩
  have hP := heap_new w #[.slice aA nA cA, .slice aB nB cB] 49
  rw [hW1] at hP
  have HP : Hid (∀ u, W1.grownBy u none → u.heap[w.heap.size]? = some (.cells #[.slice aA nA cA, .slice aB nB cB] 49 (0, 0))) := hid (fun u hu => heap_at hu (by simp) hP)
  have HW1 : Hid (w.grownBy W1 none) := hid (by rw [← hW1]; exact galloc _ _ _)
  obtain ⟨S, HS⟩ : ∃ x, Hid (w.heap.size = x) := ⟨_, hid rfl⟩
  rw [HS.out] at HP
  have hs := HS.out
  clear hP hA hB hG
  go_enter Tryd.func6, Tryd.ntmps6
  go_wp2_with fail
  go_loopw [3, 4] (fun sv iv wr => ∃ (s i : Nat), sv = .int .i64 s ∧ iv = .int .i64 i ∧ i ≤ nA ∧ s ≤ 1048576 ∧ Hid (W1.grownBy wr none)) (fun _ iv _ => nA - (intOf iv).toNat)
  case atStart => exact ⟨0, 0, rfl, rfl, Nat.zero_le _, Nat.zero_le _, grefl _ _⟩
  case round =>
    obtain ⟨s, i, rfl, rfl, hi, hs20, HG⟩ := hrel
    obtain ⟨y0, y1⟩ := cells2 (HP.out wr HG.out)
    by_cases hlt : i < nA
    · have i1 : (i : Int) < (nA : Int) := by omega
      obtain ⟨rfl, hbA⟩ := (HA.out w (grefl _ _)).1 (by omega)
      obtain ⟨-, r1, l1⟩ := (HA.out w (grefl _ _)).2 i hlt
      obtain ⟨a1, b1, o1, q1, e1, -⟩ := r1
      obtain ⟨N1, HN1⟩ : ∃ x, Hid ((LA i).length = x) := ⟨_, hid rfl⟩
      rw [HN1.out] at e1 l1
      have HL1 := hid l1
      have HS20 := hid hs20
      clear l1 hs20
      go_wp2_with fail
      obtain ⟨wo, hwo⟩ : ∃ x, x = wr := ⟨_, rfl⟩
      subst hwo
      go_loopw [3, 5] (fun sv kv wq => ∃ (t k : Nat), sv = .int .i64 t ∧ kv = .int .i64 k ∧ k ≤ nB ∧ Hid (t ≤ 1048576) ∧ Hid (W1.grownBy wq none)) (fun _ kv _ => nB - (intOf kv).toNat)
      case atStart => exact ⟨s, 0, rfl, rfl, Nat.zero_le _, HS20, HG⟩
      case round =>
        clear HG y0 y1
        obtain ⟨t, k, rfl, rfl, hk, HT, HG⟩ := hrel
        by_cases hkt : k < nB
        · obtain ⟨rfl, hbB⟩ := (HB.out w (grefl _ _)).1 (by omega)
          obtain ⟨-, r2, l2⟩ := (HB.out w (grefl _ _)).2 k hkt
          obtain ⟨a2, b2, o2, q2, e2, -⟩ := r2
          obtain ⟨N2, HN2⟩ : ∃ x, Hid ((LB k).length = x) := ⟨_, hid rfl⟩
          rw [HN2.out] at e2 l2
          have HL2 := hid l2
          clear l2
          have k1 : (k : Int) < (nB : Int) := by omega
          have HC : Hid (∀ u, W1.grownBy u none → u.cell? ⟨S, 0, none⟩ = some (.slice (some ⟨bA, oA, none⟩) nA cA) ∧ u.cell? ⟨S, 1, none⟩ = some (.slice (some ⟨bB, oB, none⟩) nB cB) ∧ u.cell? ⟨bA, oA + i, none⟩ = some (.slice a1 N1 q1) ∧ u.cell? ⟨bB, oB + k, none⟩ = some (.slice a2 N2 q2) ∧ bA < u.heap.size ∧ bB < u.heap.size) := fun u hu => by
            have hwu := gtrans HW1.out hu
            obtain ⟨z0, z1⟩ := cells2 (HP.out u hu)
            exact ⟨z0, z1, by rw [← e1]; exact ((HA.out u hwu).2 i hlt).1, by rw [← e2]; exact ((HB.out u hwu).2 k hkt).1, ((HA.out u hwu).1 (by omega)).2, ((HB.out u hwu).1 (by omega)).2⟩
          have HR1 : Hid (∀ u, W1.grownBy u none → Rd u (fun _ => True) (.slice a1 N1 q1) (LA i)) := fun u hu => by rw [← e1]; exact ((HA.out u (gtrans HW1.out hu)).2 i hlt).2.1
          have HR2 : Hid (∀ u, W1.grownBy u none → Rd u (fun _ => True) (.slice a2 N2 q2) (LB k)) := fun u hu => by rw [← e2]; exact ((HB.out u (gtrans HW1.out hu)).2 k hkt).2.1
          obtain ⟨T, hT⟩ : ∃ x : Int, (t : Int) = x := ⟨_, rfl⟩
          obtain ⟨Y, hY⟩ : ∃ x : Int, (N1 : Int) = x := ⟨_, rfl⟩
          have t0 : 0 ≤ T := by omega
          have t1 : T ≤ 1048576 := by have := HT.out; omega
          have w0 : 0 ≤ Y := by omega
          have w1 : Y ≤ 140737488351232 := by have := HL1.out; omega
          obtain ⟨y0, y1, y2, y3, y4, y5⟩ := HC.out wr HG.out
          by_cases hbig : 1048576 < t + 1 + N1
          · have hb2 : (1048576 : Int) < T + 1 + Y := by omega
            clear hbig
            go_wp2_with (go_at_call 15; with_reducible refine (HWk.out _ (gtrans HW1.out HG.out)).mono ?_; rintro e w9 ⟨rfl, hg9⟩; have HG9 := hid hg9; clear hg9)
            go_ret
            exact ⟨rfl, gtrans (gtrans HW1.out HG.out) HG9.out⟩
          · have hb2 : ¬ (1048576 : Int) < T + 1 + Y := by omega
            have HBG := hid hbig
            clear hbig
            have HLe : Hid (∀ u, W1.grownBy u none → Calls Tryd.prog 10 #[.slice a1 N1 q1] u fun e w' => ∃ v, e = .returned v ∧ Lent u.heap.size w' v (LA i) ∧ u.grownBy w' none) := fun u hu => lend_any u _ _ _ (HR1.out u hu) (by rw [HN1.out]; exact HL1.out)
            have HLf : Hid (∀ u, W1.grownBy u none → Calls Tryd.prog 10 #[.slice a2 N2 q2] u fun e w' => ∃ v, e = .returned v ∧ Lent u.heap.size w' v (LB k) ∧ u.grownBy w' none) := fun u hu => lend_any u _ _ _ (HR2.out u hu) (by rw [HN2.out]; exact HL2.out)
            obtain ⟨D, HD⟩ : ∃ D, Hid (decide (LA i = LB k) = D) := ⟨_, hid rfl⟩
            have HD' : Hid (decide (LB k = LA i) = D) := hid (by rw [← HD.out]; exact decide_eq_decide.2 ⟨Eq.symm, Eq.symm⟩)
            have HEq : Hid (∀ u, W1.grownBy u none → Calls Tryd.prog 24 #[.slice a1 N1 q1, .slice a2 N2 q2] u fun e w' => e = .returned (.bool D) ∧ ∃ m, w' = u.drewN m) := fun u hu => by
              rw [← HD.out]
              exact eq_any u _ _ _ _ _ _ (HR1.out u hu) (HR2.out u hu) (by rw [HN1.out]; have := HL1.out; omega)
            have HSa : Hid (∀ u B v B' v', Lent B u v (LA i) → Lent B' u v' (LB k) → Calls Tryd.prog 25 #[v, v'] u fun e w' => e = .returned (.bool D) ∧ u.grownBy w' none) := fun u B v B' v' h1 h2 => by
              rw [← HD.out]
              exact same_any u _ _ _ _ _ _ h1.rd h2.rd (by rw [HN1.out]; have := HL1.out; omega) (by rw [HN2.out]; have := HL2.out; omega)
            have HSb : Hid (∀ u B v B' v', Lent B u v (LB k) → Lent B' u v' (LA i) → Calls Tryd.prog 25 #[v, v'] u fun e w' => e = .returned (.bool D) ∧ u.grownBy w' none) := fun u B v B' v' h1 h2 => by
              rw [← HD'.out]
              exact same_any u _ _ _ _ _ _ h1.rd h2.rd (by rw [HN2.out]; have := HL2.out; omega) (by rw [HN1.out]; have := HL1.out; omega)
            have HSc : Hid (∀ u B v, Lent B u v (LA i) → Calls Tryd.prog 25 #[v, v] u fun e w' => e = .returned (.bool true) ∧ u.grownBy w' none) := fun u B v h1 => by
              have := same_any u _ _ _ _ _ _ h1.rd h1.rd (by rw [HN1.out]; have := HL1.out; omega) (by rw [HN1.out]; have := HL1.out; omega)
              rw [decide_eq_true rfl] at this
              exact this
            have HIa : Hid (∀ u B v, W1.grownBy u none → Lent B u v (LA i) → Calls Tryd.prog 12 #[v, .slice a1 N1 q1] u fun e w' => e = .returned (.bool true) ∧ u.grownBy w' none) := fun u B v hu h1 => (intact_any u B v _ _ _ h1 (HR1.out u hu) (by rw [HN1.out]; exact HL1.out)).mono (fun e w' ⟨he, m, hm⟩ => ⟨he, by rw [hm]; exact gdrew _ _ _⟩)
            have HIb : Hid (∀ u B v, W1.grownBy u none → Lent B u v (LB k) → Calls Tryd.prog 12 #[v, .slice a2 N2 q2] u fun e w' => e = .returned (.bool true) ∧ u.grownBy w' none) := fun u B v hu h1 => (intact_any u B v _ _ _ h1 (HR2.out u hu) (by rw [HN2.out]; exact HL2.out)).mono (fun e w' ⟨he, m, hm⟩ => ⟨he, by rw [hm]; exact gdrew _ _ _⟩)
            go_wp2_with (first
              | (go_at_call 10; with_reducible refine (HLe.out _ HG.out).mono ?_; rintro e u1 ⟨v1, rfl, hl1, hg1⟩; have HV1 := hid hl1; have HU1 := hid (gtrans HG.out hg1); clear hl1 hg1; obtain ⟨y0, y1, y2, y3, y4, y5⟩ := HC.out u1 HU1.out)
              | (go_at_call 10; with_reducible refine (HLf.out _ HU1.out).mono ?_; rintro e u2 ⟨v2, rfl, hl2, hg2⟩; have HV2 := hid hl2; have HU2 := hid (gtrans HU1.out hg2); replace HV1 := hid (HV1.out.keep hg2); clear hl2 hg2; obtain ⟨y0, y1, y2, y3, y4, y5⟩ := HC.out u2 HU2.out))
            go_quiet ((go_at_call 24; exact Calls.quiet_of (HEq.out _ (gtrans HU2.out (gdrew _ _ _)))))
            obtain ⟨u3, hu3⟩ : ∃ x, u2.drewN nq = x := ⟨_, rfl⟩
            rw [hu3]
            have hg3 := gdrew u2 nq none
            rw [hu3] at hg3
            have HU := hid (gtrans HU2.out hg3)
            replace HV1 := hid (HV1.out.keep hg3)
            replace HV2 := hid (HV2.out.keep hg3)
            clear hu3 hg3 HU1 HU2 HLe HLf HEq
            obtain ⟨y0, y1, y2, y3, y4, y5⟩ := HC.out _ HU.out
            cases D
            · go_wp2_with (first
              | (go_at_call 25; with_reducible refine (HSa.out _ _ _ _ _ HV1.out HV2.out).mono ?_; rintro e u4 ⟨rfl, hg⟩; replace HU := hid (gtrans HU.out hg); replace HV1 := hid (HV1.out.keep hg); replace HV2 := hid (HV2.out.keep hg); clear hg; obtain ⟨y0, y1, y2, y3, y4, y5⟩ := HC.out _ HU.out)
              | (go_at_call 25; with_reducible refine (HSb.out _ _ _ _ _ HV2.out HV1.out).mono ?_; rintro e u4 ⟨rfl, hg⟩; replace HU := hid (gtrans HU.out hg); replace HV1 := hid (HV1.out.keep hg); replace HV2 := hid (HV2.out.keep hg); clear hg; obtain ⟨y0, y1, y2, y3, y4, y5⟩ := HC.out _ HU.out)
              | (go_at_call 25; with_reducible refine (HSc.out _ _ _ HV1.out).mono ?_; rintro e u4 ⟨rfl, hg⟩; replace HU := hid (gtrans HU.out hg); replace HV1 := hid (HV1.out.keep hg); replace HV2 := hid (HV2.out.keep hg); clear hg; obtain ⟨y0, y1, y2, y3, y4, y5⟩ := HC.out _ HU.out)
              | (go_at_call 12; with_reducible refine (HIa.out _ _ _ HU.out HV1.out).mono ?_; rintro e u4 ⟨rfl, hg⟩; replace HU := hid (gtrans HU.out hg); replace HV1 := hid (HV1.out.keep hg); replace HV2 := hid (HV2.out.keep hg); clear hg; obtain ⟨y0, y1, y2, y3, y4, y5⟩ := HC.out _ HU.out)
              | (go_at_call 12; with_reducible refine (HIb.out _ _ _ HU.out HV2.out).mono ?_; rintro e u4 ⟨rfl, hg⟩; replace HU := hid (gtrans HU.out hg); replace HV1 := hid (HV1.out.keep hg); replace HV2 := hid (HV2.out.keep hg); clear hg; obtain ⟨y0, y1, y2, y3, y4, y5⟩ := HC.out _ HU.out))
              go_roundw
              case rel => exact ⟨t + 1 + N1, k + 1, by rw [show ((t + 1 + N1 : Nat) : Int) = T + 1 + Y by omega], by go_num, by omega, hid (by have := HBG.out; omega), HU⟩
              case measure => simp [intOf]; omega
            · go_wp2_with (first
              | (go_at_call 25; with_reducible refine (HSa.out _ _ _ _ _ HV1.out HV2.out).mono ?_; rintro e u4 ⟨rfl, hg⟩; replace HU := hid (gtrans HU.out hg); replace HV1 := hid (HV1.out.keep hg); replace HV2 := hid (HV2.out.keep hg); clear hg; obtain ⟨y0, y1, y2, y3, y4, y5⟩ := HC.out _ HU.out)
              | (go_at_call 25; with_reducible refine (HSb.out _ _ _ _ _ HV2.out HV1.out).mono ?_; rintro e u4 ⟨rfl, hg⟩; replace HU := hid (gtrans HU.out hg); replace HV1 := hid (HV1.out.keep hg); replace HV2 := hid (HV2.out.keep hg); clear hg; obtain ⟨y0, y1, y2, y3, y4, y5⟩ := HC.out _ HU.out)
              | (go_at_call 25; with_reducible refine (HSc.out _ _ _ HV1.out).mono ?_; rintro e u4 ⟨rfl, hg⟩; replace HU := hid (gtrans HU.out hg); replace HV1 := hid (HV1.out.keep hg); replace HV2 := hid (HV2.out.keep hg); clear hg; obtain ⟨y0, y1, y2, y3, y4, y5⟩ := HC.out _ HU.out)
              | (go_at_call 12; with_reducible refine (HIa.out _ _ _ HU.out HV1.out).mono ?_; rintro e u4 ⟨rfl, hg⟩; replace HU := hid (gtrans HU.out hg); replace HV1 := hid (HV1.out.keep hg); replace HV2 := hid (HV2.out.keep hg); clear hg; obtain ⟨y0, y1, y2, y3, y4, y5⟩ := HC.out _ HU.out)
              | (go_at_call 12; with_reducible refine (HIb.out _ _ _ HU.out HV2.out).mono ?_; rintro e u4 ⟨rfl, hg⟩; replace HU := hid (gtrans HU.out hg); replace HV1 := hid (HV1.out.keep hg); replace HV2 := hid (HV2.out.keep hg); clear hg; obtain ⟨y0, y1, y2, y3, y4, y5⟩ := HC.out _ HU.out))
              go_roundw
              case rel => exact ⟨t + 1 + N1, k + 1, by rw [show ((t + 1 + N1 : Nat) : Int) = T + 1 + Y by omega], by go_num, by omega, hid (by have := HBG.out; omega), HU⟩
              case measure => simp [intOf]; omega
        · have hge : ¬ (k : Int) < (nB : Int) := by omega
          obtain ⟨y0, y1⟩ := cells2 (HP.out wr HG.out)
          go_wp2_with fail
          go_roundw
          case rel => exact ⟨t, i + 1, rfl, by go_num, by omega, HT.out, HG⟩
          case measure => simp [intOf]; omega
    · have hge : ¬ (i : Int) < (nA : Int) := by omega
      go_wp2_with (go_at_call 15; with_reducible refine (HWk.out _ (gtrans HW1.out HG.out)).mono ?_; rintro e w9 ⟨rfl, hg9⟩; have HG9 := hid hg9; clear hg9)
      go_ret
      exact ⟨rfl, gtrans (gtrans HW1.out HG.out) HG9.out⟩
end Go.Proofs.YtmiojplbcjhggaaDoor
