/- Same. -/
import Derived.Test.YtmiojplbcjhggaaDoorWalkK
namespace Go.Proofs.YtmiojplbcjhggaaDoor
open Go Go.RowKit
open Go.RowKit (wrap32 wrap64)

theorem Rd.tail {w : World} {F : Nat → Prop} {v : Value} {x : List UInt8} (h : Rd w F v x) (h0 : 0 < x.length) (n : Nat) (hn : n ≤ x.length) :
    ∃ (b off c : Nat) (p : Option Addr), v = .slice (some ⟨b, off, none⟩) x.length c ∧ x.length ≤ c ∧ (∀ u, (Instr.slice 23 (.slice (some ⟨b, off, none⟩) x.length c) (some (.int .i64 (n : Int))) none none).run Tryd.prog u = .ok (.slice p (x.length - n) (c - n)) u) ∧ (∀ u, (Instr.sliceAt 23 (.slice (some ⟨b, off, none⟩) x.length c) (some (.int .i64 (n : Int))) none none).run Tryd.prog u = .ok (.slice p (x.length - n) (c - n)) u) ∧ Rd w F (.slice p (x.length - n) (c - n)) (x.drop n) := by
  have hr := h
  obtain ⟨a, b, off, c, rfl, hc, hnn, ha, hcell⟩ := h
  obtain ⟨rfl, h1, h2⟩ := ha h0
  have hs := slice_tail b off x.length c n hn hc _ rfl
  refine ⟨b, off, c, _, rfl, hc, hs, fun u => (run_sliceAt_slice u 23 _ _ _ _ Tryd.underlying23).trans (hs u), ?_⟩
  exact Rd.drop n hn hr (fun _ => rfl) (fun h => by rw [if_neg (by omega)]) (fun h => by cases h)
theorem take32_eq (x y : List UInt8) (hl : x.length = y.length) (n : Nat) (hn : n = min x.length 32) (h : x.take 32 = y.take 32) : decide (x.drop n = y.drop n) = decide (x = y) := by
  have e : x.take n = y.take n := by
    by_cases hc : x.length ≤ 32
    · have e1 := h
      rw [List.take_of_length_le hc, List.take_of_length_le (by omega)] at e1
      rw [e1]
    · rw [hn, Nat.min_eq_right (by omega)]; exact h
  by_cases hd : x.drop n = y.drop n
  · have : x = y := by rw [← List.take_append_drop n x, ← List.take_append_drop n y, e, hd]
    rw [decide_eq_true hd, decide_eq_true this]
  · have : ¬ x = y := fun h => hd (by rw [h])
    rw [decide_eq_false hd, decide_eq_false this]

set_option maxRecDepth 100000 in
set_option maxHeartbeats 800000 in
theorem same_any (w : World) (va vb : Value) (F G : Nat → Prop) (x y : List UInt8) (hx : Rd w F va x) (hy : Rd w G vb y) (hn : x.length ≤ 140737488355328) (_hm : y.length ≤ 140737488355328) :
    Calls Tryd.prog 25 #[va, vb] w fun e w' => e = .returned (.bool (decide (x = y))) ∧ w.grownBy w' none := by
  have HX := hid hx
  have HY := hid hy
  obtain ⟨a, b0, off, c, rfl, _, _, _, _⟩ := hx
  obtain ⟨a', b0', off', c', rfl, _, _, _, _⟩ := hy
  obtain ⟨D, HD⟩ : ∃ D, Hid (decide (x = y) = D) := ⟨_, hid rfl⟩
  rw [HD.out]
  by_cases hl : x.length = y.length
  · have HLl := hid hl
    have hb : ((x.length : Int) == (y.length : Int)) = true := by rw [hl]; simp
    rw [← hl] at hb HY ⊢
    have HLM := hid hn
    clear hl hn
    go_enter Tryd.func25, Tryd.ntmps25
    go_wp2_with fail
    go_loopw [0, 1] (fun av bv wr => ∃ (p q : List UInt8), Hid (p.length = q.length) ∧ Hid (p.length ≤ 140737488355328) ∧ Hid (decide (p = q) = D) ∧ Hid (Rd wr F av p) ∧ Hid (Rd wr G bv q) ∧ Hid (w.grownBy wr none)) (fun av _ _ => vlen av)
    case atStart => exact ⟨x, y, HLl, HLM, HD, HX, HY, hid (grefl _ _)⟩
    case round =>
      obtain ⟨p, q, HPQ, HPM, HDq, HP, HQ, HW⟩ := hrel
      by_cases h0 : 0 < p.length
      · obtain ⟨n, hn⟩ : ∃ n, n = min p.length 32 := ⟨_, rfl⟩
        obtain ⟨b1, o1, c1, p1, e1, hc1, hs1, ht1, HR1⟩ := HP.out.tail h0 n (by omega)
        obtain ⟨b2, o2, c2, p2, e2, hc2, hs2, ht2, HR2⟩ := HQ.out.tail (by rw [← HPQ.out]; exact h0) n (by rw [← HPQ.out]; omega)
        have HFa : Hid (∀ u, wr.grownBy u none → Calls Tryd.prog 39 #[.slice (some ⟨b1, o1, none⟩) p.length c1] u fun e w' => e = .returned (.agg (Lib.byteCells (fro p)).toArray) ∧ u.grownBy w' none) := fun u hu => by rw [← e1]; exact front_any u _ F p (HP.out.keep hu)
        have HFb : Hid (∀ u, wr.grownBy u none → Calls Tryd.prog 39 #[.slice (some ⟨b2, o2, none⟩) q.length c2] u fun e w' => e = .returned (.agg (Lib.byteCells (fro q)).toArray) ∧ u.grownBy w' none) := fun u hu => by rw [← e2]; exact front_any u _ G q (HQ.out.keep hu)
        have HNe : Hid (∀ u, (binOp .neq 24 (.agg (Lib.byteCells (fro p)).toArray) (.agg (Lib.byteCells (fro q)).toArray)).run Tryd.prog u = .ok (.bool (!(fro p == fro q))) u) := fun u => neq_32 _ _ (fro_length _) (fro_length _) u
        have HFe := hid (fro_eq p q HPQ.out)
        have HT32 := hid (take32_eq p q HPQ.out n hn)
        rw [← HPQ.out] at e2 hc2 hs2 ht2 HR2 HFb
        obtain ⟨L, hL⟩ : ∃ L, L = p.length := ⟨_, rfl⟩
        rw [← hL] at e1 e2 hc1 hc2 hs1 hs2 ht1 ht2 HR1 HR2 HFa HFb h0 hn
        subst e1 e2
        have HL := hid hL
        obtain ⟨fp, HFP⟩ : ∃ fp, Hid ((Lib.byteCells (fro p)).toArray = fp) := ⟨_, hid rfl⟩
        obtain ⟨fq, HFQ⟩ : ∃ fq, Hid ((Lib.byteCells (fro q)).toArray = fq) := ⟨_, hid rfl⟩
        rw [HFP.out] at HFa HNe
        rw [HFQ.out] at HFb HNe
        have hL0 : (0 : Int) < (L : Int) := by omega
        have hmin : min (L : Int) 32 = (n : Int) := by omega
        have HR1' := hid HR1
        have HR2' := hid HR2
        have HN := hid hn
        have hNe := HNe.out
        have hc1' : (L : Int) ≤ (c1 : Int) := by omega
        have hc2' : (L : Int) ≤ (c2 : Int) := by omega
        have hnL : (n : Int) ≤ (L : Int) := by omega
        clear HR1 HR2 hL hn hc1 hc2
        by_cases hf : fro p = fro q
        · have hb2 : (fro p == fro q) = true := by rw [hf]; simp
          rw [hb2] at hNe
          by_cases h32 : L ≤ 32
          · have hnl : n = L := by have := HN.out; omega
            subst hnl
            have h32' : (n : Int) ≤ 32 := by omega
            go_wp2_with (first
              | (go_at_call 39; with_reducible refine (HFa.out _ (grefl _ _)).mono ?_; rintro e w1 ⟨rfl, hg1⟩; have HG1 := hid hg1; clear hg1)
              | (go_at_call 39; with_reducible refine (HFb.out _ HG1.out).mono ?_; rintro e w2 ⟨rfl, hg2⟩; have HG2 := hid (gtrans HG1.out hg2); clear hg2))
            go_quiet (fail)
            go_wp2_with fail
            go_roundw
            case rel => exact ⟨p.drop n, q.drop n, hid (by rw [List.length_drop, List.length_drop, HPQ.out]), hid (by rw [List.length_drop]; have := HPM.out; omega), hid (by rw [HT32.out (HFe.out.1 hf)]; exact HDq.out), hid (by have := ((HR1'.out.keep HG2.out).keep (gdrew _ nq none)); rw [Nat.sub_self] at this; exact this), hid (by have := ((HR2'.out.keep HG2.out).keep (gdrew _ nq none)); rw [Nat.sub_self] at this; exact this), hid (gtrans HW.out (gtrans HG2.out (gdrew _ _ _)))⟩
            case measure => show 0 < n; omega
          · have hnl : n = 32 := by have := HN.out; omega
            subst hnl
            have k1 : ∀ u, (Instr.slice 23 (.slice (some ⟨b1, o1, none⟩) L c1) (some (.int .i64 32)) none none).run Tryd.prog u = .ok (.slice p1 (L - 32) (c1 - 32)) u := hs1
            have k2 : ∀ u, (Instr.slice 23 (.slice (some ⟨b2, o2, none⟩) L c2) (some (.int .i64 32)) none none).run Tryd.prog u = .ok (.slice p2 (L - 32) (c2 - 32)) u := hs2
            have k3 : ∀ u, (Instr.sliceAt 23 (.slice (some ⟨b1, o1, none⟩) L c1) (some (.int .i64 32)) none none).run Tryd.prog u = .ok (.slice p1 (L - 32) (c1 - 32)) u := ht1
            have k4 : ∀ u, (Instr.sliceAt 23 (.slice (some ⟨b2, o2, none⟩) L c2) (some (.int .i64 32)) none none).run Tryd.prog u = .ok (.slice p2 (L - 32) (c2 - 32)) u := ht2
            have h32' : ¬ (L : Int) ≤ 32 := by omega
            clear hs1 hs2 ht1 ht2 hmin
            go_wp2_with (first
              | (go_at_call 39; with_reducible refine (HFa.out _ (grefl _ _)).mono ?_; rintro e w1 ⟨rfl, hg1⟩; have HG1 := hid hg1; clear hg1)
              | (go_at_call 39; with_reducible refine (HFb.out _ HG1.out).mono ?_; rintro e w2 ⟨rfl, hg2⟩; have HG2 := hid (gtrans HG1.out hg2); clear hg2))
            go_quiet (fail)
            go_wp2_with fail
            go_roundw
            case rel => exact ⟨p.drop 32, q.drop 32, hid (by rw [List.length_drop, List.length_drop, HPQ.out]), hid (by rw [List.length_drop]; have := HPM.out; omega), hid (by rw [HT32.out (HFe.out.1 hf)]; exact HDq.out), hid (((HR1'.out.keep HG2.out).keep (gdrew _ _ _))), hid (((HR2'.out.keep HG2.out).keep (gdrew _ _ _))), hid (gtrans HW.out (gtrans HG2.out (gdrew _ _ _)))⟩
            case measure => show L - 32 < L; have := HN.out; omega
        · have hb2 : (fro p == fro q) = false := by rw [beq_eq_false_iff_ne]; exact hf
          rw [hb2] at hNe
          go_wp2_with (first
            | (go_at_call 39; with_reducible refine (HFa.out _ (grefl _ _)).mono ?_; rintro e w1 ⟨rfl, hg1⟩; have HG1 := hid hg1; clear hg1)
            | (go_at_call 39; with_reducible refine (HFb.out _ HG1.out).mono ?_; rintro e w2 ⟨rfl, hg2⟩; have HG2 := hid (gtrans HG1.out hg2); clear hg2))
          go_ret
          have hD : D = false := by rw [← HDq.out]; exact decide_eq_false (fun e => hf (by rw [e]))
          exact ⟨by rw [hD]; rfl, gtrans HW.out HG2.out⟩
      · have hp0 : p = [] := List.eq_nil_of_length_eq_zero (by omega)
        have hq0 : q = [] := List.eq_nil_of_length_eq_zero (by rw [← HPQ.out]; omega)
        have HDt : Hid (D = true) := hid (by rw [← HDq.out]; exact decide_eq_true (by rw [hp0, hq0]))
        obtain ⟨pa, pb, po, pc, he1, _, _, _, _⟩ := HP.out
        have hpl : p.length = 0 := by omega
        rw [hpl] at he1
        subst he1
        clear hpl hp0 hq0 h0
        go_wp2_with fail
        go_ret
        exact ⟨by rw [HDt.out]; rfl, HW.out⟩
  · have hb : ((x.length : Int) == (y.length : Int)) = false := by
      rw [beq_eq_false_iff_ne]; omega
    have HDf : Hid (D = false) := hid (by rw [← HD.out]; exact decide_eq_false (fun e => hl (by rw [e])))
    have hl' : ¬ (x.length : Int) = (y.length : Int) := by omega
    clear hl
    go_enter Tryd.func25, Tryd.ntmps25
    go_wp2_with fail
    go_ret
    exact ⟨by rw [HDf.out]; rfl, grefl _ _⟩
end Go.Proofs.YtmiojplbcjhggaaDoor
