/- RevokeTurns' walk. -/
import Derived.Test.YtlgjmhemgfjgnaaRvT
namespace Go.Proofs.Ytlgjmhemgfjgnaa
open Go Go.RowKit
open Go.RowKit (wrap32 wrap64)

theorem ArgS.le {w : World} {a : Option Addr} {b o n m : Nat} {T : Nat → St} (h : ArgS w a b o n T) (hm : m ≤ n) : ArgS w a b o m T := ⟨fun h0 => h.1 (by omega), fun i hi => h.2 i (by omega)⟩
set_option maxRecDepth 100000 in
set_option maxHeartbeats 6400000 in
theorem turns_walk (w : World) (a : Option Addr) (b o n c : Nat) (T : Nat → St) (hs0 : ArgS w a b o n T) (hn : n ≤ 140737488355328) (hnc : n ≤ c) :
    Calls Try.prog 4 #[.slice a n c] w fun e w' => e = .returned (.bool true) ∧ w.grownBy w' none := by
  obtain ⟨N, HNe⟩ : ∃ N, Hid (min n 40 = N) := ⟨_, hid rfl⟩
  have hN : N ≤ n ∧ N ≤ 40 := by rw [← HNe.out]; omega
  have hs := hs0.le hN.1
  have HS := hid hs
  have HA : Hid (0 < N → a = some ⟨b, o, none⟩) := hid (fun h => (hs.1 h).1)
  have HAn : Hid (0 < n → a = some ⟨b, o, none⟩) := hid (fun h => (hs0.1 h).1)
  have HSt : Hid (∀ (u : World) (v : Value) (B i : Nat) (l : List Ky), OutK B u v l → l.length ≤ 10000 → i < N → Calls Try.prog 16 #[v, .agg (T i).cells.toArray] u fun e w' => ∃ v', e = .returned v' ∧ OutK 0 w' v' (stepL l (T i)) ∧ u.grownBy w' none) := hid (fun u v B i l h hl hi =>
    (step_any u v _ l (T i) h.rd (by omega) (hs.2 i hi).2).mono fun e w' ⟨v', he, ho, hg⟩ => ⟨v', he, ho.below (Nat.zero_le _), hg⟩)
  have HLa : Hid (∀ (u : World) (i : Nat), w.grownBy u none → i < N → Calls Try.prog 17 #[.slice a N c, .int .i64 i] u fun e w' => e = .returned (.bool (laterT T N i (i + 1))) ∧ u.grownBy w' none) := hid (fun u i hu hi => later_any u a b o N c i T (hs.keep hu) hi (by omega))
  have HEq : Hid (∀ (u : World) (v1 v2 : Value) (m : List Ky), OutK 0 u v1 m → OutK 0 u v2 m → m.length ≤ 40 → Calls Try.prog 18 #[v1, v2] u fun e w' => e = .returned (.bool true) ∧ u.grownBy w' none) := hid (fun u v1 v2 m h1 h2 hm => by
    have := eqKeys_any u v1 v2 _ _ m m h1.rd h2.rd (by omega)
    rw [decide_eq_true rfl] at this
    exact this)
  have HWk : Hid (∀ u : World, Calls Try.prog 15 #[] u fun e w' => e = .returned (.bool true) ∧ u.grownBy w' none) := hid (fun u => wakes_any u)
  have HK20 : Hid (∀ i, i < N → (Try.prog.info? 29).map (·.size) = some (T i).cells.length) := hid (fun i hi => by rw [St.cells_length (hs.2 i hi).2.2.1]; exact Try.size29)
  have HNN := hid hN
  clear hs hs0
  go_enter Try.func4, Try.ntmps4
  go_upto_if 12 with fail
  go_cut [5] from 9 to 14 (fun v wc => v = .slice a N c ∧ w = wc)
  case first =>
    by_cases h40 : 40 < n
    · have h40' : (40 : Int) < (n : Int) := by omega
      have e : N = 40 := by have := HNe.out; omega
      subst e
      obtain rfl : a = some ⟨b, o, none⟩ := HAn.out (by omega)
      have HSl : Hid (∀ u, (Instr.sliceAt 22 (.slice (some ⟨b, o, none⟩) n c) none (some (.int .i64 40)) none).run Try.prog u = .ok (.slice (some ⟨b, o, none⟩) 40 c) u) := hid (fun u => by
        have hz : (sizeOf (Try.prog.elem 22)).run Try.prog u = .ok 20 u := by kernel_rfl
        rw [run_sliceAt_slice u 22 _ _ _ _ Try.underlying22, run_slice_h u 22 _ n c Try.underlying22 .i64 40 (by omega) (by omega), hz]
        simp only [Result.andThen_ok, sliced, Nat.sub_zero]
        split <;> rfl)
      go_wp2_with (with_reducible refine wpList_slice_h (by with_unfolding_all rfl) 22 _ _ (by with_unfolding_all rfl) _ _ _ (by with_unfolding_all rfl) (by with_unfolding_all rfl) (HSl.out _) ?_)
      go_meet
      case rel => exact ⟨rfl, rfl⟩
    · have h40' : ¬ (40 : Int) < (n : Int) := by omega
      have e : N = n := by have := HNe.out; omega
      subst e
      go_wp2_with fail
      go_meet
      case rel => exact ⟨rfl, rfl⟩
  case rest =>
    obtain ⟨rfl, hwc⟩ := hcut
    subst hwc
    clear HNe HAn hnc hn
    obtain ⟨hNn, hN40⟩ := hN
    clear hNn
    go_wp2_with fail
    go_loopw [3, 6] (fun lv iv wr => ∃ (i : Nat) (x : Value), x = lv ∧ iv = .int .i64 i ∧ i ≤ N ∧ Hid (OutK 0 wr x (ltS T i)) ∧ Hid (w.grownBy wr none)) (fun _ iv _ => N - (intOf iv).toNat)
    case atStart => exact ⟨0, _, rfl, rfl, Nat.zero_le _, hid (OutK.nil _ _), hid (grefl _ _)⟩
    case round =>
      obtain ⟨i, lv, rfl, rfl, hi, HO, HG⟩ := hrel
      by_cases hlt : i < N
      · have hlt' : (i : Int) < (N : Int) := by omega
        obtain rfl : a = some ⟨b, o, none⟩ := HA.out (by omega)
        have y0 := ((HS.out.keep HG.out).at_ i hlt).1
        have HRr := hid ((HS.out.keep HG.out).2 i hlt).1
        have HKs := hid (HK20.out i hlt)
        have HSi : Hid (Calls Try.prog 16 #[lv, .agg (T i).cells.toArray] wr fun e w' => ∃ v', e = .returned v' ∧ OutK 0 w' v' (stepL (ltS T i) (T i)) ∧ wr.grownBy w' none) := hid (HSt.out wr lv 0 i _ HO.out (by have := (ltS_ok T i).2; omega) hlt)
        have HLt := hid (ltS_succ T i)
        have HKd : Hid (kind (T i) = (decide ((T i).dO = 1) || decide ((T i).dO = 2))) := hid rfl
        obtain ⟨D, hD⟩ : ∃ x, (T i).dO = x := ⟨_, rfl⟩
        obtain ⟨K, HK⟩ : ∃ x, Hid ((T i).cells = x) := ⟨_, hid rfl⟩
        rw [hD] at y0 HKd
        rw [HK.out] at HRr HKs HSi
        have HIj := hid (show i + 1 ≤ N by omega)
        clear hD HK hi hlt HSt HLa HEq HWk
        by_cases h1 : D = 1
        · as_aux_lemma =>
          subst h1
          have HN : Hid (ltS T (i + 1) = stepL (ltS T i) (T i)) := hid (by rw [HLt.out, HKd.out]; rfl)
          clear HLt HKd
          go_wp2_with (first
            | (with_reducible refine wpList_load_part (by with_unfolding_all rfl) 29 _ (by with_unfolding_all rfl) b (o + i * 20) K _ (by with_unfolding_all rfl) HRr.out Try.underlying29 (by with_unfolding_all rfl) HKs.out ?_)
            | (go_at_call 16; (with_reducible refine HSi.out.mono ?_); rintro e w4 ⟨v4, rfl, ho4, hg4⟩; have HO4 := hid ho4; have HG4 := hid (gtrans HG.out hg4); clear ho4 hg4))
          go_roundw
          case rel => exact ⟨i + 1, v4, rfl, by go_num, HIj.out, by rw [HN.out]; exact HO4, HG4⟩
          case measure => have := HIj.out; simp [intOf]; omega
        · have h1' : (D == 1) = false := beq_eq_false_iff_ne.2 h1
          by_cases h2 : D = 2
          · as_aux_lemma =>
            subst h2
            have HN : Hid (ltS T (i + 1) = stepL (ltS T i) (T i)) := hid (by rw [HLt.out, HKd.out]; rfl)
            clear HLt HKd
            go_wp2_with (first
              | (with_reducible refine wpList_load_part (by with_unfolding_all rfl) 29 _ (by with_unfolding_all rfl) b (o + i * 20) K _ (by with_unfolding_all rfl) HRr.out Try.underlying29 (by with_unfolding_all rfl) HKs.out ?_)
              | (go_at_call 16; (with_reducible refine HSi.out.mono ?_); rintro e w4 ⟨v4, rfl, ho4, hg4⟩; have HO4 := hid ho4; have HG4 := hid (gtrans HG.out hg4); clear ho4 hg4))
            go_roundw
            case rel => exact ⟨i + 1, v4, rfl, by go_num, HIj.out, by rw [HN.out]; exact HO4, HG4⟩
            case measure => have := HIj.out; simp [intOf]; omega
          · as_aux_lemma =>
            have h2' : (D == 2) = false := beq_eq_false_iff_ne.2 h2
            have HN : Hid (ltS T (i + 1) = ltS T i) := hid (by rw [HLt.out, HKd.out, decide_eq_false h1, decide_eq_false h2]; rfl)
            clear HLt HKd
            go_wp2_with fail
            go_roundw
            case rel => exact ⟨i + 1, lv, rfl, by go_num, HIj.out, by rw [HN.out]; exact HO, HG⟩
            case measure => have := HIj.out; simp [intOf]; omega
      · have hlt' : ¬ (i : Int) < (N : Int) := by omega
        obtain rfl : i = N := by omega
        clear hi hlt
        obtain ⟨w0, hw0⟩ : ∃ x, x = wr := ⟨_, rfl⟩
        subst hw0
        have hb : (i : Int) ≤ 40 := by omega
        go_wp2_with fail
        go_loopw [4, 7] (fun mv gv wr => ∃ (k : Nat) (x : Value) (m : List Ky), x = mv ∧ gv = .int .i64 ((k : Int) - 1) ∧ k ≤ i ∧ Hid (Mt T i k m) ∧ Hid (OutK 0 wr x m) ∧ Hid (w0.grownBy wr none)) (fun _ gv _ => (intOf gv + 1).toNat)
        case atStart => exact ⟨i, _, [], rfl, by go_num, Nat.le_refl _, hid (Mt.start T i), hid (OutK.nil _ _), hid (grefl _ _)⟩
        case round =>
          obtain ⟨k, mv, m, rfl, rfl, hk, HM, HOm, HX⟩ := hrel
          cases k with
          | zero =>
            have hz : ¬ (0 : Int) ≤ ((0 : Nat) : Int) - 1 := by omega
            have HFin : Hid (ltS T i = m) := hid HM.out.fin
            have HOl : Hid (OutK 0 wr lv m) := hid (by rw [← HFin.out]; exact HO.out.keep HX.out)
            have HL40 : Hid (m.length ≤ 40) := hid (by rw [← HFin.out]; have := (ltS_ok T i).2; omega)
            have HE1 : Hid (Calls Try.prog 18 #[lv, mv] wr fun e w' => e = .returned (.bool true) ∧ wr.grownBy w' none) := hid (HEq.out wr lv mv m HOl.out HOm.out HL40.out)
            clear HM HSt HLa HEq
            go_wp2_with (first
              | (go_at_call 18; (with_reducible refine HE1.out.mono ?_); rintro e z1 ⟨rfl, gg⟩; have HZ1 := hid gg; clear gg)
              | (go_at_call 15; (with_reducible refine (HWk.out _).mono ?_); rintro e z2 ⟨rfl, gg⟩; have HZ2 := hid (gtrans HG.out (gtrans HX.out (gtrans HZ1.out gg))); clear gg))
            go_ret
            exact ⟨rfl, HZ2.out⟩
          | succ k =>
            have hkk : ((k + 1 : Nat) : Int) - 1 = (k : Int) := by omega
            rw [hkk]
            have hki : k < i := by omega
            have hk0 : (0 : Int) ≤ (k : Int) := by omega
            have HLk : Hid (∀ u, wr.grownBy u none → Calls Try.prog 17 #[.slice a i c, .int .i64 k] u fun e w' => e = .returned (.bool (laterT T i k (k + 1))) ∧ u.grownBy w' none) := hid (fun u hu => HLa.out u k (gtrans HG.out (gtrans HX.out hu)) hki)
            have hsub : wrap64 ((k : Int) - 1) = (k : Int) - 1 := by unfold wrap64; omega
            have hsub2 : IntKind.i64.wrap ((k : Int) - 1) = (k : Int) - 1 := by rw [IntKind.wrap_i64]; omega
            obtain ⟨LB, hLB⟩ : ∃ x, laterT T i k (k + 1) = x := ⟨_, rfl⟩
            rw [hLB] at HLk
            have HLB := hid hLB
            have HKI := hid hki
            clear hkk hk hLB hki
            cases LB with
            | true =>
              as_aux_lemma =>
              have HM2 : Hid (Mt T i k m) := hid (HM.out.skip HLB.out)
              go_wp2_with (go_at_call 17; (with_reducible refine (HLk.out _ (grefl _ _)).mono ?_); rintro e z1 ⟨rfl, gg⟩; have HZ1 := hid gg; clear gg)
              go_roundw
              case rel => exact ⟨k, mv, m, rfl, by first | rfl | go_num, by have := HKI.out; omega, HM2, hid (HOm.out.keep HZ1.out), hid (gtrans HX.out HZ1.out)⟩
              case measure => have := HKI.out; first | (simp [intOf]; done) | (simp [intOf]; omega)
            | false =>
              have HI0 : Hid (Mi T i k (T k).g 0 m m) := hid (Mi.start HM.out HLB.out)
              obtain ⟨wx, hwx⟩ : ∃ x, x = wr := ⟨_, rfl⟩
              subst hwx
              obtain ⟨gk, HGk⟩ : ∃ x, Hid ((T k).g = x) := ⟨_, hid rfl⟩
              rw [HGk.out] at HI0
              obtain rfl : a = some ⟨b, o, none⟩ := HA.out (by have := HKI.out; omega)
              have HYk : Hid (∀ u, wx.grownBy u none → u.cell? ⟨b, o + k * 20 + 1, none⟩ = some (.int .u64 gk)) := hid (fun u hu => by rw [← HGk.out]; exact ((HS.out.keep (gtrans HG.out (gtrans HX.out hu))).at_ k HKI.out).2.1)
              have hki' : (k : Int) < (i : Int) := by have := HKI.out; omega
              go_wp2_with (go_at_call 17; (with_reducible refine (HLk.out _ (grefl _ _)).mono ?_); rintro e z1 ⟨rfl, gg⟩; have HZ1 := hid gg; clear gg)
              have HO1 := hid (HOm.out.keep HZ1.out)
              go_loopw [4, 8] (fun mv2 jv wr => ∃ (j : Nat) (x : Value) (m2 : List Ky), x = mv2 ∧ jv = .int .i64 j ∧ j ≤ i ∧ Hid (Mi T i k gk j m m2) ∧ Hid (OutK 0 wr x m2) ∧ Hid (wx.grownBy wr none)) (fun _ jv _ => i - (intOf jv).toNat)
              case atStart => exact ⟨0, _, m, rfl, rfl, Nat.zero_le _, HI0, HO1, HZ1⟩
              case round =>
                obtain ⟨j, mv2, m2, rfl, rfl, hj, HMi, HOj, HJ⟩ := hrel
                by_cases hjl : j < i
                · have hjl' : (j : Int) < (i : Int) := by omega
                  have HGj := hid (gtrans HG.out (gtrans HX.out HJ.out))
                  have HYd := hid (fun q => (HYk.out _ (gtrans HJ.out (gdrew wr q none))))
                  have HAt := hid (fun q => (HS.out.keep (gtrans HGj.out (gdrew wr q none))).at_ j hjl)
                  have y0 : ∀ q, (wr.drewN q).cell? ⟨b, o + j * 20, none⟩ = some (.int .i64 (T j).dO) := fun q => (HAt.out q).1
                  have y1 : ∀ q, (wr.drewN q).cell? ⟨b, o + j * 20 + 1, none⟩ = some (.int .u64 (T j).g) := fun q => (HAt.out q).2.1
                  have yk := HYd.out
                  have HRr : Hid (∀ u, wr.grownBy u none → u.rangeAt b (o + j * 20) (T j).cells) := hid (fun u hu => ((HS.out.keep (gtrans HGj.out hu)).2 j hjl).1)
                  have HKs := hid (HK20.out j hjl)
                  have HLm : Hid (m2.length ≤ 10000) := hid (by
                    have h1 := HMi.out.l
                    have h2 := HM.out.l
                    have h3 : 40 * (i - (k + 1)) ≤ 40 * 40 := Nat.mul_le_mul_left _ (by omega)
                    omega)
                  have HSj : Hid (∀ u, wr.grownBy u none → Calls Try.prog 16 #[mv2, .agg (T j).cells.toArray] u fun e w' => ∃ v', e = .returned v' ∧ OutK 0 w' v' (stepL m2 (T j)) ∧ u.grownBy w' none) := hid (fun u hu => HSt.out u mv2 0 j m2 (HOj.out.keep hu) HLm.out hjl)
                  have HKd : Hid (kind (T j) = (decide ((T j).dO = 1) || decide ((T j).dO = 2))) := hid rfl
                  have HMs : Hid ((T j).g = gk → kind (T j) = true → Mi T i k gk (j + 1) m (stepL m2 (T j))) := hid (fun h1 h2 => HMi.out.step h1 h2)
                  have HMp : Hid (¬ (kind (T j) = true ∧ (T j).g = gk) → Mi T i k gk (j + 1) m m2) := hid (fun h => HMi.out.pass h)
                  obtain ⟨D, hD⟩ : ∃ x, (T j).dO = x := ⟨_, rfl⟩
                  obtain ⟨K, HK⟩ : ∃ x, Hid ((T j).cells = x) := ⟨_, hid rfl⟩
                  obtain ⟨gj, hgj⟩ : ∃ x, (T j).g = x := ⟨_, rfl⟩
                  rw [hD] at y0 HKd
                  rw [hgj] at y1 HMs HMp
                  rw [HK.out] at HRr HKs HSj
                  have HIj := hid (show j + 1 ≤ i by omega)
                  clear hD HK hgj hj hjl HSt HLa HEq HWk HAt HYd HLm HLk
                  by_cases hg : gj = gk
                  · have hg' : ((gj : Int) == (gk : Int)) = true := by rw [beq_iff_eq]; omega
                    subst hg
                    by_cases h1 : D = 1
                    · as_aux_lemma =>
                      subst h1
                      have HN := hid (HMs.out rfl (by rw [HKd.out]; rfl))
                      clear HMs HMp HKd
                      go_wp2_with fail
                      go_quiet (fail)
                      go_wp2_with (first
                        | (with_reducible refine wpList_load_part (by with_unfolding_all rfl) 29 _ (by with_unfolding_all rfl) b (o + j * 20) K _ (by with_unfolding_all rfl) (HRr.out _ (gdrew _ _ _)) Try.underlying29 (by with_unfolding_all rfl) HKs.out ?_)
                        | (go_at_call 16; (with_reducible refine (HSj.out _ (gdrew _ _ _)).mono ?_); rintro e w4 ⟨v4, rfl, ho4, hg4⟩; have HO4 := hid ho4; have HG4 := hid (gtrans HJ.out (gtrans (gdrew _ _ _) hg4)); clear ho4 hg4))
                      go_roundw
                      case rel => exact ⟨j + 1, v4, _, rfl, by go_num, HIj.out, HN, HO4, HG4⟩
                      case measure => have := HIj.out; simp [intOf]; omega
                    · have h1' : (D == 1) = false := beq_eq_false_iff_ne.2 h1
                      by_cases h2 : D = 2
                      · as_aux_lemma =>
                        subst h2
                        have HN := hid (HMs.out rfl (by rw [HKd.out]; rfl))
                        clear HMs HMp HKd
                        go_wp2_with fail
                        go_quiet (fail)
                        go_wp2_with (first
                          | (with_reducible refine wpList_load_part (by with_unfolding_all rfl) 29 _ (by with_unfolding_all rfl) b (o + j * 20) K _ (by with_unfolding_all rfl) (HRr.out _ (gdrew _ _ _)) Try.underlying29 (by with_unfolding_all rfl) HKs.out ?_)
                          | (go_at_call 16; (with_reducible refine (HSj.out _ (gdrew _ _ _)).mono ?_); rintro e w4 ⟨v4, rfl, ho4, hg4⟩; have HO4 := hid ho4; have HG4 := hid (gtrans HJ.out (gtrans (gdrew _ _ _) hg4)); clear ho4 hg4))
                        go_roundw
                        case rel => exact ⟨j + 1, v4, _, rfl, by go_num, HIj.out, HN, HO4, HG4⟩
                        case measure => have := HIj.out; simp [intOf]; omega
                      · as_aux_lemma =>
                        have h2' : (D == 2) = false := beq_eq_false_iff_ne.2 h2
                        have HN := hid (HMp.out (fun h => by rw [HKd.out, decide_eq_false h1, decide_eq_false h2] at h; cases h.1))
                        clear HMs HMp HKd
                        go_wp2_with fail
                        go_quiet (fail)
                        go_wp2_with fail
                        go_roundw
                        case rel => exact ⟨j + 1, mv2, m2, rfl, by go_num, HIj.out, HN, hid (HOj.out.keep (gdrew _ _ _)), hid (gtrans HJ.out (gdrew _ _ _))⟩
                        case measure => have := HIj.out; simp [intOf]; omega
                  · as_aux_lemma =>
                    have hg' : ((gj : Int) == (gk : Int)) = false := beq_eq_false_iff_ne.2 (by omega)
                    have hg2 : ¬ (gj : Int) = (gk : Int) := by omega
                    have HN := hid (HMp.out (fun h => hg h.2))
                    clear HMs HMp HKd hg
                    go_wp2_with fail
                    go_quiet (fail)
                    go_wp2_with fail
                    go_roundw
                    case rel => exact ⟨j + 1, mv2, m2, rfl, by go_num, HIj.out, HN, hid (HOj.out.keep (gdrew _ _ _)), hid (gtrans HJ.out (gdrew _ _ _))⟩
                    case measure => have := HIj.out; simp [intOf]; omega
                · as_aux_lemma =>
                  have hjl' : ¬ (j : Int) < (i : Int) := by omega
                  obtain rfl : j = i := by omega
                  have HM2 : Hid (Mt T j k m2) := hid (Mi.fin HM.out (by rw [HGk.out]; exact HMi.out) HKI.out (by omega))
                  go_wp2_with fail
                  go_roundw
                  case rel => exact ⟨k, mv2, m2, rfl, by first | rfl | go_num, by have := HKI.out; omega, HM2, HOj, hid (gtrans HX.out HJ.out)⟩
                  case measure => have := HKI.out; first | (simp [intOf]; done) | (simp [intOf]; omega)
end Go.Proofs.Ytlgjmhemgfjgnaa
