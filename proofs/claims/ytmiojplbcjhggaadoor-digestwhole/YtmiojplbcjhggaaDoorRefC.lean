/- The reference's Sum. -/
import Derived.Test.YtmiojplbcjhggaaDoorRefB
namespace Go.Proofs.YtmiojplbcjhggaaDoor
open Go Go.RowKit
open Go.RowKit (wrap32 wrap64)

theorem quietAt_slice {P : Program} {C : World → Prop} {o : Oper} {a : Act} {u : World} (t : TypeId) (x lo hi : Operand) (vx vl vh v : Value) (ho : o.op = .slice t x (some lo) (some hi) none) (hx : a.eval x = vx) (hl : a.eval lo = vl) (hh : a.eval hi = vh) (hr : (Instr.sliceAt t vx (some vl) (some vh) none).run P u = .ok v u) : o.quietAt P a C u v := by
  subst hx hl hh
  unfold Oper.quietAt execOp
  simp only [ho, Option.map_some, Option.map_none]
  rw [Sem.run_bind, hr]
  exact ⟨rfl, rfl⟩

theorem add_run (A : Nat) (h : A ≤ 140737488355328) (x y : Operand) (u : World) : (do eqGuard .add 3 x y (.int .i64 (A : Int)) (.int .i64 64); binOp .add 3 (.int .i64 (A : Int)) (.int .i64 64) : Sem Value).run Tryd.prog u = .ok (.int .i64 ((A : Int) + 64)) u := by
  have e : IntKind.i64.wrap ((A : Int) + 64) = (A : Int) + 64 := wrapi _ (by omega) (by omega)
  simp [eqGuard, binOp, Op.intArith, e]
theorem slice_mid (b M c k : Nat) (h : k + 64 ≤ M) (h2 : M ≤ c) (u : World) : (Instr.sliceAt 23 (.slice (some ⟨b, 0, none⟩) M c) (some (.int .i64 (k : Int))) (some (.int .i64 ((k : Int) + 64))) none).run Tryd.prog u = .ok (.slice (some ⟨b, k, none⟩) 64 (c - k)) u := by
  obtain ⟨K, hK⟩ : ∃ K, K = k + 64 := ⟨_, rfl⟩
  have e : (k : Int) + 64 = (K : Int) := by omega
  have h1 : (k : Int) ≤ (K : Int) := by omega
  have h3 : (K : Int) ≤ (c : Int) := by omega
  have h4 : ¬ c = k := by omega
  have h6 : K - k = 64 := by omega
  rw [e, run_sliceAt_slice u 23 _ _ _ _ Tryd.underlying23]
  cases hq : Tryd.prog.info? 5 with
  | none => have := Tryd.one5; rw [hq] at this; cases this
  | some i =>
    have hs : i.size = 1 := by have := Tryd.one5; rw [hq] at this; simpa using this
    simp [Instr.slice, run_underlying Tryd.underlying23, Instr.sliceBounds, run_sliceBound, sizeOf, typeInfo, hq, hs, h1, h3, h4, h6, Addr.add_lit]
def padJ (l : List UInt8) (j : Nat) : List UInt8 := l ++ 0x80 :: List.replicate j 0
theorem padJ_length (l : List UInt8) (j : Nat) : (padJ l j).length = l.length + 1 + j := by simp [padJ]; omega
theorem padJ_succ (l : List UInt8) (j : Nat) : padJ l (j + 1) = padJ l j ++ [0] := by simp [padJ, List.replicate_succ']
theorem padJ_full (l : List UInt8) (n : Nat) (hn : n = l.length) : padJ l ((119 - n % 64) % 64) ++ be (8 * n) 8 = l ++ padL l.length := by
  subst hn
  simp [padJ, padL]
theorem pad_len (l : List UInt8) : (l ++ padL l.length).length % 64 = 0 := by
  have : (padL l.length).length = 1 + ((119 - l.length % 64) % 64 + 8) := by simp [padL, be]; omega
  rw [List.length_append, this]
  omega
theorem pad_le (l : List UInt8) : (l ++ padL l.length).length ≤ l.length + 72 := by
  have : (padL l.length).length = 1 + ((119 - l.length % 64) % 64 + 8) := by simp [padL, be]; omega
  rw [List.length_append, this]
  omega
set_option maxRecDepth 100000 in
set_option maxHeartbeats 1600000 in
theorem sumR_any (w : World) (v : Value) (F : Nat → Prop) (l : List UInt8) (hv : Rd w F v l) (hl : l.length ≤ 140737488350000) :
    Calls Tryd.prog 9 #[v] w fun e w' => e = .returned (.agg (Lib.byteCells (sumL l)).toArray) ∧ w.grownBy w' none := by
  obtain ⟨R, HRe⟩ : ∃ R, Hid (Lib.byteCells (sumL l) = R) := ⟨_, hid rfl⟩
  rw [HRe.out]
  have HV := hid hv
  obtain ⟨va, vb, vo, vc, hve, _⟩ := hv
  subst hve
  obtain ⟨n, HN⟩ : ∃ n, Hid (l.length = n) := ⟨_, hid rfl⟩
  have HL := hid hl
  rw [HN.out] at HV ⊢
  obtain ⟨hc, HHC⟩ : ∃ hc, Hid (H0.cells = hc) := ⟨_, hid rfl⟩
  have HHL : Hid (hc.length = 8) := hid (by rw [← HHC.out]; rfl)
  have HH1 : Hid (∀ v ∈ hc, v.oneCell' = true) := hid (by rw [← HHC.out]; exact wcs_one _)
  clear hl
  go_enter Tryd.func9, Tryd.ntmps9
  go_wp2_with (first
    | (refine wpList_alloc_row rfl 24 rfl y32 Tryd.zero24 ?_; intro w1 B1 s1 g1; have HB1 := hid B1; have HG1 := hid g1; have HZ1 := hid s1; clear B1 g1 s1)
    | (refine wpList_build_is rfl 67 _ rfl hc (by rw [← HHC.out]; kernel_rfl) ?_)
    | (refine wpList_alloc_row rfl 67 rfl z8 Tryd.zero67 ?_; intro w2 B2 s2 g2; have HB2 := hid B2; have HG2 := hid g2; have HZ2 := hid s2; clear B2 g2 s2)
    | (refine wpList_store_all rfl 67 _ _ rfl _ z8 hc 67 rfl rfl HB2.out (by rw [HHL.out]; rfl) (by rw [HHL.out]; exact Tryd.size67) HH1.out ?_; intro w3 B3 g3 s3; have HB3 := hid B3; have HG3 := hid g3; have HZ3 := hid s3; clear B3 g3 s3; have HGa := hid ((gtrans HG1.out HG2.out).andThen HG3.out (fun j hj => .inl (by have hj' : w1.heap.size = j := Option.some.inj hj; have := HG1.out.size; omega))))
    | (go_at_call 30; refine (copyR_any _ _ F l (HV.out.keep HGa.out) (by have := HL.out; omega)).mono ?_; rintro e w4 ⟨v4, rfl, hO4, hg4⟩; have HO4 := hid hO4; have HG4 := hid hg4; have hz4 := hg4.size; clear hO4 hg4)
    | (at_builtin; refine wpList_append_byteW rfl _ _ rfl w3.heap.size w4.heap.size l 128 (HO4.out.keep (galloc w4 _ none)) rfl (litL w4 _) (by have := HL.out; omega) (by simp; omega) ?_; intro v5 w5 hO5 hg5; have HO5 := hid hO5; have HG5 := hid (gtrans (galloc w4 _ _) hg5); clear hO5 hg5))
  obtain ⟨b0, hb0⟩ : ∃ b, b = w.heap.size := ⟨_, rfl⟩
  obtain ⟨b1, hb1⟩ : ∃ b, b = w1.heap.size := ⟨_, rfl⟩
  obtain ⟨B, hB⟩ : ∃ b, b = w3.heap.size := ⟨_, rfl⟩
  rw [← hb0] at HB1 ⊢
  rw [← hb1] at HB3 HG3 ⊢
  rw [← hB] at HO4 HO5 hz4
  have HNB := hid (show w.heap.size ≤ b0 ∧ b0 < b1 ∧ b1 < B by have := HZ1.out; have := HZ2.out; have := HZ3.out; omega)
  have HBr : Hid (Blk w5 b0 y32 24) := hid ((((HB1.out.keep HG2.out).on HG3.out (by have := HNB.out; simp; omega)).keep HG4.out).on HG5.out (fun e => by have := HO4.out.block _ e; have := HNB.out; omega))
  have HBh : Hid (Blk w5 b1 hc 67) := hid ((HB3.out.keep HG4.out).on HG5.out (fun e => by have := HO4.out.block _ e; have := HNB.out; omega))
  have HG : Hid (w.grownBy w5 none) := hid ((gtrans HGa.out HG4.out).andThen HG5.out (fun j hj => .inl (by have := HO4.out.block _ hj; have := HNB.out; omega)))
  have HO : Hid (Out B w5 v5 (padJ l 0)) := HO5
  clear HB1 HB2 HB3 HG1 HG2 HG3 HG4 HG5 HO4 HO5 HGa HZ1 HZ2 HZ3 hb0 hb1 hB hz4
  go_loopw [4] (fun lv wr => ∃ j : Nat, Hid (j ≤ (119 - n % 64) % 64) ∧ Hid (Out B wr lv (padJ l j)) ∧ Hid (Blk wr b0 y32 24) ∧ Hid (Blk wr b1 hc 67) ∧ Hid (w.grownBy wr none)) (fun lv _ => (119 - n % 64) % 64 + n + 1 - vlen lv)
  case atStart => exact ⟨0, hid (Nat.zero_le _), HO, HBr, HBh, HG⟩
  case round =>
    clear HO HBr HBh HG
    obtain ⟨j, HJ, HO, HBr, HBh, HG⟩ := hrel
    obtain ⟨g, cap, hvf, hcap, hgB, hgs, -⟩ := HO.out.form (by rw [padJ_length]; omega)
    subst hvf
    obtain ⟨M, hM⟩ : ∃ M, M = (padJ l j).length := ⟨_, rfl⟩
    have hM2 : M = n + 1 + j := by rw [hM, padJ_length, HN.out]
    rw [← hM] at HO hcap ⊢
    have hsz := HG.out.size
    have hB5 : B ≤ wr.heap.size := by omega
    by_cases hlt : j < (119 - n % 64) % 64
    · have ht : ¬ (M : Int) % 64 = 56 := by omega
      have HM2 := hid hM2
      have HJL := hid hlt
      clear hM hM2 hlt
      go_wp2_with (at_builtin; refine wpList_append_byteW rfl _ _ rfl B wr.heap.size _ 0 (HO.out.keep (galloc wr _ none)) rfl (litL wr _) (by rw [padJ_length]; have := HL.out; have := HJL.out; omega) (by simp; omega) ?_; intro v6 w6 hO6 hg6)
      have hge := gtrans (galloc wr _ _) hg6
      go_roundw
      case rel => exact ⟨j + 1, hid (by have := HJL.out; omega), hid (by rw [padJ_succ]; exact hO6), hid (HBr.out.on hge (fun e => by have := HO.out.block _ e; have := HNB.out; omega)), hid (HBh.out.on hge (fun e => by have := HO.out.block _ e; have := HNB.out; omega)), hid (HG.out.andThen hge (fun q hq => .inl (by have := HO.out.block _ hq; have := HNB.out; omega)))⟩
      case measure =>
        obtain ⟨g6, c6, e6, -⟩ := hO6.form (by rw [List.length_append]; simp)
        have hl6 : (padJ l j ++ [0]).length = n + 1 + j + 1 := by rw [List.length_append, padJ_length, HN.out]; rfl
        rw [e6, hl6]
        show (119 - n % 64) % 64 + n + 1 - (n + 1 + j + 1) < (119 - n % 64) % 64 + n + 1 - M
        have := HJL.out
        have := HM2.out
        omega
    · have ht : (M : Int) % 64 = 56 := by have := HJ.out; omega
      obtain ⟨E, hE⟩ : ∃ E, E = 8 * n := ⟨_, rfl⟩
      have hn47 : n ≤ 140737488350000 := by rw [← HN.out]; exact HL.out
      have n0 : (0 : Int) ≤ (n : Int) := by omega
      have n1 : (n : Int) ≤ 140737488350000 := by omega
      have eE : 8 * (n : Int) = (E : Int) := by omega
      have HNu := hid (fun u => numberR_any u E (by omega))
      have HPL : Hid (padJ l j ++ be E 8 = l ++ padL l.length) := hid (by
        have hj : j = (119 - n % 64) % 64 := by have := HJ.out; omega
        rw [hj, hE]
        exact padJ_full l n HN.out.symm)
      have HPJ : Hid ((padJ l j).length ≤ 140737488350100) := hid (by rw [← hM]; have := HJ.out; omega)
      clear hM hM2 hE hlt hn47
      obtain ⟨wo, hwo⟩ : ∃ x, x = wr := ⟨_, rfl⟩
      subst hwo
      go_wp2_with (first
        | (go_at_call 31; with_reducible refine (HNu.out _).mono ?_; rintro e w7 ⟨v7, rfl, hO7, hg7⟩; have HO7 := hid hO7; have HG7 := hid hg7; have hz7 := hg7.size; clear hO7 hg7)
        | (at_builtin; refine wpList_append_rdW rfl _ _ rfl B _ _ (be E 8) (HO.out.keep HG7.out) HO7.out.rd (by rw [be_len]; have := HPJ.out; omega) (by omega) ?_; intro v8 w8 hO8 hg8 _))
      have HO8 : Hid (Out B w8 v8 (l ++ padL l.length)) := hid (by rw [← HPL.out]; exact hO8)
      have hge := gtrans (gsome HG7.out _) hg8
      have HBr8 : Hid (Blk w8 b0 y32 24) := hid (HBr.out.on hge (fun e => by have := HO.out.block _ e; have := HNB.out; omega))
      have HBh8 : Hid (Blk w8 b1 (fold64 0 H0 (l ++ padL l.length)).cells 67) := hid (by
        have h := (HBh.out.on hge (fun e => by have := HO.out.block _ e; have := HNB.out; omega))
        rw [← HHC.out] at h
        exact h)
      have HG8 : Hid (w.grownBy w8 none) := hid (HG.out.andThen hge (fun q hq => .inl (by have := HO.out.block _ hq; have := HNB.out; omega)))
      have HSu : Hid ((fold64 ((l ++ padL l.length).length / 64) H0 (l ++ padL l.length)).bytes = sumL l) := hid rfl
      have HM0 := hid (pad_len l)
      have HL0 : Hid (0 < (l ++ padL l.length).length) := hid (by rw [List.length_append]; simp [padL]; omega)
      have HLe2 : Hid ((l ++ padL l.length).length ≤ 140737488350072) := hid (by have := pad_le l; have := HL.out; omega)
      clear hO8 hg8 hge HO HBr HBh HG HO7 HG7 hz7 HPL HPJ HNu
      generalize l ++ padL l.length = L at HO8 HBh8 HSu HM0 HLe2 HL0
      obtain ⟨g8, c8, e8, hc8, hgB8, hgs8, -⟩ := HO8.out.form (by
        exact HL0.out)
      subst e8
      obtain ⟨LL, HLL⟩ : ∃ x, Hid (L.length = x) := ⟨_, hid rfl⟩
      rw [HLL.out] at HO8 hc8 HM0 HLe2 HSu ⊢
      go_wp2_with fail
      go_loopw [5] (fun iv wr => ∃ t : Nat, Hid (64 * t ≤ LL) ∧ iv = .int .i64 (64 * t : Nat) ∧ Hid (Out B wr (.slice (some ⟨g8, 0, none⟩) LL c8) L) ∧ Hid (Blk wr b0 y32 24) ∧ Hid (Blk wr b1 (fold64 t H0 L).cells 67) ∧ Hid (w.grownBy wr none)) (fun iv _ => LL - (intOf iv).toNat)
      case atStart => exact ⟨0, hid (Nat.zero_le _), rfl, HO8, HBr8, HBh8, HG8⟩
      case round =>
        clear HO8 HBr8 HBh8 HG8
        obtain ⟨t, HT, rfl, HO, HBr, HBh, HG⟩ := hrel
        obtain ⟨A, hA⟩ : ∃ A, A = 64 * t := ⟨_, rfl⟩
        rw [← hA]
        by_cases hlt : A < LL
        · have hA64 : A + 64 ≤ LL := by have := HM0.out; omega
          have a1 : (A : Int) < (LL : Int) := by omega
          have a2 : (A : Int) + 64 ≤ (LL : Int) := by omega
          have a3 : (LL : Int) ≤ (c8 : Int) := by omega
          have a4 : (LL : Int) ≤ 140737488350072 := by have := HLe2.out; omega
          clear hlt
          obtain ⟨hs, HHS⟩ : ∃ hs, Hid ((fold64 t H0 L).cells = hs) := ⟨_, hid rfl⟩
          obtain ⟨hs', HHS'⟩ : ∃ hs, Hid ((fold64 (t + 1) H0 L).cells = hs) := ⟨_, hid rfl⟩
          have HH8 : Hid (hs.length = 8) := hid (by rw [← HHS.out]; rfl)
          have HH8' : Hid (hs'.length = 8) := hid (by rw [← HHS'.out]; rfl)
          have HH1' : Hid (∀ v ∈ hs', v.oneCell' = true) := hid (by rw [← HHS'.out]; exact wcs_one _)
          have HBq : Hid (∀ u, wr.grownBy u none → Blk u b1 hs 67) := hid (fun u hu => by rw [← HHS.out]; exact HBh.out.keep hu)
          have HCh : Hid (∀ u, wr.grownBy u none → Calls Tryd.prog 32 #[.agg hs.toArray, .slice (some ⟨g8, A, none⟩) 64 (c8 - A)] u fun e w' => e = .returned (.agg hs'.toArray) ∧ u.grownBy w' none) := hid (fun u hu => by
            rw [← HHS.out, ← HHS'.out, fold64_succ]
            refine changedR_any _ (fold64_ok _ _ H0_ok) _ (fun _ => True) _ ?_ u ?_
            · rw [List.length_take, List.length_drop, HLL.out]; omega
            · obtain ⟨g', c', e', _, _, hgl, hcell⟩ := (HO.out.keep hu).form (by rw [HLL.out]; omega)
              injection e' with e1 e2 e3
              injection e1 with e1
              injection e1 with e1
              subst e1
              have hll : ((L.drop (64 * t)).take 64).length = 64 := by rw [List.length_take, List.length_drop, HLL.out]; omega
              refine ⟨_, g8, A, c8 - A, by rw [hll], by rw [hll]; omega, (fun h => by cases h), fun _ => ⟨rfl, hgl, trivial⟩, fun i hi => ?_⟩
              rw [hll] at hi
              rw [hcell (A + i) (by rw [HLL.out]; omega), List.getElem_take, List.getElem_drop]
              simp only [hA])
          go_wp2_with fail
          have HAdd : Hid (∀ u : World, (do eqGuard .add 3 (.tmp 36) (.const (.int .i64 64)) (.int .i64 (A : Int)) (.int .i64 64); binOp .add 3 (.int .i64 (A : Int)) (.int .i64 64) : Sem Value).run Tryd.prog u = .ok (.int .i64 ((A : Int) + 64)) u) := hid (fun u => add_run A (by have := HLe2.out; omega) _ _ u)
          have HSli : Hid (∀ u : World, (Instr.sliceAt 23 (.slice (some ⟨g8, 0, none⟩) LL c8) (some (.int .i64 (A : Int))) (some (.int .i64 ((A : Int) + 64))) none).run Tryd.prog u = .ok (.slice (some ⟨g8, A, none⟩) 64 (c8 - A)) u) := hid (fun u => slice_mid g8 LL c8 A hA64 hc8 u)
          refine wp_region_lastA (by kernel_rfl) (by kernel_rfl) 7 rfl (by kernel_rfl) rfl rfl (fun u => wr.grownBy u none) (gdrew1 wr none) _ rfl ?_
          intro A' hA'
          have hA3 : A'.eval (.tmp 3) = .pointer (some ⟨b1, 0, none⟩) := by rw [hA']; rfl
          have hA4 : A'.eval (.tmp 4) = .slice (some ⟨g8, 0, none⟩) LL c8 := by rw [hA']; rfl
          have hA5 : A'.eval (.tmp 5) = .int .i64 (A : Int) := by rw [hA']; rfl
          have hsz : A'.tmps.size = 58 := by rw [hA']; rfl
          have HA' := hid hA'
          clear hA'
          dsimp only [List.dropLast]
          with_reducible refine wpQuiet_one ?gd (.agg hs.toArray) ?q ?_
          case gd => rfl
          case q =>
            intro u hu
            with_reducible refine quietAt_load 67 (.tmp 3) ?h0 b1 0 hs (.array 8 66) ?h1 ?h2 ?h3 ?h4 ?h5
            case h0 => rfl
            case h1 => (repeat with_reducible refine (ev_ne _ _ _ _ (by decide)).trans ?_); with_reducible first | exact hA3 | exact hA4 | exact hA5 | exact ev_same _ _ _ (by (repeat with_reducible refine lt_put ?_); rw [hsz]; decide)
            case h2 => exact (HBq.out u hu).whole
            case h3 => exact Tryd.underlying67
            case h4 => rfl
            case h5 => rw [HH8.out]; exact Tryd.size67
          dsimp only
          with_reducible refine wpQuiet_one ?gd (.slice (some ⟨g8, 0, none⟩) LL c8) ?q ?_
          case gd => rfl
          case q =>
            intro u hu
            with_reducible refine quietAt_mv (.tmp 4) (.slice (some ⟨g8, 0, none⟩) LL c8) ?h0 ?h1
            case h0 => rfl
            case h1 => (repeat with_reducible refine (ev_ne _ _ _ _ (by decide)).trans ?_); with_reducible first | exact hA3 | exact hA4 | exact hA5 | exact ev_same _ _ _ (by (repeat with_reducible refine lt_put ?_); rw [hsz]; decide)
          dsimp only
          with_reducible refine wpQuiet_one ?gd (.int .i64 (A : Int)) ?q ?_
          case gd => rfl
          case q =>
            intro u hu
            with_reducible refine quietAt_mv (.tmp 5) (.int .i64 (A : Int)) ?h0 ?h1
            case h0 => rfl
            case h1 => (repeat with_reducible refine (ev_ne _ _ _ _ (by decide)).trans ?_); with_reducible first | exact hA3 | exact hA4 | exact hA5 | exact ev_same _ _ _ (by (repeat with_reducible refine lt_put ?_); rw [hsz]; decide)
          dsimp only
          with_reducible refine wpQuiet_one ?gd (.int .i64 (A : Int)) ?q ?_
          case gd => rfl
          case q =>
            intro u hu
            with_reducible refine quietAt_mv (.tmp 5) (.int .i64 (A : Int)) ?h0 ?h1
            case h0 => rfl
            case h1 => (repeat with_reducible refine (ev_ne _ _ _ _ (by decide)).trans ?_); with_reducible first | exact hA3 | exact hA4 | exact hA5 | exact ev_same _ _ _ (by (repeat with_reducible refine lt_put ?_); rw [hsz]; decide)
          dsimp only
          with_reducible refine wpQuiet_one ?gd (.int .i64 ((A : Int) + 64)) ?q ?_
          case gd => rfl
          case q =>
            intro u hu
            with_reducible refine quietAt_bin .add 3 (.tmp 36) (.const (.int .i64 64)) 3 (.int .i64 (A : Int)) (.int .i64 64) (.int .i64 ((A : Int) + 64)) ?h0 ?h1 ?h2 ?h3
            case h0 => rfl
            case h1 => (repeat with_reducible refine (ev_ne _ _ _ _ (by decide)).trans ?_); with_reducible first | exact hA3 | exact hA4 | exact hA5 | exact ev_same _ _ _ (by (repeat with_reducible refine lt_put ?_); rw [hsz]; decide)
            case h2 => rfl
            case h3 => exact HAdd.out u
          dsimp only
          with_reducible refine wpQuiet_one ?gd (.slice (some ⟨g8, A, none⟩) 64 (c8 - A)) ?q ?_
          case gd => rfl
          case q =>
            intro u hu
            with_reducible refine quietAt_slice 23 (.tmp 34) (.tmp 35) (.tmp 37) (.slice (some ⟨g8, 0, none⟩) LL c8) (.int .i64 (A : Int)) (.int .i64 ((A : Int) + 64)) (.slice (some ⟨g8, A, none⟩) 64 (c8 - A)) ?h0 ?h1 ?h2 ?h3 ?h4
            case h0 => rfl
            case h1 => (repeat with_reducible refine (ev_ne _ _ _ _ (by decide)).trans ?_); with_reducible first | exact hA3 | exact hA4 | exact hA5 | exact ev_same _ _ _ (by (repeat with_reducible refine lt_put ?_); rw [hsz]; decide)
            case h2 => (repeat with_reducible refine (ev_ne _ _ _ _ (by decide)).trans ?_); with_reducible first | exact hA3 | exact hA4 | exact hA5 | exact ev_same _ _ _ (by (repeat with_reducible refine lt_put ?_); rw [hsz]; decide)
            case h3 => (repeat with_reducible refine (ev_ne _ _ _ _ (by decide)).trans ?_); with_reducible first | exact hA3 | exact hA4 | exact hA5 | exact ev_same _ _ _ (by (repeat with_reducible refine lt_put ?_); rw [hsz]; decide)
            case h4 => exact HSli.out u
          dsimp only
          with_reducible refine wpQuiet_one ?gd (.agg hs'.toArray) ?q ?_
          case gd => rfl
          case q =>
            intro u hu
            with_reducible refine quietAt_call 32 Tryd.f32 ?h0 ?h1 ?h2 #[.tmp 33, .tmp 38] #[67, 23] ?h3 (.agg hs'.toArray) #[.agg hs.toArray, .slice (some ⟨g8, A, none⟩) 64 (c8 - A)] ?h4 ?h5
            case h0 => exact Tryd.func32
            case h1 => kernel_rfl
            case h2 => kernel_rfl
            case h3 => rfl
            case h4 => exact map2 _ _ _ _ _ (by (repeat with_reducible refine (ev_ne _ _ _ _ (by decide)).trans ?_); with_reducible first | exact hA3 | exact hA4 | exact hA5 | exact ev_same _ _ _ (by (repeat with_reducible refine lt_put ?_); rw [hsz]; decide)) (by (repeat with_reducible refine (ev_ne _ _ _ _ (by decide)).trans ?_); with_reducible first | exact hA3 | exact hA4 | exact hA5 | exact ev_same _ _ _ (by (repeat with_reducible refine lt_put ?_); rw [hsz]; decide))
            case h5 => exact (HCh.out u hu).mono fun e w' h => ⟨h.1, gtrans hu h.2⟩
          dsimp only
          refine wpQuiet_nil ?_
          intro w3 hg3
          with_reducible refine wp_store_part 67 (.tmp 3) (.tmp 39) ?h0 b1 0 hs hs' 67 ?h1 ?h2 (HBq.out _ hg3) ?h3 ?h4 HH1'.out ?h5
          case h0 => rfl
          case h1 => (repeat with_reducible refine (ev_ne _ _ _ _ (by decide)).trans ?_); with_reducible first | exact hA3 | exact hA4 | exact hA5 | exact ev_same _ _ _ (by (repeat with_reducible refine lt_put ?_); rw [hsz]; decide)
          case h2 => (repeat with_reducible refine (ev_ne _ _ _ _ (by decide)).trans ?_); with_reducible first | exact hA3 | exact hA4 | exact hA5 | exact ev_same _ _ _ (by (repeat with_reducible refine lt_put ?_); rw [hsz]; decide)
          case h3 => rw [HH8'.out, HH8.out]; decide
          case h4 => rw [HH8'.out]; exact Tryd.size67
          intro w4 B4 g4 s4
          rw [HA'.out]
          have e4 : splice hs 0 hs' = hs' := by unfold splice; rw [List.take_zero, List.nil_append, Nat.zero_add, HH8'.out, ← HH8.out, List.drop_length, List.append_nil]
          rw [e4, ← HHS'.out] at B4
          have HB4 := hid B4
          have HG4 := hid (gtrans (gsome hg3 (some b1)) g4)
          clear B4 g4 s4 hg3 hA3 hA4 hA5 hsz HA' e4 HCh HBq HAdd HSli
          go_wp2_with fail
          go_roundw
          case rel => exact ⟨t + 1, hid (by omega), by rw [show ((64 * (t + 1) : Nat) : Int) = 64 * (t : Int) + 64 by omega], hid (HO.out.away HG4.out (by have := HNB.out; omega)), hid (HBr.out.on HG4.out (by have := HNB.out; simp; omega)), HB4, hid (HG.out.andThen HG4.out (fun q hq => .inl (by have hq' : b1 = q := Option.some.inj hq; have := HNB.out; omega)))⟩
          case measure => simp only [intOf]; omega
        · have hAe : A = LL := by have := HT.out; omega
          subst hAe
          have HST : Hid ((fold64 t H0 L).bytes = sumL l) := hid (by
            rw [← HSu.out, hA, Nat.mul_div_cancel_left _ (by decide)])
          obtain ⟨S, HSe⟩ : ∃ S, Hid (fold64 t H0 L = S) := ⟨_, hid rfl⟩
          rw [HSe.out] at HST HBh
          have HOk : Hid S.Ok := hid (by rw [← HSe.out]; exact fold64_ok _ _ H0_ok)
          obtain ⟨Q, HQ⟩ : ∃ Q, Hid (sumL l = Q) := ⟨_, hid rfl⟩
          rw [HQ.out] at HST HRe
          have HQL : Hid (Q.length = 32) := hid (by rw [← HST.out, bytes_length])
          clear HO
          go_wp2_with (refine wpList_alloc_row rfl 24 rfl y32 Tryd.zero24 ?_; intro w10 B10 s10 g10; have HB10 := hid B10; have HG10 := hid g10; have HZ10 := hid s10; clear B10 g10 s10)
          obtain ⟨b6, hb6⟩ : ∃ b, b = wr.heap.size := ⟨_, rfl⟩
          rw [← hb6] at HB10 ⊢
          have HNb := hid (show b1 ≠ b6 ∧ b0 ≠ b6 ∧ w.heap.size ≤ b6 by have := HBh.out.lt; have := HBr.out.lt; have := HG.out.size; omega)
          have HBh2 := hid (HBh.out.keep HG10.out)
          have HBr2 := hid (HBr.out.keep HG10.out)
          have HG2 := hid (gtrans HG.out HG10.out)
          clear HBh HBr HG HG10 HZ10 hb6
          go_wp2_with fail
          go_loopw [7] (fun iv wr => ∃ k : Nat, k ≤ 32 ∧ iv = .int .i64 k ∧ Hid (Blk wr b6 (prt Q 32 k) 24) ∧ Hid (w10.grownBy wr (some b6))) (fun iv _ => 32 - (intOf iv).toNat)
          case atStart => exact ⟨0, by omega, rfl, hid (by rw [prt_zero]; exact HB10.out), hid (grefl _ _)⟩
          case round =>
            obtain ⟨k, hk, rfl, HK, HW⟩ := hrel
            by_cases hlt : k < 32
            · have cw := HK.out.cell k
              rw [prt_at _ _ _ HQL.out hlt] at cw
              have cf := HK.out.frozen k
              have HV3 := hid (prt_step Q 32 k HQL.out hlt)
              have HVv : Hid (Q.getD k 0 = UInt8.ofNat (S.list.getD (k / 4) 0 / 256 ^ (3 - k % 4))) := hid (by rw [← HST.out]; exact bytes_get S k hlt)
              have cs := (HBh2.out.on HW.out (by simp; exact fun e => HNb.out.1 e.symm)).cell (k / 4)
              rw [S8.cells, wcs_get _ _ (by show k / 4 < 8; omega)] at cs
              have hl4 := list_lt HOk.out (k / 4)
              generalize S.list.getD (k / 4) 0 = X at HVv cs hl4
              have hk4 : k / 4 < 8 := by omega
              have hm4 : k % 4 < 4 := by omega
              have HVI := hid (byte_int4 X (k % 4) hm4)
              go_wp2_with fail
              go_roundw
              case rel => exact ⟨k + 1, by omega, by go_num, hid (by rw [HVI.out, ← HVv.out, ← HV3.out]; exact HK.out.set _ _), hid (gtrans HW.out (gset _ _ _))⟩
              case measure => simp [intOf]; omega
            · obtain rfl : k = 32 := by omega
              have HF := hid HK.out
              rw [prt_full _ _ HQL.out, HRe.out] at HF
              have HB1r := hid (HBr2.out.on HW.out (by simp; exact fun e => HNb.out.2.1 e.symm))
              have HRL : Hid (R.length = 32) := hid (by rw [← HRe.out, byteCells_length, HQL.out])
              have HR1 : Hid (∀ v ∈ R, v.oneCell' = true) := hid (by rw [← HRe.out]; exact bcs_one _)
              clear HK
              go_wp2_with (first
                | (refine wpList_load_part rfl 24 _ rfl b6 0 R _ rfl HF.out.whole Tryd.underlying24 rfl (by rw [HRL.out]; exact Tryd.size24) ?_)
                | (refine wpList_store_all rfl 24 _ _ rfl b0 y32 R 24 rfl rfl HB1r.out (by rw [HRL.out]; rfl) (by rw [HRL.out]; exact Tryd.size24) HR1.out ?_; intro w6 B6 g6 s6; have HB6 := hid B6; have HG6 := hid g6; clear B6 g6 s6))
              refine bodyPost_ret (results_blk rfl _ b0 24 R _ rfl HB6.out Tryd.underlying24 rfl (by rw [HRL.out]; exact Tryd.size24)) rfl ?_
              exact ⟨rfl, (HG2.out.andThen HW.out (fun j hj => .inl (by have hj' : b6 = j := Option.some.inj hj; have := HNb.out; omega))).andThen HG6.out (fun j hj => .inl (by have hj' : b0 = j := Option.some.inj hj; have := HNB.out; omega))⟩
end Go.Proofs.YtmiojplbcjhggaaDoor
