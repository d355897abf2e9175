/- RecordStays' walk. -/
import Derived.Test.YtfalgjdhdgkbfabDoorStyA
import Derived.Deep.Cut
import Derived.Deep.CutBlock
namespace Go.Proofs.YtfalgjdhdgkbfabDoor
open Go Go.RowKit
open Go.RowKit (wrap32 wrap64)

section
variable {P : Program} {ops : Array Oper} {rest : List Oper} {o : Oper} {a : Act} {w : World} {Q : Exit → Act → World → Prop}
theorem wpList_binW (hw : Region.wanted o (yielded ops a.tmps) = true) (op : BinOp) (t : TypeId) (x y : Operand) (ty : TypeId) (ho : o.op = .binOp op t x y ty) (vx vy v : Value) (hx : a.eval x = vx) (hy : a.eval y = vy) (hr : (do eqGuard op t x y vx vy; binOp op t vx vy : Sem Value).run P w = .ok v w)
    (h : wpList P ops Q rest (a.put o.dst v) w) : wpList P ops Q (o :: rest) a w :=
  wpList_want hw fun _ hK => by
    subst hx hy
    unfold Oper.wp execOp
    simp only [ho]
    rw [Sem.run_bind, hr]
    exact hK _ _ h
theorem wpList_build_ofW (hw : Region.wanted o (yielded ops a.tmps) = true) (t : TypeId) (xs : Array (Nat × Operand)) (ho : o.op = .build t xs) (vs : List (Nat × Value)) (hx : (xs.map fun (i, x) => (i, a.eval x)).toList = vs) (z : List Value) (hz : P.built t vs = some z.toArray)
    (h : wpList P ops Q rest (a.put o.dst (.agg z.toArray)) w) : wpList P ops Q (o :: rest) a w := by
  have e : P.built t (xs.map fun (i, x) => (i, a.eval x)).toList = some z.toArray := by rw [hx]; exact hz
  refine wpList_want hw fun _ hK => ?_
  refine wp_build t xs ho (by rw [e]; rfl) ?_
  rw [e]
  exact hK _ _ h
end
theorem Tryd.zero31 : (Tryd.prog.info? 31).map (fun i => i.zero) = some (some (.agg zer16.toArray)) := by kernel_rfl
theorem Tryd.size31 : (Tryd.prog.info? 31).map (·.size) = some 16 := by kernel_rfl
theorem Tryd.built30 : Tryd.prog.built 30 [] = some zer16.toArray := by kernel_rfl
theorem neq16 (x y : Operand) (u : World) : (do eqGuard .neq 31 x y (.agg zer16.toArray) (.agg zer16.toArray); binOp .neq 31 (.agg zer16.toArray) (.agg zer16.toArray) : Sem Value).run Tryd.prog u = .ok (.bool false) u := by kernel_rfl
theorem zer16_one : ∀ v ∈ zer16, v.oneCell' = true := bcs_one _
theorem wl_c {bad : Nat} (l x : List UInt8) (h : bad ≠ 0) : wl bad l x = l := by unfold wl; rw [if_neg h]
set_option maxRecDepth 100000 in
set_option maxHeartbeats 8000000 in
theorem stay_walk (w : World) (a : Option Addr) (b o n c : Nat) (fs : Nat → Fv) (ht : Tab w) (hn : n ≤ 140737488355328) (hA : ArgO w a b o n fs) :
    Calls Tryd.prog 3 #[.slice a n c] w fun e w' => e = .returned (.bool true) ∧ w.grownBy w' none := by
  have HWk : Hid (∀ u, w.grownBy u none → Calls Tryd.prog 10 #[] u fun e w' => e = .returned (.bool true) ∧ u.grownBy w' none) := fun u hu => works_any u (ht.keep hu)
  have HA : Hid (∀ u, w.grownBy u none → ArgO u a b o n fs) := fun u hu => hA.on hu
  have HR0 := hid (Rs.nil w)
  obtain ⟨W1, hW1⟩ : ∃ W1, w.alloc (.cells #[.pointer none, .int .i64 0, .int .i64 0] 27) = W1 := ⟨_, rfl⟩
  rw [hW1] at HR0
  clear hA ht
  go_enter Tryd.func3, Tryd.ntmps3
  go_upto_block 0 with fail
  go_cut [4, 5, 6, 7] from 21 to 63 (fun kv s5 s6 s7 wc => ∃ (ks : List Fv) (acc : List UInt8), Hid (Rs w wc kv ks acc) ∧ ks.length ≤ 300 ∧ Hid (acc.length ≤ 4200000))
  case first =>
    go_wp2_with fail
    clear hW1
    go_loopw [4, 5, 6] (fun kv sv iv wr => ∃ (i s : Nat) (ks : List Fv) (acc : List UInt8), iv = .int .i64 i ∧ sv = .int .i64 s ∧ i ≤ 300 ∧ s ≤ 4194304 ∧ Hid (ks.length ≤ i) ∧ Hid (acc.length ≤ s + 16 * i) ∧ Hid (Rs w wr kv ks acc)) (fun _ _ iv _ => 300 - (intOf iv).toNat)
    case atStart => exact ⟨0, 0, [], [], rfl, rfl, by omega, by omega, hid (Nat.le_refl _), hid (Nat.zero_le _), HR0⟩
    case round =>
      clear HR0
      obtain ⟨i, s, ks, acc, rfl, rfl, hi3, hs, HKi, HEn, HR⟩ := hrel
      obtain ⟨kv, hkv⟩ : ∃ x, u4 = x := ⟨_, rfl⟩
      rw [hkv] at HR ⊢
      clear hkv
      have HM : Hid (∃ (ks : List Fv) (acc : List UInt8), Hid (Rs w wr kv ks acc) ∧ ks.length ≤ 300 ∧ Hid (acc.length ≤ 4200000)) := hid ⟨ks, acc, HR, by have := HKi.out; omega, hid (by have := HEn.out; omega)⟩
      by_cases h1 : i < n
      · by_cases h2 : i < 300
        · have i1 : (i : Int) < (n : Int) := by omega
          have i2 : (i : Int) < 300 := by omega
          obtain ⟨rfl, hbb⟩ := (HA.out wr HR.out.gr).1 (by omega)
          clear hbb
          obtain ⟨q, Hq⟩ : ∃ x, Hid (fs i = x) := ⟨_, hid rfl⟩
          have HQ : Hid (∀ u, w.grownBy u none → u.rangeAt b (o + i * 23) q.cells ∧ q.In u (fun _ => True)) := hid (fun u hu => by have := (HA.out u hu).2 i h1; rw [Hq.out] at this; exact this)
          have HOk : Hid q.Ok := hid (by obtain ⟨h1, h2, h3, h4, h5, h6⟩ := (HQ.out wr HR.out.gr).2; exact ⟨h1, h2, h3, h4, h6⟩)
          obtain ⟨ab, cb, hsv⟩ := (HQ.out wr HR.out.gr).2.2.2.2.2.1.shape
          have hLb := HOk.out.B
          obtain ⟨LB, hLB⟩ : ∃ x, q.B.length = x := ⟨_, rfl⟩
          rw [hLB] at hsv hLb
          have HS := hid hsv
          have HLB := hid hLB
          clear hsv hLB
          have H6 : Hid (∀ u, w.grownBy u none → u.cell? ⟨b, o + i * 23 + 6, none⟩ = some (.slice ab LB cb)) := hid (fun u hu => by have := (HQ.out u hu).1 6 _ q.c6; rw [HS.out] at this; exact this)
          have HRd : Hid (∀ u, w.grownBy u none → Rd u (fun _ => True) (.slice ab LB cb) q.B) := hid (fun u hu => by have := (HQ.out u hu).2.2.2.2.2.1; rw [HS.out] at this; exact this)
          have y0 := H6.out wr HR.out.gr
          by_cases h3 : s + LB ≤ 4194304
          · have d3 : decide (4194304 < (s : Int) + (LB : Int)) = false := decide_eq_false (by omega)
            have HQl : Hid (q.cells.length = 23) := hid (Fv.len HOk.out.D)
            have HQ1 : Hid (∀ v ∈ q.cells, v.oneCell' = true) := hid (Fv.one (by rw [HS.out]; rfl))
            have HQr := hid (HQ.out wr HR.out.gr).1
            go_upto_region 11 with (first
              | (with_reducible refine wpList_load_part (by with_unfolding_all rfl) 33 _ (by with_unfolding_all rfl) b (o + i * 23) q.cells _ (by with_unfolding_all rfl) HQr.out Tryd.underlying33 (by with_unfolding_all rfl) (by rw [HQl.out]; exact Tryd.size33) ?_)
              | ((with_reducible refine wpList_alloc_row (by with_unfolding_all rfl) 33 (by with_unfolding_all rfl) zopL Tryd.zero33 ?_); intro w1 B1 s1 g1; have HB1 := hid B1; have HG1 := hid g1; clear B1 s1 g1)
              | ((with_reducible refine wpList_store_all (by with_unfolding_all rfl) 33 _ _ (by with_unfolding_all rfl) _ zopL q.cells 33 (by with_unfolding_all rfl) (by with_unfolding_all rfl) HB1.out (by rw [HQl.out]; with_unfolding_all rfl) (by rw [HQl.out]; exact Tryd.size33) HQ1.out ?_); intro w2 B2 g2 s2; have HB2 := hid B2; have HG2 := hid (HG1.out.andThen g2 (fun j hj => .inl (by injection hj with hj; omega))); have y1 := H6.out w2 (gtrans HR.out.gr HG2.out); clear B2 g2 s2)
              | (go_at_call 6; (with_reducible refine (copy_any q.B (fun _ => True) _ _ (by rw [HLB.out]; omega) (HRd.out _ (gtrans HR.out.gr HG2.out))).mono ?_); rintro e w3 ⟨v3, rfl, hO3, hg3⟩; obtain ⟨a3, c3, hv3⟩ := hO3.rd.shape; rw [HLB.out] at hv3; subst hv3; have HO3 := hid hO3; have HB3 := hid (HB2.out.keep hg3); have HG3 := hid hg3; have y2 := HB3.out.cell 6; rw [q.c6, HS.out] at y2; have z2 := HB3.out.frozen 6; clear hO3 hg3))
            obtain ⟨q2, Hq2⟩ : ∃ x : Fv, Hid (x = ⟨q.dd, q.on, q.N, q.wd, q.ii, q.fl, .slice a3 LB c3, q.B, q.D⟩) := ⟨_, hid rfl⟩
            obtain ⟨w4, hw4⟩ : ∃ x, w3.setCell ⟨wr.heap.size, 6, none⟩ (.slice a3 LB c3) = x := ⟨_, rfl⟩
            rw [hw4]
            have HG4 : Hid (wr.grownBy w4 none) := hid (by rw [← hw4]; exact (gtrans HG2.out HG3.out).andThen (gset _ _ _) (fun j hj => .inl (by injection hj with hj; exact Nat.le_of_eq hj)))
            have HB4 : Hid (Blk w4 wr.heap.size q2.cells 33) := hid (by rw [← hw4, Hq2.out]; exact HB3.out.set 6 _)
            have HOk2 : Hid q2.Ok := hid (by rw [Hq2.out]; exact ⟨HOk.out.D, HOk.out.N, HOk.out.lo, HOk.out.hi, HOk.out.B⟩)
            have HS2 : Hid (q2.s = .slice a3 LB c3) := hid (by rw [Hq2.out])
            have HLB2 : Hid (q2.B.length = LB) := hid (by rw [Hq2.out]; exact HLB.out)
            have HO4 : Hid (Out (w.heap.size + 1) w4 q2.s q2.B) := hid (by
              have hz := HR.out.gr.size
              have hz2 := HB2.out.lt
              have hz1 := HR.out.lt
              rw [Hq2.out, ← hw4]
              refine (HO3.out.below (by omega)).on (gset _ _ _) (fun k hk hv => ?_)
              injection hk with hk
              have hk' : wr.heap.size = k := hk
              have := (own_ge HO3.out hv).1
              omega)
            have HR0lt := hid HR.out.lt
            have HR4 := hid (HR.out.keep HG4.out)
            have HQl2 : Hid (q2.cells.length = 23) := hid (Fv.len HOk2.out.D)
            clear hw4 HB3 HO3 HB2 HG2 HG3 HB1 HG1 y0 y1 y2 z2 HQ HQl HQ1 HQr HRd H6 HOk HS HLB
            obtain ⟨ka, kcc, hkv⟩ := HR4.out.shape
            obtain ⟨K, hK⟩ : ∃ x, ks.length = x := ⟨_, rfl⟩
            rw [hK] at hkv
            rw [hkv] at HR4 ⊢
            have HK := hid hK
            clear hK hkv HM HR
            by_cases hK0 : K = 0
            · as_aux_lemma =>
              subst hK0
              obtain ⟨f4, F4, hW4, hF4⟩ := HR4.out.writer HR4.out.lt
              have HF4 := hid hF4
              have HPu := hid (puts_q w4 w.heap.size 27 3 0 f4 F4 (fun g => w.heap.size + 1 ≤ g) acc 0 q2 HOk2.out hW4 hF4.1 HO4.out.rd (by omega) (by have := HEn.out; omega))
              clear hW4 hF4
              obtain ⟨m2, hm2⟩ : ∃ x, q2.may = x := ⟨_, rfl⟩
              rw [hm2] at HPu
              have HM2 := hid hm2
              clear hm2
              have HRlt := hid HR0lt.out
              cases m2 with
              | true =>
                go_wp2_with (first
                  | (with_reducible refine wpList_load_partW (by with_unfolding_all rfl) 33 _ (by with_unfolding_all rfl) wr.heap.size 0 q2.cells _ (by with_unfolding_all rfl) HB4.out.whole Tryd.underlying33 (by with_unfolding_all rfl) (by rw [HQl2.out]; exact Tryd.size33) ?_)
                  | (go_at_call 7; (with_reducible refine HPu.out.mono ?_); rintro e w5 ⟨rfl, ⟨f5, hW5, _⟩, hg5⟩; rw [if_pos rfl] at hW5; have HR5 := hid (HR4.out.put hW5 HF4.out hg5); clear hW5 hg5))
                go_roundw
                case rel => exact ⟨i + 1, s + LB, ks, acc ++ q2.enc, by go_num, by go_num, by omega, h3, hid (by have := HKi.out; omega), hid (by rw [List.length_append]; have := (enc_len HOk2.out HM2.out).2; have := HLB2.out; have := HEn.out; omega), HR5⟩
                case measure => simp [intOf]; omega
              | false =>
                go_wp2_with (first
                  | (with_reducible refine wpList_load_part (by with_unfolding_all rfl) 33 _ (by with_unfolding_all rfl) wr.heap.size 0 q2.cells _ (by with_unfolding_all rfl) HB5.out.whole Tryd.underlying33 (by with_unfolding_all rfl) (by rw [HQl2.out]; exact Tryd.size33) ?_)
                  | (with_reducible refine wpList_load_partW (by with_unfolding_all rfl) 33 _ (by with_unfolding_all rfl) wr.heap.size 0 q2.cells _ (by with_unfolding_all rfl) HB4.out.whole Tryd.underlying33 (by with_unfolding_all rfl) (by rw [HQl2.out]; exact Tryd.size33) ?_)
                  | (go_at_call 7; (with_reducible refine HPu.out.mono ?_); rintro e w5 ⟨rfl, ⟨f5, hW5, _⟩, hg5⟩; rw [if_neg (by decide)] at hW5; have HR5 := hid (HR4.out.put hW5 HF4.out hg5); have HB5 := hid (HB4.out.on hg5 (by have := HRlt.out; simp; omega)); have HO5 := hid (HO4.out.on hg5 (fun k hk hv => by injection hk with hk; have := (own_ge HO4.out hv).1; omega)); clear hW5 hg5)
                  | ((with_reducible refine wpList_slice_op (by with_unfolding_all rfl) _ (by with_unfolding_all rfl) q2 HOk2.out.D (by with_unfolding_all rfl) ?_); intro w6 B6 s6 g6; have HB6 := hid B6; have HR6 := hid (HR5.out.keep g6); have HO6 := hid (HO5.out.keep g6); clear B6 s6 g6)
                  | (at_builtin; refine wpList_append_opAt rfl _ _ rfl (w.heap.size + 1) w5.heap.size ks q2 HR6.out.kp rfl HB6.out HOk2.out.D (by rw [HS2.out]; rfl) (by have := HKi.out; omega) HR6.out.lt ?_; intro v7 w7 hk7 hg7 hat7; have HR7 := hid (HR6.out.app HOk2.out HO6.out hk7 hg7 hat7); clear hk7 hg7 hat7))
                go_roundw
                case rel => exact ⟨i + 1, s + LB, ks ++ [q2], acc, by go_num, by go_num, by omega, h3, hid (by have := HKi.out; simp; omega), hid (by have := HEn.out; omega), HR7⟩
                case measure => simp [intOf]; omega
            · as_aux_lemma =>
              have hK1 : ¬ (K : Int) = 0 := by omega
              have hK2 : ((K : Int) == 0) = false := beq_eq_false_iff_ne.2 hK1
              go_wp2_with (first
                | (with_reducible refine wpList_load_part (by with_unfolding_all rfl) 33 _ (by with_unfolding_all rfl) wr.heap.size 0 q2.cells _ (by with_unfolding_all rfl) HB4.out.whole Tryd.underlying33 (by with_unfolding_all rfl) (by rw [HQl2.out]; exact Tryd.size33) ?_)
                | ((with_reducible refine wpList_slice_op (by with_unfolding_all rfl) _ (by with_unfolding_all rfl) q2 HOk2.out.D (by with_unfolding_all rfl) ?_); intro w6 B6 s6 g6; have HB6 := hid B6; have HR6 := hid (HR4.out.keep g6); have HO6 := hid (HO4.out.keep g6); clear B6 s6 g6)
                | (at_builtin; refine wpList_append_opAt rfl _ _ rfl (w.heap.size + 1) w4.heap.size ks q2 HR6.out.kp rfl HB6.out HOk2.out.D (by rw [HS2.out]; rfl) (by have := HKi.out; omega) HR6.out.lt ?_; intro v7 w7 hk7 hg7 hat7; have HR7 := hid (HR6.out.app HOk2.out HO6.out hk7 hg7 hat7); clear hk7 hg7 hat7))
              go_roundw
              case rel => exact ⟨i + 1, s + LB, ks ++ [q2], acc, by go_num, by go_num, by omega, h3, hid (by have := HKi.out; simp; omega), hid (by have := HEn.out; omega), HR7⟩
              case measure => simp [intOf]; omega
          · have d3 : decide (4194304 < (s : Int) + (LB : Int)) = true := decide_eq_true (by omega)
            go_wp2_with fail
            go_meet
            exact HM.out
        · have i1 : (i : Int) < (n : Int) := by omega
          have i2 : ¬ (i : Int) < 300 := by omega
          go_wp2_with fail
          go_meet
          exact HM.out
      · have i1 : ¬ (i : Int) < (n : Int) := by omega
        go_wp2_with fail
        go_meet
        exact HM.out
  case rest =>
    clear hW1 HR0 HA
    obtain ⟨ks, L, HR, hk3, HEn⟩ := hcut
    obtain ⟨kv, hkv⟩ : ∃ x, u4 = x := ⟨_, rfl⟩
    rw [hkv] at HR ⊢
    clear hkv
    have HDn : Hid (Calls Tryd.prog 8 #[.pointer (some ⟨w.heap.size, 0, none⟩)] wc fun e w' => ∃ v', e = .returned (.tuple #[v', .int .i64 0]) ∧ Out wc.heap.size w' v' L ∧ wc.grownBy w' none) := hid (by
      obtain ⟨f, F, h1, _⟩ := HR.out.wrt
      exact wdone_ok wc w.heap.size 27 3 0 f F L h1 (by have := HEn.out; omega))
    obtain ⟨LN, HLN⟩ : ∃ x, Hid (L.length = x) := ⟨_, hid rfl⟩
    have hLN : LN ≤ 4200000 := by rw [← HLN.out]; exact HEn.out
    have HNu : Hid (∀ (x : Int) (u : World), Calls Tryd.prog 9 #[.int .i64 x] u fun e w' => e = .returned (.int .i64 x) ∧ w' = u) := fun x u => num_any x u
    obtain ⟨K, HK⟩ : ∃ x, Hid (ks.length = x) := ⟨_, hid rfl⟩
    have hK : K ≤ 300 := by rw [← HK.out]; exact hk3
    obtain ⟨ka, kg, kc, hkv, hkc, _⟩ := HR.out.ready
    rw [HK.out] at hkv hkc
    have HKV := hid hkv
    clear hkv hk3 hkc
    rw [HKV.out] at HR ⊢
    have HGC := hid HR.out.gr
    go_upto_region 16 with (first
      | (go_at_call 8; (with_reducible refine HDn.out.mono ?_); rintro e w13 ⟨v13, rfl, hO13, hg13⟩; obtain ⟨aB, cB, hv13⟩ := hO13.rd.shape; rw [HLN.out] at hv13; subst hv13; have HO13 := hid hO13; have HR13 := hid (HR.out.keep hg13); have HG13 := hid (gtrans HGC.out hg13); clear hO13 hg13)
      | (go_at_call 9; (with_reducible refine (HNu.out _ _).mono ?_); rintro e w' ⟨rfl, hw⟩; have hw' := hw.symm; clear hw; subst hw')
      | (go_at_call 10; (with_reducible refine (HWk.out _ HG13.out).mono ?_); rintro e w14 ⟨rfl, hg14⟩; have HR14 := hid (HR13.out.keep hg14); have HO14 := hid (HO13.out.keep hg14); have HG14 := hid (gtrans HG13.out hg14); clear hg14))
    obtain ⟨ka', kg', kc', hkv', hkc', hRk⟩ := HR14.out.ready
    obtain ⟨rfl, rfl⟩ : ka' = ka ∧ kc' = kc := by injection hkv' with e1 e2 e3; exact ⟨e1.symm, e3.symm⟩
    have HRk := hid hRk
    have HRd : Hid (Rd w14 (fun g => g < w14.heap.size) (.slice aB LN cB) L) := hid (HO14.out.rd.mono (fun k hk _ => hk))
    clear hkv' hkc' hRk HR14 HR13 HO14 HO13 HG13 HDn HR HWk HGC HKV
    have HMk : Hid (∀ u : World, ∃ (Z : List UInt8) (w' : World), Z.length = 1048577 ∧ (Instr.makeSlice 29 (.int .i64 1048577) (.int .i64 1048577)).run Tryd.prog u = .ok (.slice (some ⟨u.heap.size, 0, none⟩) 1048577 1048577) w' ∧ Rd w' (fun g => u.heap.size ≤ g) (.slice (some ⟨u.heap.size, 0, none⟩) 1048577 1048577) Z ∧ u.grownBy w' none) := hid (fun u => by
      obtain ⟨w', h1, h2, h3⟩ := make_any u 1048577 (by decide)
      exact ⟨_, w', List.length_replicate, h1, h2, h3⟩)
    go_wp2_with fail
    go_loopw [10] (fun iv wr => ∃ i : Nat, iv = .int .i64 i ∧ i ≤ 2 ∧ Hid (w14.grownBy wr none)) (fun iv _ => 2 - (intOf iv).toNat)
    case atStart => exact ⟨0, rfl, by omega, hid (grefl _ _)⟩
    case round =>
      obtain ⟨i, rfl, hi2, HG⟩ := hrel
      obtain ⟨wo, hwo⟩ : ∃ x : World, x = wr := ⟨_, rfl⟩
      rw [← hwo] at HG ⊢
      clear hwo
      by_cases hlt : i < 2
      · as_aux_lemma =>
        have HF : Hid (∀ (u : World) (f : Nat → Value) (F : Nat → Prop) (l : List UInt8) (bd : Nat), Wr u wo.heap.size 27 3 0 f F l bd → wo.heap.size < u.heap.size) := hid (fun u f F l bd h => h.1.lt)
        obtain ⟨F, HFe⟩ : ∃ F : Nat → Prop, Hid (∀ g, F g ↔ wo.heap.size + 1 ≤ g) := ⟨_, hid (fun _ => Iff.rfl)⟩
        obtain ⟨f0, hw0⟩ := Wr.new wo F (fun h => by have := (HFe.out _).1 h; omega)
        obtain ⟨W2, hW2⟩ : ∃ x, wo.alloc (.cells #[.pointer none, .int .i64 0, .int .i64 0] 27) = x := ⟨_, rfl⟩
        rw [hW2] at hw0
        have HW2 := hid hw0
        have HG2 : Hid (wo.grownBy W2 none) := hid (by rw [← hW2]; exact galloc _ _ _)
        have HRd2 := hid (HRd.out.keep (gtrans HG.out HG2.out))
        clear hw0
        have HFu : Hid (∀ (u : World), wo.heap.size < u.heap.size → ∀ g, u.heap.size ≤ g → F g) := hid (fun u hu g hg => (HFe.out g).2 (by omega))
        have hwo := HG.out.size
        have HGE : Hid (∀ u v : World, wo.grownBy u none → u.grownBy v (some wo.heap.size) → wo.grownBy v none) := hid (fun u v h1 h2 => h1.andThen h2 (fun j hj => .inl (by injection hj with hj; omega)))
        by_cases hlen : LN ≤ 1048576
        · rcases (show i = 0 ∨ i = 1 by omega) with h0 | h0
          · as_aux_lemma =>
            subst h0
            have i9 : ¬ (1048576 : Int) < (LN : Int) := by omega
            have i8 : (LN : Int) ≤ 1048576 := by omega
            have HBy := hid (wbytes_ok W2 wo.heap.size 27 3 0 f0 F (fun g => g < w14.heap.size) [] L 0 (.slice aB LN cB) HW2.out HRd2.out (by omega) (HFu.out _ (HF.out _ _ _ _ _ HW2.out)) (by simp) (by rw [HLN.out]; exact hlen))
            have HN1 : Hid (∀ (u : World) (f : Nat → Value) , Wr u wo.heap.size 27 3 0 f F (wrow 0 [] L) 0 → Calls Tryd.prog 12 #[.pointer (some ⟨wo.heap.size, 0, none⟩), .int .u64 256, .int .i64 1] u fun e w' => e = .returned (.tuple #[]) ∧ (∃ f', Wr w' wo.heap.size 27 3 0 f' F [] 34 ∧ Els 0 f f') ∧ u.grownBy w' (some wo.heap.size)) := fun u f h => wnum_no u wo.heap.size 27 3 0 f F _ 0 256 1 h (by decide)
            have HB1 : Hid (∀ (u : World) (f : Nat → Value) (x : Option Addr), Wr u wo.heap.size 27 3 0 f F [] 34 → Calls Tryd.prog 11 #[.pointer (some ⟨wo.heap.size, 0, none⟩), .slice x 1048577 1048577] u fun e w' => e = .returned (.tuple #[]) ∧ (∃ f', Wr w' wo.heap.size 27 3 0 f' F [] 34 ∧ Els 0 f f') ∧ u.grownBy w' (some wo.heap.size)) := fun u f x h => wbytes_no u wo.heap.size 27 3 0 f F [] 34 1048577 1048577 x h (by decide) (by decide)
            go_upto_region 28 with (first
              | (go_at_call 11; have := Hw5; clear this; (with_reducible refine (HB1.out _ _ _ Hw5.out).mono ?_); rintro e w6 ⟨rfl, ⟨f6, hW6, _⟩, hg6⟩; have Hw6 := hid hW6; have HG6 := hid (HGE.out _ _ HG5.out hg6); clear hW6 hg6)
              | (go_at_call 11; (with_reducible refine HBy.out.mono ?_); rintro e w3 ⟨rfl, ⟨f3, hW3, _⟩, hg3⟩; have Hw3 := hid hW3; have HG3 := hid (HGE.out _ _ HG2.out hg3); clear hW3 hg3)
              | (go_at_call 12; (with_reducible refine (HN1.out _ _ Hw3.out).mono ?_); rintro e w4 ⟨rfl, ⟨f4, hW4, _⟩, hg4⟩; obtain ⟨Z, w5, hZ, hmk, hrd5, hg5⟩ := HMk.out w4; have Hw5 := hid (hW4.keep hg5); have HG5 := hid (gtrans (HGE.out _ _ HG3.out hg4) hg5); clear hW4 hg4 hrd5 hg5 hZ))
            clear hW2
            go_wp2_with fail
            go_loopw [13] (fun kv3 wr => ∃ k : Nat, kv3 = .int .i64 k ∧ k ≤ K ∧ Hid (∃ f, Wr wr wo.heap.size 27 3 0 f F [] 34) ∧ Hid (wo.grownBy wr none)) (fun kv3 _ => K - (intOf kv3).toNat)
            case atStart => exact ⟨0, rfl, Nat.zero_le _, hid ⟨f6, Hw6.out⟩, HG6⟩
            case round =>
              clear Hw6 HG6
              obtain ⟨k, rfl, hkK, HV, HGv⟩ := hrel
              obtain ⟨f7, hf7⟩ := HV.out
              have Hf7 := hid hf7
              clear HV hf7
              by_cases hkl : k < K
              · as_aux_lemma =>
                have i1 : (k : Int) < (K : Int) := by omega
                obtain ⟨q, hq⟩ : ∃ q, ks[k]? = some q := ⟨_, List.getElem?_eq_getElem (by rw [HK.out]; exact hkl)⟩
                obtain ⟨rfl, hkg⟩ := HRk.out.at_ (by rw [HK.out]; omega)
                obtain ⟨h1, h2, h4⟩ := HRk.out.to (gtrans HG.out HGv.out) hq
                have HQl : Hid (q.cells.length = 23) := hid (Fv.len h2.D)
                have hrA := hid h1
                have HPu : Hid (Calls Tryd.prog 7 #[.pointer (some ⟨wo.heap.size, 0, none⟩), .agg q.cells.toArray] wr fun e w' => (∃ x, e = .returned (.bool x)) ∧ (∃ f', Wr w' wo.heap.size 27 3 0 f' F [] 34) ∧ wr.grownBy w' (some wo.heap.size)) := hid ((puts_q wr wo.heap.size 27 3 0 f7 F (fun g => g < w14.heap.size) [] 34 q h2 Hf7.out (HFu.out _ (HF.out _ _ _ _ _ Hf7.out)) h4 (by omega) (by simp)).mono fun e w' ⟨e1, ⟨f', hw', _⟩, hg'⟩ => ⟨⟨_, e1⟩, ⟨f', by rw [wl_c _ _ (by decide)] at hw'; split at hw' <;> exact hw'⟩, hg'⟩)
                clear hq hkg h1 h2 h4
                go_wp2_with (first
                  | (with_reducible refine wpList_load_part (by with_unfolding_all rfl) 33 _ (by with_unfolding_all rfl) kg' (k * 23) q.cells _ (by with_unfolding_all rfl) hrA.out Tryd.underlying33 (by with_unfolding_all rfl) (by rw [HQl.out]; exact Tryd.size33) ?_)
                  | (go_at_call 7; (with_reducible refine HPu.out.mono ?_); rintro e w8 ⟨⟨x8, rfl⟩, hw8, hg8⟩; have Hw8 := hid hw8; have HG8 := hid (HGE.out _ _ HGv.out hg8); clear hw8 hg8))
                go_roundw
                case rel => exact ⟨k + 1, by go_num, by omega, Hw8, HG8⟩
                case measure => simp [intOf]; omega
              · as_aux_lemma =>
                have i1 : ¬ (k : Int) < (K : Int) := by omega
                have HDn := hid (wdone_bad wr wo.heap.size 27 3 0 f7 F [] 34 Hf7.out (by decide))
                go_wp2_with (first
                  | (go_at_call 8; (with_reducible refine HDn.out.mono ?_); rintro e w9 ⟨rfl, hg9⟩; have HG9 := hid (gtrans (gtrans HG.out HGv.out) hg9); clear hg9)
                  | (go_at_call 9; (with_reducible refine (HNu.out _ _).mono ?_); rintro e w' ⟨rfl, hw⟩; have hw' := hw.symm; clear hw; subst hw'))
                go_roundw
                case rel => exact ⟨1, rfl, by omega, HG9⟩
                case measure => simp [intOf]
          · as_aux_lemma =>
            subst h0
            have i9 : ¬ (1048576 : Int) < (LN : Int) := by omega
            have i8 : (LN : Int) ≤ 1048576 := by omega
            have HBy := hid (wbytes_ok W2 wo.heap.size 27 3 0 f0 F (fun g => g < w14.heap.size) [] L 0 (.slice aB LN cB) HW2.out HRd2.out (by omega) (HFu.out _ (HF.out _ _ _ _ _ HW2.out)) (by simp) (by rw [HLN.out]; exact hlen))
            have HT1 : Hid (∀ (u : World) (f : Nat → Value) (Z : List UInt8), Z.length = 1048577 → Wr u wo.heap.size 27 3 0 f F (wrow 0 [] L) 0 → Calls Tryd.prog 13 #[.pointer (some ⟨wo.heap.size, 0, none⟩), .string ⟨Z.toArray⟩] u fun e w' => e = .returned (.tuple #[]) ∧ (∃ f', Wr w' wo.heap.size 27 3 0 f' F [] 31 ∧ Els 0 f f') ∧ u.grownBy w' (some wo.heap.size)) := fun u f Z hZ h => wtext_no u wo.heap.size 27 3 0 f F _ 0 ⟨Z.toArray⟩ h (by show 1048576 < Z.toArray.size; rw [List.size_toArray, hZ]; decide) (by show Z.toArray.size ≤ _; rw [List.size_toArray, hZ]; decide)
            have HN1 : Hid (∀ (u : World) (f : Nat → Value) , Wr u wo.heap.size 27 3 0 f F [] 31 → Calls Tryd.prog 12 #[.pointer (some ⟨wo.heap.size, 0, none⟩), .int .u64 0, .int .i64 9] u fun e w' => e = .returned (.tuple #[]) ∧ (∃ f', Wr w' wo.heap.size 27 3 0 f' F [] 31 ∧ Els 0 f f') ∧ u.grownBy w' (some wo.heap.size)) := fun u f h => wnum_no u wo.heap.size 27 3 0 f F [] 31 0 9 h (by omega)
            go_upto_region 28 with (first
              | (go_at_call 11; (with_reducible refine HBy.out.mono ?_); rintro e w3 ⟨rfl, ⟨f3, hW3, _⟩, hg3⟩; obtain ⟨Z, w4, hZ, hmk, hrd4, hg4⟩ := HMk.out w3; have hcv := hrd4.convert; have HZ := hid hZ; have Hw4 := hid (hW3.keep hg4); have HG4 := hid (gtrans (HGE.out _ _ HG2.out hg3) hg4); clear hW3 hg3 hrd4 hg4 hZ)
              | (go_at_call 13; (with_reducible refine (HT1.out _ _ _ HZ.out Hw4.out).mono ?_); rintro e w5 ⟨rfl, ⟨f5, hW5, _⟩, hg5⟩; have Hw5 := hid hW5; have HG5 := hid (HGE.out _ _ HG4.out hg5); clear hW5 hg5)
              | (go_at_call 12; (with_reducible refine (HN1.out _ _ Hw5.out).mono ?_); rintro e w6 ⟨rfl, ⟨f6, hW6, _⟩, hg6⟩; have Hw6 := hid hW6; have HG6 := hid (HGE.out _ _ HG5.out hg6); clear hW6 hg6))
            clear hW2
            go_wp2_with fail
            go_loopw [13] (fun kv3 wr => ∃ k : Nat, kv3 = .int .i64 k ∧ k ≤ K ∧ Hid (∃ f, Wr wr wo.heap.size 27 3 0 f F [] 31) ∧ Hid (wo.grownBy wr none)) (fun kv3 _ => K - (intOf kv3).toNat)
            case atStart => exact ⟨0, rfl, Nat.zero_le _, hid ⟨f6, Hw6.out⟩, HG6⟩
            case round =>
              clear Hw6 HG6
              obtain ⟨k, rfl, hkK, HV, HGv⟩ := hrel
              obtain ⟨f7, hf7⟩ := HV.out
              have Hf7 := hid hf7
              clear HV hf7
              by_cases hkl : k < K
              · as_aux_lemma =>
                have i1 : (k : Int) < (K : Int) := by omega
                obtain ⟨q, hq⟩ : ∃ q, ks[k]? = some q := ⟨_, List.getElem?_eq_getElem (by rw [HK.out]; exact hkl)⟩
                obtain ⟨rfl, hkg⟩ := HRk.out.at_ (by rw [HK.out]; omega)
                obtain ⟨h1, h2, h4⟩ := HRk.out.to (gtrans HG.out HGv.out) hq
                have HQl : Hid (q.cells.length = 23) := hid (Fv.len h2.D)
                have hrA := hid h1
                have HPu : Hid (Calls Tryd.prog 7 #[.pointer (some ⟨wo.heap.size, 0, none⟩), .agg q.cells.toArray] wr fun e w' => (∃ x, e = .returned (.bool x)) ∧ (∃ f', Wr w' wo.heap.size 27 3 0 f' F [] 31) ∧ wr.grownBy w' (some wo.heap.size)) := hid ((puts_q wr wo.heap.size 27 3 0 f7 F (fun g => g < w14.heap.size) [] 31 q h2 Hf7.out (HFu.out _ (HF.out _ _ _ _ _ Hf7.out)) h4 (by omega) (by simp)).mono fun e w' ⟨e1, ⟨f', hw', _⟩, hg'⟩ => ⟨⟨_, e1⟩, ⟨f', by rw [wl_c _ _ (by decide)] at hw'; split at hw' <;> exact hw'⟩, hg'⟩)
                clear hq hkg h1 h2 h4
                go_wp2_with (first
                  | (with_reducible refine wpList_load_part (by with_unfolding_all rfl) 33 _ (by with_unfolding_all rfl) kg' (k * 23) q.cells _ (by with_unfolding_all rfl) hrA.out Tryd.underlying33 (by with_unfolding_all rfl) (by rw [HQl.out]; exact Tryd.size33) ?_)
                  | (go_at_call 7; (with_reducible refine HPu.out.mono ?_); rintro e w8 ⟨⟨x8, rfl⟩, hw8, hg8⟩; have Hw8 := hid hw8; have HG8 := hid (HGE.out _ _ HGv.out hg8); clear hw8 hg8))
                go_roundw
                case rel => exact ⟨k + 1, by go_num, by omega, Hw8, HG8⟩
                case measure => simp [intOf]; omega
              · as_aux_lemma =>
                have i1 : ¬ (k : Int) < (K : Int) := by omega
                have HDn := hid (wdone_bad wr wo.heap.size 27 3 0 f7 F [] 31 Hf7.out (by decide))
                go_wp2_with (first
                  | (go_at_call 8; (with_reducible refine HDn.out.mono ?_); rintro e w9 ⟨rfl, hg9⟩; have HG9 := hid (gtrans (gtrans HG.out HGv.out) hg9); clear hg9)
                  | (go_at_call 9; (with_reducible refine (HNu.out _ _).mono ?_); rintro e w' ⟨rfl, hw⟩; have hw' := hw.symm; clear hw; subst hw'))
                go_roundw
                case rel => exact ⟨2, rfl, by omega, HG9⟩
                case measure => simp [intOf]
        · rcases (show i = 0 ∨ i = 1 by omega) with h0 | h0
          · as_aux_lemma =>
            subst h0
            have i9 : (1048576 : Int) < (LN : Int) := by omega
            have i8 : ¬ (LN : Int) ≤ 1048576 := by omega
            have HBy := hid (wbytes_no W2 wo.heap.size 27 3 0 f0 F [] 0 LN cB aB HW2.out (by omega) (by omega))
            have HN1 : Hid (∀ (u : World) (f : Nat → Value) , Wr u wo.heap.size 27 3 0 f F [] 31 → Calls Tryd.prog 12 #[.pointer (some ⟨wo.heap.size, 0, none⟩), .int .u64 256, .int .i64 1] u fun e w' => e = .returned (.tuple #[]) ∧ (∃ f', Wr w' wo.heap.size 27 3 0 f' F [] 31 ∧ Els 0 f f') ∧ u.grownBy w' (some wo.heap.size)) := fun u f h => wnum_no u wo.heap.size 27 3 0 f F _ 31 256 1 h (by decide)
            have HB1 : Hid (∀ (u : World) (f : Nat → Value) (x : Option Addr), Wr u wo.heap.size 27 3 0 f F [] 31 → Calls Tryd.prog 11 #[.pointer (some ⟨wo.heap.size, 0, none⟩), .slice x 1048577 1048577] u fun e w' => e = .returned (.tuple #[]) ∧ (∃ f', Wr w' wo.heap.size 27 3 0 f' F [] 31 ∧ Els 0 f f') ∧ u.grownBy w' (some wo.heap.size)) := fun u f x h => wbytes_no u wo.heap.size 27 3 0 f F [] 31 1048577 1048577 x h (by decide) (by decide)
            go_upto_region 28 with (first
              | (go_at_call 11; have := Hw5; clear this; (with_reducible refine (HB1.out _ _ _ Hw5.out).mono ?_); rintro e w6 ⟨rfl, ⟨f6, hW6, _⟩, hg6⟩; have Hw6 := hid hW6; have HG6 := hid (HGE.out _ _ HG5.out hg6); clear hW6 hg6)
              | (go_at_call 11; (with_reducible refine HBy.out.mono ?_); rintro e w3 ⟨rfl, ⟨f3, hW3, _⟩, hg3⟩; have Hw3 := hid hW3; have HG3 := hid (HGE.out _ _ HG2.out hg3); clear hW3 hg3)
              | (go_at_call 12; (with_reducible refine (HN1.out _ _ Hw3.out).mono ?_); rintro e w4 ⟨rfl, ⟨f4, hW4, _⟩, hg4⟩; obtain ⟨Z, w5, hZ, hmk, hrd5, hg5⟩ := HMk.out w4; have Hw5 := hid (hW4.keep hg5); have HG5 := hid (gtrans (HGE.out _ _ HG3.out hg4) hg5); clear hW4 hg4 hrd5 hg5 hZ))
            clear hW2
            go_wp2_with fail
            go_loopw [13] (fun kv3 wr => ∃ k : Nat, kv3 = .int .i64 k ∧ k ≤ K ∧ Hid (∃ f, Wr wr wo.heap.size 27 3 0 f F [] 31) ∧ Hid (wo.grownBy wr none)) (fun kv3 _ => K - (intOf kv3).toNat)
            case atStart => exact ⟨0, rfl, Nat.zero_le _, hid ⟨f6, Hw6.out⟩, HG6⟩
            case round =>
              clear Hw6 HG6
              obtain ⟨k, rfl, hkK, HV, HGv⟩ := hrel
              obtain ⟨f7, hf7⟩ := HV.out
              have Hf7 := hid hf7
              clear HV hf7
              by_cases hkl : k < K
              · as_aux_lemma =>
                have i1 : (k : Int) < (K : Int) := by omega
                obtain ⟨q, hq⟩ : ∃ q, ks[k]? = some q := ⟨_, List.getElem?_eq_getElem (by rw [HK.out]; exact hkl)⟩
                obtain ⟨rfl, hkg⟩ := HRk.out.at_ (by rw [HK.out]; omega)
                obtain ⟨h1, h2, h4⟩ := HRk.out.to (gtrans HG.out HGv.out) hq
                have HQl : Hid (q.cells.length = 23) := hid (Fv.len h2.D)
                have hrA := hid h1
                have HPu : Hid (Calls Tryd.prog 7 #[.pointer (some ⟨wo.heap.size, 0, none⟩), .agg q.cells.toArray] wr fun e w' => (∃ x, e = .returned (.bool x)) ∧ (∃ f', Wr w' wo.heap.size 27 3 0 f' F [] 31) ∧ wr.grownBy w' (some wo.heap.size)) := hid ((puts_q wr wo.heap.size 27 3 0 f7 F (fun g => g < w14.heap.size) [] 31 q h2 Hf7.out (HFu.out _ (HF.out _ _ _ _ _ Hf7.out)) h4 (by omega) (by simp)).mono fun e w' ⟨e1, ⟨f', hw', _⟩, hg'⟩ => ⟨⟨_, e1⟩, ⟨f', by rw [wl_c _ _ (by decide)] at hw'; split at hw' <;> exact hw'⟩, hg'⟩)
                clear hq hkg h1 h2 h4
                go_wp2_with (first
                  | (with_reducible refine wpList_load_part (by with_unfolding_all rfl) 33 _ (by with_unfolding_all rfl) kg' (k * 23) q.cells _ (by with_unfolding_all rfl) hrA.out Tryd.underlying33 (by with_unfolding_all rfl) (by rw [HQl.out]; exact Tryd.size33) ?_)
                  | (go_at_call 7; (with_reducible refine HPu.out.mono ?_); rintro e w8 ⟨⟨x8, rfl⟩, hw8, hg8⟩; have Hw8 := hid hw8; have HG8 := hid (HGE.out _ _ HGv.out hg8); clear hw8 hg8))
                go_roundw
                case rel => exact ⟨k + 1, by go_num, by omega, Hw8, HG8⟩
                case measure => simp [intOf]; omega
              · as_aux_lemma =>
                have i1 : ¬ (k : Int) < (K : Int) := by omega
                have HDn := hid (wdone_bad wr wo.heap.size 27 3 0 f7 F [] 31 Hf7.out (by decide))
                go_wp2_with (first
                  | (go_at_call 8; (with_reducible refine HDn.out.mono ?_); rintro e w9 ⟨rfl, hg9⟩; have HG9 := hid (gtrans (gtrans HG.out HGv.out) hg9); clear hg9)
                  | (go_at_call 9; (with_reducible refine (HNu.out _ _).mono ?_); rintro e w' ⟨rfl, hw⟩; have hw' := hw.symm; clear hw; subst hw'))
                go_roundw
                case rel => exact ⟨1, rfl, by omega, HG9⟩
                case measure => simp [intOf]
          · as_aux_lemma =>
            subst h0
            have i9 : (1048576 : Int) < (LN : Int) := by omega
            have i8 : ¬ (LN : Int) ≤ 1048576 := by omega
            have HBy := hid (wbytes_no W2 wo.heap.size 27 3 0 f0 F [] 0 LN cB aB HW2.out (by omega) (by omega))
            have HT1 : Hid (∀ (u : World) (f : Nat → Value) (Z : List UInt8), Z.length = 1048577 → Wr u wo.heap.size 27 3 0 f F [] 31 → Calls Tryd.prog 13 #[.pointer (some ⟨wo.heap.size, 0, none⟩), .string ⟨Z.toArray⟩] u fun e w' => e = .returned (.tuple #[]) ∧ (∃ f', Wr w' wo.heap.size 27 3 0 f' F [] 31 ∧ Els 0 f f') ∧ u.grownBy w' (some wo.heap.size)) := fun u f Z hZ h => wtext_no u wo.heap.size 27 3 0 f F _ 31 ⟨Z.toArray⟩ h (by show 1048576 < Z.toArray.size; rw [List.size_toArray, hZ]; decide) (by show Z.toArray.size ≤ _; rw [List.size_toArray, hZ]; decide)
            have HN1 : Hid (∀ (u : World) (f : Nat → Value) , Wr u wo.heap.size 27 3 0 f F [] 31 → Calls Tryd.prog 12 #[.pointer (some ⟨wo.heap.size, 0, none⟩), .int .u64 0, .int .i64 9] u fun e w' => e = .returned (.tuple #[]) ∧ (∃ f', Wr w' wo.heap.size 27 3 0 f' F [] 31 ∧ Els 0 f f') ∧ u.grownBy w' (some wo.heap.size)) := fun u f h => wnum_no u wo.heap.size 27 3 0 f F [] 31 0 9 h (by omega)
            go_upto_region 28 with (first
              | (go_at_call 11; (with_reducible refine HBy.out.mono ?_); rintro e w3 ⟨rfl, ⟨f3, hW3, _⟩, hg3⟩; obtain ⟨Z, w4, hZ, hmk, hrd4, hg4⟩ := HMk.out w3; have hcv := hrd4.convert; have HZ := hid hZ; have Hw4 := hid (hW3.keep hg4); have HG4 := hid (gtrans (HGE.out _ _ HG2.out hg3) hg4); clear hW3 hg3 hrd4 hg4 hZ)
              | (go_at_call 13; (with_reducible refine (HT1.out _ _ _ HZ.out Hw4.out).mono ?_); rintro e w5 ⟨rfl, ⟨f5, hW5, _⟩, hg5⟩; have Hw5 := hid hW5; have HG5 := hid (HGE.out _ _ HG4.out hg5); clear hW5 hg5)
              | (go_at_call 12; (with_reducible refine (HN1.out _ _ Hw5.out).mono ?_); rintro e w6 ⟨rfl, ⟨f6, hW6, _⟩, hg6⟩; have Hw6 := hid hW6; have HG6 := hid (HGE.out _ _ HG5.out hg6); clear hW6 hg6))
            clear hW2
            go_wp2_with fail
            go_loopw [13] (fun kv3 wr => ∃ k : Nat, kv3 = .int .i64 k ∧ k ≤ K ∧ Hid (∃ f, Wr wr wo.heap.size 27 3 0 f F [] 31) ∧ Hid (wo.grownBy wr none)) (fun kv3 _ => K - (intOf kv3).toNat)
            case atStart => exact ⟨0, rfl, Nat.zero_le _, hid ⟨f6, Hw6.out⟩, HG6⟩
            case round =>
              clear Hw6 HG6
              obtain ⟨k, rfl, hkK, HV, HGv⟩ := hrel
              obtain ⟨f7, hf7⟩ := HV.out
              have Hf7 := hid hf7
              clear HV hf7
              by_cases hkl : k < K
              · as_aux_lemma =>
                have i1 : (k : Int) < (K : Int) := by omega
                obtain ⟨q, hq⟩ : ∃ q, ks[k]? = some q := ⟨_, List.getElem?_eq_getElem (by rw [HK.out]; exact hkl)⟩
                obtain ⟨rfl, hkg⟩ := HRk.out.at_ (by rw [HK.out]; omega)
                obtain ⟨h1, h2, h4⟩ := HRk.out.to (gtrans HG.out HGv.out) hq
                have HQl : Hid (q.cells.length = 23) := hid (Fv.len h2.D)
                have hrA := hid h1
                have HPu : Hid (Calls Tryd.prog 7 #[.pointer (some ⟨wo.heap.size, 0, none⟩), .agg q.cells.toArray] wr fun e w' => (∃ x, e = .returned (.bool x)) ∧ (∃ f', Wr w' wo.heap.size 27 3 0 f' F [] 31) ∧ wr.grownBy w' (some wo.heap.size)) := hid ((puts_q wr wo.heap.size 27 3 0 f7 F (fun g => g < w14.heap.size) [] 31 q h2 Hf7.out (HFu.out _ (HF.out _ _ _ _ _ Hf7.out)) h4 (by omega) (by simp)).mono fun e w' ⟨e1, ⟨f', hw', _⟩, hg'⟩ => ⟨⟨_, e1⟩, ⟨f', by rw [wl_c _ _ (by decide)] at hw'; split at hw' <;> exact hw'⟩, hg'⟩)
                clear hq hkg h1 h2 h4
                go_wp2_with (first
                  | (with_reducible refine wpList_load_part (by with_unfolding_all rfl) 33 _ (by with_unfolding_all rfl) kg' (k * 23) q.cells _ (by with_unfolding_all rfl) hrA.out Tryd.underlying33 (by with_unfolding_all rfl) (by rw [HQl.out]; exact Tryd.size33) ?_)
                  | (go_at_call 7; (with_reducible refine HPu.out.mono ?_); rintro e w8 ⟨⟨x8, rfl⟩, hw8, hg8⟩; have Hw8 := hid hw8; have HG8 := hid (HGE.out _ _ HGv.out hg8); clear hw8 hg8))
                go_roundw
                case rel => exact ⟨k + 1, by go_num, by omega, Hw8, HG8⟩
                case measure => simp [intOf]; omega
              · as_aux_lemma =>
                have i1 : ¬ (k : Int) < (K : Int) := by omega
                have HDn := hid (wdone_bad wr wo.heap.size 27 3 0 f7 F [] 31 Hf7.out (by decide))
                go_wp2_with (first
                  | (go_at_call 8; (with_reducible refine HDn.out.mono ?_); rintro e w9 ⟨rfl, hg9⟩; have HG9 := hid (gtrans (gtrans HG.out HGv.out) hg9); clear hg9)
                  | (go_at_call 9; (with_reducible refine (HNu.out _ _).mono ?_); rintro e w' ⟨rfl, hw⟩; have hw' := hw.symm; clear hw; subst hw'))
                go_roundw
                case rel => exact ⟨2, rfl, by omega, HG9⟩
                case measure => simp [intOf]
      · as_aux_lemma =>
        obtain rfl : i = 2 := by omega
        have HFr := hid (from_any wo _ _ L (HRd.out.keep HG.out) (by rw [HLN.out]; omega))
        have HN9 : Hid (∀ (u : World) (b1 : Nat) (F1 : Nat → Prop), Rr u b1 F1 L 0 → Calls Tryd.prog 15 #[.pointer (some ⟨b1, 0, none⟩), .int .i64 9] u fun r w' => r = .returned (.int .u64 0) ∧ Rr w' b1 F1 L 34 ∧ u.grownBy w' (some b1)) := fun u b1 F1 h => rnum_no u b1 F1 L 0 9 h (by omega)
        have HEd : Hid (∀ (u : World) (b1 : Nat) (F1 : Nat → Prop), Rr u b1 F1 L 34 → Calls Tryd.prog 16 #[.pointer (some ⟨b1, 0, none⟩)] u fun r w' => r = .returned (.int .i64 34) ∧ w' = u) := fun u b1 F1 h => end_any u b1 F1 L 34 h
        go_upto_region 40 with (first
          | (go_at_call 14; (with_reducible refine HFr.out.mono ?_); rintro e w35 ⟨b1, rfl, hb1, hR1, hg1⟩; have HR1 := hid (hR1.mono (G := fun g => wo.heap.size ≤ g ∧ g ≠ b1 ∧ g < w35.heap.size) (fun k hk hf => ⟨hf.1, hf.2, hk⟩) (fun h => h.2.1 rfl)); have HB1 := hid (Nat.le_trans HG.out.size hb1); have HG35 := hid (gtrans HG.out hg1); clear hR1 hb1 hg1)
          | (go_at_call 15; (with_reducible refine (HN9.out _ _ _ HR1.out).mono ?_); rintro e w36 ⟨rfl, hR2, hg2⟩; have HR2 := hid hR2; have HZ36 := hid hg2.size; have HG36 := hid (HG35.out.andThen hg2 (fun j hj => .inl (by injection hj with hj; have := HB1.out; omega))); clear hR2 hg2)
          | (go_at_call 16; (with_reducible refine (HEd.out _ _ _ HR2.out).mono ?_); rintro e w' ⟨rfl, hw⟩; have hw' := hw.symm; clear hw; subst hw')
          | (go_at_call 9; (with_reducible refine (HNu.out _ _).mono ?_); rintro e w' ⟨rfl, hw⟩; have hw' := hw.symm; clear hw; subst hw'))
        obtain ⟨F1, hF1⟩ : ∃ F : Nat → Prop, F = (fun g => wo.heap.size ≤ g ∧ g ≠ b1 ∧ g < w35.heap.size) := ⟨_, rfl⟩
        have HF1 : Hid (∀ g, F1 g → g < w35.heap.size) := hid (fun g h => by rw [hF1] at h; exact h.2.2)
        rw [← hF1] at HR2
        clear HR1 HG35 hF1
        go_wp2_with fail
        go_loopw [17] (fun iv wr => ∃ k : Nat, iv = .int .i64 k ∧ k ≤ K ∧ Hid (Rr wr b1 F1 L 34) ∧ Hid (w35.heap.size ≤ wr.heap.size) ∧ Hid (w14.grownBy wr none)) (fun iv _ => K - (intOf iv).toNat)
        case atStart => exact ⟨0, rfl, by omega, HR2, HZ36, HG36⟩
        case round =>
          clear HR2 HG36 HZ36
          obtain ⟨k, rfl, hkK, HR, HZ, HGr⟩ := hrel
          by_cases hkl : k < K
          · as_aux_lemma =>
            have i1 : (k : Int) < (K : Int) := by omega
            have HGE : Hid (∀ u v : World, w14.grownBy u none → u.grownBy v (some b1) → w14.grownBy v none) := hid (fun u v h1 h2 => h1.andThen h2 (fun j hj => .inl (by injection hj with hj; have := HB1.out; omega)))
            have HLf : Hid (∀ (u : World), Rr u b1 F1 L 34 → Calls Tryd.prog 22 #[.pointer (some ⟨b1, 0, none⟩)] u fun r w' => r = .returned (.int .i64 (LN : Int)) ∧ w' = u) := fun u h => by rw [← HLN.out]; exact left_any u b1 F1 L 34 h
            have Hn1 := hid (num34)
            have Hn3 := hid (flag34)
            have Hn4 := hid (int34)
            have Hn5 := hid (id34)
            have Hn6 := hid (bytes34)
            have Hn7 := hid (text34)
            go_wp2_with (first
              | (go_at_call 15; have := Hs7; clear this; (with_reducible refine (Hn1.out _ _ _ _ Hs7.out).mono ?_); rintro e w8 ⟨rfl, hR, hg⟩; have Hs8 := hid hR; have HZ8 := hid (Nat.le_trans HZ7.out hg.size); have HG8 := hid (HGE.out _ _ HG7.out hg); clear hR hg)
              | (go_at_call 15; (with_reducible refine (Hn1.out _ _ _ _ HR.out).mono ?_); rintro e w2 ⟨rfl, hR, hg⟩; have Hs2 := hid hR; have HZ2 := hid (Nat.le_trans HZ.out hg.size); have HG2 := hid (HGE.out _ _ HGr.out hg); clear hR hg)
              | (go_at_call 17; (with_reducible refine (Hn3.out _ _ _ _ Hs2.out).mono ?_); rintro e w3 ⟨⟨x3, rfl⟩, hR, hg⟩; have Hs3 := hid hR; have HZ3 := hid (Nat.le_trans HZ2.out hg.size); have HG3 := hid (HGE.out _ _ HG2.out hg); clear hR hg)
              | (go_at_call 18; (with_reducible refine (Hn4.out _ _ _ _ Hs3.out).mono ?_); rintro e w4 ⟨⟨x4, rfl⟩, hR, hg⟩; have Hs4 := hid hR; have HZ4 := hid (Nat.le_trans HZ3.out hg.size); have HG4 := hid (HGE.out _ _ HG3.out hg); clear hR hg)
              | (go_at_call 19; (with_reducible refine (Hn5.out _ _ _ _ Hs4.out).mono ?_); rintro e w5 ⟨rfl, hR, hg⟩; have Hs5 := hid hR; have HZ5 := hid (Nat.le_trans HZ4.out hg.size); have HG5 := hid (HGE.out _ _ HG4.out hg); clear hR hg)
              | ((with_reducible refine wpList_alloc_row (by with_unfolding_all rfl) 31 (by with_unfolding_all rfl) zer16 Tryd.zero31 ?_); intro wa Ba sa ga; have HBa := hid Ba; have hga := hid ga.size; have HGa := hid (gtrans HG5.out ga); have Hsa := hid (Hs5.out.keep ga); clear Ba sa ga)
              | ((with_reducible refine wpList_store_all (by with_unfolding_all rfl) 31 _ _ (by with_unfolding_all rfl) _ zer16 zer16 31 (by with_unfolding_all rfl) (by with_unfolding_all rfl) HBa.out (by with_unfolding_all rfl) (by with_unfolding_all exact Tryd.size31) zer16_one ?_); intro wb Bb gb sb; have hne := Hs5.out.lt; have HBb := hid Bb; have Hsb := hid (Hsa.out.on gb (fun e => by injection e with e; omega) (fun k hk hf => by injection hk with hk; have h1 := HF1.out k hf; have h2 := HZ5.out; omega)); have HZb := hid (Nat.le_trans HZ5.out (Nat.le_trans hga.out gb.size)); have HGb := hid (HGa.out.andThen gb (fun j hj => .inl (by injection hj with hj; have := HG5.out.size; omega))); clear Bb gb sb hne)
              | (go_at_call 20; (with_reducible refine (Hn6.out _ _ _ _ Hsb.out).mono ?_); rintro e w6 ⟨⟨a6, c6, rfl⟩, hR, hg⟩; have Hs6 := hid hR; have HZ6 := hid (Nat.le_trans HZb.out hg.size); have HG6 := hid (HGE.out _ _ HGb.out hg); have HB6 := hid (HBb.out.on hg (fun e => by injection e with e; have := Hs5.out.lt; omega)); clear hR hg)
              | (go_at_call 21; (with_reducible refine (Hn7.out _ _ _ _ Hs6.out).mono ?_); rintro e w7 ⟨rfl, hR, hg⟩; have Hs7 := hid hR; have HZ7 := hid (Nat.le_trans HZ6.out hg.size); have HG7 := hid (HGE.out _ _ HG6.out hg); have HB7 := hid (HB6.out.on hg (fun e => by injection e with e; have := Hs5.out.lt; omega)); clear hR hg)
              | (with_reducible refine wpList_load_partW (by with_unfolding_all rfl) 31 _ (by with_unfolding_all rfl) w5.heap.size 0 zer16 _ (by with_unfolding_all rfl) HB7.out.whole Tryd.underlying31 (by with_unfolding_all rfl) (by with_unfolding_all exact Tryd.size31) ?_)
              | (with_reducible refine wpList_build_ofW (by with_unfolding_all rfl) 30 _ (by with_unfolding_all rfl) [] (by with_unfolding_all rfl) zer16 Tryd.built30 ?_)
              | (with_reducible refine wpList_binW (by with_unfolding_all rfl) .neq 31 _ _ _ (by with_unfolding_all rfl) _ _ _ (by with_unfolding_all rfl) (by with_unfolding_all rfl) (neq16 _ _ _) ?_)
              | (go_at_call 22; (with_reducible refine (HLf.out _ Hs8.out).mono ?_); rintro e w' ⟨rfl, hw⟩; have hw' := hw.symm; clear hw; subst hw')
              | (go_at_call 16; (with_reducible refine (HEd.out _ _ _ Hs8.out).mono ?_); rintro e w' ⟨rfl, hw⟩; have hw' := hw.symm; clear hw; subst hw')
              | (go_at_call 9; (with_reducible refine (HNu.out _ _).mono ?_); rintro e w' ⟨rfl, hw⟩; have hw' := hw.symm; clear hw; subst hw'))
            go_roundw
            case rel => exact ⟨k + 1, by go_num, by omega, Hs8, HZ8, HG8⟩
            case measure => simp [intOf]; omega
          · as_aux_lemma =>
            have i1 : ¬ (k : Int) < (K : Int) := by omega
            go_wp2_with fail
            go_ret
            exact ⟨rfl, gtrans HG14.out HGr.out⟩
end Go.Proofs.YtfalgjdhdgkbfabDoor
