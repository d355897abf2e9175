/- The walk of DigestParts. -/
import Derived.Test.YtmiojplbcjhggaaDoorPy
namespace Go.Proofs.YtmiojplbcjhggaaDoor
open Go Go.RowKit
open Go.RowKit (wrap32 wrap64)

/-- a row of steps. -/
def RowsSt (W : World) (a : Option Addr) (b o n : Nat) (D O : Nat → Int) (V : Nat → Value) (L : Nat → List UInt8) : Prop :=
  (0 < n → a = some ⟨b, o, none⟩ ∧ b < W.heap.size) ∧ ∀ i, i < n → W.rangeAt b (o + i * 3) [.int .i64 (D i), .int .i64 (O i), V i] ∧ Rd W (fun _ => True) (V i) (L i) ∧ (L i).length ≤ 140737488351232 ∧ -9223372036854775808 ≤ D i ∧ D i < 9223372036854775808 ∧ -9223372036854775808 ≤ O i ∧ O i < 9223372036854775808
theorem range_on3 {W u : World} {b o : Nat} {vs : List Value} (h : W.rangeAt b o vs) (hb : b < W.heap.size) (hg : W.grownBy u none) : u.rangeAt b o vs := fun j v hv => by
  rw [cell_at hg hb (by simp)]
  exact h j v hv
theorem RowsSt.on {W u : World} {a : Option Addr} {b o n : Nat} {D O : Nat → Int} {V : Nat → Value} {L : Nat → List UInt8} (h : RowsSt W a b o n D O V L) (hg : W.grownBy u none) : RowsSt u a b o n D O V L :=
  ⟨fun h0 => ⟨(h.1 h0).1, Nat.lt_of_lt_of_le (h.1 h0).2 hg.size⟩, fun i hi => ⟨range_on3 (h.2 i hi).1 (h.1 (by omega)).2 hg, (h.2 i hi).2.1.keep hg, (h.2 i hi).2.2⟩⟩
theorem yieldsIf_field {P : Program} {ops : Array Oper} {S : World → Prop} {o : Oper} {a : Act} (hw : Region.wanted o (yielded ops a.tmps) = true) (t : TypeId) (x : Operand) (i : Nat) (ho : o.op = .fieldAddr t x i) (vx v : Value) (hx : a.eval x = vx) (hr : ∀ u : World, (Instr.fieldAt t vx i).run P u = .ok v u) : YieldsIf P ops S o v a :=
  .inl ⟨hw, fun w _ => by
    subst hx
    unfold execOp
    simp only [ho]
    rw [Sem.run_bind, hr]
    rfl⟩
theorem fld37 (b : Nat) (u : World) : (Instr.fieldAt 37 (.pointer (some ⟨b, 0, none⟩)) 2).run Tryd.prog u = .ok (.pointer (some ⟨b, 2, none⟩)) u := by
  go_simp
theorem Tryd.zero37 : (Tryd.prog.info? 37).map (fun i => i.zero) = some (some (.agg ([.int .i64 0, .int .i64 0, .slice none 0 0] : List Value).toArray)) := by kernel_rfl
theorem Tryd.size37 : (Tryd.prog.info? 37).map (·.size) = some 3 := by kernel_rfl
theorem Pts.onRow {w w' : World} {p3 p4 C g : Nat} {B : Nat → Nat} {V : Nat → Value} {LH LV : Nat → List UInt8} (h : Pts w p3 p4 C B V LH LV) (hg : w.grownBy w' (some g)) {cs : List Value} (h5 : Blk w g cs 5) (hV : ∀ j, j < 2 → (V j).ownBlock ≠ some g) : Pts w' p3 p4 C B V LH LV :=
  ⟨h.hp.on hg (fun e => h5.ne h.hp (by decide) (Option.some.inj e)), h.vp.on hg (fun e => h5.ne h.vp (by decide) (Option.some.inj e)), fun j hj => ⟨(h.hs j hj).1.on hg (fun e => by obtain ⟨cs', hc⟩ := (h.hs j hj).1.blk; exact h5.ne hc (by decide) (Option.some.inj e)), (h.hs j hj).2⟩, fun j hj => (h.os j hj).on hg (fun k hk e => hV j hj (by rw [e, ← hk])), h.inj, h.dis⟩
set_option maxRecDepth 100000 in
set_option maxHeartbeats 3200000 in
theorem parts_walk (w : World) (a : Option Addr) (b o n c : Nat) (D0 O0 : Nat → Int) (V0 : Nat → Value) (L0 : Nat → List UInt8) (hG : Glob w) (hn : n ≤ 140737488355328)
    (hA : RowsSt w a b o n D0 O0 V0 L0) :
    Calls Tryd.prog 4 #[.slice a n c] w fun e w' => e = .returned (.bool true) ∧ w.grownBy w' none := by
  have HWk : Hid (∀ u, w.grownBy u none → Calls Tryd.prog 15 #[] u fun e w' => e = .returned (.bool true) ∧ u.grownBy w' none) := fun u hu => wakes_any u (hG.keep hu)
  have HA : Hid (∀ u, w.grownBy u none → RowsSt u a b o n D0 O0 V0 L0) := fun u hu => hA.on hu
  have HGl : Hid (∀ u, w.grownBy u none → Glob u) := fun u hu => hG.keep hu
  have HNw : Hid (∀ u, w.grownBy u none → Calls Tryd.prog 16 #[] u fun e w' => e = .returned (.pointer (some ⟨u.heap.size, 0, none⟩)) ∧ Hs w' u.heap.size [] ∧ u.grownBy w' none ∧ w'.heap.size = u.heap.size + 1) := fun u hu => new_any u (hG.keep hu)
  clear hA hG
  obtain ⟨b0, HB0⟩ : ∃ x, Hid (w.heap.size = x) := ⟨_, hid rfl⟩
  go_enter Tryd.func4, Tryd.ntmps4
  go_upto_region 2 with (first
    | (have := HT1; clear this; go_at_call 16; (with_reducible refine (HNw.out _ HT1.out).mono ?_); rintro e w2 ⟨rfl, hH2, hg2, hz2⟩; have HH2 := hid hH2; have HT2 := hid (gtrans HT1.out hg2); have HH12 := hid (HH1.out.keep hg2); have HZ2 := hid hz2; clear hH2 hg2 hz2)
    | (go_at_call 16; (with_reducible refine (HNw.out _ (grefl _ _)).mono ?_); rintro e w1 ⟨rfl, hH1, hg1, hz1⟩; have HH1 := hid hH1; have HT1 := hid hg1; have HZ1 := hid hz1; clear hH1 hg1 hz1)
    | (refine wpList_build_is rfl 34 _ rfl [.pointer (some ⟨w.heap.size, 0, none⟩), .pointer (some ⟨w1.heap.size, 0, none⟩)] (by kernel_rfl) ?_)
    | (refine wpList_alloc_row rfl 34 rfl (cells2v fun _ => .pointer none) Tryd.zero34 ?_; intro w3 B3 s3 g3; have HB3 := hid B3; have HT3 := hid (gtrans HT2.out g3); have HH13 := hid (HH12.out.keep g3); have HH23 := hid (HH2.out.keep g3); have HZ3 := hid s3; clear B3 g3 s3)
    | (refine wpList_store_all rfl 34 _ _ rfl w2.heap.size (cells2v fun _ => .pointer none) [.pointer (some ⟨w.heap.size, 0, none⟩), .pointer (some ⟨w1.heap.size, 0, none⟩)] 34 rfl rfl HB3.out rfl Tryd.size34 (by simp [Value.oneCell']) ?_; intro w4 B4 g4 s4; have HB4 := hid B4; have HT4 := hid (HT3.out.andThen g4 (fun j hj => .inl (by injection hj with hj; have := HT2.out.size; omega))); have HH14 := hid (HH13.out.on g4 (fun e => by have e' : w2.heap.size = w.heap.size := Option.some.inj e; have := HT2.out.size; have := HZ1.out; have := HZ2.out; omega)); have HH24 := hid (HH23.out.on g4 (fun e => by have e' : w2.heap.size = w1.heap.size := Option.some.inj e; have := HZ2.out; omega)); have HZ4 := hid s4; clear B4 g4 s4))
  obtain ⟨p3, hp3⟩ : ∃ x, w2.heap.size = x := ⟨_, rfl⟩
  obtain ⟨b1, hb1⟩ : ∃ x, w1.heap.size = x := ⟨_, rfl⟩
  rw [hp3] at HB4 ⊢
  rw [hb1, HB0.out] at HB4
  rw [HB0.out] at HH14
  rw [hb1] at HH24
  rw [hb1, HB0.out]
  have HN1 : Hid (b0 < b1 ∧ b1 < p3 ∧ p3 < w4.heap.size) := hid (by have := HZ1.out; have := HZ2.out; have := HZ3.out; have := HZ4.out; have := HB0.out; omega)
  clear hp3 hb1 HB3 HZ1 HZ2 HZ3 HZ4 HH1 HH2 HH12 HH13 HH23 HT1 HT2 HT3
  go_wp2_with (refine wpList_alloc_row rfl 35 rfl (cells2v fun _ => .slice none 0 0) Tryd.zero35 ?_; intro w5 B5 s5 g5; have HB5 := hid B5; have HT5 := hid (gtrans HT4.out g5); have HB45 := hid (HB4.out.keep g5); have HH15 := hid (HH14.out.keep g5); have HH25 := hid (HH24.out.keep g5); clear B5 g5 s5)
  obtain ⟨p4, hp4⟩ : ∃ x, w4.heap.size = x := ⟨_, rfl⟩
  rw [hp4] at HB5 ⊢
  have HN : Hid (w.heap.size ≤ p3 ∧ w.heap.size ≤ p4) := hid (by have := HN1.out; have := HB0.out; omega)
  have HM0 : Hid (Pts w5 p3 p4 w.heap.size (fun j => if j = 0 then b0 else b1) (fun _ => .slice none 0 0) (fun _ => []) (fun _ => [])) := hid ⟨HB45.out, HB5.out, lt2 ⟨⟨HH15.out, by have := HB0.out; show w.heap.size ≤ b0; omega⟩, ⟨HH25.out, by have := HB0.out; have := HN1.out; show w.heap.size ≤ b1; omega⟩⟩, fun j _ => Out.nil _ _, fun j k hj hk e => by
      have := HN1.out
      have e' : (if j = 0 then b0 else b1) = (if k = 0 then b0 else b1) := e
      split at e' <;> split at e' <;> omega, fun j k _ _ g h1 _ => by simp [Value.ownBlock] at h1⟩
  clear hp4 HB4 HB5 HB45 HH14 HH24 HH15 HH25 HT4 HN1
  generalize (fun j : Nat => if j = 0 then b0 else b1) = Bz at HM0
  go_wp2_with fail
  go_loopw [5, 6] (fun lv iv wr => ∃ (z : Int) (i : Nat) (B : Nat → Nat) (V : Nat → Value) (L : Nat → List UInt8), lv = .int .i64 z ∧ iv = .int .i64 i ∧ i ≤ n ∧ Hid (-8200 ≤ z ∧ z ≤ 65536) ∧ Hid (∀ j, j < 2 → ((L j).length : Int) + z ≤ 65536 ∧ (L j).length ≤ 65536) ∧ Hid (Pts wr p3 p4 w.heap.size B V L L) ∧ Hid (w.grownBy wr none)) (fun _ iv _ => n - (intOf iv).toNat)
  case atStart => exact ⟨65536, 0, Bz, _, _, rfl, rfl, by omega, hid (by omega), hid (fun j _ => by simp), HM0, HT5⟩
  case round =>
    clear HM0 HT5
    obtain ⟨z, i, B, V, L, rfl, rfl, hi, HZ, HL, HM, HG⟩ := hrel
    by_cases hlt : i < n
    · have i1 : (i : Int) < (n : Int) := by omega
      obtain ⟨rfl, hbb⟩ := (HA.out w (grefl _ _)).1 (by omega)
      obtain ⟨-, r1, l1, d0, d1, on0, on1⟩ := (HA.out w (grefl _ _)).2 i hlt
      obtain ⟨a1, _, _, q1, e1, -⟩ := r1
      obtain ⟨X, HX⟩ : ∃ x, Hid (L0 i = x) := ⟨_, hid rfl⟩
      obtain ⟨N1, HN1⟩ : ∃ x, Hid ((L0 i).length = x) := ⟨_, hid rfl⟩
      rw [HN1.out] at e1 l1
      have HNX : Hid (X.length = N1) := hid (by rw [← HX.out]; exact HN1.out)
      have HL1 := hid l1
      have HRg : Hid (∀ u, w.grownBy u none → u.rangeAt b (o + i * 3) [.int .i64 (D0 i), .int .i64 (O0 i), .slice a1 N1 q1]) := fun u hu => by rw [← e1]; exact ((HA.out u hu).2 i hlt).1
      have HR1 : Hid (∀ u, w.grownBy u none → Rd u (fun k => k < w.heap.size) (.slice a1 N1 q1) X) := fun u hu => by
        rw [← HX.out, ← e1]
        exact (((HA.out w (grefl _ _)).2 i hlt).2.1.mono (fun k hk _ => hk)).keep hu
      obtain ⟨dd, hdd⟩ : ∃ x, D0 i = x := ⟨_, rfl⟩
      obtain ⟨oo, hoo⟩ : ∃ x, O0 i = x := ⟨_, rfl⟩
      rw [hdd] at HRg d0 d1
      rw [hoo] at HRg on0 on1
      have HWi := fun (u : World) => within_any u oo on0 on1
      replace HWi := hid HWi
      clear l1 hbb hdd hoo e1 on0 on1
      go_upto_region 8 with (first
        | (refine wpList_load_part rfl 37 _ rfl b (o + i * 3) [.int .i64 dd, .int .i64 oo, .slice a1 N1 q1] _ rfl (HRg.out _ HG.out) Tryd.underlying37 rfl Tryd.size37 ?_)
        | (refine wpList_alloc_row rfl 37 rfl [.int .i64 0, .int .i64 0, .slice none 0 0] Tryd.zero37 ?_; intro u2 B2 s2 g2; have HB2 := hid B2; have HG2 := hid g2; clear B2 g2 s2)
        | (refine wpList_store_all rfl 37 _ _ rfl wr.heap.size [.int .i64 0, .int .i64 0, .slice none 0 0] [.int .i64 dd, .int .i64 oo, .slice a1 N1 q1] 37 rfl rfl HB2.out rfl Tryd.size37 (by simp [Value.oneCell']) ?_; intro u3 B3 g3 s3; have HB3 := hid B3; have HG3 := hid (HG2.out.andThen g3 (fun j hj => .inl (by injection hj with hj; omega))); clear B3 g3 s3))
      obtain ⟨p7, hp7⟩ : ∃ x, wr.heap.size = x := ⟨_, rfl⟩
      rw [hp7] at HB3 ⊢
      have HM3 := hid (HM.out.keep HG3.out)
      have HW3 := hid (gtrans HG.out HG3.out)
      have HP7 : Hid (w.heap.size ≤ p7) := hid (by rw [← hp7]; exact HG.out.size)
      clear hp7 HB2 HG2 HG3 HM HG
      obtain ⟨wo, hwo⟩ : ∃ x, x = wr := ⟨_, rfl⟩
      subst hwo
      obtain ⟨wk, hwk⟩ : ∃ x, x = u3 := ⟨_, rfl⟩
      subst hwk
      have Hc7 : Hid (∀ u, wk.grownBy u none → u.cell? ⟨p7, 0, none⟩ = some (.int .i64 dd) ∧ u.cell? ⟨p7, 1, none⟩ = some (.int .i64 oo) ∧ u.cell? ⟨p7, 2, none⟩ = some (.slice a1 N1 q1)) := fun u hu => by
        have hb := HB3.out.keep hu
        exact ⟨by rw [hb.cell]; rfl, by rw [hb.cell]; rfl, by rw [hb.cell]; rfl⟩
      obtain ⟨y0, y1, y2⟩ := Hc7.out _ (grefl _ _)
      go_upto_region 11 with (go_at_call 17; (with_reducible refine (HWi.out _).mono ?_); (rintro e w2 ⟨k, rfl, hk2, hw⟩; have hw2 := hw.symm; clear hw; subst hw2; have hk2' : (k : Int) < 2 := (by omega); have y3 : wk.cell? ⟨p3, k, none⟩ = some (.pointer (some ⟨B k, 0, none⟩)) := (by rw [HM3.out.hp.cell, cells2v_get _ k hk2]); have y4 := HM3.out.hp.lt))
      have HMk := HM3
      have HGk := HW3
      clear HM3 HW3 HWi HRg
      obtain ⟨Y, hY⟩ : ∃ x : Int, (N1 : Int) = x := ⟨_, rfl⟩
      have w0 : 0 ≤ Y := by omega
      have w1 : Y ≤ 140737488351232 := by have := HL1.out; omega
      have z0 : -8200 ≤ z := HZ.out.1
      have z1 : z ≤ 65536 := HZ.out.2
      have HYe := hid hY
      by_cases h1 : dd = 1
      · subst h1
        have Hc3 : Hid (∀ u, wk.grownBy u none → u.cell? ⟨p3, k, none⟩ = some (.pointer (some ⟨B k, 0, none⟩)) ∧ u.frozen? ⟨p3, k, none⟩ = false ∧ p3 < u.heap.size) := fun u hu => by
          have hb := HMk.out.hp.keep hu
          exact ⟨by rw [hb.cell, cells2v_get _ k hk2], hb.frozen k, hb.lt⟩
        go_upto_region 14 with (go_at_call 16; (with_reducible refine (HNw.out _ HGk.out).mono ?_); rintro e u5 ⟨rfl, hH5, hg5, hz5⟩; have HH5 := hid hH5; have HG5 := hid hg5; obtain ⟨x0, x1, x2⟩ := Hc3.out _ hg5; clear hH5 hg5 hz5)
        obtain ⟨bn, hbn⟩ : ∃ x, wk.heap.size = x := ⟨_, rfl⟩
        rw [hbn] at HH5 ⊢
        obtain ⟨u6, hu6⟩ : ∃ x, u5.setCell ⟨p3, k, none⟩ (.pointer (some ⟨bn, 0, none⟩)) = x := ⟨_, rfl⟩
        rw [hu6]
        have HG6 : Hid (u5.grownBy u6 (some p3)) := hid (by rw [← hu6]; exact gset _ _ _)
        have HP6 : Hid (Blk u6 p3 ((cells2v fun j => .pointer (some ⟨B j, 0, none⟩)).set k (.pointer (some ⟨bn, 0, none⟩))) 34) := hid (by rw [← hu6]; exact (HMk.out.hp.keep HG5.out).set k _)
        have HV6 : Hid (Blk u6 p4 (cells2v V) 35) := hid ((HMk.out.vp.keep HG5.out).on HG6.out (fun e => HMk.out.hp.ne HMk.out.vp (by decide) (Option.some.inj e)))
        have x3 : u6.cell? ⟨p4, k, none⟩ = some (V k) := by rw [HV6.out.cell, cells2v_get _ k hk2]
        have x4 := HV6.out.frozen k
        have x5 := HV6.out.lt
        have HBn := hid hbn
        clear hu6 x0 x1 x2 hbn y3 y4
        go_wp2_with fail
        go_roundw
        case rel => exact ⟨z, i + 1, upd B k bn, upd V k (.slice none 0 0), upd L k [], rfl, by go_num, by omega, HZ, hid (fun j hj => by
            by_cases e : j = k
            · subst e
              rw [upd_same]
              exact ⟨by simp; omega, by simp⟩
            · rw [upd_ne _ _ e]
              exact HL.out j hj), hid (HMk.out.newed hk2 HG5.out HH5.out (by have := HBn.out; omega) HGk.out.size HG6.out HP6.out (gset _ _ _) (HV6.out.set k _)), hid (((gtrans HGk.out HG5.out).andThen HG6.out (fun j hj => .inl (by have hj' : p3 = j := Option.some.inj hj; have := HN.out; omega))).andThen (gset _ _ _) (fun j hj => .inl (by have hj' : p4 = j := Option.some.inj hj; have := HN.out; omega)))⟩
        case measure => simp [intOf]; omega
      · by_cases h2 : dd = 2
        · subst h2
          by_cases hbig : z < Y
          · go_wp2_with fail
            go_roundw
            case rel => exact ⟨z, i + 1, B, V, L, rfl, by go_num, by omega, HZ, HL, HMk, HGk⟩
            case measure => simp [intOf]; omega
          · have hsm : Y ≤ z := by omega
            have HN16 : Hid (N1 ≤ 65536) := hid (by omega)
            have HSM : Hid ((N1 : Int) ≤ z) := hid (by omega)
            have HLe : Hid (Calls Tryd.prog 10 #[.slice a1 N1 q1] wk fun e w' => ∃ v, e = .returned v ∧ LentW wk.heap.size w' v X ∧ wk.grownBy w' none) := hid (lendW_any wk _ _ _ (HR1.out _ HGk.out) (by rw [HNX.out]; exact HL1.out))
            go_upto_region 19 with (go_at_call 10; (with_reducible refine HLe.out.mono ?_); rintro e u5 ⟨v5, rfl, hl5, hg5⟩; have HV5 := hid hl5; have HG5 := hid hg5; clear hl5 hg5)
            obtain ⟨bx, cx, hve5, hbx, hOx⟩ := HV5.out
            subst hve5
            rw [HNX.out] at hOx ⊢
            have HOx := hid hOx
            have HBx : Hid (wk.heap.size ≤ bx) := hid hbx
            have HM5 := hid (HMk.out.keep HG5.out)
            have HW5 := hid (gtrans HGk.out HG5.out)
            have HBk := hid (HMk.out.hs k hk2)
            have HVx : Hid (LentW 0 u5 (.slice (some ⟨bx, 0, none⟩) N1 cx) X) := hid ⟨bx, cx, by rw [HNX.out], Nat.zero_le _, by rw [HNX.out]; exact HOx.out⟩
            have HBne : Hid (bx ≠ B k) := hid (fun e => by have := HBk.out.1.lt; have := HBx.out; omega)
            have HWr : Hid (Calls Tryd.prog 18 #[.pointer (some ⟨B k, 0, none⟩), .slice (some ⟨bx, 0, none⟩) N1 cx] u5 fun e w' => e = .returned (.tuple #[]) ∧ Hs w' (B k) (L k ++ X) ∧ u5.grownBy w' (some (B k))) := hid (by
              have hlr : LentW wk.heap.size u5 (.slice (some ⟨bx, 0, none⟩) N1 cx) X := ⟨bx, cx, by rw [HNX.out], HBx.out, by rw [HNX.out]; exact HOx.out⟩
              refine write_any u5 (B k) (L k) _ (fun g => wk.heap.size ≤ g) X (HM5.out.hs k hk2).1 hlr.lent.rd (by have := HBk.out.1.lt; omega) (HGl.out u5 HW5.out) (by have := HBk.out.2; have := (HGl.out w (grefl _ _)).sz; omega) ?_
              have h1 := (HL.out k hk2).2
              have h2 := HN16.out
              rw [HNX.out]
              omega)
            clear hbx hOx HV5 hsm y3 y4 y0 y1 y2
            have y3 : u5.cell? ⟨p3, k, none⟩ = some (.pointer (some ⟨B k, 0, none⟩)) := by rw [HM5.out.hp.cell, cells2v_get _ k hk2]
            have y4 := HM5.out.hp.lt
            go_upto_region 20 with (go_at_call 18; (with_reducible refine HWr.out.mono ?_); rintro e u6 ⟨rfl, hH6, hg6⟩; have HH6 := hid hH6; have HG6 := hid hg6; clear hH6 hg6)
            have HM6 := hid (HM5.out.wrote hk2 HG6.out HH6.out)
            have HW6 := hid (HW5.out.andThen HG6.out (fun j hj => .inl (by have hj' : B k = j := Option.some.inj hj; have := HBk.out.2; omega)))
            have HOx6 := hid (HOx.out.on HG6.out (fun q hq e => by have hq' : B k = q := Option.some.inj hq; have e' : bx = q := Option.some.inj e; have := HBne.out; omega))
            have HB36 : Hid (Blk u6 p7 [.int .i64 2, .int .i64 oo, .slice a1 N1 q1] 37) := hid ((HB3.out.keep HG5.out).on HG6.out (fun e => by obtain ⟨cs', hc⟩ := HBk.out.1.blk; exact hc.ne HB3.out (by decide) (Option.some.inj e)))
            have y5 : u6.cell? ⟨p7, 2, none⟩ = some (.slice a1 N1 q1) := by rw [HB36.out.cell]; rfl
            have y6 := HB36.out.lt
            have HIn : Hid (Calls Tryd.prog 12 #[.slice (some ⟨bx, 0, none⟩) N1 cx, .slice a1 N1 q1] u6 fun e w' => e = .returned (.bool true) ∧ u6.grownBy w' none) := hid ((intact_any u6 0 _ _ _ X (LentW.lent (⟨bx, cx, by rw [HNX.out], Nat.zero_le _, by rw [HNX.out]; exact HOx6.out⟩ : LentW 0 u6 (.slice (some ⟨bx, 0, none⟩) N1 cx) X)) (HR1.out u6 HW6.out) (by rw [HNX.out]; exact HL1.out)).mono (fun e w' ⟨he, m, hm⟩ => ⟨he, by rw [hm]; exact gdrew _ _ _⟩))
            have HOv : Hid (∀ u, u6.grownBy u none → Calls Tryd.prog 19 #[.slice (some ⟨bx, 0, none⟩) N1 cx] u fun e w' => e = .returned (.tuple #[]) ∧ u.grownBy w' (some bx)) := fun u hu => by
              have h := over_any u bx cx X (by rw [HNX.out]; exact HOx6.out.keep hu) (by rw [HNX.out]; exact HL1.out)
              rw [HNX.out] at h
              exact h
            clear y3 y4
            go_upto_region 23 with (first
              | (go_at_call 12; (with_reducible refine HIn.out.mono ?_); rintro e u7 ⟨rfl, hg7⟩; have HG7 := hid hg7; clear hg7)
              | (go_at_call 19; (with_reducible refine (HOv.out _ HG7.out).mono ?_); rintro e u8 ⟨rfl, hg8⟩; have HG8 := hid hg8; clear hg8))
            have hbxc : ∃ cs, Blk u7 bx cs 5 := (HOx6.out.keep HG7.out).cells5 rfl
            obtain ⟨csx, hcx⟩ := hbxc
            have HM8 := hid ((HM6.out.keep HG7.out).onRow HG8.out hcx (fun j hj e => by have := (World.ownsRow.lt (HMk.out.os j hj) _ e).2; have := HBx.out; omega))
            have HW8 := hid ((gtrans HW6.out HG7.out).andThen HG8.out (fun j hj => .inl (by have hj' : bx = j := Option.some.inj hj; have := HBx.out; have := HGk.out.size; omega)))
            have HB38 : Hid (Blk u8 p7 [.int .i64 2, .int .i64 oo, .slice a1 N1 q1] 37) := hid ((HB36.out.keep HG7.out).on HG8.out (fun e => hcx.ne (HB36.out.keep HG7.out) (by decide) (Option.some.inj e)))
            clear hcx HM5 HM6 HW5 HW6 HOx HOx6 HB36 y5 y6 HIn HOv HG5 HG6 HG7 HG8 HH6 HVx HLe HWr
            obtain ⟨va, _, _, vc, hve, -⟩ := (HM8.out.os k hk2).rd
            obtain ⟨vn, hvn⟩ : ∃ x, (L k).length = x := ⟨_, rfl⟩
            rw [hvn] at hve
            have HVe := hid hve
            clear hve hvn
            have HSk : Hid (∀ u, u8.grownBy u none → u.cell? ⟨p4, k, none⟩ = some (.slice va vn vc) ∧ u.cell? ⟨p7, 2, none⟩ = some (.slice a1 N1 q1)) := fun u hu => ⟨by rw [(HM8.out.vp.keep hu).cell, cells2v_get _ k hk2, HVe.out], by rw [(HB38.out.keep hu).cell]; rfl⟩
            have HOr : Hid (∀ u, u8.grownBy u none → Out w.heap.size u (.slice va vn vc) (L k)) := fun u hu => by
              rw [← HVe.out]
              exact (HM8.out.os k hk2).keep hu
            have HKp : Hid (∀ u, u8.grownBy u (Value.slice va vn vc).ownBlock → u.cell? ⟨p4, k, none⟩ = some (.slice va vn vc) ∧ Blk u p7 [.int .i64 2, .int .i64 oo, .slice a1 N1 q1] 37 ∧ Blk u p4 (cells2v V) 35) := fun u hu => by
              have hO := HM8.out.os k hk2
              rw [HVe.out] at hO
              have hb := HM8.out.vp.on hu (hO.apartBlk HM8.out.vp (by decide))
              exact ⟨by rw [hb.cell, cells2v_get _ k hk2, HVe.out], HB38.out.on hu (hO.apartBlk HB38.out (by decide)), hb⟩
            refine wp_region_held_drew (S := fun u => u.cell? ⟨p7, 2, none⟩ = some (.slice a1 N1 q1)) (by kernel_rfl) ?_ (fun hHeld => ?_)
            · exact (HSk.out _ (gdrew1 _ _)).2
            refine wpAnyH_take (i := 0) (oi := { dst := some 67, op := Op.move (Operand.tmp 8), type := 3, pos := "law.go:90", after := #[], guard := none }) (v := (.int .i64 (k : Nat))) rfl (by kernel_rfl) (by kernel_rfl) (by kernel_rfl) (fun _ _ _ h => h) (yieldsIf_mv rfl (.tmp 8) rfl _ rfl) (by assumption) ?_
            (try simp only [Act.put, List.setIfInBounds_toArray, List.set_cons_zero, List.set_cons_succ])
            refine wpAnyH_take (i := 1) (oi := { dst := some 68, op := Op.move (Operand.tmp 8), type := 3, pos := "law.go:90", after := #[], guard := none }) (v := (.int .i64 (k : Nat))) rfl (by kernel_rfl) (by kernel_rfl) (by kernel_rfl) (fun _ _ _ h => h) (yieldsIf_mv rfl (.tmp 8) rfl _ rfl) (by assumption) ?_
            (try simp only [Act.put, List.setIfInBounds_toArray, List.set_cons_zero, List.set_cons_succ])
            refine wpAnyH_take (i := 2) (oi := { dst := some 69, op := Op.indexAddr 35 (Operand.tmp 4) (Operand.tmp 68), type := 0, pos := "law.go:90", after := #[{ on := 1, ground := Ground.data }], guard := none }) (v := (.pointer (some ⟨p4, k, none⟩))) rfl (by kernel_rfl) (by kernel_rfl) (by kernel_rfl) (fun _ _ _ h => h) (yieldsIf_idx rfl 35 (.tmp 4) (.tmp 68) rfl _ _ _ rfl rfl (idx35 p4 k hk2)) (by assumption) ?_
            (try simp only [Act.put, List.setIfInBounds_toArray, List.set_cons_zero, List.set_cons_succ])
            refine wpAnyH_take (i := 4) (oi := { dst := some 71, op := Op.fieldAddr 37 (Operand.tmp 7) 2, type := 0, pos := "law.go:90", after := #[], guard := none }) (v := (.pointer (some ⟨p7, 2, none⟩))) rfl (by kernel_rfl) (by kernel_rfl) (by kernel_rfl) (fun _ _ _ h => h) (yieldsIf_field rfl 37 (.tmp 7) 2 rfl _ _ rfl (fld37 p7)) (by assumption) ?_
            (try simp only [Act.put, List.setIfInBounds_toArray, List.set_cons_zero, List.set_cons_succ])
            refine wpAnyH_take (i := 5) (oi := { dst := some 72, op := Op.load 23 (Operand.tmp 71), type := 23, pos := "law.go:90", after := #[{ on := 4, ground := Ground.data }], guard := none }) (v := (.slice a1 N1 q1)) rfl (by kernel_rfl) (by kernel_rfl) (by kernel_rfl) (fun _ _ _ h => h) (yieldsIf_ld rfl 23 (.tmp 71) rfl _ _ rfl (fun u hu => ld23x p7 2 N1 q1 a1 u hu)) (by assumption) ?_
            (try simp only [Act.put, List.setIfInBounds_toArray, List.set_cons_zero, List.set_cons_succ])
            refine wpAnyH_ready (rs := [3]) (by kernel_rfl) (by simp) ?_
            refine AllReadyH.cons rfl (fun K hK => ?_) AllReadyH.nil
            have hc5 := (HSk.out _ (gdrew1 u8 none)).1
            go_simp
            refine hK.out _ _ ?_ (fun hHeld => ?_)
            · exact (HSk.out _ (gdrew1 _ _)).2
            clear hK K
            (try simp only [Act.put, List.setIfInBounds_toArray, List.set_cons_zero, List.set_cons_succ])
            refine wpAnyH_ready (rs := [6]) (by kernel_rfl) (by simp) ?_
            refine AllReadyH.cons rfl (fun K hK => ?_) AllReadyH.nil
            refine step_append_at rfl (.tmp 70) (.tmp 72) rfl w.heap.size _ (L k) X (HOr.out _ (gdrew1 _ _)) (HR1.out _ (gtrans HW8.out (gdrew1 _ _))) (by have h1 := (HL.out k hk2).2; have h2 := HN16.out; rw [HNX.out]; omega) (gtrans HW8.out (gdrew1 u8 none)).size ?_
            intro x3 u9 hO3 hg3 hat3
            obtain ⟨xa, _, _, xc, hxe, -⟩ := hO3.rd
            obtain ⟨xn, hxn⟩ : ∃ x, (L k ++ X).length = x := ⟨_, rfl⟩
            rw [hxn] at hxe
            subst hxe
            have HO9 := hid hO3
            have HG9 : Hid (u8.grownBy u9 (Value.slice va vn vc).ownBlock) := hid (gtrans (gsome (gdrew1 u8 none) _) hg3)
            have HAt : Hid ((Value.slice xa xn xc).ownBlock = (Value.slice va vn vc).ownBlock ∨ (Value.slice xa xn xc).ownBlock = some u8.heap.size) := hid hat3
            have HCel := hid (HKp.out u9 HG9.out)
            clear hO3 hg3 hat3 hxn
            refine hK.out _ _ ?_ (fun hHeld => ?_)
            · exact (by rw [HCel.out.2.1.cell]; rfl)
            clear hK K
            (try simp only [Act.put, List.setIfInBounds_toArray])
            refine wpAnyH_take (i := 7) (oi := { dst := some 74, op := Op.indexAddr 35 (Operand.tmp 4) (Operand.tmp 67), type := 0, pos := "law.go:90", after := #[{ on := 0, ground := Ground.data }, { on := 0, ground := Ground.phase }, { on := 1, ground := Ground.phase }, { on := 2, ground := Ground.phase }, { on := 3, ground := Ground.phase }, { on := 4, ground := Ground.phase }, { on := 5, ground := Ground.phase }, { on := 6, ground := Ground.phase }], guard := none }) (v := (.pointer (some ⟨p4, k, none⟩))) rfl (by kernel_rfl) (by kernel_rfl) (by kernel_rfl) (fun _ _ _ h => h) (yieldsIf_idx rfl 35 (.tmp 4) (.tmp 67) rfl _ _ _ rfl rfl (idx35 p4 k hk2)) (by assumption) ?_
            (try simp only [Act.put])
            refine wpAnyH_ready (rs := [8]) (by kernel_rfl) (by simp) ?_
            refine AllReadyH.cons rfl (fun K hK => ?_) AllReadyH.nil
            have hfz := HCel.out.2.2.frozen k
            have hc12 := HCel.out.1
            go_simp
            obtain ⟨u10, hu4⟩ : ∃ x, u9.setCell ⟨p4, k, none⟩ (Value.slice xa xn xc) = x := ⟨_, rfl⟩
            rw [hu4]
            have HG10 : Hid (u9.grownBy u10 (some p4)) := hid (by rw [← hu4]; exact gset _ _ _)
            have HP10 : Hid (Blk u10 p4 ((cells2v V).set k (.slice xa xn xc)) 35) := hid (by rw [← hu4]; exact HCel.out.2.2.set k _)
            clear hu4 hfz hc12
            refine hK.out _ _ ?_ (fun hHeld => ?_)
            · exact (by rw [(HCel.out.2.1.on HG10.out (fun e => HCel.out.2.2.ne HCel.out.2.1 (by decide) (Option.some.inj e))).cell]; rfl)
            clear hK K
            refine wpAnyH_done (by kernel_rfl) ?_ _
            have HM9 := hid (HM8.out.appended hk2 (by rw [HVe.out]; exact HG9.out) HO9.out (by rw [HVe.out]; exact HAt.out) HG10.out HP10.out)
            have HW9 : Hid (w.grownBy u10 none) := hid ((HW8.out.andThen HG9.out (fun j hj => .inl (by have hO := HM8.out.os k hk2; rw [HVe.out] at hO; exact hO.block _ hj))).andThen HG10.out (fun j hj => .inl (by have hj' : p4 = j := Option.some.inj hj; have := HN.out; omega)))
            clear HM8 HW8 HG9 HO9 HAt HG10 HP10 HOr HKp HSk HCel HVe hHeld
            go_wp2_with fail
            go_roundw
            case rel => exact ⟨z - Y, i + 1, B, upd V k (.slice xa xn xc), upd L k (L k ++ X), rfl, by go_num, by omega, hid (by omega), hid (fun j hj => by
                have h1 := HL.out j hj
                have h2 := HSM.out
                have h3 := HYe.out
                by_cases e : j = k
                · subst e
                  rw [upd_same, List.length_append, HNX.out]
                  omega
                · rw [upd_ne _ _ e]
                  omega), HM9, HW9⟩
            case measure => simp [intOf]; omega
        · by_cases h3 : dd = 3
          · subst h3
            by_cases hneg : z < 0
            · go_wp2_with fail
              go_roundw
              case rel => exact ⟨z, i + 1, B, V, L, rfl, by go_num, by omega, HZ, HL, HMk, HGk⟩
              case measure => simp [intOf]; omega
            · clear y3 y4
              obtain ⟨va, _, _, vc, hve, -⟩ := (HMk.out.os k hk2).rd
              clear HNX HR1 HX
              obtain ⟨X, HX⟩ : ∃ x, Hid (L k = x) := ⟨_, hid rfl⟩
              obtain ⟨vn, hvn⟩ : ∃ x, (L k).length = x := ⟨_, rfl⟩
              rw [hvn] at hve
              have HVe := hid hve
              have HXn : Hid (X.length = vn) := hid (by rw [← HX.out]; exact hvn)
              have HVn : Hid (vn ≤ 65536) := hid (by have := (HL.out k hk2).2; omega)
              clear hve hvn
              obtain ⟨S, HSe⟩ : ∃ x, Hid (Lib.byteCells (sumL X) = x) := ⟨_, hid rfl⟩
              have HcB : Hid (∀ u, wk.grownBy u none → u.cell? ⟨p3, k, none⟩ = some (.pointer (some ⟨B k, 0, none⟩))) := fun u hu => by rw [(HMk.out.hp.keep hu).cell, cells2v_get _ k hk2]
              have HcV : Hid (∀ u, wk.grownBy u none → u.cell? ⟨p4, k, none⟩ = some (.slice va vn vc)) := fun u hu => by rw [(HMk.out.vp.keep hu).cell, cells2v_get _ k hk2, HVe.out]
              have HSm : Hid (∀ u, wk.grownBy u none → Calls Tryd.prog 20 #[.pointer (some ⟨B k, 0, none⟩)] u fun e w' => e = .returned (.agg S.toArray) ∧ u.grownBy w' none) := fun u hu => by
                have := hsum_any u (B k) (L k) ((HMk.out.hs k hk2).1.keep hu) (HGl.out u (gtrans HGk.out hu)) (by rw [HX.out, HXn.out]; have := HVn.out; omega)
                rw [HX.out, HSe.out] at this
                exact this
              have HLn : Hid (∀ u, wk.grownBy u none → Calls Tryd.prog 21 #[.pointer (some ⟨B k, 0, none⟩)] u fun e w' => e = .returned (.int .u64 (vn : Nat)) ∧ u.grownBy w' none) := fun u hu => by
                have h := ((HMk.out.hs k hk2).1.keep hu).taken
                rw [HX.out, HXn.out] at h
                exact (len_any vn (B k) u h).mono fun e w' ⟨he, hw⟩ => ⟨he, by rw [hw]; exact grefl _ _⟩
              have HDs : Hid (∀ u, wk.grownBy u none → Calls Tryd.prog 9 #[.slice va vn vc] u fun e w' => e = .returned (.agg S.toArray) ∧ u.grownBy w' none) := fun u hu => by
                have h := ((HMk.out.os k hk2).keep hu).rd
                rw [HVe.out, HX.out] at h
                rw [← HSe.out]
                exact sumR_any u _ _ X h (by rw [HXn.out]; have := HVn.out; omega)
              have HNe : Hid (∀ (x y : Operand) (u : World), (do eqGuard .neq 24 x y (.agg S.toArray) (.agg S.toArray); binOp .neq 24 (.agg S.toArray) (.agg S.toArray) : Sem Value).run Tryd.prog u = .ok (.bool false) u) := fun x y u => by
                rw [← HSe.out, neqG_32]
                exact neq_self _ (sumL_length _) u
              have HCv : Hid (∀ u : World, (convert 3 41 (.int .i64 (vn : Nat))).run Tryd.prog u = .ok (.int .u64 (vn : Nat)) u) := fun u => cv41 vn HVn.out u
              go_upto_region 26 with fail
              refine wp_region_list (by kernel_rfl) [fun v _ => v = (Value.int .i64 (k : Nat)), fun v _ => v = (Value.pointer (some ⟨p3, k, none⟩)), fun v _ => v = (Value.pointer (some ⟨B k, 0, none⟩)), fun v _ => v = (Value.agg S.toArray), fun v _ => v = (Value.int .i64 (k : Nat)), fun v _ => v = (Value.pointer (some ⟨p4, k, none⟩)), fun v _ => v = (Value.slice va vn vc), fun v _ => v = (Value.agg S.toArray), fun v _ => v = (Value.bool false), fun v _ => v = (Value.bool false), fun v _ => v = (Value.int .i64 (k : Nat)), fun v _ => v = (Value.pointer (some ⟨p3, k, none⟩)), fun v _ => v = (Value.pointer (some ⟨B k, 0, none⟩)), fun v _ => v = (Value.int .u64 (vn : Nat)), fun v _ => v = (Value.int .i64 (k : Nat)), fun v _ => v = (Value.pointer (some ⟨p4, k, none⟩)), fun v _ => v = (Value.slice va vn vc), fun v _ => v = (Value.int .i64 (vn : Nat)), fun v _ => v = (Value.int .u64 (vn : Nat)), fun v _ => v = (Value.bool false), fun v _ => v = (Value.bool false)] (none) (fun _ => none) 21 (by kernel_rfl) (by kernel_rfl) (by kernel_rfl) (by kernel_rfl) (by decide) noRow_one (fun _ => .inl rfl) ⟨fun i v u u' hki h hg => h, fun i v u u' hki h hg => h, fun i v u u' hki h hg => h, fun i v u u' hki h hg => h, fun i v u u' hki h hg => h, fun i v u u' hki h hg => h, fun i v u u' hki h hg => h, fun i v u u' hki h hg => h, fun i v u u' hki h hg => h, fun i v u u' hki h hg => h, fun i v u u' hki h hg => h, fun i v u u' hki h hg => h, fun i v u u' hki h hg => h, fun i v u u' hki h hg => h, fun i v u u' hki h hg => h, fun i v u u' hki h hg => h, fun i v u u' hki h hg => h, fun i v u u' hki h hg => h, fun i v u u' hki h hg => h, fun i v u u' hki h hg => h, fun i v u u' hki h hg => h, trivial⟩ ⟨?_, ?_, ?_, ?_, ?_, ?_, ?_, ?_, ?_, ?_, ?_, ?_, ?_, ?_, ?_, ?_, ?_, ?_, ?_, ?_, ?_, trivial⟩ ?_
              · intro A u hu hpu hsz hout hdeps
                have e8 : A.eval (.tmp 8) = (.int .i64 (k : Nat)) := (hout 8 (by kernel_rfl)).trans rfl
                refine ifw_none rfl ?_
                with_reducible refine shown_q (Value.int .i64 (k : Nat)) ?qq_1_0 (fun _ _ => ?qr_1_0)
                case qr_1_0 => exact (rfl : (Value.int .i64 (k : Nat)) = (Value.int .i64 (k : Nat)))
                with_reducible refine quietAt_mv (.tmp 8) (Value.int .i64 (k : Nat)) ?h0_1_0 ?h1_1_0
                case h0_1_0 => rfl
                case h1_1_0 => exact e8
              · intro A u hu hpu hsz hout hdeps
                have e3 : A.eval (.tmp 3) = (.pointer (some ⟨p3, 0, none⟩)) := (hout 3 (by kernel_rfl)).trans rfl
                have e79 : A.eval (.tmp 79) = (.int .i64 (k : Nat)) := by have h := depL hdeps 0 (by kernel_rfl) 79 (by kernel_rfl); exact h
                refine ifw_none rfl ?_
                with_reducible refine shown_q (Value.pointer (some ⟨p3, k, none⟩)) ?qq_1_1 (fun _ _ => ?qr_1_1)
                case qr_1_1 => exact (rfl : (Value.pointer (some ⟨p3, k, none⟩)) = (Value.pointer (some ⟨p3, k, none⟩)))
                with_reducible refine quietAt_idx 34 (.tmp 3) (.tmp 79) (Value.pointer (some ⟨p3, 0, none⟩)) (Value.int .i64 (k : Nat)) (Value.pointer (some ⟨p3, k, none⟩)) ?h0_1_1 ?h1_1_1 ?h2_1_1 ?h3_1_1
                case h0_1_1 => rfl
                case h1_1_1 => exact e3
                case h2_1_1 => exact e79
                case h3_1_1 => exact (idx34 p3 k hk2 u)
              · intro A u hu hpu hsz hout hdeps
                have e80 : A.eval (.tmp 80) = (.pointer (some ⟨p3, k, none⟩)) := by have h := depL hdeps 1 (by kernel_rfl) 80 (by kernel_rfl); exact h
                refine ifw_none rfl ?_
                with_reducible refine shown_q (Value.pointer (some ⟨B k, 0, none⟩)) ?qq_1_2 (fun _ _ => ?qr_1_2)
                case qr_1_2 => exact (rfl : (Value.pointer (some ⟨B k, 0, none⟩)) = (Value.pointer (some ⟨B k, 0, none⟩)))
                with_reducible refine quietAt_ld 32 (.tmp 80) (Value.pointer (some ⟨p3, k, none⟩)) (Value.pointer (some ⟨B k, 0, none⟩)) ?h0_1_2 ?h1_1_2 ?h2_1_2
                case h0_1_2 => rfl
                case h1_1_2 => exact e80
                case h2_1_2 => exact (ld32 p3 k _ u (HcB.out u hu))
              · intro A u hu hpu hsz hout hdeps
                have e81 : A.eval (.tmp 81) = (.pointer (some ⟨B k, 0, none⟩)) := by have h := depL hdeps 2 (by kernel_rfl) 81 (by kernel_rfl); exact h
                refine ifw_none rfl ?_
                with_reducible refine shown_q (Value.agg S.toArray) ?qq_1_3 (fun _ _ => ?qr_1_3)
                case qr_1_3 => exact (rfl : (Value.agg S.toArray) = (Value.agg S.toArray))
                with_reducible refine quietAt_call 20 Tryd.f20 ?h0_1_3 ?h1_1_3 ?h2_1_3 #[.tmp 81] #[32] ?h3_1_3 (Value.agg S.toArray) #[(Value.pointer (some ⟨B k, 0, none⟩))] ?h4_1_3 ?h5_1_3
                case h0_1_3 => exact Tryd.func20
                case h1_1_3 => kernel_rfl
                case h2_1_3 => kernel_rfl
                case h3_1_3 => rfl
                case h4_1_3 => exact map1 _ _ _ e81
                case h5_1_3 => exact (HSm.out u hu)
              · intro A u hu hpu hsz hout hdeps
                have e8 : A.eval (.tmp 8) = (.int .i64 (k : Nat)) := (hout 8 (by kernel_rfl)).trans rfl
                refine ifw_none rfl ?_
                with_reducible refine shown_q (Value.int .i64 (k : Nat)) ?qq_1_4 (fun _ _ => ?qr_1_4)
                case qr_1_4 => exact (rfl : (Value.int .i64 (k : Nat)) = (Value.int .i64 (k : Nat)))
                with_reducible refine quietAt_mv (.tmp 8) (Value.int .i64 (k : Nat)) ?h0_1_4 ?h1_1_4
                case h0_1_4 => rfl
                case h1_1_4 => exact e8
              · intro A u hu hpu hsz hout hdeps
                have e4 : A.eval (.tmp 4) = (.pointer (some ⟨p4, 0, none⟩)) := (hout 4 (by kernel_rfl)).trans rfl
                have e83 : A.eval (.tmp 83) = (.int .i64 (k : Nat)) := by have h := depL hdeps 4 (by kernel_rfl) 83 (by kernel_rfl); exact h
                refine ifw_none rfl ?_
                with_reducible refine shown_q (Value.pointer (some ⟨p4, k, none⟩)) ?qq_1_5 (fun _ _ => ?qr_1_5)
                case qr_1_5 => exact (rfl : (Value.pointer (some ⟨p4, k, none⟩)) = (Value.pointer (some ⟨p4, k, none⟩)))
                with_reducible refine quietAt_idx 35 (.tmp 4) (.tmp 83) (Value.pointer (some ⟨p4, 0, none⟩)) (Value.int .i64 (k : Nat)) (Value.pointer (some ⟨p4, k, none⟩)) ?h0_1_5 ?h1_1_5 ?h2_1_5 ?h3_1_5
                case h0_1_5 => rfl
                case h1_1_5 => exact e4
                case h2_1_5 => exact e83
                case h3_1_5 => exact (idx35 p4 k hk2 u)
              · intro A u hu hpu hsz hout hdeps
                have e84 : A.eval (.tmp 84) = (.pointer (some ⟨p4, k, none⟩)) := by have h := depL hdeps 5 (by kernel_rfl) 84 (by kernel_rfl); exact h
                refine ifw_none rfl ?_
                with_reducible refine shown_q (Value.slice va vn vc) ?qq_1_6 (fun _ _ => ?qr_1_6)
                case qr_1_6 => exact (rfl : (Value.slice va vn vc) = (Value.slice va vn vc))
                with_reducible refine quietAt_ld 23 (.tmp 84) (Value.pointer (some ⟨p4, k, none⟩)) (Value.slice va vn vc) ?h0_1_6 ?h1_1_6 ?h2_1_6
                case h0_1_6 => rfl
                case h1_1_6 => exact e84
                case h2_1_6 => exact (ld23x p4 k vn vc va u (HcV.out u hu))
              · intro A u hu hpu hsz hout hdeps
                have e85 : A.eval (.tmp 85) = (.slice va vn vc) := by have h := depL hdeps 6 (by kernel_rfl) 85 (by kernel_rfl); exact h
                refine ifw_none rfl ?_
                with_reducible refine shown_q (Value.agg S.toArray) ?qq_1_7 (fun _ _ => ?qr_1_7)
                case qr_1_7 => exact (rfl : (Value.agg S.toArray) = (Value.agg S.toArray))
                with_reducible refine quietAt_call 9 Tryd.f9 ?h0_1_7 ?h1_1_7 ?h2_1_7 #[.tmp 85] #[23] ?h3_1_7 (Value.agg S.toArray) #[(Value.slice va vn vc)] ?h4_1_7 ?h5_1_7
                case h0_1_7 => exact Tryd.func9
                case h1_1_7 => kernel_rfl
                case h2_1_7 => kernel_rfl
                case h3_1_7 => rfl
                case h4_1_7 => exact map1 _ _ _ e85
                case h5_1_7 => exact (HDs.out u hu)
              · intro A u hu hpu hsz hout hdeps
                have e82 : A.eval (.tmp 82) = (.agg S.toArray) := by have h := depL hdeps 3 (by kernel_rfl) 82 (by kernel_rfl); exact h
                have e86 : A.eval (.tmp 86) = (.agg S.toArray) := by have h := depL hdeps 7 (by kernel_rfl) 86 (by kernel_rfl); exact h
                refine ifw_none rfl ?_
                with_reducible refine shown_q (Value.bool false) ?qq_1_8 (fun _ _ => ?qr_1_8)
                case qr_1_8 => exact (rfl : (Value.bool false) = (Value.bool false))
                with_reducible refine quietAt_bin .neq 24 (.tmp 82) (.tmp 86) 24 (Value.agg S.toArray) (Value.agg S.toArray) (Value.bool false) ?h0_1_8 ?h1_1_8 ?h2_1_8 ?h3_1_8
                case h0_1_8 => rfl
                case h1_1_8 => exact e82
                case h2_1_8 => exact e86
                case h3_1_8 => exact (HNe.out _ _ u)
              · intro A u hu hpu hsz hout hdeps
                have e87 : A.eval (.tmp 87) = (.bool false) := by have h := depL hdeps 8 (by kernel_rfl) 87 (by kernel_rfl); exact h
                refine ifw_none rfl ?_
                with_reducible refine shown_q (Value.bool false) ?qq_1_9 (fun _ _ => ?qr_1_9)
                case qr_1_9 => exact (rfl : (Value.bool false) = (Value.bool false))
                with_reducible refine quietAt_mv (.tmp 87) (Value.bool false) ?h0_1_9 ?h1_1_9
                case h0_1_9 => rfl
                case h1_1_9 => exact e87
              · intro A u hu hpu hsz hout hdeps
                have e88 : A.eval (.tmp 88) = (.bool false) := by have h := depL hdeps 9 (by kernel_rfl) 88 (by kernel_rfl); exact h
                have e8 : A.eval (.tmp 8) = (.int .i64 (k : Nat)) := (hout 8 (by kernel_rfl)).trans rfl
                refine ifw_want 9 false 88 rfl rfl e88 ?_
                with_reducible refine shown_q (Value.int .i64 (k : Nat)) ?qq_1_10 (fun _ _ => ?qr_1_10)
                case qr_1_10 => exact (rfl : (Value.int .i64 (k : Nat)) = (Value.int .i64 (k : Nat)))
                with_reducible refine quietAt_mv (.tmp 8) (Value.int .i64 (k : Nat)) ?h0_1_10 ?h1_1_10
                case h0_1_10 => rfl
                case h1_1_10 => exact e8
              · intro A u hu hpu hsz hout hdeps
                have e88 : A.eval (.tmp 88) = (.bool false) := by have h := depL hdeps 9 (by kernel_rfl) 88 (by kernel_rfl); exact h
                have e3 : A.eval (.tmp 3) = (.pointer (some ⟨p3, 0, none⟩)) := (hout 3 (by kernel_rfl)).trans rfl
                have e89 : A.eval (.tmp 89) = (.int .i64 (k : Nat)) := by have h := depL hdeps 10 (by kernel_rfl) 89 (by kernel_rfl); exact h
                refine ifw_want 9 false 88 rfl rfl e88 ?_
                with_reducible refine shown_q (Value.pointer (some ⟨p3, k, none⟩)) ?qq_1_11 (fun _ _ => ?qr_1_11)
                case qr_1_11 => exact (rfl : (Value.pointer (some ⟨p3, k, none⟩)) = (Value.pointer (some ⟨p3, k, none⟩)))
                with_reducible refine quietAt_idx 34 (.tmp 3) (.tmp 89) (Value.pointer (some ⟨p3, 0, none⟩)) (Value.int .i64 (k : Nat)) (Value.pointer (some ⟨p3, k, none⟩)) ?h0_1_11 ?h1_1_11 ?h2_1_11 ?h3_1_11
                case h0_1_11 => rfl
                case h1_1_11 => exact e3
                case h2_1_11 => exact e89
                case h3_1_11 => exact (idx34 p3 k hk2 u)
              · intro A u hu hpu hsz hout hdeps
                have e88 : A.eval (.tmp 88) = (.bool false) := by have h := depL hdeps 9 (by kernel_rfl) 88 (by kernel_rfl); exact h
                have e90 : A.eval (.tmp 90) = (.pointer (some ⟨p3, k, none⟩)) := by have h := depL hdeps 11 (by kernel_rfl) 90 (by kernel_rfl); exact h
                refine ifw_want 9 false 88 rfl rfl e88 ?_
                with_reducible refine shown_q (Value.pointer (some ⟨B k, 0, none⟩)) ?qq_1_12 (fun _ _ => ?qr_1_12)
                case qr_1_12 => exact (rfl : (Value.pointer (some ⟨B k, 0, none⟩)) = (Value.pointer (some ⟨B k, 0, none⟩)))
                with_reducible refine quietAt_ld 32 (.tmp 90) (Value.pointer (some ⟨p3, k, none⟩)) (Value.pointer (some ⟨B k, 0, none⟩)) ?h0_1_12 ?h1_1_12 ?h2_1_12
                case h0_1_12 => rfl
                case h1_1_12 => exact e90
                case h2_1_12 => exact (ld32 p3 k _ u (HcB.out u hu))
              · intro A u hu hpu hsz hout hdeps
                have e88 : A.eval (.tmp 88) = (.bool false) := by have h := depL hdeps 9 (by kernel_rfl) 88 (by kernel_rfl); exact h
                have e91 : A.eval (.tmp 91) = (.pointer (some ⟨B k, 0, none⟩)) := by have h := depL hdeps 12 (by kernel_rfl) 91 (by kernel_rfl); exact h
                refine ifw_want 9 false 88 rfl rfl e88 ?_
                with_reducible refine shown_q (Value.int .u64 (vn : Nat)) ?qq_1_13 (fun _ _ => ?qr_1_13)
                case qr_1_13 => exact (rfl : (Value.int .u64 (vn : Nat)) = (Value.int .u64 (vn : Nat)))
                with_reducible refine quietAt_call 21 Tryd.f21 ?h0_1_13 ?h1_1_13 ?h2_1_13 #[.tmp 91] #[32] ?h3_1_13 (Value.int .u64 (vn : Nat)) #[(Value.pointer (some ⟨B k, 0, none⟩))] ?h4_1_13 ?h5_1_13
                case h0_1_13 => exact Tryd.func21
                case h1_1_13 => kernel_rfl
                case h2_1_13 => kernel_rfl
                case h3_1_13 => rfl
                case h4_1_13 => exact map1 _ _ _ e91
                case h5_1_13 => exact (HLn.out u hu)
              · intro A u hu hpu hsz hout hdeps
                have e88 : A.eval (.tmp 88) = (.bool false) := by have h := depL hdeps 9 (by kernel_rfl) 88 (by kernel_rfl); exact h
                have e8 : A.eval (.tmp 8) = (.int .i64 (k : Nat)) := (hout 8 (by kernel_rfl)).trans rfl
                refine ifw_want 9 false 88 rfl rfl e88 ?_
                with_reducible refine shown_q (Value.int .i64 (k : Nat)) ?qq_1_14 (fun _ _ => ?qr_1_14)
                case qr_1_14 => exact (rfl : (Value.int .i64 (k : Nat)) = (Value.int .i64 (k : Nat)))
                with_reducible refine quietAt_mv (.tmp 8) (Value.int .i64 (k : Nat)) ?h0_1_14 ?h1_1_14
                case h0_1_14 => rfl
                case h1_1_14 => exact e8
              · intro A u hu hpu hsz hout hdeps
                have e88 : A.eval (.tmp 88) = (.bool false) := by have h := depL hdeps 9 (by kernel_rfl) 88 (by kernel_rfl); exact h
                have e4 : A.eval (.tmp 4) = (.pointer (some ⟨p4, 0, none⟩)) := (hout 4 (by kernel_rfl)).trans rfl
                have e93 : A.eval (.tmp 93) = (.int .i64 (k : Nat)) := by have h := depL hdeps 14 (by kernel_rfl) 93 (by kernel_rfl); exact h
                refine ifw_want 9 false 88 rfl rfl e88 ?_
                with_reducible refine shown_q (Value.pointer (some ⟨p4, k, none⟩)) ?qq_1_15 (fun _ _ => ?qr_1_15)
                case qr_1_15 => exact (rfl : (Value.pointer (some ⟨p4, k, none⟩)) = (Value.pointer (some ⟨p4, k, none⟩)))
                with_reducible refine quietAt_idx 35 (.tmp 4) (.tmp 93) (Value.pointer (some ⟨p4, 0, none⟩)) (Value.int .i64 (k : Nat)) (Value.pointer (some ⟨p4, k, none⟩)) ?h0_1_15 ?h1_1_15 ?h2_1_15 ?h3_1_15
                case h0_1_15 => rfl
                case h1_1_15 => exact e4
                case h2_1_15 => exact e93
                case h3_1_15 => exact (idx35 p4 k hk2 u)
              · intro A u hu hpu hsz hout hdeps
                have e88 : A.eval (.tmp 88) = (.bool false) := by have h := depL hdeps 9 (by kernel_rfl) 88 (by kernel_rfl); exact h
                have e94 : A.eval (.tmp 94) = (.pointer (some ⟨p4, k, none⟩)) := by have h := depL hdeps 15 (by kernel_rfl) 94 (by kernel_rfl); exact h
                refine ifw_want 9 false 88 rfl rfl e88 ?_
                with_reducible refine shown_q (Value.slice va vn vc) ?qq_1_16 (fun _ _ => ?qr_1_16)
                case qr_1_16 => exact (rfl : (Value.slice va vn vc) = (Value.slice va vn vc))
                with_reducible refine quietAt_ld 23 (.tmp 94) (Value.pointer (some ⟨p4, k, none⟩)) (Value.slice va vn vc) ?h0_1_16 ?h1_1_16 ?h2_1_16
                case h0_1_16 => rfl
                case h1_1_16 => exact e94
                case h2_1_16 => exact (ld23x p4 k vn vc va u (HcV.out u hu))
              · intro A u hu hpu hsz hout hdeps
                have e88 : A.eval (.tmp 88) = (.bool false) := by have h := depL hdeps 9 (by kernel_rfl) 88 (by kernel_rfl); exact h
                have e95 : A.eval (.tmp 95) = (.slice va vn vc) := by have h := depL hdeps 16 (by kernel_rfl) 95 (by kernel_rfl); exact h
                refine ifw_want 9 false 88 rfl rfl e88 ?_
                with_reducible refine shown_q (Value.int .i64 (vn : Nat)) ?qq_1_17 (fun _ _ => ?qr_1_17)
                case qr_1_17 => exact (rfl : (Value.int .i64 (vn : Nat)) = (Value.int .i64 (vn : Nat)))
                with_reducible refine quietAt_len (.tmp 95) 23 ?h0_1_17 va vn vc ?h1_1_17 ?h2_1_17
                case h0_1_17 => rfl
                case h1_1_17 => exact e95
                case h2_1_17 => kernel_rfl
              · intro A u hu hpu hsz hout hdeps
                have e88 : A.eval (.tmp 88) = (.bool false) := by have h := depL hdeps 9 (by kernel_rfl) 88 (by kernel_rfl); exact h
                have e96 : A.eval (.tmp 96) = (.int .i64 (vn : Nat)) := by have h := depL hdeps 17 (by kernel_rfl) 96 (by kernel_rfl); exact h
                refine ifw_want 9 false 88 rfl rfl e88 ?_
                with_reducible refine shown_q (Value.int .u64 (vn : Nat)) ?qq_1_18 (fun _ _ => ?qr_1_18)
                case qr_1_18 => exact (rfl : (Value.int .u64 (vn : Nat)) = (Value.int .u64 (vn : Nat)))
                with_reducible refine quietAt_cv 3 41 (.tmp 96) (Value.int .i64 (vn : Nat)) (Value.int .u64 (vn : Nat)) ?h0_1_18 ?h1_1_18 ?h2_1_18
                case h0_1_18 => rfl
                case h1_1_18 => exact e96
                case h2_1_18 => exact (HCv.out u)
              · intro A u hu hpu hsz hout hdeps
                have e88 : A.eval (.tmp 88) = (.bool false) := by have h := depL hdeps 9 (by kernel_rfl) 88 (by kernel_rfl); exact h
                have e92 : A.eval (.tmp 92) = (.int .u64 (vn : Nat)) := by have h := depL hdeps 13 (by kernel_rfl) 92 (by kernel_rfl); exact h
                have e97 : A.eval (.tmp 97) = (.int .u64 (vn : Nat)) := by have h := depL hdeps 18 (by kernel_rfl) 97 (by kernel_rfl); exact h
                refine ifw_want 9 false 88 rfl rfl e88 ?_
                with_reducible refine shown_q (Value.bool false) ?qq_1_19 (fun _ _ => ?qr_1_19)
                case qr_1_19 => exact (rfl : (Value.bool false) = (Value.bool false))
                with_reducible refine quietAt_bin .neq 41 (.tmp 92) (.tmp 97) 41 (Value.int .u64 (vn : Nat)) (Value.int .u64 (vn : Nat)) (Value.bool false) ?h0_1_19 ?h1_1_19 ?h2_1_19 ?h3_1_19
                case h0_1_19 => rfl
                case h1_1_19 => exact e92
                case h2_1_19 => exact e97
                case h3_1_19 => exact (neq41 vn _ _ u)
              · intro A u hu hpu hsz hout hdeps
                have e88 : A.eval (.tmp 88) = (.bool false) := by have h := depL hdeps 9 (by kernel_rfl) 88 (by kernel_rfl); exact h
                have e98 : A.eval (.tmp 98) = (.bool false) := by have h := depL hdeps 19 (by kernel_rfl) 98 (by kernel_rfl); exact h
                refine ifw_none rfl ?_
                with_reducible refine shown_q (Value.bool false) ?qq_1_20 (fun _ _ => ?qr_1_20)
                case qr_1_20 => exact (rfl : (Value.bool false) = (Value.bool false))
                with_reducible refine quietAt_pick (.tmp 88) (.const (.bool true)) (.tmp 98) false (Value.bool false) ?h0_1_20 ?h1_1_20 ?h2_1_20
                case h0_1_20 => rfl
                case h1_1_20 => exact e88
                case h2_1_20 => rw [if_neg (by decide)]; exact e98
              · intro A u1 listed hh hall
                have hA := hh.frame
                have HU := hid hh.grown
                obtain ⟨x79, hx79⟩ : ∃ x, A.eval (.tmp 79) = x := ⟨_, rfl⟩
                have f79 : (fun v _ => v = (Value.int .i64 (k : Nat))) x79 u1 := by rw [← hx79]; exact hh.got 0 _ 79 rfl rfl (hall 0 (by decide))
                obtain ⟨x80, hx80⟩ : ∃ x, A.eval (.tmp 80) = x := ⟨_, rfl⟩
                have f80 : (fun v _ => v = (Value.pointer (some ⟨p3, k, none⟩))) x80 u1 := by rw [← hx80]; exact hh.got 1 _ 80 rfl rfl (hall 1 (by decide))
                obtain ⟨x81, hx81⟩ : ∃ x, A.eval (.tmp 81) = x := ⟨_, rfl⟩
                have f81 : (fun v _ => v = (Value.pointer (some ⟨B k, 0, none⟩))) x81 u1 := by rw [← hx81]; exact hh.got 2 _ 81 rfl rfl (hall 2 (by decide))
                obtain ⟨x82, hx82⟩ : ∃ x, A.eval (.tmp 82) = x := ⟨_, rfl⟩
                have f82 : (fun v _ => v = (Value.agg S.toArray)) x82 u1 := by rw [← hx82]; exact hh.got 3 _ 82 rfl rfl (hall 3 (by decide))
                obtain ⟨x83, hx83⟩ : ∃ x, A.eval (.tmp 83) = x := ⟨_, rfl⟩
                have f83 : (fun v _ => v = (Value.int .i64 (k : Nat))) x83 u1 := by rw [← hx83]; exact hh.got 4 _ 83 rfl rfl (hall 4 (by decide))
                obtain ⟨x84, hx84⟩ : ∃ x, A.eval (.tmp 84) = x := ⟨_, rfl⟩
                have f84 : (fun v _ => v = (Value.pointer (some ⟨p4, k, none⟩))) x84 u1 := by rw [← hx84]; exact hh.got 5 _ 84 rfl rfl (hall 5 (by decide))
                obtain ⟨x85, hx85⟩ : ∃ x, A.eval (.tmp 85) = x := ⟨_, rfl⟩
                have f85 : (fun v _ => v = (Value.slice va vn vc)) x85 u1 := by rw [← hx85]; exact hh.got 6 _ 85 rfl rfl (hall 6 (by decide))
                obtain ⟨x86, hx86⟩ : ∃ x, A.eval (.tmp 86) = x := ⟨_, rfl⟩
                have f86 : (fun v _ => v = (Value.agg S.toArray)) x86 u1 := by rw [← hx86]; exact hh.got 7 _ 86 rfl rfl (hall 7 (by decide))
                obtain ⟨x87, hx87⟩ : ∃ x, A.eval (.tmp 87) = x := ⟨_, rfl⟩
                have f87 : (fun v _ => v = (Value.bool false)) x87 u1 := by rw [← hx87]; exact hh.got 8 _ 87 rfl rfl (hall 8 (by decide))
                obtain ⟨x88, hx88⟩ : ∃ x, A.eval (.tmp 88) = x := ⟨_, rfl⟩
                have f88 : (fun v _ => v = (Value.bool false)) x88 u1 := by rw [← hx88]; exact hh.got 9 _ 88 rfl rfl (hall 9 (by decide))
                obtain ⟨x89, hx89⟩ : ∃ x, A.eval (.tmp 89) = x := ⟨_, rfl⟩
                have f89 : (fun v _ => v = (Value.int .i64 (k : Nat))) x89 u1 := by rw [← hx89]; exact hh.got 10 _ 89 rfl rfl (hall 10 (by decide))
                obtain ⟨x90, hx90⟩ : ∃ x, A.eval (.tmp 90) = x := ⟨_, rfl⟩
                have f90 : (fun v _ => v = (Value.pointer (some ⟨p3, k, none⟩))) x90 u1 := by rw [← hx90]; exact hh.got 11 _ 90 rfl rfl (hall 11 (by decide))
                obtain ⟨x91, hx91⟩ : ∃ x, A.eval (.tmp 91) = x := ⟨_, rfl⟩
                have f91 : (fun v _ => v = (Value.pointer (some ⟨B k, 0, none⟩))) x91 u1 := by rw [← hx91]; exact hh.got 12 _ 91 rfl rfl (hall 12 (by decide))
                obtain ⟨x92, hx92⟩ : ∃ x, A.eval (.tmp 92) = x := ⟨_, rfl⟩
                have f92 : (fun v _ => v = (Value.int .u64 (vn : Nat))) x92 u1 := by rw [← hx92]; exact hh.got 13 _ 92 rfl rfl (hall 13 (by decide))
                obtain ⟨x93, hx93⟩ : ∃ x, A.eval (.tmp 93) = x := ⟨_, rfl⟩
                have f93 : (fun v _ => v = (Value.int .i64 (k : Nat))) x93 u1 := by rw [← hx93]; exact hh.got 14 _ 93 rfl rfl (hall 14 (by decide))
                obtain ⟨x94, hx94⟩ : ∃ x, A.eval (.tmp 94) = x := ⟨_, rfl⟩
                have f94 : (fun v _ => v = (Value.pointer (some ⟨p4, k, none⟩))) x94 u1 := by rw [← hx94]; exact hh.got 15 _ 94 rfl rfl (hall 15 (by decide))
                obtain ⟨x95, hx95⟩ : ∃ x, A.eval (.tmp 95) = x := ⟨_, rfl⟩
                have f95 : (fun v _ => v = (Value.slice va vn vc)) x95 u1 := by rw [← hx95]; exact hh.got 16 _ 95 rfl rfl (hall 16 (by decide))
                obtain ⟨x96, hx96⟩ : ∃ x, A.eval (.tmp 96) = x := ⟨_, rfl⟩
                have f96 : (fun v _ => v = (Value.int .i64 (vn : Nat))) x96 u1 := by rw [← hx96]; exact hh.got 17 _ 96 rfl rfl (hall 17 (by decide))
                obtain ⟨x97, hx97⟩ : ∃ x, A.eval (.tmp 97) = x := ⟨_, rfl⟩
                have f97 : (fun v _ => v = (Value.int .u64 (vn : Nat))) x97 u1 := by rw [← hx97]; exact hh.got 18 _ 97 rfl rfl (hall 18 (by decide))
                obtain ⟨x98, hx98⟩ : ∃ x, A.eval (.tmp 98) = x := ⟨_, rfl⟩
                have f98 : (fun v _ => v = (Value.bool false)) x98 u1 := by rw [← hx98]; exact hh.got 19 _ 98 rfl rfl (hall 19 (by decide))
                obtain ⟨x99, hx99⟩ : ∃ x, A.eval (.tmp 99) = x := ⟨_, rfl⟩
                have f99 : (fun v _ => v = (Value.bool false)) x99 u1 := by rw [← hx99]; exact hh.got 20 _ 99 rfl rfl (hall 20 (by decide))
                dsimp only [wrote, List.foldl] at hA
                rw [hx79, hx80, hx81, hx82, hx83, hx84, hx85, hx86, hx87, hx88, hx89, hx90, hx91, hx92, hx93, hx94, hx95, hx96, hx97, hx98, hx99] at hA
                clear hh hall hx79 hx80 hx81 hx82 hx83 hx84 hx85 hx86 hx87 hx88 hx89 hx90 hx91 hx92 hx93 hx94 hx95 hx96 hx97 hx98 hx99
                replace f79 := (f79 : x79 = (.int .i64 (k : Nat)))
                subst f79
                replace f80 := (f80 : x80 = (.pointer (some ⟨p3, k, none⟩)))
                subst f80
                replace f81 := (f81 : x81 = (.pointer (some ⟨B k, 0, none⟩)))
                subst f81
                replace f82 := (f82 : x82 = (.agg S.toArray))
                subst f82
                replace f83 := (f83 : x83 = (.int .i64 (k : Nat)))
                subst f83
                replace f84 := (f84 : x84 = (.pointer (some ⟨p4, k, none⟩)))
                subst f84
                replace f85 := (f85 : x85 = (.slice va vn vc))
                subst f85
                replace f86 := (f86 : x86 = (.agg S.toArray))
                subst f86
                replace f87 := (f87 : x87 = (.bool false))
                subst f87
                replace f88 := (f88 : x88 = (.bool false))
                subst f88
                replace f89 := (f89 : x89 = (.int .i64 (k : Nat)))
                subst f89
                replace f90 := (f90 : x90 = (.pointer (some ⟨p3, k, none⟩)))
                subst f90
                replace f91 := (f91 : x91 = (.pointer (some ⟨B k, 0, none⟩)))
                subst f91
                replace f92 := (f92 : x92 = (.int .u64 (vn : Nat)))
                subst f92
                replace f93 := (f93 : x93 = (.int .i64 (k : Nat)))
                subst f93
                replace f94 := (f94 : x94 = (.pointer (some ⟨p4, k, none⟩)))
                subst f94
                replace f95 := (f95 : x95 = (.slice va vn vc))
                subst f95
                replace f96 := (f96 : x96 = (.int .i64 (vn : Nat)))
                subst f96
                replace f97 := (f97 : x97 = (.int .u64 (vn : Nat)))
                subst f97
                replace f98 := (f98 : x98 = (.bool false))
                subst f98
                replace f99 := (f99 : x99 = (.bool false))
                subst f99
                subst hA
                show wpList _ _ _ [] _ _
                unfold wpList
                simp only [Act.put, List.setIfInBounds_toArray, List.set_cons_succ, List.set_cons_zero]
                have HT := hid HU.out
                clear HU
                have y3 := HcV.out _ HT.out
                have y4 := (HMk.out.vp.keep HT.out).lt
                obtain ⟨VN, hVN⟩ : ∃ x : Int, (vn : Int) = x := ⟨_, rfl⟩
                have v0 : 0 ≤ VN := by omega
                have v1 : VN ≤ 65536 := by have := HVn.out; omega
                have HVN := hid hVN
                go_wp2_with fail
                go_roundw
                case rel => exact ⟨z - VN / 8, i + 1, B, V, L, rfl, by go_num, by omega, hid (by omega), hid (fun j hj => by have h1 := HL.out j hj; omega), hid (HMk.out.keep HT.out), hid (gtrans HGk.out HT.out)⟩
                case measure => simp [intOf]; omega
          · go_wp2_with fail
            go_roundw
            case rel => exact ⟨z, i + 1, B, V, L, rfl, by go_num, by omega, HZ, HL, HMk, HGk⟩
            case measure => simp [intOf]; omega
    · have hge : ¬ (i : Int) < (n : Int) := by omega
      go_wp2_with fail
      obtain ⟨wx, hwx⟩ : ∃ x, x = wr := ⟨_, rfl⟩
      subst hwx
      go_loopw [10] (fun kv wq => ∃ k : Nat, k ≤ 2 ∧ kv = .int .i64 k ∧ Hid (wx.grownBy wq none)) (fun kv _ => 2 - (intOf kv).toNat)
      case atStart => exact ⟨0, by omega, rfl, hid (grefl _ _)⟩
      case round =>
        obtain ⟨k, hk, rfl, HQ⟩ := hrel
        by_cases hk2 : k < 2
        · have hk2' : (k : Int) < 2 := by omega
          obtain ⟨wk, hwk⟩ : ∃ x, x = wr := ⟨_, rfl⟩
          subst hwk
          have HMk := hid (HM.out.keep HQ.out)
          have HGk := hid (gtrans HG.out HQ.out)
          obtain ⟨va, _, _, vc, hve, -⟩ := (HMk.out.os k hk2).rd
          obtain ⟨X, HX⟩ : ∃ x, Hid (L k = x) := ⟨_, hid rfl⟩
          obtain ⟨vn, hvn⟩ : ∃ x, (L k).length = x := ⟨_, rfl⟩
          rw [hvn] at hve
          have HVe := hid hve
          have HXn : Hid (X.length = vn) := hid (by rw [← HX.out]; exact hvn)
          have HVn : Hid (vn ≤ 65536) := hid (by have := (HL.out k hk2).2; omega)
          clear hve hvn
          obtain ⟨S, HSe⟩ : ∃ x, Hid (Lib.byteCells (sumL X) = x) := ⟨_, hid rfl⟩
          have HcB : Hid (∀ u, wk.grownBy u none → u.cell? ⟨p3, k, none⟩ = some (.pointer (some ⟨B k, 0, none⟩))) := fun u hu => by rw [(HMk.out.hp.keep hu).cell, cells2v_get _ k hk2]
          have HcV : Hid (∀ u, wk.grownBy u none → u.cell? ⟨p4, k, none⟩ = some (.slice va vn vc)) := fun u hu => by rw [(HMk.out.vp.keep hu).cell, cells2v_get _ k hk2, HVe.out]
          have HSm : Hid (∀ u, wk.grownBy u none → Calls Tryd.prog 20 #[.pointer (some ⟨B k, 0, none⟩)] u fun e w' => e = .returned (.agg S.toArray) ∧ u.grownBy w' none) := fun u hu => by
            have := hsum_any u (B k) (L k) ((HMk.out.hs k hk2).1.keep hu) (HGl.out u (gtrans HGk.out hu)) (by rw [HX.out, HXn.out]; have := HVn.out; omega)
            rw [HX.out, HSe.out] at this
            exact this
          have HLn : Hid (∀ u, wk.grownBy u none → Calls Tryd.prog 21 #[.pointer (some ⟨B k, 0, none⟩)] u fun e w' => e = .returned (.int .u64 (vn : Nat)) ∧ u.grownBy w' none) := fun u hu => by
            have h := ((HMk.out.hs k hk2).1.keep hu).taken
            rw [HX.out, HXn.out] at h
            exact (len_any vn (B k) u h).mono fun e w' ⟨he, hw⟩ => ⟨he, by rw [hw]; exact grefl _ _⟩
          have HDs : Hid (∀ u, wk.grownBy u none → Calls Tryd.prog 9 #[.slice va vn vc] u fun e w' => e = .returned (.agg S.toArray) ∧ u.grownBy w' none) := fun u hu => by
            have h := ((HMk.out.os k hk2).keep hu).rd
            rw [HVe.out, HX.out] at h
            rw [← HSe.out]
            exact sumR_any u _ _ X h (by rw [HXn.out]; have := HVn.out; omega)
          have HNe : Hid (∀ (x y : Operand) (u : World), (do eqGuard .neq 24 x y (.agg S.toArray) (.agg S.toArray); binOp .neq 24 (.agg S.toArray) (.agg S.toArray) : Sem Value).run Tryd.prog u = .ok (.bool false) u) := fun x y u => by
            rw [← HSe.out, neqG_32]
            exact neq_self _ (sumL_length _) u
          have HCv : Hid (∀ u : World, (convert 3 41 (.int .i64 (vn : Nat))).run Tryd.prog u = .ok (.int .u64 (vn : Nat)) u) := fun u => cv41 vn HVn.out u
          go_upto_region 32 with fail
          refine wp_region_list (by kernel_rfl) [fun v _ => v = (Value.int .i64 (k : Nat)), fun v _ => v = (Value.pointer (some ⟨p3, k, none⟩)), fun v _ => v = (Value.pointer (some ⟨B k, 0, none⟩)), fun v _ => v = (Value.bool false), fun v _ => v = (Value.bool false), fun v _ => v = (Value.int .i64 (k : Nat)), fun v _ => v = (Value.pointer (some ⟨p3, k, none⟩)), fun v _ => v = (Value.pointer (some ⟨B k, 0, none⟩)), fun v _ => v = (Value.agg S.toArray), fun v _ => v = (Value.int .i64 (k : Nat)), fun v _ => v = (Value.pointer (some ⟨p4, k, none⟩)), fun v _ => v = (Value.slice va vn vc), fun v _ => v = (Value.agg S.toArray), fun v _ => v = (Value.bool false), fun v _ => v = (Value.bool false), fun v _ => v = (Value.bool false), fun v _ => v = (Value.int .i64 (k : Nat)), fun v _ => v = (Value.pointer (some ⟨p3, k, none⟩)), fun v _ => v = (Value.pointer (some ⟨B k, 0, none⟩)), fun v _ => v = (Value.int .u64 (vn : Nat)), fun v _ => v = (Value.int .i64 (k : Nat)), fun v _ => v = (Value.pointer (some ⟨p4, k, none⟩)), fun v _ => v = (Value.slice va vn vc), fun v _ => v = (Value.int .i64 (vn : Nat)), fun v _ => v = (Value.int .u64 (vn : Nat)), fun v _ => v = (Value.bool false), fun v _ => v = (Value.bool false)] (none) (fun _ => none) 27 (by kernel_rfl) (by kernel_rfl) (by kernel_rfl) (by kernel_rfl) (by decide) noRow_one (fun _ => .inl rfl) ⟨fun i v u u' hki h hg => h, fun i v u u' hki h hg => h, fun i v u u' hki h hg => h, fun i v u u' hki h hg => h, fun i v u u' hki h hg => h, fun i v u u' hki h hg => h, fun i v u u' hki h hg => h, fun i v u u' hki h hg => h, fun i v u u' hki h hg => h, fun i v u u' hki h hg => h, fun i v u u' hki h hg => h, fun i v u u' hki h hg => h, fun i v u u' hki h hg => h, fun i v u u' hki h hg => h, fun i v u u' hki h hg => h, fun i v u u' hki h hg => h, fun i v u u' hki h hg => h, fun i v u u' hki h hg => h, fun i v u u' hki h hg => h, fun i v u u' hki h hg => h, fun i v u u' hki h hg => h, fun i v u u' hki h hg => h, fun i v u u' hki h hg => h, fun i v u u' hki h hg => h, fun i v u u' hki h hg => h, fun i v u u' hki h hg => h, fun i v u u' hki h hg => h, trivial⟩ ⟨?_, ?_, ?_, ?_, ?_, ?_, ?_, ?_, ?_, ?_, ?_, ?_, ?_, ?_, ?_, ?_, ?_, ?_, ?_, ?_, ?_, ?_, ?_, ?_, ?_, ?_, ?_, trivial⟩ ?_
          · intro A u hu hpu hsz hout hdeps
            have e10 : A.eval (.tmp 10) = (.int .i64 (k : Nat)) := (hout 10 (by kernel_rfl)).trans rfl
            refine ifw_none rfl ?_
            with_reducible refine shown_q (Value.int .i64 (k : Nat)) ?qq_2_0 (fun _ _ => ?qr_2_0)
            case qr_2_0 => exact (rfl : (Value.int .i64 (k : Nat)) = (Value.int .i64 (k : Nat)))
            with_reducible refine quietAt_mv (.tmp 10) (Value.int .i64 (k : Nat)) ?h0_2_0 ?h1_2_0
            case h0_2_0 => rfl
            case h1_2_0 => exact e10
          · intro A u hu hpu hsz hout hdeps
            have e3 : A.eval (.tmp 3) = (.pointer (some ⟨p3, 0, none⟩)) := (hout 3 (by kernel_rfl)).trans rfl
            have e111 : A.eval (.tmp 111) = (.int .i64 (k : Nat)) := by have h := depL hdeps 0 (by kernel_rfl) 111 (by kernel_rfl); exact h
            refine ifw_none rfl ?_
            with_reducible refine shown_q (Value.pointer (some ⟨p3, k, none⟩)) ?qq_2_1 (fun _ _ => ?qr_2_1)
            case qr_2_1 => exact (rfl : (Value.pointer (some ⟨p3, k, none⟩)) = (Value.pointer (some ⟨p3, k, none⟩)))
            with_reducible refine quietAt_idx 34 (.tmp 3) (.tmp 111) (Value.pointer (some ⟨p3, 0, none⟩)) (Value.int .i64 (k : Nat)) (Value.pointer (some ⟨p3, k, none⟩)) ?h0_2_1 ?h1_2_1 ?h2_2_1 ?h3_2_1
            case h0_2_1 => rfl
            case h1_2_1 => exact e3
            case h2_2_1 => exact e111
            case h3_2_1 => exact (idx34 p3 k hk2 u)
          · intro A u hu hpu hsz hout hdeps
            have e112 : A.eval (.tmp 112) = (.pointer (some ⟨p3, k, none⟩)) := by have h := depL hdeps 1 (by kernel_rfl) 112 (by kernel_rfl); exact h
            refine ifw_none rfl ?_
            with_reducible refine shown_q (Value.pointer (some ⟨B k, 0, none⟩)) ?qq_2_2 (fun _ _ => ?qr_2_2)
            case qr_2_2 => exact (rfl : (Value.pointer (some ⟨B k, 0, none⟩)) = (Value.pointer (some ⟨B k, 0, none⟩)))
            with_reducible refine quietAt_ld 32 (.tmp 112) (Value.pointer (some ⟨p3, k, none⟩)) (Value.pointer (some ⟨B k, 0, none⟩)) ?h0_2_2 ?h1_2_2 ?h2_2_2
            case h0_2_2 => rfl
            case h1_2_2 => exact e112
            case h2_2_2 => exact (ld32 p3 k _ u (HcB.out u hu))
          · intro A u hu hpu hsz hout hdeps
            have e113 : A.eval (.tmp 113) = (.pointer (some ⟨B k, 0, none⟩)) := by have h := depL hdeps 2 (by kernel_rfl) 113 (by kernel_rfl); exact h
            refine ifw_none rfl ?_
            with_reducible refine shown_q (Value.bool false) ?qq_2_3 (fun _ _ => ?qr_2_3)
            case qr_2_3 => exact (rfl : (Value.bool false) = (Value.bool false))
            with_reducible refine quietAt_bin .eql 32 (.tmp 113) (.const (.pointer none)) 32 (Value.pointer (some ⟨B k, 0, none⟩)) (Value.pointer none) (Value.bool false) ?h0_2_3 ?h1_2_3 ?h2_2_3 ?h3_2_3
            case h0_2_3 => rfl
            case h1_2_3 => exact e113
            case h2_2_3 => exact rfl
            case h3_2_3 => exact (eqn32 (B k) _ _ u)
          · intro A u hu hpu hsz hout hdeps
            have e114 : A.eval (.tmp 114) = (.bool false) := by have h := depL hdeps 3 (by kernel_rfl) 114 (by kernel_rfl); exact h
            refine ifw_none rfl ?_
            with_reducible refine shown_q (Value.bool false) ?qq_2_4 (fun _ _ => ?qr_2_4)
            case qr_2_4 => exact (rfl : (Value.bool false) = (Value.bool false))
            with_reducible refine quietAt_mv (.tmp 114) (Value.bool false) ?h0_2_4 ?h1_2_4
            case h0_2_4 => rfl
            case h1_2_4 => exact e114
          · intro A u hu hpu hsz hout hdeps
            have e115 : A.eval (.tmp 115) = (.bool false) := by have h := depL hdeps 4 (by kernel_rfl) 115 (by kernel_rfl); exact h
            have e10 : A.eval (.tmp 10) = (.int .i64 (k : Nat)) := (hout 10 (by kernel_rfl)).trans rfl
            refine ifw_want 4 false 115 rfl rfl e115 ?_
            with_reducible refine shown_q (Value.int .i64 (k : Nat)) ?qq_2_5 (fun _ _ => ?qr_2_5)
            case qr_2_5 => exact (rfl : (Value.int .i64 (k : Nat)) = (Value.int .i64 (k : Nat)))
            with_reducible refine quietAt_mv (.tmp 10) (Value.int .i64 (k : Nat)) ?h0_2_5 ?h1_2_5
            case h0_2_5 => rfl
            case h1_2_5 => exact e10
          · intro A u hu hpu hsz hout hdeps
            have e115 : A.eval (.tmp 115) = (.bool false) := by have h := depL hdeps 4 (by kernel_rfl) 115 (by kernel_rfl); exact h
            have e3 : A.eval (.tmp 3) = (.pointer (some ⟨p3, 0, none⟩)) := (hout 3 (by kernel_rfl)).trans rfl
            have e116 : A.eval (.tmp 116) = (.int .i64 (k : Nat)) := by have h := depL hdeps 5 (by kernel_rfl) 116 (by kernel_rfl); exact h
            refine ifw_want 4 false 115 rfl rfl e115 ?_
            with_reducible refine shown_q (Value.pointer (some ⟨p3, k, none⟩)) ?qq_2_6 (fun _ _ => ?qr_2_6)
            case qr_2_6 => exact (rfl : (Value.pointer (some ⟨p3, k, none⟩)) = (Value.pointer (some ⟨p3, k, none⟩)))
            with_reducible refine quietAt_idx 34 (.tmp 3) (.tmp 116) (Value.pointer (some ⟨p3, 0, none⟩)) (Value.int .i64 (k : Nat)) (Value.pointer (some ⟨p3, k, none⟩)) ?h0_2_6 ?h1_2_6 ?h2_2_6 ?h3_2_6
            case h0_2_6 => rfl
            case h1_2_6 => exact e3
            case h2_2_6 => exact e116
            case h3_2_6 => exact (idx34 p3 k hk2 u)
          · intro A u hu hpu hsz hout hdeps
            have e115 : A.eval (.tmp 115) = (.bool false) := by have h := depL hdeps 4 (by kernel_rfl) 115 (by kernel_rfl); exact h
            have e117 : A.eval (.tmp 117) = (.pointer (some ⟨p3, k, none⟩)) := by have h := depL hdeps 6 (by kernel_rfl) 117 (by kernel_rfl); exact h
            refine ifw_want 4 false 115 rfl rfl e115 ?_
            with_reducible refine shown_q (Value.pointer (some ⟨B k, 0, none⟩)) ?qq_2_7 (fun _ _ => ?qr_2_7)
            case qr_2_7 => exact (rfl : (Value.pointer (some ⟨B k, 0, none⟩)) = (Value.pointer (some ⟨B k, 0, none⟩)))
            with_reducible refine quietAt_ld 32 (.tmp 117) (Value.pointer (some ⟨p3, k, none⟩)) (Value.pointer (some ⟨B k, 0, none⟩)) ?h0_2_7 ?h1_2_7 ?h2_2_7
            case h0_2_7 => rfl
            case h1_2_7 => exact e117
            case h2_2_7 => exact (ld32 p3 k _ u (HcB.out u hu))
          · intro A u hu hpu hsz hout hdeps
            have e115 : A.eval (.tmp 115) = (.bool false) := by have h := depL hdeps 4 (by kernel_rfl) 115 (by kernel_rfl); exact h
            have e118 : A.eval (.tmp 118) = (.pointer (some ⟨B k, 0, none⟩)) := by have h := depL hdeps 7 (by kernel_rfl) 118 (by kernel_rfl); exact h
            refine ifw_want 4 false 115 rfl rfl e115 ?_
            with_reducible refine shown_q (Value.agg S.toArray) ?qq_2_8 (fun _ _ => ?qr_2_8)
            case qr_2_8 => exact (rfl : (Value.agg S.toArray) = (Value.agg S.toArray))
            with_reducible refine quietAt_call 20 Tryd.f20 ?h0_2_8 ?h1_2_8 ?h2_2_8 #[.tmp 118] #[32] ?h3_2_8 (Value.agg S.toArray) #[(Value.pointer (some ⟨B k, 0, none⟩))] ?h4_2_8 ?h5_2_8
            case h0_2_8 => exact Tryd.func20
            case h1_2_8 => kernel_rfl
            case h2_2_8 => kernel_rfl
            case h3_2_8 => rfl
            case h4_2_8 => exact map1 _ _ _ e118
            case h5_2_8 => exact (HSm.out u hu)
          · intro A u hu hpu hsz hout hdeps
            have e115 : A.eval (.tmp 115) = (.bool false) := by have h := depL hdeps 4 (by kernel_rfl) 115 (by kernel_rfl); exact h
            have e10 : A.eval (.tmp 10) = (.int .i64 (k : Nat)) := (hout 10 (by kernel_rfl)).trans rfl
            refine ifw_want 4 false 115 rfl rfl e115 ?_
            with_reducible refine shown_q (Value.int .i64 (k : Nat)) ?qq_2_9 (fun _ _ => ?qr_2_9)
            case qr_2_9 => exact (rfl : (Value.int .i64 (k : Nat)) = (Value.int .i64 (k : Nat)))
            with_reducible refine quietAt_mv (.tmp 10) (Value.int .i64 (k : Nat)) ?h0_2_9 ?h1_2_9
            case h0_2_9 => rfl
            case h1_2_9 => exact e10
          · intro A u hu hpu hsz hout hdeps
            have e115 : A.eval (.tmp 115) = (.bool false) := by have h := depL hdeps 4 (by kernel_rfl) 115 (by kernel_rfl); exact h
            have e4 : A.eval (.tmp 4) = (.pointer (some ⟨p4, 0, none⟩)) := (hout 4 (by kernel_rfl)).trans rfl
            have e120 : A.eval (.tmp 120) = (.int .i64 (k : Nat)) := by have h := depL hdeps 9 (by kernel_rfl) 120 (by kernel_rfl); exact h
            refine ifw_want 4 false 115 rfl rfl e115 ?_
            with_reducible refine shown_q (Value.pointer (some ⟨p4, k, none⟩)) ?qq_2_10 (fun _ _ => ?qr_2_10)
            case qr_2_10 => exact (rfl : (Value.pointer (some ⟨p4, k, none⟩)) = (Value.pointer (some ⟨p4, k, none⟩)))
            with_reducible refine quietAt_idx 35 (.tmp 4) (.tmp 120) (Value.pointer (some ⟨p4, 0, none⟩)) (Value.int .i64 (k : Nat)) (Value.pointer (some ⟨p4, k, none⟩)) ?h0_2_10 ?h1_2_10 ?h2_2_10 ?h3_2_10
            case h0_2_10 => rfl
            case h1_2_10 => exact e4
            case h2_2_10 => exact e120
            case h3_2_10 => exact (idx35 p4 k hk2 u)
          · intro A u hu hpu hsz hout hdeps
            have e115 : A.eval (.tmp 115) = (.bool false) := by have h := depL hdeps 4 (by kernel_rfl) 115 (by kernel_rfl); exact h
            have e121 : A.eval (.tmp 121) = (.pointer (some ⟨p4, k, none⟩)) := by have h := depL hdeps 10 (by kernel_rfl) 121 (by kernel_rfl); exact h
            refine ifw_want 4 false 115 rfl rfl e115 ?_
            with_reducible refine shown_q (Value.slice va vn vc) ?qq_2_11 (fun _ _ => ?qr_2_11)
            case qr_2_11 => exact (rfl : (Value.slice va vn vc) = (Value.slice va vn vc))
            with_reducible refine quietAt_ld 23 (.tmp 121) (Value.pointer (some ⟨p4, k, none⟩)) (Value.slice va vn vc) ?h0_2_11 ?h1_2_11 ?h2_2_11
            case h0_2_11 => rfl
            case h1_2_11 => exact e121
            case h2_2_11 => exact (ld23x p4 k vn vc va u (HcV.out u hu))
          · intro A u hu hpu hsz hout hdeps
            have e115 : A.eval (.tmp 115) = (.bool false) := by have h := depL hdeps 4 (by kernel_rfl) 115 (by kernel_rfl); exact h
            have e122 : A.eval (.tmp 122) = (.slice va vn vc) := by have h := depL hdeps 11 (by kernel_rfl) 122 (by kernel_rfl); exact h
            refine ifw_want 4 false 115 rfl rfl e115 ?_
            with_reducible refine shown_q (Value.agg S.toArray) ?qq_2_12 (fun _ _ => ?qr_2_12)
            case qr_2_12 => exact (rfl : (Value.agg S.toArray) = (Value.agg S.toArray))
            with_reducible refine quietAt_call 9 Tryd.f9 ?h0_2_12 ?h1_2_12 ?h2_2_12 #[.tmp 122] #[23] ?h3_2_12 (Value.agg S.toArray) #[(Value.slice va vn vc)] ?h4_2_12 ?h5_2_12
            case h0_2_12 => exact Tryd.func9
            case h1_2_12 => kernel_rfl
            case h2_2_12 => kernel_rfl
            case h3_2_12 => rfl
            case h4_2_12 => exact map1 _ _ _ e122
            case h5_2_12 => exact (HDs.out u hu)
          · intro A u hu hpu hsz hout hdeps
            have e115 : A.eval (.tmp 115) = (.bool false) := by have h := depL hdeps 4 (by kernel_rfl) 115 (by kernel_rfl); exact h
            have e119 : A.eval (.tmp 119) = (.agg S.toArray) := by have h := depL hdeps 8 (by kernel_rfl) 119 (by kernel_rfl); exact h
            have e123 : A.eval (.tmp 123) = (.agg S.toArray) := by have h := depL hdeps 12 (by kernel_rfl) 123 (by kernel_rfl); exact h
            refine ifw_want 4 false 115 rfl rfl e115 ?_
            with_reducible refine shown_q (Value.bool false) ?qq_2_13 (fun _ _ => ?qr_2_13)
            case qr_2_13 => exact (rfl : (Value.bool false) = (Value.bool false))
            with_reducible refine quietAt_bin .neq 24 (.tmp 119) (.tmp 123) 24 (Value.agg S.toArray) (Value.agg S.toArray) (Value.bool false) ?h0_2_13 ?h1_2_13 ?h2_2_13 ?h3_2_13
            case h0_2_13 => rfl
            case h1_2_13 => exact e119
            case h2_2_13 => exact e123
            case h3_2_13 => exact (HNe.out _ _ u)
          · intro A u hu hpu hsz hout hdeps
            have e115 : A.eval (.tmp 115) = (.bool false) := by have h := depL hdeps 4 (by kernel_rfl) 115 (by kernel_rfl); exact h
            have e124 : A.eval (.tmp 124) = (.bool false) := by have h := depL hdeps 13 (by kernel_rfl) 124 (by kernel_rfl); exact h
            refine ifw_none rfl ?_
            with_reducible refine shown_q (Value.bool false) ?qq_2_14 (fun _ _ => ?qr_2_14)
            case qr_2_14 => exact (rfl : (Value.bool false) = (Value.bool false))
            with_reducible refine quietAt_pick (.tmp 115) (.const (.bool true)) (.tmp 124) false (Value.bool false) ?h0_2_14 ?h1_2_14 ?h2_2_14
            case h0_2_14 => rfl
            case h1_2_14 => exact e115
            case h2_2_14 => rw [if_neg (by decide)]; exact e124
          · intro A u hu hpu hsz hout hdeps
            have e125 : A.eval (.tmp 125) = (.bool false) := by have h := depL hdeps 14 (by kernel_rfl) 125 (by kernel_rfl); exact h
            refine ifw_none rfl ?_
            with_reducible refine shown_q (Value.bool false) ?qq_2_15 (fun _ _ => ?qr_2_15)
            case qr_2_15 => exact (rfl : (Value.bool false) = (Value.bool false))
            with_reducible refine quietAt_mv (.tmp 125) (Value.bool false) ?h0_2_15 ?h1_2_15
            case h0_2_15 => rfl
            case h1_2_15 => exact e125
          · intro A u hu hpu hsz hout hdeps
            have e126 : A.eval (.tmp 126) = (.bool false) := by have h := depL hdeps 15 (by kernel_rfl) 126 (by kernel_rfl); exact h
            have e10 : A.eval (.tmp 10) = (.int .i64 (k : Nat)) := (hout 10 (by kernel_rfl)).trans rfl
            refine ifw_want 15 false 126 rfl rfl e126 ?_
            with_reducible refine shown_q (Value.int .i64 (k : Nat)) ?qq_2_16 (fun _ _ => ?qr_2_16)
            case qr_2_16 => exact (rfl : (Value.int .i64 (k : Nat)) = (Value.int .i64 (k : Nat)))
            with_reducible refine quietAt_mv (.tmp 10) (Value.int .i64 (k : Nat)) ?h0_2_16 ?h1_2_16
            case h0_2_16 => rfl
            case h1_2_16 => exact e10
          · intro A u hu hpu hsz hout hdeps
            have e126 : A.eval (.tmp 126) = (.bool false) := by have h := depL hdeps 15 (by kernel_rfl) 126 (by kernel_rfl); exact h
            have e3 : A.eval (.tmp 3) = (.pointer (some ⟨p3, 0, none⟩)) := (hout 3 (by kernel_rfl)).trans rfl
            have e127 : A.eval (.tmp 127) = (.int .i64 (k : Nat)) := by have h := depL hdeps 16 (by kernel_rfl) 127 (by kernel_rfl); exact h
            refine ifw_want 15 false 126 rfl rfl e126 ?_
            with_reducible refine shown_q (Value.pointer (some ⟨p3, k, none⟩)) ?qq_2_17 (fun _ _ => ?qr_2_17)
            case qr_2_17 => exact (rfl : (Value.pointer (some ⟨p3, k, none⟩)) = (Value.pointer (some ⟨p3, k, none⟩)))
            with_reducible refine quietAt_idx 34 (.tmp 3) (.tmp 127) (Value.pointer (some ⟨p3, 0, none⟩)) (Value.int .i64 (k : Nat)) (Value.pointer (some ⟨p3, k, none⟩)) ?h0_2_17 ?h1_2_17 ?h2_2_17 ?h3_2_17
            case h0_2_17 => rfl
            case h1_2_17 => exact e3
            case h2_2_17 => exact e127
            case h3_2_17 => exact (idx34 p3 k hk2 u)
          · intro A u hu hpu hsz hout hdeps
            have e126 : A.eval (.tmp 126) = (.bool false) := by have h := depL hdeps 15 (by kernel_rfl) 126 (by kernel_rfl); exact h
            have e128 : A.eval (.tmp 128) = (.pointer (some ⟨p3, k, none⟩)) := by have h := depL hdeps 17 (by kernel_rfl) 128 (by kernel_rfl); exact h
            refine ifw_want 15 false 126 rfl rfl e126 ?_
            with_reducible refine shown_q (Value.pointer (some ⟨B k, 0, none⟩)) ?qq_2_18 (fun _ _ => ?qr_2_18)
            case qr_2_18 => exact (rfl : (Value.pointer (some ⟨B k, 0, none⟩)) = (Value.pointer (some ⟨B k, 0, none⟩)))
            with_reducible refine quietAt_ld 32 (.tmp 128) (Value.pointer (some ⟨p3, k, none⟩)) (Value.pointer (some ⟨B k, 0, none⟩)) ?h0_2_18 ?h1_2_18 ?h2_2_18
            case h0_2_18 => rfl
            case h1_2_18 => exact e128
            case h2_2_18 => exact (ld32 p3 k _ u (HcB.out u hu))
          · intro A u hu hpu hsz hout hdeps
            have e126 : A.eval (.tmp 126) = (.bool false) := by have h := depL hdeps 15 (by kernel_rfl) 126 (by kernel_rfl); exact h
            have e129 : A.eval (.tmp 129) = (.pointer (some ⟨B k, 0, none⟩)) := by have h := depL hdeps 18 (by kernel_rfl) 129 (by kernel_rfl); exact h
            refine ifw_want 15 false 126 rfl rfl e126 ?_
            with_reducible refine shown_q (Value.int .u64 (vn : Nat)) ?qq_2_19 (fun _ _ => ?qr_2_19)
            case qr_2_19 => exact (rfl : (Value.int .u64 (vn : Nat)) = (Value.int .u64 (vn : Nat)))
            with_reducible refine quietAt_call 21 Tryd.f21 ?h0_2_19 ?h1_2_19 ?h2_2_19 #[.tmp 129] #[32] ?h3_2_19 (Value.int .u64 (vn : Nat)) #[(Value.pointer (some ⟨B k, 0, none⟩))] ?h4_2_19 ?h5_2_19
            case h0_2_19 => exact Tryd.func21
            case h1_2_19 => kernel_rfl
            case h2_2_19 => kernel_rfl
            case h3_2_19 => rfl
            case h4_2_19 => exact map1 _ _ _ e129
            case h5_2_19 => exact (HLn.out u hu)
          · intro A u hu hpu hsz hout hdeps
            have e126 : A.eval (.tmp 126) = (.bool false) := by have h := depL hdeps 15 (by kernel_rfl) 126 (by kernel_rfl); exact h
            have e10 : A.eval (.tmp 10) = (.int .i64 (k : Nat)) := (hout 10 (by kernel_rfl)).trans rfl
            refine ifw_want 15 false 126 rfl rfl e126 ?_
            with_reducible refine shown_q (Value.int .i64 (k : Nat)) ?qq_2_20 (fun _ _ => ?qr_2_20)
            case qr_2_20 => exact (rfl : (Value.int .i64 (k : Nat)) = (Value.int .i64 (k : Nat)))
            with_reducible refine quietAt_mv (.tmp 10) (Value.int .i64 (k : Nat)) ?h0_2_20 ?h1_2_20
            case h0_2_20 => rfl
            case h1_2_20 => exact e10
          · intro A u hu hpu hsz hout hdeps
            have e126 : A.eval (.tmp 126) = (.bool false) := by have h := depL hdeps 15 (by kernel_rfl) 126 (by kernel_rfl); exact h
            have e4 : A.eval (.tmp 4) = (.pointer (some ⟨p4, 0, none⟩)) := (hout 4 (by kernel_rfl)).trans rfl
            have e131 : A.eval (.tmp 131) = (.int .i64 (k : Nat)) := by have h := depL hdeps 20 (by kernel_rfl) 131 (by kernel_rfl); exact h
            refine ifw_want 15 false 126 rfl rfl e126 ?_
            with_reducible refine shown_q (Value.pointer (some ⟨p4, k, none⟩)) ?qq_2_21 (fun _ _ => ?qr_2_21)
            case qr_2_21 => exact (rfl : (Value.pointer (some ⟨p4, k, none⟩)) = (Value.pointer (some ⟨p4, k, none⟩)))
            with_reducible refine quietAt_idx 35 (.tmp 4) (.tmp 131) (Value.pointer (some ⟨p4, 0, none⟩)) (Value.int .i64 (k : Nat)) (Value.pointer (some ⟨p4, k, none⟩)) ?h0_2_21 ?h1_2_21 ?h2_2_21 ?h3_2_21
            case h0_2_21 => rfl
            case h1_2_21 => exact e4
            case h2_2_21 => exact e131
            case h3_2_21 => exact (idx35 p4 k hk2 u)
          · intro A u hu hpu hsz hout hdeps
            have e126 : A.eval (.tmp 126) = (.bool false) := by have h := depL hdeps 15 (by kernel_rfl) 126 (by kernel_rfl); exact h
            have e132 : A.eval (.tmp 132) = (.pointer (some ⟨p4, k, none⟩)) := by have h := depL hdeps 21 (by kernel_rfl) 132 (by kernel_rfl); exact h
            refine ifw_want 15 false 126 rfl rfl e126 ?_
            with_reducible refine shown_q (Value.slice va vn vc) ?qq_2_22 (fun _ _ => ?qr_2_22)
            case qr_2_22 => exact (rfl : (Value.slice va vn vc) = (Value.slice va vn vc))
            with_reducible refine quietAt_ld 23 (.tmp 132) (Value.pointer (some ⟨p4, k, none⟩)) (Value.slice va vn vc) ?h0_2_22 ?h1_2_22 ?h2_2_22
            case h0_2_22 => rfl
            case h1_2_22 => exact e132
            case h2_2_22 => exact (ld23x p4 k vn vc va u (HcV.out u hu))
          · intro A u hu hpu hsz hout hdeps
            have e126 : A.eval (.tmp 126) = (.bool false) := by have h := depL hdeps 15 (by kernel_rfl) 126 (by kernel_rfl); exact h
            have e133 : A.eval (.tmp 133) = (.slice va vn vc) := by have h := depL hdeps 22 (by kernel_rfl) 133 (by kernel_rfl); exact h
            refine ifw_want 15 false 126 rfl rfl e126 ?_
            with_reducible refine shown_q (Value.int .i64 (vn : Nat)) ?qq_2_23 (fun _ _ => ?qr_2_23)
            case qr_2_23 => exact (rfl : (Value.int .i64 (vn : Nat)) = (Value.int .i64 (vn : Nat)))
            with_reducible refine quietAt_len (.tmp 133) 23 ?h0_2_23 va vn vc ?h1_2_23 ?h2_2_23
            case h0_2_23 => rfl
            case h1_2_23 => exact e133
            case h2_2_23 => kernel_rfl
          · intro A u hu hpu hsz hout hdeps
            have e126 : A.eval (.tmp 126) = (.bool false) := by have h := depL hdeps 15 (by kernel_rfl) 126 (by kernel_rfl); exact h
            have e134 : A.eval (.tmp 134) = (.int .i64 (vn : Nat)) := by have h := depL hdeps 23 (by kernel_rfl) 134 (by kernel_rfl); exact h
            refine ifw_want 15 false 126 rfl rfl e126 ?_
            with_reducible refine shown_q (Value.int .u64 (vn : Nat)) ?qq_2_24 (fun _ _ => ?qr_2_24)
            case qr_2_24 => exact (rfl : (Value.int .u64 (vn : Nat)) = (Value.int .u64 (vn : Nat)))
            with_reducible refine quietAt_cv 3 41 (.tmp 134) (Value.int .i64 (vn : Nat)) (Value.int .u64 (vn : Nat)) ?h0_2_24 ?h1_2_24 ?h2_2_24
            case h0_2_24 => rfl
            case h1_2_24 => exact e134
            case h2_2_24 => exact (HCv.out u)
          · intro A u hu hpu hsz hout hdeps
            have e126 : A.eval (.tmp 126) = (.bool false) := by have h := depL hdeps 15 (by kernel_rfl) 126 (by kernel_rfl); exact h
            have e130 : A.eval (.tmp 130) = (.int .u64 (vn : Nat)) := by have h := depL hdeps 19 (by kernel_rfl) 130 (by kernel_rfl); exact h
            have e135 : A.eval (.tmp 135) = (.int .u64 (vn : Nat)) := by have h := depL hdeps 24 (by kernel_rfl) 135 (by kernel_rfl); exact h
            refine ifw_want 15 false 126 rfl rfl e126 ?_
            with_reducible refine shown_q (Value.bool false) ?qq_2_25 (fun _ _ => ?qr_2_25)
            case qr_2_25 => exact (rfl : (Value.bool false) = (Value.bool false))
            with_reducible refine quietAt_bin .neq 41 (.tmp 130) (.tmp 135) 41 (Value.int .u64 (vn : Nat)) (Value.int .u64 (vn : Nat)) (Value.bool false) ?h0_2_25 ?h1_2_25 ?h2_2_25 ?h3_2_25
            case h0_2_25 => rfl
            case h1_2_25 => exact e130
            case h2_2_25 => exact e135
            case h3_2_25 => exact (neq41 vn _ _ u)
          · intro A u hu hpu hsz hout hdeps
            have e126 : A.eval (.tmp 126) = (.bool false) := by have h := depL hdeps 15 (by kernel_rfl) 126 (by kernel_rfl); exact h
            have e136 : A.eval (.tmp 136) = (.bool false) := by have h := depL hdeps 25 (by kernel_rfl) 136 (by kernel_rfl); exact h
            refine ifw_none rfl ?_
            with_reducible refine shown_q (Value.bool false) ?qq_2_26 (fun _ _ => ?qr_2_26)
            case qr_2_26 => exact (rfl : (Value.bool false) = (Value.bool false))
            with_reducible refine quietAt_pick (.tmp 126) (.const (.bool true)) (.tmp 136) false (Value.bool false) ?h0_2_26 ?h1_2_26 ?h2_2_26
            case h0_2_26 => rfl
            case h1_2_26 => exact e126
            case h2_2_26 => rw [if_neg (by decide)]; exact e136
          · intro A u1 listed hh hall
            have hA := hh.frame
            have HU := hid hh.grown
            obtain ⟨x111, hx111⟩ : ∃ x, A.eval (.tmp 111) = x := ⟨_, rfl⟩
            have f111 : (fun v _ => v = (Value.int .i64 (k : Nat))) x111 u1 := by rw [← hx111]; exact hh.got 0 _ 111 rfl rfl (hall 0 (by decide))
            obtain ⟨x112, hx112⟩ : ∃ x, A.eval (.tmp 112) = x := ⟨_, rfl⟩
            have f112 : (fun v _ => v = (Value.pointer (some ⟨p3, k, none⟩))) x112 u1 := by rw [← hx112]; exact hh.got 1 _ 112 rfl rfl (hall 1 (by decide))
            obtain ⟨x113, hx113⟩ : ∃ x, A.eval (.tmp 113) = x := ⟨_, rfl⟩
            have f113 : (fun v _ => v = (Value.pointer (some ⟨B k, 0, none⟩))) x113 u1 := by rw [← hx113]; exact hh.got 2 _ 113 rfl rfl (hall 2 (by decide))
            obtain ⟨x114, hx114⟩ : ∃ x, A.eval (.tmp 114) = x := ⟨_, rfl⟩
            have f114 : (fun v _ => v = (Value.bool false)) x114 u1 := by rw [← hx114]; exact hh.got 3 _ 114 rfl rfl (hall 3 (by decide))
            obtain ⟨x115, hx115⟩ : ∃ x, A.eval (.tmp 115) = x := ⟨_, rfl⟩
            have f115 : (fun v _ => v = (Value.bool false)) x115 u1 := by rw [← hx115]; exact hh.got 4 _ 115 rfl rfl (hall 4 (by decide))
            obtain ⟨x116, hx116⟩ : ∃ x, A.eval (.tmp 116) = x := ⟨_, rfl⟩
            have f116 : (fun v _ => v = (Value.int .i64 (k : Nat))) x116 u1 := by rw [← hx116]; exact hh.got 5 _ 116 rfl rfl (hall 5 (by decide))
            obtain ⟨x117, hx117⟩ : ∃ x, A.eval (.tmp 117) = x := ⟨_, rfl⟩
            have f117 : (fun v _ => v = (Value.pointer (some ⟨p3, k, none⟩))) x117 u1 := by rw [← hx117]; exact hh.got 6 _ 117 rfl rfl (hall 6 (by decide))
            obtain ⟨x118, hx118⟩ : ∃ x, A.eval (.tmp 118) = x := ⟨_, rfl⟩
            have f118 : (fun v _ => v = (Value.pointer (some ⟨B k, 0, none⟩))) x118 u1 := by rw [← hx118]; exact hh.got 7 _ 118 rfl rfl (hall 7 (by decide))
            obtain ⟨x119, hx119⟩ : ∃ x, A.eval (.tmp 119) = x := ⟨_, rfl⟩
            have f119 : (fun v _ => v = (Value.agg S.toArray)) x119 u1 := by rw [← hx119]; exact hh.got 8 _ 119 rfl rfl (hall 8 (by decide))
            obtain ⟨x120, hx120⟩ : ∃ x, A.eval (.tmp 120) = x := ⟨_, rfl⟩
            have f120 : (fun v _ => v = (Value.int .i64 (k : Nat))) x120 u1 := by rw [← hx120]; exact hh.got 9 _ 120 rfl rfl (hall 9 (by decide))
            obtain ⟨x121, hx121⟩ : ∃ x, A.eval (.tmp 121) = x := ⟨_, rfl⟩
            have f121 : (fun v _ => v = (Value.pointer (some ⟨p4, k, none⟩))) x121 u1 := by rw [← hx121]; exact hh.got 10 _ 121 rfl rfl (hall 10 (by decide))
            obtain ⟨x122, hx122⟩ : ∃ x, A.eval (.tmp 122) = x := ⟨_, rfl⟩
            have f122 : (fun v _ => v = (Value.slice va vn vc)) x122 u1 := by rw [← hx122]; exact hh.got 11 _ 122 rfl rfl (hall 11 (by decide))
            obtain ⟨x123, hx123⟩ : ∃ x, A.eval (.tmp 123) = x := ⟨_, rfl⟩
            have f123 : (fun v _ => v = (Value.agg S.toArray)) x123 u1 := by rw [← hx123]; exact hh.got 12 _ 123 rfl rfl (hall 12 (by decide))
            obtain ⟨x124, hx124⟩ : ∃ x, A.eval (.tmp 124) = x := ⟨_, rfl⟩
            have f124 : (fun v _ => v = (Value.bool false)) x124 u1 := by rw [← hx124]; exact hh.got 13 _ 124 rfl rfl (hall 13 (by decide))
            obtain ⟨x125, hx125⟩ : ∃ x, A.eval (.tmp 125) = x := ⟨_, rfl⟩
            have f125 : (fun v _ => v = (Value.bool false)) x125 u1 := by rw [← hx125]; exact hh.got 14 _ 125 rfl rfl (hall 14 (by decide))
            obtain ⟨x126, hx126⟩ : ∃ x, A.eval (.tmp 126) = x := ⟨_, rfl⟩
            have f126 : (fun v _ => v = (Value.bool false)) x126 u1 := by rw [← hx126]; exact hh.got 15 _ 126 rfl rfl (hall 15 (by decide))
            obtain ⟨x127, hx127⟩ : ∃ x, A.eval (.tmp 127) = x := ⟨_, rfl⟩
            have f127 : (fun v _ => v = (Value.int .i64 (k : Nat))) x127 u1 := by rw [← hx127]; exact hh.got 16 _ 127 rfl rfl (hall 16 (by decide))
            obtain ⟨x128, hx128⟩ : ∃ x, A.eval (.tmp 128) = x := ⟨_, rfl⟩
            have f128 : (fun v _ => v = (Value.pointer (some ⟨p3, k, none⟩))) x128 u1 := by rw [← hx128]; exact hh.got 17 _ 128 rfl rfl (hall 17 (by decide))
            obtain ⟨x129, hx129⟩ : ∃ x, A.eval (.tmp 129) = x := ⟨_, rfl⟩
            have f129 : (fun v _ => v = (Value.pointer (some ⟨B k, 0, none⟩))) x129 u1 := by rw [← hx129]; exact hh.got 18 _ 129 rfl rfl (hall 18 (by decide))
            obtain ⟨x130, hx130⟩ : ∃ x, A.eval (.tmp 130) = x := ⟨_, rfl⟩
            have f130 : (fun v _ => v = (Value.int .u64 (vn : Nat))) x130 u1 := by rw [← hx130]; exact hh.got 19 _ 130 rfl rfl (hall 19 (by decide))
            obtain ⟨x131, hx131⟩ : ∃ x, A.eval (.tmp 131) = x := ⟨_, rfl⟩
            have f131 : (fun v _ => v = (Value.int .i64 (k : Nat))) x131 u1 := by rw [← hx131]; exact hh.got 20 _ 131 rfl rfl (hall 20 (by decide))
            obtain ⟨x132, hx132⟩ : ∃ x, A.eval (.tmp 132) = x := ⟨_, rfl⟩
            have f132 : (fun v _ => v = (Value.pointer (some ⟨p4, k, none⟩))) x132 u1 := by rw [← hx132]; exact hh.got 21 _ 132 rfl rfl (hall 21 (by decide))
            obtain ⟨x133, hx133⟩ : ∃ x, A.eval (.tmp 133) = x := ⟨_, rfl⟩
            have f133 : (fun v _ => v = (Value.slice va vn vc)) x133 u1 := by rw [← hx133]; exact hh.got 22 _ 133 rfl rfl (hall 22 (by decide))
            obtain ⟨x134, hx134⟩ : ∃ x, A.eval (.tmp 134) = x := ⟨_, rfl⟩
            have f134 : (fun v _ => v = (Value.int .i64 (vn : Nat))) x134 u1 := by rw [← hx134]; exact hh.got 23 _ 134 rfl rfl (hall 23 (by decide))
            obtain ⟨x135, hx135⟩ : ∃ x, A.eval (.tmp 135) = x := ⟨_, rfl⟩
            have f135 : (fun v _ => v = (Value.int .u64 (vn : Nat))) x135 u1 := by rw [← hx135]; exact hh.got 24 _ 135 rfl rfl (hall 24 (by decide))
            obtain ⟨x136, hx136⟩ : ∃ x, A.eval (.tmp 136) = x := ⟨_, rfl⟩
            have f136 : (fun v _ => v = (Value.bool false)) x136 u1 := by rw [← hx136]; exact hh.got 25 _ 136 rfl rfl (hall 25 (by decide))
            obtain ⟨x137, hx137⟩ : ∃ x, A.eval (.tmp 137) = x := ⟨_, rfl⟩
            have f137 : (fun v _ => v = (Value.bool false)) x137 u1 := by rw [← hx137]; exact hh.got 26 _ 137 rfl rfl (hall 26 (by decide))
            dsimp only [wrote, List.foldl] at hA
            rw [hx111, hx112, hx113, hx114, hx115, hx116, hx117, hx118, hx119, hx120, hx121, hx122, hx123, hx124, hx125, hx126, hx127, hx128, hx129, hx130, hx131, hx132, hx133, hx134, hx135, hx136, hx137] at hA
            clear hh hall hx111 hx112 hx113 hx114 hx115 hx116 hx117 hx118 hx119 hx120 hx121 hx122 hx123 hx124 hx125 hx126 hx127 hx128 hx129 hx130 hx131 hx132 hx133 hx134 hx135 hx136 hx137
            replace f111 := (f111 : x111 = (.int .i64 (k : Nat)))
            subst f111
            replace f112 := (f112 : x112 = (.pointer (some ⟨p3, k, none⟩)))
            subst f112
            replace f113 := (f113 : x113 = (.pointer (some ⟨B k, 0, none⟩)))
            subst f113
            replace f114 := (f114 : x114 = (.bool false))
            subst f114
            replace f115 := (f115 : x115 = (.bool false))
            subst f115
            replace f116 := (f116 : x116 = (.int .i64 (k : Nat)))
            subst f116
            replace f117 := (f117 : x117 = (.pointer (some ⟨p3, k, none⟩)))
            subst f117
            replace f118 := (f118 : x118 = (.pointer (some ⟨B k, 0, none⟩)))
            subst f118
            replace f119 := (f119 : x119 = (.agg S.toArray))
            subst f119
            replace f120 := (f120 : x120 = (.int .i64 (k : Nat)))
            subst f120
            replace f121 := (f121 : x121 = (.pointer (some ⟨p4, k, none⟩)))
            subst f121
            replace f122 := (f122 : x122 = (.slice va vn vc))
            subst f122
            replace f123 := (f123 : x123 = (.agg S.toArray))
            subst f123
            replace f124 := (f124 : x124 = (.bool false))
            subst f124
            replace f125 := (f125 : x125 = (.bool false))
            subst f125
            replace f126 := (f126 : x126 = (.bool false))
            subst f126
            replace f127 := (f127 : x127 = (.int .i64 (k : Nat)))
            subst f127
            replace f128 := (f128 : x128 = (.pointer (some ⟨p3, k, none⟩)))
            subst f128
            replace f129 := (f129 : x129 = (.pointer (some ⟨B k, 0, none⟩)))
            subst f129
            replace f130 := (f130 : x130 = (.int .u64 (vn : Nat)))
            subst f130
            replace f131 := (f131 : x131 = (.int .i64 (k : Nat)))
            subst f131
            replace f132 := (f132 : x132 = (.pointer (some ⟨p4, k, none⟩)))
            subst f132
            replace f133 := (f133 : x133 = (.slice va vn vc))
            subst f133
            replace f134 := (f134 : x134 = (.int .i64 (vn : Nat)))
            subst f134
            replace f135 := (f135 : x135 = (.int .u64 (vn : Nat)))
            subst f135
            replace f136 := (f136 : x136 = (.bool false))
            subst f136
            replace f137 := (f137 : x137 = (.bool false))
            subst f137
            subst hA
            show wpList _ _ _ [] _ _
            unfold wpList
            simp only [Act.put, List.setIfInBounds_toArray, List.set_cons_succ, List.set_cons_zero]
            have HT := hid HU.out
            clear HU
            go_wp2_with fail
            go_roundw
            case rel => exact ⟨k + 1, by omega, by go_num, hid (gtrans HQ.out HT.out)⟩
            case measure => simp [intOf]; omega
        · have hk9 : ¬ (k : Int) < 2 := by omega
          go_wp2_with (go_at_call 15; (with_reducible refine (HWk.out _ (gtrans HG.out HQ.out)).mono ?_); rintro e w9 ⟨rfl, hg9⟩; have HG9 := hid hg9; clear hg9)
          go_ret
          exact ⟨rfl, gtrans (gtrans HG.out HQ.out) HG9.out⟩
end Go.Proofs.YtmiojplbcjhggaaDoor
