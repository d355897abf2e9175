/- The walk of DigestMany. -/
import Derived.Test.YtmiojplbcjhggabDoorMy
namespace Go.Proofs.YtmiojplbcjhggabDoor
open Go Go.RowKit
open Go.RowKit (wrap32 wrap64)

theorem neq40 (n : Nat) (x y : Operand) (u : World) : (do eqGuard .neq 40 x y (.int .u64 (n : Nat)) (.int .u64 (n : Nat)); binOp .neq 40 (.int .u64 (n : Nat)) (.int .u64 (n : Nat)) : Sem Value).run Tryd.prog u = .ok (.bool false) u := by
  go_simp
theorem cv40 (n : Nat) (h : n ≤ 65536) (u : World) : (convert 3 40 (.int .i64 (n : Nat))).run Tryd.prog u = .ok (.int .u64 (n : Nat)) u := by
  have h' : (n : Int) ≤ 65536 := by omega
  have e : IntKind.u64.wrap (n : Int) = (n : Int) := by
    simp [IntKind.wrap, IntKind.signed, IntKind.bits]
    omega
  go_simp
set_option maxRecDepth 100000 in
set_option maxHeartbeats 3200000 in
theorem many_walk (w : World) (a : Option Addr) (b o n c : Nat) (V0 : Nat → Value) (L0 : Nat → List UInt8) (hG : Glob w) (hn : n ≤ 140737488355328)
    (hA : RowsB w a b o n V0 L0) :
    Calls Tryd.prog 4 #[.slice a n c] w fun e w' => e = .returned (.bool true) ∧ w.grownBy w' none := by
  have HWk : Hid (∀ u, w.grownBy u none → Calls Tryd.prog 12 #[] u fun e w' => e = .returned (.bool true) ∧ u.grownBy w' none) := fun u hu => wakes_any u (hG.keep hu)
  have HA : Hid (∀ u, w.grownBy u none → RowsB u a b o n V0 L0) := fun u hu => hA.on hu
  have HGl : Hid (∀ u, w.grownBy u none → Glob u) := fun u hu => hG.keep hu
  have HNw : Hid (∀ u, w.grownBy u none → Calls Tryd.prog 13 #[] u fun e w' => e = .returned (.pointer (some ⟨u.heap.size, 0, none⟩)) ∧ Hs w' u.heap.size [] ∧ u.grownBy w' none ∧ w'.heap.size = u.heap.size + 1) := fun u hu => new_any u (hG.keep hu)
  clear hA hG
  go_enter Tryd.func4, Tryd.ntmps4
  go_wp2_with (first
    | (refine wpList_alloc_row rfl 35 rfl (cells8 fun _ => .pointer none) Tryd.zero35 ?_; intro w1 B1 s1 g1; have HB1 := hid B1; have HG1 := hid g1; have HZ1 := hid s1; clear B1 g1 s1)
    | (refine wpList_alloc_row rfl 36 rfl (cells8 fun _ => .slice none 0 0) Tryd.zero36 ?_; intro w2 B2 s2 g2; have HB2 := hid B2; have HG2 := hid (gtrans HG1.out g2); have HB12 := hid (HB1.out.keep g2); have HZ2 := hid s2; clear B2 g2 s2))
  obtain ⟨p3, hp3⟩ : ∃ x, w.heap.size = x := ⟨_, rfl⟩
  obtain ⟨p4, hp4⟩ : ∃ x, w1.heap.size = x := ⟨_, rfl⟩
  obtain ⟨C, hC⟩ : ∃ x, w2.heap.size = x := ⟨_, rfl⟩
  rw [hp3] at HB12 ⊢
  rw [hp4] at HB2 ⊢
  have HN := hid (show w.heap.size ≤ p3 ∧ w.heap.size ≤ p4 ∧ p3 < C ∧ p4 < C ∧ w.heap.size ≤ C ∧ p3 ≠ p4 by have := HZ1.out; have := HZ2.out; omega)
  have HC2 : Hid (C ≤ w2.heap.size) := hid (by omega)
  clear hp3 hp4 hC HB1 HG1 HZ1 HZ2
  go_wp2_with fail
  go_loopw [5] (fun iv wr => ∃ (i : Nat) (B : Nat → Nat), i ≤ 8 ∧ iv = .int .i64 i ∧ Hid (Blk wr p3 (cells8 fun j => if j < i then .pointer (some ⟨B j, 0, none⟩) else .pointer none) 35) ∧ Hid (Blk wr p4 (cells8 fun _ => .slice none 0 0) 36) ∧ Hid (∀ j, j < i → Hs wr (B j) [] ∧ C ≤ B j) ∧ Hid (∀ j k, j < i → k < i → B j = B k → j = k) ∧ Hid (w.grownBy wr none) ∧ Hid (C ≤ wr.heap.size)) (fun iv _ => 8 - (intOf iv).toNat)
  case atStart => exact ⟨0, fun _ => 0, by omega, rfl, hid (by simpa using HB12.out), HB2, hid (fun j hj => by omega), hid (fun j k hj _ _ => by omega), HG2, HC2⟩
  case round =>
    clear HB12 HB2 HG2 HC2
    obtain ⟨i, B, hi, rfl, HP, HV, HH, HI, HG, HC⟩ := hrel
    by_cases hlt : i < 8
    · have hlt' : (i : Int) < 8 := by omega
      obtain ⟨wo, hwo⟩ : ∃ x, x = wr := ⟨_, rfl⟩
      subst hwo
      have HPc : Hid (∀ u, wo.grownBy u none → u.cell? ⟨p3, i, none⟩ = some (.pointer none) ∧ u.frozen? ⟨p3, i, none⟩ = false ∧ p3 < u.heap.size) := fun u hu => by
        have hb := HP.out.keep hu
        exact ⟨by rw [hb.cell, cells8_get _ i hlt, if_neg (by omega)], hb.frozen i, hb.lt⟩
      go_upto_region 7 with (go_at_call 13; (with_reducible refine (HNw.out _ HG.out).mono ?_); rintro e u1 ⟨rfl, hH1, hg1, hz1⟩; have HH1 := hid hH1; have HG1 := hid hg1; have HZ1 := hid hz1; obtain ⟨y0, y1, y2⟩ := HPc.out _ hg1; clear hH1 hg1 hz1)
      obtain ⟨bn, hbn⟩ : ∃ x, wo.heap.size = x := ⟨_, rfl⟩
      rw [hbn] at HH1 ⊢
      have HBn : Hid (C ≤ bn ∧ p3 ≠ bn ∧ p4 ≠ bn) := hid (by have := HC.out; have := HN.out; omega)
      obtain ⟨u2, hu2⟩ : ∃ x, u1.setCell ⟨p3, i, none⟩ (.pointer (some ⟨bn, 0, none⟩)) = x := ⟨_, rfl⟩
      rw [hu2]
      have HG2 : Hid (u1.grownBy u2 (some p3)) := hid (by rw [← hu2]; exact gset _ _ _)
      have HP2 : Hid (Blk u2 p3 (cells8 fun j => if j < i + 1 then .pointer (some ⟨upd B i bn j, 0, none⟩) else .pointer none) 35) := hid (by
        have h := (HP.out.keep HG1.out).set i (.pointer (some ⟨bn, 0, none⟩))
        rw [hu2, cells8_set _ _ i hlt] at h
        have e : upd (fun j => if j < i then Value.pointer (some ⟨B j, 0, none⟩) else .pointer none) i (.pointer (some ⟨bn, 0, none⟩)) = fun j => if j < i + 1 then Value.pointer (some ⟨upd B i bn j, 0, none⟩) else .pointer none := funext fun j => by
          unfold upd
          by_cases e1 : j = i
          · rw [if_pos e1, if_pos (by omega), if_pos e1]
          · rw [if_neg e1]
            show (if j < i then _ else _) = _
            by_cases e2 : j < i
            · rw [if_pos e2, if_pos (by omega), if_neg e1]
            · rw [if_neg e2, if_neg (by omega)]
        rw [e] at h
        exact h)
      have y3 : u2.cell? ⟨p3, i, none⟩ = some (.pointer (some ⟨bn, 0, none⟩)) := by rw [HP2.out.cell, cells8_get _ i hlt, if_pos (by omega), upd_same]
      have y4 := HP2.out.lt
      have HB0 := hid (hbn)
      clear hu2 y0 y1 y2 hbn
      go_wp2_with fail
      go_roundw
      case rel =>
        refine ⟨i + 1, upd B i bn, by omega, by go_num, HP2, hid ((HV.out.keep HG1.out).on HG2.out (fun e => by have e' : p3 = p4 := Option.some.inj e; have := HN.out; omega)), hid (fun j hj => ?_), hid (fun j k hj hk he => ?_), hid ((gtrans HG.out HG1.out).andThen HG2.out (fun j hj => .inl (by have hj' : p3 = j := Option.some.inj hj; have := HN.out; omega))), hid (by have := HC.out; have := HG1.out.size; have := HG2.out.size; omega)⟩
        · by_cases e1 : j = i
          · subst e1
            rw [upd_same]
            exact ⟨HH1.out.on HG2.out (fun e => by have e' : p3 = bn := Option.some.inj e; have := HBn.out; omega), HBn.out.1⟩
          · rw [upd_ne _ _ e1]
            have h := HH.out j (by omega)
            exact ⟨(h.1.keep HG1.out).on HG2.out (fun e => by have e' : p3 = B j := Option.some.inj e; have := h.2; have := HN.out; omega), h.2⟩
        · by_cases e1 : j = i
          · by_cases e2 : k = i
            · omega
            · rw [e1, upd_same, upd_ne _ _ e2] at he
              have h := (HH.out k (by omega)).1.lt
              have := HB0.out
              omega
          · by_cases e2 : k = i
            · rw [e2, upd_same, upd_ne _ _ e1] at he
              have h := (HH.out j (by omega)).1.lt
              have := HB0.out
              omega
            · rw [upd_ne _ _ e1, upd_ne _ _ e2] at he
              exact HI.out j k (by omega) (by omega) he
      case measure => simp [intOf]; omega
    · obtain rfl : i = 8 := by omega
      have HM : Hid (Mny wr p3 p4 C B (fun _ => .slice none 0 0) (fun _ => []) (fun _ => [])) := hid ⟨by
          have h := HP.out
          exact h, HV.out, HH.out, fun j hj => Out.nil _ _, HI.out, fun j k _ _ g h1 _ => by simp [Value.ownBlock] at h1⟩
      obtain ⟨wo, hwo⟩ : ∃ x, x = wr := ⟨_, rfl⟩
      subst hwo
      clear HP HV HH HI
      go_wp2_with fail
      go_loopw [6, 7] (fun lv iv wr => ∃ (s i : Nat) (V : Nat → Value) (L : Nat → List UInt8), lv = .int .i64 s ∧ iv = .int .i64 i ∧ i ≤ 200 ∧ Hid (s ≤ 65536) ∧ Hid (∀ j, j < 8 → (L j).length + s ≤ 65536) ∧ Hid (Mny wr p3 p4 C B V L L) ∧ Hid (w.grownBy wr none) ∧ Hid (C ≤ wr.heap.size)) (fun _ iv _ => 200 - (intOf iv).toNat)
      case atStart => exact ⟨65536, 0, _, _, rfl, rfl, by omega, hid (Nat.le_refl _), hid (fun j _ => by simp), HM, HG, HC⟩
      case round =>
        clear HM HG HC
        obtain ⟨s, i, V, L, rfl, rfl, hi, HS, HL, HM, HG, HC⟩ := hrel
        by_cases hlt : i < n ∧ i < 200
        · obtain ⟨hlt1, hlt2⟩ := hlt
          have i1 : (i : Int) < (n : Int) := by omega
          have i2 : (i : Int) < 200 := by omega
          obtain ⟨rfl, hb0⟩ := (HA.out w (grefl _ _)).1 (by omega)
          obtain ⟨-, r1, l1⟩ := (HA.out w (grefl _ _)).2 i hlt1
          obtain ⟨a1, b1, o1, q1, e1, -⟩ := r1
          obtain ⟨X, HX⟩ : ∃ x, Hid (L0 i = x) := ⟨_, hid rfl⟩
          obtain ⟨N1, HN1⟩ : ∃ x, Hid ((L0 i).length = x) := ⟨_, hid rfl⟩
          rw [HN1.out] at e1 l1
          have HNX : Hid (X.length = N1) := hid (by rw [← HX.out]; exact HN1.out)
          have HL1 := hid l1
          clear l1 hb0
          have HC1 : Hid (∀ u, w.grownBy u none → u.cell? ⟨b, o + i, none⟩ = some (.slice a1 N1 q1) ∧ b < u.heap.size) := fun u hu => ⟨by rw [← e1]; exact ((HA.out u hu).2 i hlt1).1, ((HA.out u hu).1 (by omega)).2⟩
          have HR1 : Hid (∀ u, w.grownBy u none → Rd u (fun k => k < w.heap.size) (.slice a1 N1 q1) X) := fun u hu => by
            rw [← HX.out, ← e1]
            exact (((HA.out w (grefl _ _)).2 i hlt1).2.1.mono (fun k hk _ => hk)).keep hu
          obtain ⟨r, hr⟩ : ∃ r, i % 8 = r := ⟨_, rfl⟩
          have hr8 : r < 8 := by omega
          have HRem : Hid (∀ (x y : Operand) (u : World), (do eqGuard .rem 3 x y (.int .i64 (i : Nat)) (.int .i64 8); binOp .rem 3 (.int .i64 (i : Nat)) (.int .i64 8) : Sem Value).run Tryd.prog u = .ok (.int .i64 (r : Nat)) u) := fun x y u => by
            rw [← hr]
            exact rem8 i (by omega) x y u
          obtain ⟨r3, hr3⟩ : ∃ r, (i + 3) % 8 = r := ⟨_, rfl⟩
          have hr38 : r3 < 8 := by omega
          have er3 : ((i : Int) + 3) % 8 = (r3 : Int) := by omega
          obtain ⟨T, hT⟩ : ∃ x : Int, (s : Int) = x := ⟨_, rfl⟩
          obtain ⟨Y, hY⟩ : ∃ x : Int, (N1 : Int) = x := ⟨_, rfl⟩
          have t0 : 0 ≤ T := by omega
          have t1 : T ≤ 65536 := by have := HS.out; omega
          have w0 : 0 ≤ Y := by omega
          have w1' : Y ≤ 140737488351232 := by have := HL1.out; omega
          obtain ⟨y0, y1⟩ := HC1.out wr HG.out
          have HR8 := hid hr
          have HTs := hid hT
          have HYs := hid hY
          clear hr hr3
          by_cases hbig : T - Y < 0
          · go_wp2_with fail
            have HMf := HM
            have HGf := HG
            obtain ⟨wx, hwx⟩ : ∃ x, x = wr := ⟨_, rfl⟩
            subst hwx
            go_loopw [8] (fun kv wq => ∃ k : Nat, k ≤ 8 ∧ kv = .int .i64 k ∧ Hid (wx.grownBy wq none)) (fun kv _ => 8 - (intOf kv).toNat)
            case atStart => exact ⟨0, by omega, rfl, hid (grefl _ _)⟩
            case round =>
              obtain ⟨k, hk, rfl, HQ⟩ := hrel
              by_cases hk8 : k < 8
              · have hk8' : (k : Int) < 8 := by omega
                have HMk := hid (HMf.out.keep HQ.out)
                have HGk := hid (gtrans HGf.out HQ.out)
                obtain ⟨va, _, _, vc, hve, -⟩ := (HMk.out.os k hk8).rd
                obtain ⟨X, HX⟩ : ∃ x, Hid (L k = x) := ⟨_, hid rfl⟩
                obtain ⟨vn, hvn⟩ : ∃ x, (L k).length = x := ⟨_, rfl⟩
                rw [hvn] at hve
                have HVe := hid hve
                have HXn : Hid (X.length = vn) := hid (by rw [← HX.out]; exact hvn)
                have HVn : Hid (vn ≤ 65536) := hid (by have := HL.out k hk8; omega)
                clear hve hvn
                obtain ⟨S, HSe⟩ : ∃ x, Hid (Lib.byteCells (sumL X) = x) := ⟨_, hid rfl⟩
                have HcB : Hid (∀ u, wr.grownBy u none → u.cell? ⟨p3, k, none⟩ = some (.pointer (some ⟨B k, 0, none⟩))) := fun u hu => by rw [(HMk.out.hp.keep hu).cell, cells8_get _ k hk8]
                have HcV : Hid (∀ u, wr.grownBy u none → u.cell? ⟨p4, k, none⟩ = some (.slice va vn vc)) := fun u hu => by rw [(HMk.out.vp.keep hu).cell, cells8_get _ k hk8, HVe.out]
                have HSm : Hid (∀ u, wr.grownBy u none → Calls Tryd.prog 15 #[.pointer (some ⟨B k, 0, none⟩)] u fun e w' => e = .returned (.agg S.toArray) ∧ u.grownBy w' none) := fun u hu => by
                  have := hsum_any u (B k) (L k) ((HMk.out.hs k hk8).1.keep hu) (HGl.out u (gtrans HGk.out hu)) (by rw [HX.out, HXn.out]; have := HVn.out; omega)
                  rw [HX.out, HSe.out] at this
                  exact this
                have HLn : Hid (∀ u, wr.grownBy u none → Calls Tryd.prog 16 #[.pointer (some ⟨B k, 0, none⟩)] u fun e w' => e = .returned (.int .u64 (vn : Nat)) ∧ u.grownBy w' none) := fun u hu => by
                  have h := ((HMk.out.hs k hk8).1.keep hu).taken
                  rw [HX.out, HXn.out] at h
                  exact (len_any vn (B k) u h).mono fun e w' ⟨he, hw⟩ => ⟨he, by rw [hw]; exact grefl _ _⟩
                have HCp : Hid (∀ u, wr.grownBy u none → Calls Tryd.prog 8 #[.slice va vn vc] u fun e w' => ∃ v', e = .returned v' ∧ Out u.heap.size w' v' X ∧ u.grownBy w' none) := fun u hu => by
                  have h := ((HMk.out.os k hk8).keep hu).rd
                  rw [HVe.out, HX.out] at h
                  exact copyR_any u _ _ X h (by rw [HXn.out]; have := HVn.out; omega)
                have HDs : Hid (∀ (u : World) (v : Value), wr.grownBy u none → Rd u (fun _ => True) v X → Calls Tryd.prog 9 #[v] u fun e w' => e = .returned (.agg S.toArray) ∧ u.grownBy w' none) := fun u v hu h => by
                  rw [← HSe.out]
                  exact dsum_any u v _ X h (HGl.out u (gtrans HGk.out hu)) (by rw [HXn.out]; have := HVn.out; omega)
                have HNe : Hid (∀ (x y : Operand) (u : World), (do eqGuard .neq 26 x y (.agg S.toArray) (.agg S.toArray); binOp .neq 26 (.agg S.toArray) (.agg S.toArray) : Sem Value).run Tryd.prog u = .ok (.bool false) u) := fun x y u => by
                  rw [← HSe.out, neqG_32]
                  exact neq_self _ (sumL_length _) u
                have HCv : Hid (∀ u : World, (convert 3 40 (.int .i64 (vn : Nat))).run Tryd.prog u = .ok (.int .u64 (vn : Nat)) u) := fun u => cv40 vn HVn.out u
                go_upto_region 21 with fail
                refine wp_region_list (by kernel_rfl) [fun v _ => v = (Value.int .i64 (k : Nat)), fun v _ => v = (Value.pointer (some ⟨p3, k, none⟩)), fun v _ => v = (Value.pointer (some ⟨B k, 0, none⟩)), fun v _ => v = (Value.agg S.toArray), fun v _ => v = (Value.int .i64 (k : Nat)), fun v _ => v = (Value.pointer (some ⟨p4, k, none⟩)), fun v _ => v = (Value.slice va vn vc), fun v u => ∃ z, v = z ∧ Rd u (fun _ => True) z X, fun v _ => v = (Value.agg S.toArray), fun v _ => v = (Value.bool false), fun v _ => v = (Value.bool false), fun v _ => v = (Value.int .i64 (k : Nat)), fun v _ => v = (Value.pointer (some ⟨p3, k, none⟩)), fun v _ => v = (Value.pointer (some ⟨B k, 0, none⟩)), fun v _ => v = (Value.int .u64 (vn : Nat)), fun v _ => v = (Value.int .i64 (k : Nat)), fun v _ => v = (Value.pointer (some ⟨p4, k, none⟩)), fun v _ => v = (Value.slice va vn vc), fun v _ => v = (Value.int .i64 (vn : Nat)), fun v _ => v = (Value.int .u64 (vn : Nat)), fun v _ => v = (Value.bool false), fun v _ => v = (Value.bool false)] (none) (fun _ => none) 22 (by kernel_rfl) (by kernel_rfl) (by kernel_rfl) (by kernel_rfl) (by decide) noRow_one (fun _ => .inl rfl) ⟨fun i v u u' hki h hg => h, fun i v u u' hki h hg => h, fun i v u u' hki h hg => h, fun i v u u' hki h hg => h, fun i v u u' hki h hg => h, fun i v u u' hki h hg => h, fun i v u u' hki h hg => h, fun i v u u' hki h hg => (by obtain ⟨z, rfl, h1⟩ := h; exact ⟨_, rfl, h1.keep hg⟩), fun i v u u' hki h hg => h, fun i v u u' hki h hg => h, fun i v u u' hki h hg => h, fun i v u u' hki h hg => h, fun i v u u' hki h hg => h, fun i v u u' hki h hg => h, fun i v u u' hki h hg => h, fun i v u u' hki h hg => h, fun i v u u' hki h hg => h, fun i v u u' hki h hg => h, fun i v u u' hki h hg => h, fun i v u u' hki h hg => h, fun i v u u' hki h hg => h, fun i v u u' hki h hg => h, trivial⟩ ⟨?_, ?_, ?_, ?_, ?_, ?_, ?_, ?_, ?_, ?_, ?_, ?_, ?_, ?_, ?_, ?_, ?_, ?_, ?_, ?_, ?_, ?_, trivial⟩ ?_
                · intro A u hu hpu hsz hout hdeps
                  have e8 : A.eval (.tmp 8) = (.int .i64 (k : Nat)) := (hout 8 (by kernel_rfl)).trans rfl
                  refine ifw_none rfl ?_
                  with_reducible refine shown_q (Value.int .i64 (k : Nat)) ?qq_2a_0 (fun _ _ => ?qr_2a_0)
                  case qr_2a_0 => exact (rfl : (Value.int .i64 (k : Nat)) = (Value.int .i64 (k : Nat)))
                  with_reducible refine quietAt_mv (.tmp 8) (Value.int .i64 (k : Nat)) ?h0_2a_0 ?h1_2a_0
                  case h0_2a_0 => rfl
                  case h1_2a_0 => exact e8
                · intro A u hu hpu hsz hout hdeps
                  have e3 : A.eval (.tmp 3) = (.pointer (some ⟨p3, 0, none⟩)) := (hout 3 (by kernel_rfl)).trans rfl
                  have e71 : A.eval (.tmp 71) = (.int .i64 (k : Nat)) := by have h := depL hdeps 0 (by kernel_rfl) 71 (by kernel_rfl); exact h
                  refine ifw_none rfl ?_
                  with_reducible refine shown_q (Value.pointer (some ⟨p3, k, none⟩)) ?qq_2a_1 (fun _ _ => ?qr_2a_1)
                  case qr_2a_1 => exact (rfl : (Value.pointer (some ⟨p3, k, none⟩)) = (Value.pointer (some ⟨p3, k, none⟩)))
                  with_reducible refine quietAt_idx 35 (.tmp 3) (.tmp 71) (Value.pointer (some ⟨p3, 0, none⟩)) (Value.int .i64 (k : Nat)) (Value.pointer (some ⟨p3, k, none⟩)) ?h0_2a_1 ?h1_2a_1 ?h2_2a_1 ?h3_2a_1
                  case h0_2a_1 => rfl
                  case h1_2a_1 => exact e3
                  case h2_2a_1 => exact e71
                  case h3_2a_1 => exact (idx35 p3 k hk8 u)
                · intro A u hu hpu hsz hout hdeps
                  have e72 : A.eval (.tmp 72) = (.pointer (some ⟨p3, k, none⟩)) := by have h := depL hdeps 1 (by kernel_rfl) 72 (by kernel_rfl); exact h
                  refine ifw_none rfl ?_
                  with_reducible refine shown_q (Value.pointer (some ⟨B k, 0, none⟩)) ?qq_2a_2 (fun _ _ => ?qr_2a_2)
                  case qr_2a_2 => exact (rfl : (Value.pointer (some ⟨B k, 0, none⟩)) = (Value.pointer (some ⟨B k, 0, none⟩)))
                  with_reducible refine quietAt_ld 34 (.tmp 72) (Value.pointer (some ⟨p3, k, none⟩)) (Value.pointer (some ⟨B k, 0, none⟩)) ?h0_2a_2 ?h1_2a_2 ?h2_2a_2
                  case h0_2a_2 => rfl
                  case h1_2a_2 => exact e72
                  case h2_2a_2 => exact (ld34 p3 k _ u (HcB.out u hu))
                · intro A u hu hpu hsz hout hdeps
                  have e73 : A.eval (.tmp 73) = (.pointer (some ⟨B k, 0, none⟩)) := by have h := depL hdeps 2 (by kernel_rfl) 73 (by kernel_rfl); exact h
                  refine ifw_none rfl ?_
                  with_reducible refine shown_q (Value.agg S.toArray) ?qq_2a_3 (fun _ _ => ?qr_2a_3)
                  case qr_2a_3 => exact (rfl : (Value.agg S.toArray) = (Value.agg S.toArray))
                  with_reducible refine quietAt_call 15 Tryd.f15 ?h0_2a_3 ?h1_2a_3 ?h2_2a_3 #[.tmp 73] #[34] ?h3_2a_3 (Value.agg S.toArray) #[(Value.pointer (some ⟨B k, 0, none⟩))] ?h4_2a_3 ?h5_2a_3
                  case h0_2a_3 => exact Tryd.func15
                  case h1_2a_3 => kernel_rfl
                  case h2_2a_3 => kernel_rfl
                  case h3_2a_3 => rfl
                  case h4_2a_3 => exact map1 _ _ _ e73
                  case h5_2a_3 => exact (HSm.out u hu)
                · intro A u hu hpu hsz hout hdeps
                  have e8 : A.eval (.tmp 8) = (.int .i64 (k : Nat)) := (hout 8 (by kernel_rfl)).trans rfl
                  refine ifw_none rfl ?_
                  with_reducible refine shown_q (Value.int .i64 (k : Nat)) ?qq_2a_4 (fun _ _ => ?qr_2a_4)
                  case qr_2a_4 => exact (rfl : (Value.int .i64 (k : Nat)) = (Value.int .i64 (k : Nat)))
                  with_reducible refine quietAt_mv (.tmp 8) (Value.int .i64 (k : Nat)) ?h0_2a_4 ?h1_2a_4
                  case h0_2a_4 => rfl
                  case h1_2a_4 => exact e8
                · intro A u hu hpu hsz hout hdeps
                  have e4 : A.eval (.tmp 4) = (.pointer (some ⟨p4, 0, none⟩)) := (hout 4 (by kernel_rfl)).trans rfl
                  have e75 : A.eval (.tmp 75) = (.int .i64 (k : Nat)) := by have h := depL hdeps 4 (by kernel_rfl) 75 (by kernel_rfl); exact h
                  refine ifw_none rfl ?_
                  with_reducible refine shown_q (Value.pointer (some ⟨p4, k, none⟩)) ?qq_2a_5 (fun _ _ => ?qr_2a_5)
                  case qr_2a_5 => exact (rfl : (Value.pointer (some ⟨p4, k, none⟩)) = (Value.pointer (some ⟨p4, k, none⟩)))
                  with_reducible refine quietAt_idx 36 (.tmp 4) (.tmp 75) (Value.pointer (some ⟨p4, 0, none⟩)) (Value.int .i64 (k : Nat)) (Value.pointer (some ⟨p4, k, none⟩)) ?h0_2a_5 ?h1_2a_5 ?h2_2a_5 ?h3_2a_5
                  case h0_2a_5 => rfl
                  case h1_2a_5 => exact e4
                  case h2_2a_5 => exact e75
                  case h3_2a_5 => exact (idx36 p4 k hk8 u)
                · intro A u hu hpu hsz hout hdeps
                  have e76 : A.eval (.tmp 76) = (.pointer (some ⟨p4, k, none⟩)) := by have h := depL hdeps 5 (by kernel_rfl) 76 (by kernel_rfl); exact h
                  refine ifw_none rfl ?_
                  with_reducible refine shown_q (Value.slice va vn vc) ?qq_2a_6 (fun _ _ => ?qr_2a_6)
                  case qr_2a_6 => exact (rfl : (Value.slice va vn vc) = (Value.slice va vn vc))
                  with_reducible refine quietAt_ld 25 (.tmp 76) (Value.pointer (some ⟨p4, k, none⟩)) (Value.slice va vn vc) ?h0_2a_6 ?h1_2a_6 ?h2_2a_6
                  case h0_2a_6 => rfl
                  case h1_2a_6 => exact e76
                  case h2_2a_6 => exact (ld25 p4 k vn vc va u (HcV.out u hu))
                · intro A u hu hpu hsz hout hdeps
                  have e77 : A.eval (.tmp 77) = (.slice va vn vc) := by have h := depL hdeps 6 (by kernel_rfl) 77 (by kernel_rfl); exact h
                  refine ifw_none rfl ?_
                  with_reducible refine shown_call 8 Tryd.f8 ?h0_2a_7 ?h1_2a_7 ?h2_2a_7 #[.tmp 77] #[25] ?h3_2a_7 #[(Value.slice va vn vc)] ?h4_2a_7 ?h5_2a_7
                  case h0_2a_7 => exact Tryd.func8
                  case h1_2a_7 => kernel_rfl
                  case h2_2a_7 => kernel_rfl
                  case h3_2a_7 => rfl
                  case h4_2a_7 => exact map1 _ _ _ e77
                  case h5_2a_7 => exact (HCp.out u hu).mono fun e w' ⟨v', he, ho, hg⟩ => ⟨v', he, hg, v', rfl, ho.rd.mono (fun _ _ _ => trivial)⟩
                · intro A u hu hpu hsz hout hdeps
                  have f78 : (fun v u => ∃ z, v = z ∧ Rd u (fun _ => True) z X) (A.eval (.tmp 78)) u := by have h := depL hdeps 7 (by kernel_rfl) 78 (by kernel_rfl); exact h
                  obtain ⟨V78, e78, HV78⟩ := f78
                  refine ifw_none rfl ?_
                  with_reducible refine shown_q (Value.agg S.toArray) ?qq_2a_8 (fun _ _ => ?qr_2a_8)
                  case qr_2a_8 => exact (rfl : (Value.agg S.toArray) = (Value.agg S.toArray))
                  with_reducible refine quietAt_call 9 Tryd.f9 ?h0_2a_8 ?h1_2a_8 ?h2_2a_8 #[.tmp 78] #[25] ?h3_2a_8 (Value.agg S.toArray) #[V78] ?h4_2a_8 ?h5_2a_8
                  case h0_2a_8 => exact Tryd.func9
                  case h1_2a_8 => kernel_rfl
                  case h2_2a_8 => kernel_rfl
                  case h3_2a_8 => rfl
                  case h4_2a_8 => exact map1 _ _ _ e78
                  case h5_2a_8 => exact (HDs.out u _ hu HV78)
                · intro A u hu hpu hsz hout hdeps
                  have e74 : A.eval (.tmp 74) = (.agg S.toArray) := by have h := depL hdeps 3 (by kernel_rfl) 74 (by kernel_rfl); exact h
                  have e79 : A.eval (.tmp 79) = (.agg S.toArray) := by have h := depL hdeps 8 (by kernel_rfl) 79 (by kernel_rfl); exact h
                  refine ifw_none rfl ?_
                  with_reducible refine shown_q (Value.bool false) ?qq_2a_9 (fun _ _ => ?qr_2a_9)
                  case qr_2a_9 => exact (rfl : (Value.bool false) = (Value.bool false))
                  with_reducible refine quietAt_bin .neq 26 (.tmp 74) (.tmp 79) 26 (Value.agg S.toArray) (Value.agg S.toArray) (Value.bool false) ?h0_2a_9 ?h1_2a_9 ?h2_2a_9 ?h3_2a_9
                  case h0_2a_9 => rfl
                  case h1_2a_9 => exact e74
                  case h2_2a_9 => exact e79
                  case h3_2a_9 => exact (HNe.out _ _ u)
                · intro A u hu hpu hsz hout hdeps
                  have e80 : A.eval (.tmp 80) = (.bool false) := by have h := depL hdeps 9 (by kernel_rfl) 80 (by kernel_rfl); exact h
                  refine ifw_none rfl ?_
                  with_reducible refine shown_q (Value.bool false) ?qq_2a_10 (fun _ _ => ?qr_2a_10)
                  case qr_2a_10 => exact (rfl : (Value.bool false) = (Value.bool false))
                  with_reducible refine quietAt_mv (.tmp 80) (Value.bool false) ?h0_2a_10 ?h1_2a_10
                  case h0_2a_10 => rfl
                  case h1_2a_10 => exact e80
                · intro A u hu hpu hsz hout hdeps
                  have e81 : A.eval (.tmp 81) = (.bool false) := by have h := depL hdeps 10 (by kernel_rfl) 81 (by kernel_rfl); exact h
                  have e8 : A.eval (.tmp 8) = (.int .i64 (k : Nat)) := (hout 8 (by kernel_rfl)).trans rfl
                  refine ifw_want 10 false 81 rfl rfl e81 ?_
                  with_reducible refine shown_q (Value.int .i64 (k : Nat)) ?qq_2a_11 (fun _ _ => ?qr_2a_11)
                  case qr_2a_11 => exact (rfl : (Value.int .i64 (k : Nat)) = (Value.int .i64 (k : Nat)))
                  with_reducible refine quietAt_mv (.tmp 8) (Value.int .i64 (k : Nat)) ?h0_2a_11 ?h1_2a_11
                  case h0_2a_11 => rfl
                  case h1_2a_11 => exact e8
                · intro A u hu hpu hsz hout hdeps
                  have e81 : A.eval (.tmp 81) = (.bool false) := by have h := depL hdeps 10 (by kernel_rfl) 81 (by kernel_rfl); exact h
                  have e3 : A.eval (.tmp 3) = (.pointer (some ⟨p3, 0, none⟩)) := (hout 3 (by kernel_rfl)).trans rfl
                  have e82 : A.eval (.tmp 82) = (.int .i64 (k : Nat)) := by have h := depL hdeps 11 (by kernel_rfl) 82 (by kernel_rfl); exact h
                  refine ifw_want 10 false 81 rfl rfl e81 ?_
                  with_reducible refine shown_q (Value.pointer (some ⟨p3, k, none⟩)) ?qq_2a_12 (fun _ _ => ?qr_2a_12)
                  case qr_2a_12 => exact (rfl : (Value.pointer (some ⟨p3, k, none⟩)) = (Value.pointer (some ⟨p3, k, none⟩)))
                  with_reducible refine quietAt_idx 35 (.tmp 3) (.tmp 82) (Value.pointer (some ⟨p3, 0, none⟩)) (Value.int .i64 (k : Nat)) (Value.pointer (some ⟨p3, k, none⟩)) ?h0_2a_12 ?h1_2a_12 ?h2_2a_12 ?h3_2a_12
                  case h0_2a_12 => rfl
                  case h1_2a_12 => exact e3
                  case h2_2a_12 => exact e82
                  case h3_2a_12 => exact (idx35 p3 k hk8 u)
                · intro A u hu hpu hsz hout hdeps
                  have e81 : A.eval (.tmp 81) = (.bool false) := by have h := depL hdeps 10 (by kernel_rfl) 81 (by kernel_rfl); exact h
                  have e83 : A.eval (.tmp 83) = (.pointer (some ⟨p3, k, none⟩)) := by have h := depL hdeps 12 (by kernel_rfl) 83 (by kernel_rfl); exact h
                  refine ifw_want 10 false 81 rfl rfl e81 ?_
                  with_reducible refine shown_q (Value.pointer (some ⟨B k, 0, none⟩)) ?qq_2a_13 (fun _ _ => ?qr_2a_13)
                  case qr_2a_13 => exact (rfl : (Value.pointer (some ⟨B k, 0, none⟩)) = (Value.pointer (some ⟨B k, 0, none⟩)))
                  with_reducible refine quietAt_ld 34 (.tmp 83) (Value.pointer (some ⟨p3, k, none⟩)) (Value.pointer (some ⟨B k, 0, none⟩)) ?h0_2a_13 ?h1_2a_13 ?h2_2a_13
                  case h0_2a_13 => rfl
                  case h1_2a_13 => exact e83
                  case h2_2a_13 => exact (ld34 p3 k _ u (HcB.out u hu))
                · intro A u hu hpu hsz hout hdeps
                  have e81 : A.eval (.tmp 81) = (.bool false) := by have h := depL hdeps 10 (by kernel_rfl) 81 (by kernel_rfl); exact h
                  have e84 : A.eval (.tmp 84) = (.pointer (some ⟨B k, 0, none⟩)) := by have h := depL hdeps 13 (by kernel_rfl) 84 (by kernel_rfl); exact h
                  refine ifw_want 10 false 81 rfl rfl e81 ?_
                  with_reducible refine shown_q (Value.int .u64 (vn : Nat)) ?qq_2a_14 (fun _ _ => ?qr_2a_14)
                  case qr_2a_14 => exact (rfl : (Value.int .u64 (vn : Nat)) = (Value.int .u64 (vn : Nat)))
                  with_reducible refine quietAt_call 16 Tryd.f16 ?h0_2a_14 ?h1_2a_14 ?h2_2a_14 #[.tmp 84] #[34] ?h3_2a_14 (Value.int .u64 (vn : Nat)) #[(Value.pointer (some ⟨B k, 0, none⟩))] ?h4_2a_14 ?h5_2a_14
                  case h0_2a_14 => exact Tryd.func16
                  case h1_2a_14 => kernel_rfl
                  case h2_2a_14 => kernel_rfl
                  case h3_2a_14 => rfl
                  case h4_2a_14 => exact map1 _ _ _ e84
                  case h5_2a_14 => exact (HLn.out u hu)
                · intro A u hu hpu hsz hout hdeps
                  have e81 : A.eval (.tmp 81) = (.bool false) := by have h := depL hdeps 10 (by kernel_rfl) 81 (by kernel_rfl); exact h
                  have e8 : A.eval (.tmp 8) = (.int .i64 (k : Nat)) := (hout 8 (by kernel_rfl)).trans rfl
                  refine ifw_want 10 false 81 rfl rfl e81 ?_
                  with_reducible refine shown_q (Value.int .i64 (k : Nat)) ?qq_2a_15 (fun _ _ => ?qr_2a_15)
                  case qr_2a_15 => exact (rfl : (Value.int .i64 (k : Nat)) = (Value.int .i64 (k : Nat)))
                  with_reducible refine quietAt_mv (.tmp 8) (Value.int .i64 (k : Nat)) ?h0_2a_15 ?h1_2a_15
                  case h0_2a_15 => rfl
                  case h1_2a_15 => exact e8
                · intro A u hu hpu hsz hout hdeps
                  have e81 : A.eval (.tmp 81) = (.bool false) := by have h := depL hdeps 10 (by kernel_rfl) 81 (by kernel_rfl); exact h
                  have e4 : A.eval (.tmp 4) = (.pointer (some ⟨p4, 0, none⟩)) := (hout 4 (by kernel_rfl)).trans rfl
                  have e86 : A.eval (.tmp 86) = (.int .i64 (k : Nat)) := by have h := depL hdeps 15 (by kernel_rfl) 86 (by kernel_rfl); exact h
                  refine ifw_want 10 false 81 rfl rfl e81 ?_
                  with_reducible refine shown_q (Value.pointer (some ⟨p4, k, none⟩)) ?qq_2a_16 (fun _ _ => ?qr_2a_16)
                  case qr_2a_16 => exact (rfl : (Value.pointer (some ⟨p4, k, none⟩)) = (Value.pointer (some ⟨p4, k, none⟩)))
                  with_reducible refine quietAt_idx 36 (.tmp 4) (.tmp 86) (Value.pointer (some ⟨p4, 0, none⟩)) (Value.int .i64 (k : Nat)) (Value.pointer (some ⟨p4, k, none⟩)) ?h0_2a_16 ?h1_2a_16 ?h2_2a_16 ?h3_2a_16
                  case h0_2a_16 => rfl
                  case h1_2a_16 => exact e4
                  case h2_2a_16 => exact e86
                  case h3_2a_16 => exact (idx36 p4 k hk8 u)
                · intro A u hu hpu hsz hout hdeps
                  have e81 : A.eval (.tmp 81) = (.bool false) := by have h := depL hdeps 10 (by kernel_rfl) 81 (by kernel_rfl); exact h
                  have e87 : A.eval (.tmp 87) = (.pointer (some ⟨p4, k, none⟩)) := by have h := depL hdeps 16 (by kernel_rfl) 87 (by kernel_rfl); exact h
                  refine ifw_want 10 false 81 rfl rfl e81 ?_
                  with_reducible refine shown_q (Value.slice va vn vc) ?qq_2a_17 (fun _ _ => ?qr_2a_17)
                  case qr_2a_17 => exact (rfl : (Value.slice va vn vc) = (Value.slice va vn vc))
                  with_reducible refine quietAt_ld 25 (.tmp 87) (Value.pointer (some ⟨p4, k, none⟩)) (Value.slice va vn vc) ?h0_2a_17 ?h1_2a_17 ?h2_2a_17
                  case h0_2a_17 => rfl
                  case h1_2a_17 => exact e87
                  case h2_2a_17 => exact (ld25 p4 k vn vc va u (HcV.out u hu))
                · intro A u hu hpu hsz hout hdeps
                  have e81 : A.eval (.tmp 81) = (.bool false) := by have h := depL hdeps 10 (by kernel_rfl) 81 (by kernel_rfl); exact h
                  have e88 : A.eval (.tmp 88) = (.slice va vn vc) := by have h := depL hdeps 17 (by kernel_rfl) 88 (by kernel_rfl); exact h
                  refine ifw_want 10 false 81 rfl rfl e81 ?_
                  with_reducible refine shown_q (Value.int .i64 (vn : Nat)) ?qq_2a_18 (fun _ _ => ?qr_2a_18)
                  case qr_2a_18 => exact (rfl : (Value.int .i64 (vn : Nat)) = (Value.int .i64 (vn : Nat)))
                  with_reducible refine quietAt_len (.tmp 88) 25 ?h0_2a_18 va vn vc ?h1_2a_18 ?h2_2a_18
                  case h0_2a_18 => rfl
                  case h1_2a_18 => exact e88
                  case h2_2a_18 => kernel_rfl
                · intro A u hu hpu hsz hout hdeps
                  have e81 : A.eval (.tmp 81) = (.bool false) := by have h := depL hdeps 10 (by kernel_rfl) 81 (by kernel_rfl); exact h
                  have e89 : A.eval (.tmp 89) = (.int .i64 (vn : Nat)) := by have h := depL hdeps 18 (by kernel_rfl) 89 (by kernel_rfl); exact h
                  refine ifw_want 10 false 81 rfl rfl e81 ?_
                  with_reducible refine shown_q (Value.int .u64 (vn : Nat)) ?qq_2a_19 (fun _ _ => ?qr_2a_19)
                  case qr_2a_19 => exact (rfl : (Value.int .u64 (vn : Nat)) = (Value.int .u64 (vn : Nat)))
                  with_reducible refine quietAt_cv 3 40 (.tmp 89) (Value.int .i64 (vn : Nat)) (Value.int .u64 (vn : Nat)) ?h0_2a_19 ?h1_2a_19 ?h2_2a_19
                  case h0_2a_19 => rfl
                  case h1_2a_19 => exact e89
                  case h2_2a_19 => exact (HCv.out u)
                · intro A u hu hpu hsz hout hdeps
                  have e81 : A.eval (.tmp 81) = (.bool false) := by have h := depL hdeps 10 (by kernel_rfl) 81 (by kernel_rfl); exact h
                  have e85 : A.eval (.tmp 85) = (.int .u64 (vn : Nat)) := by have h := depL hdeps 14 (by kernel_rfl) 85 (by kernel_rfl); exact h
                  have e90 : A.eval (.tmp 90) = (.int .u64 (vn : Nat)) := by have h := depL hdeps 19 (by kernel_rfl) 90 (by kernel_rfl); exact h
                  refine ifw_want 10 false 81 rfl rfl e81 ?_
                  with_reducible refine shown_q (Value.bool false) ?qq_2a_20 (fun _ _ => ?qr_2a_20)
                  case qr_2a_20 => exact (rfl : (Value.bool false) = (Value.bool false))
                  with_reducible refine quietAt_bin .neq 40 (.tmp 85) (.tmp 90) 40 (Value.int .u64 (vn : Nat)) (Value.int .u64 (vn : Nat)) (Value.bool false) ?h0_2a_20 ?h1_2a_20 ?h2_2a_20 ?h3_2a_20
                  case h0_2a_20 => rfl
                  case h1_2a_20 => exact e85
                  case h2_2a_20 => exact e90
                  case h3_2a_20 => exact (neq40 vn _ _ u)
                · intro A u hu hpu hsz hout hdeps
                  have e81 : A.eval (.tmp 81) = (.bool false) := by have h := depL hdeps 10 (by kernel_rfl) 81 (by kernel_rfl); exact h
                  have e91 : A.eval (.tmp 91) = (.bool false) := by have h := depL hdeps 20 (by kernel_rfl) 91 (by kernel_rfl); exact h
                  refine ifw_none rfl ?_
                  with_reducible refine shown_q (Value.bool false) ?qq_2a_21 (fun _ _ => ?qr_2a_21)
                  case qr_2a_21 => exact (rfl : (Value.bool false) = (Value.bool false))
                  with_reducible refine quietAt_pick (.tmp 81) (.const (.bool true)) (.tmp 91) false (Value.bool false) ?h0_2a_21 ?h1_2a_21 ?h2_2a_21
                  case h0_2a_21 => rfl
                  case h1_2a_21 => exact e81
                  case h2_2a_21 => rw [if_neg (by decide)]; exact e91
                · intro A u1 listed hh hall
                  have hA := hh.frame
                  have HU := hid hh.grown
                  obtain ⟨x71, hx71⟩ : ∃ x, A.eval (.tmp 71) = x := ⟨_, rfl⟩
                  have f71 : (fun v _ => v = (Value.int .i64 (k : Nat))) x71 u1 := by rw [← hx71]; exact hh.got 0 _ 71 rfl rfl (hall 0 (by decide))
                  obtain ⟨x72, hx72⟩ : ∃ x, A.eval (.tmp 72) = x := ⟨_, rfl⟩
                  have f72 : (fun v _ => v = (Value.pointer (some ⟨p3, k, none⟩))) x72 u1 := by rw [← hx72]; exact hh.got 1 _ 72 rfl rfl (hall 1 (by decide))
                  obtain ⟨x73, hx73⟩ : ∃ x, A.eval (.tmp 73) = x := ⟨_, rfl⟩
                  have f73 : (fun v _ => v = (Value.pointer (some ⟨B k, 0, none⟩))) x73 u1 := by rw [← hx73]; exact hh.got 2 _ 73 rfl rfl (hall 2 (by decide))
                  obtain ⟨x74, hx74⟩ : ∃ x, A.eval (.tmp 74) = x := ⟨_, rfl⟩
                  have f74 : (fun v _ => v = (Value.agg S.toArray)) x74 u1 := by rw [← hx74]; exact hh.got 3 _ 74 rfl rfl (hall 3 (by decide))
                  obtain ⟨x75, hx75⟩ : ∃ x, A.eval (.tmp 75) = x := ⟨_, rfl⟩
                  have f75 : (fun v _ => v = (Value.int .i64 (k : Nat))) x75 u1 := by rw [← hx75]; exact hh.got 4 _ 75 rfl rfl (hall 4 (by decide))
                  obtain ⟨x76, hx76⟩ : ∃ x, A.eval (.tmp 76) = x := ⟨_, rfl⟩
                  have f76 : (fun v _ => v = (Value.pointer (some ⟨p4, k, none⟩))) x76 u1 := by rw [← hx76]; exact hh.got 5 _ 76 rfl rfl (hall 5 (by decide))
                  obtain ⟨x77, hx77⟩ : ∃ x, A.eval (.tmp 77) = x := ⟨_, rfl⟩
                  have f77 : (fun v _ => v = (Value.slice va vn vc)) x77 u1 := by rw [← hx77]; exact hh.got 6 _ 77 rfl rfl (hall 6 (by decide))
                  obtain ⟨x78, hx78⟩ : ∃ x, A.eval (.tmp 78) = x := ⟨_, rfl⟩
                  have f78 : (fun v u => ∃ z, v = z ∧ Rd u (fun _ => True) z X) x78 u1 := by rw [← hx78]; exact hh.got 7 _ 78 rfl rfl (hall 7 (by decide))
                  obtain ⟨x79, hx79⟩ : ∃ x, A.eval (.tmp 79) = x := ⟨_, rfl⟩
                  have f79 : (fun v _ => v = (Value.agg S.toArray)) x79 u1 := by rw [← hx79]; exact hh.got 8 _ 79 rfl rfl (hall 8 (by decide))
                  obtain ⟨x80, hx80⟩ : ∃ x, A.eval (.tmp 80) = x := ⟨_, rfl⟩
                  have f80 : (fun v _ => v = (Value.bool false)) x80 u1 := by rw [← hx80]; exact hh.got 9 _ 80 rfl rfl (hall 9 (by decide))
                  obtain ⟨x81, hx81⟩ : ∃ x, A.eval (.tmp 81) = x := ⟨_, rfl⟩
                  have f81 : (fun v _ => v = (Value.bool false)) x81 u1 := by rw [← hx81]; exact hh.got 10 _ 81 rfl rfl (hall 10 (by decide))
                  obtain ⟨x82, hx82⟩ : ∃ x, A.eval (.tmp 82) = x := ⟨_, rfl⟩
                  have f82 : (fun v _ => v = (Value.int .i64 (k : Nat))) x82 u1 := by rw [← hx82]; exact hh.got 11 _ 82 rfl rfl (hall 11 (by decide))
                  obtain ⟨x83, hx83⟩ : ∃ x, A.eval (.tmp 83) = x := ⟨_, rfl⟩
                  have f83 : (fun v _ => v = (Value.pointer (some ⟨p3, k, none⟩))) x83 u1 := by rw [← hx83]; exact hh.got 12 _ 83 rfl rfl (hall 12 (by decide))
                  obtain ⟨x84, hx84⟩ : ∃ x, A.eval (.tmp 84) = x := ⟨_, rfl⟩
                  have f84 : (fun v _ => v = (Value.pointer (some ⟨B k, 0, none⟩))) x84 u1 := by rw [← hx84]; exact hh.got 13 _ 84 rfl rfl (hall 13 (by decide))
                  obtain ⟨x85, hx85⟩ : ∃ x, A.eval (.tmp 85) = x := ⟨_, rfl⟩
                  have f85 : (fun v _ => v = (Value.int .u64 (vn : Nat))) x85 u1 := by rw [← hx85]; exact hh.got 14 _ 85 rfl rfl (hall 14 (by decide))
                  obtain ⟨x86, hx86⟩ : ∃ x, A.eval (.tmp 86) = x := ⟨_, rfl⟩
                  have f86 : (fun v _ => v = (Value.int .i64 (k : Nat))) x86 u1 := by rw [← hx86]; exact hh.got 15 _ 86 rfl rfl (hall 15 (by decide))
                  obtain ⟨x87, hx87⟩ : ∃ x, A.eval (.tmp 87) = x := ⟨_, rfl⟩
                  have f87 : (fun v _ => v = (Value.pointer (some ⟨p4, k, none⟩))) x87 u1 := by rw [← hx87]; exact hh.got 16 _ 87 rfl rfl (hall 16 (by decide))
                  obtain ⟨x88, hx88⟩ : ∃ x, A.eval (.tmp 88) = x := ⟨_, rfl⟩
                  have f88 : (fun v _ => v = (Value.slice va vn vc)) x88 u1 := by rw [← hx88]; exact hh.got 17 _ 88 rfl rfl (hall 17 (by decide))
                  obtain ⟨x89, hx89⟩ : ∃ x, A.eval (.tmp 89) = x := ⟨_, rfl⟩
                  have f89 : (fun v _ => v = (Value.int .i64 (vn : Nat))) x89 u1 := by rw [← hx89]; exact hh.got 18 _ 89 rfl rfl (hall 18 (by decide))
                  obtain ⟨x90, hx90⟩ : ∃ x, A.eval (.tmp 90) = x := ⟨_, rfl⟩
                  have f90 : (fun v _ => v = (Value.int .u64 (vn : Nat))) x90 u1 := by rw [← hx90]; exact hh.got 19 _ 90 rfl rfl (hall 19 (by decide))
                  obtain ⟨x91, hx91⟩ : ∃ x, A.eval (.tmp 91) = x := ⟨_, rfl⟩
                  have f91 : (fun v _ => v = (Value.bool false)) x91 u1 := by rw [← hx91]; exact hh.got 20 _ 91 rfl rfl (hall 20 (by decide))
                  obtain ⟨x92, hx92⟩ : ∃ x, A.eval (.tmp 92) = x := ⟨_, rfl⟩
                  have f92 : (fun v _ => v = (Value.bool false)) x92 u1 := by rw [← hx92]; exact hh.got 21 _ 92 rfl rfl (hall 21 (by decide))
                  dsimp only [wrote, List.foldl] at hA
                  rw [hx71, hx72, hx73, hx74, hx75, hx76, hx77, hx78, hx79, hx80, hx81, hx82, hx83, hx84, hx85, hx86, hx87, hx88, hx89, hx90, hx91, hx92] at hA
                  clear hh hall hx71 hx72 hx73 hx74 hx75 hx76 hx77 hx78 hx79 hx80 hx81 hx82 hx83 hx84 hx85 hx86 hx87 hx88 hx89 hx90 hx91 hx92
                  replace f71 := (f71 : x71 = (.int .i64 (k : Nat)))
                  subst f71
                  replace f72 := (f72 : x72 = (.pointer (some ⟨p3, k, none⟩)))
                  subst f72
                  replace f73 := (f73 : x73 = (.pointer (some ⟨B k, 0, none⟩)))
                  subst f73
                  replace f74 := (f74 : x74 = (.agg S.toArray))
                  subst f74
                  replace f75 := (f75 : x75 = (.int .i64 (k : Nat)))
                  subst f75
                  replace f76 := (f76 : x76 = (.pointer (some ⟨p4, k, none⟩)))
                  subst f76
                  replace f77 := (f77 : x77 = (.slice va vn vc))
                  subst f77
                  obtain ⟨V78, e78, HV78⟩ := f78
                  subst e78
                  replace f79 := (f79 : x79 = (.agg S.toArray))
                  subst f79
                  replace f80 := (f80 : x80 = (.bool false))
                  subst f80
                  replace f81 := (f81 : x81 = (.bool false))
                  subst f81
                  replace f82 := (f82 : x82 = (.int .i64 (k : Nat)))
                  subst f82
                  replace f83 := (f83 : x83 = (.pointer (some ⟨p3, k, none⟩)))
                  subst f83
                  replace f84 := (f84 : x84 = (.pointer (some ⟨B k, 0, none⟩)))
                  subst f84
                  replace f85 := (f85 : x85 = (.int .u64 (vn : Nat)))
                  subst f85
                  replace f86 := (f86 : x86 = (.int .i64 (k : Nat)))
                  subst f86
                  replace f87 := (f87 : x87 = (.pointer (some ⟨p4, k, none⟩)))
                  subst f87
                  replace f88 := (f88 : x88 = (.slice va vn vc))
                  subst f88
                  replace f89 := (f89 : x89 = (.int .i64 (vn : Nat)))
                  subst f89
                  replace f90 := (f90 : x90 = (.int .u64 (vn : Nat)))
                  subst f90
                  replace f91 := (f91 : x91 = (.bool false))
                  subst f91
                  replace f92 := (f92 : x92 = (.bool false))
                  subst f92
                  subst hA
                  show wpList _ _ _ [] _ _
                  unfold wpList
                  simp only [Act.put, List.setIfInBounds_toArray, List.set_cons_succ, List.set_cons_zero]
                  have HT := hid HU.out
                  clear HU
                  go_wp2_with fail
                  go_roundw
                  case rel => exact ⟨k + 1, by omega, by go_num, hid (gtrans HQ.out HT.out)⟩
                  case measure => simp [intOf]; omega
              · have hk9 : ¬ (k : Int) < 8 := by omega
                go_wp2_with (go_at_call 12; (with_reducible refine (HWk.out _ (gtrans HGf.out HQ.out)).mono ?_); rintro e w9 ⟨rfl, hg9⟩; have HG9 := hid hg9; clear hg9)
                go_ret
                exact ⟨rfl, gtrans (gtrans HGf.out HQ.out) HG9.out⟩
          · have hsm : N1 ≤ s := by omega
            have HSM := hid hsm
            clear hsm
            go_upto_region 15 with fail
            have HcB : Hid (∀ u, wr.grownBy u none → u.cell? ⟨p3, r, none⟩ = some (.pointer (some ⟨B r, 0, none⟩))) := fun u hu => by rw [(HM.out.hp.keep hu).cell, cells8_get _ r hr8]
            have HcR : Hid (∀ u, wr.grownBy u none → u.cell? ⟨b, o + i, none⟩ = some (.slice a1 N1 q1)) := fun u hu => (HC1.out u (gtrans HG.out hu)).1
            have HCp : Hid (∀ u, wr.grownBy u none → Calls Tryd.prog 8 #[.slice a1 N1 q1] u fun e w' => ∃ v', e = .returned v' ∧ Out u.heap.size w' v' X ∧ u.grownBy w' none) := fun u hu => copyR_any u _ _ X (HR1.out u (gtrans HG.out hu)) (by rw [HNX.out]; have := HL1.out; omega)
            have HWr : Hid (∀ (u : World) (v : Value), wr.grownBy u none → Out wr.heap.size u v X → Calls Tryd.prog 14 #[.pointer (some ⟨B r, 0, none⟩), v] u fun e w' => e = .returned (.tuple #[]) ∧ Hs w' (B r) (L r ++ X) ∧ u.grownBy w' (some (B r))) := fun u v hu ho => by
              have hh := (HM.out.hs r hr8)
              refine write_any u (B r) (L r) v (fun k => wr.heap.size ≤ k) X (hh.1.keep hu) ho.rd (by have := hh.1.lt; omega) (HGl.out u (gtrans HG.out hu)) (by have := hh.2; have := HN.out; have := (HGl.out w (grefl _ _)).sz; omega) ?_
              have h1 := HL.out r hr8
              have h2 := HSM.out
              rw [HNX.out]
              omega
            refine wp_region_held_drew (S := fun u => u.cell? ⟨p3, r, none⟩ = some (.pointer (some ⟨B r, 0, none⟩)) ∧ u.cell? ⟨b, o + i, none⟩ = some (.slice a1 N1 q1)) (by kernel_rfl) ?_ (fun hHeld => ?_)
            · exact ⟨HcB.out _ (gdrew1 _ _), HcR.out _ (gdrew1 _ _)⟩
            refine wpAnyH_take (i := 0) (oi := { dst := some 39, op := Op.move (Operand.tmp 7), type := 3, pos := "outright.go:109", after := #[], guard := none }) (v := (.int .i64 (i : Nat))) rfl (by kernel_rfl) (by kernel_rfl) (by kernel_rfl) (fun _ _ _ h => h) (yieldsIf_mv rfl (.tmp 7) rfl _ rfl) (by assumption) ?_
            (try simp only [Act.put, List.setIfInBounds_toArray, List.set_cons_zero, List.set_cons_succ])
            refine wpAnyH_take (i := 1) (oi := { dst := some 40, op := Op.binOp BinOp.rem 3 (Operand.tmp 39) (Operand.const (Value.int IntKind.i64 8)) 3, type := 3, pos := "outright.go:109", after := #[{ on := 0, ground := Ground.data }], guard := none }) (v := (.int .i64 (r : Nat))) rfl (by kernel_rfl) (by kernel_rfl) (by kernel_rfl) (fun _ _ _ h => h) (yieldsIf_bin rfl .rem 3 (.tmp 39) _ 3 rfl _ _ _ rfl rfl (HRem.out _ _)) (by assumption) ?_
            (try simp only [Act.put, List.setIfInBounds_toArray, List.set_cons_zero, List.set_cons_succ])
            refine wpAnyH_take (i := 2) (oi := { dst := some 41, op := Op.indexAddr 35 (Operand.tmp 3) (Operand.tmp 40), type := 0, pos := "outright.go:109", after := #[{ on := 1, ground := Ground.data }], guard := none }) (v := (.pointer (some ⟨p3, r, none⟩))) rfl (by kernel_rfl) (by kernel_rfl) (by kernel_rfl) (fun _ _ _ h => h) (yieldsIf_idx rfl 35 (.tmp 3) (.tmp 40) rfl _ _ _ rfl rfl (idx35 p3 r hr8)) (by assumption) ?_
            (try simp only [Act.put, List.setIfInBounds_toArray, List.set_cons_zero, List.set_cons_succ])
            refine wpAnyH_take (i := 3) (oi := { dst := some 42, op := Op.load 34 (Operand.tmp 41), type := 34, pos := "outright.go:109", after := #[{ on := 2, ground := Ground.data }], guard := none }) (v := (.pointer (some ⟨B r, 0, none⟩))) rfl (by kernel_rfl) (by kernel_rfl) (by kernel_rfl) (fun _ _ _ h => h) (yieldsIf_ld rfl 34 (.tmp 41) rfl _ _ rfl (fun u hu => ld34 p3 r _ u hu.1)) (by assumption) ?_
            (try simp only [Act.put, List.setIfInBounds_toArray, List.set_cons_zero, List.set_cons_succ])
            refine wpAnyH_take (i := 4) (oi := { dst := some 43, op := Op.move (Operand.tmp 0), type := 22, pos := "outright.go:109", after := #[], guard := none }) (v := (.slice (some ⟨b, o, none⟩) n c)) rfl (by kernel_rfl) (by kernel_rfl) (by kernel_rfl) (fun _ _ _ h => h) (yieldsIf_mv rfl (.tmp 0) rfl _ rfl) (by assumption) ?_
            (try simp only [Act.put, List.setIfInBounds_toArray, List.set_cons_zero, List.set_cons_succ])
            refine wpAnyH_take (i := 5) (oi := { dst := some 44, op := Op.move (Operand.tmp 7), type := 3, pos := "outright.go:109", after := #[], guard := none }) (v := (.int .i64 (i : Nat))) rfl (by kernel_rfl) (by kernel_rfl) (by kernel_rfl) (fun _ _ _ h => h) (yieldsIf_mv rfl (.tmp 7) rfl _ rfl) (by assumption) ?_
            (try simp only [Act.put, List.setIfInBounds_toArray, List.set_cons_zero, List.set_cons_succ])
            refine wpAnyH_take (i := 6) (oi := { dst := some 45, op := Op.indexAddr 22 (Operand.tmp 43) (Operand.tmp 44), type := 0, pos := "outright.go:109", after := #[{ on := 4, ground := Ground.data }, { on := 5, ground := Ground.data }], guard := none }) (v := (.pointer (some ⟨b, o + i, none⟩))) rfl (by kernel_rfl) (by kernel_rfl) (by kernel_rfl) (fun _ _ _ h => h) (yieldsIf_idx rfl 22 (.tmp 43) (.tmp 44) rfl _ _ _ rfl rfl (idx22 b o n c i hlt1)) (by assumption) ?_
            (try simp only [Act.put, List.setIfInBounds_toArray, List.set_cons_zero, List.set_cons_succ])
            refine wpAnyH_take (i := 7) (oi := { dst := some 46, op := Op.load 25 (Operand.tmp 45), type := 25, pos := "outright.go:109", after := #[{ on := 6, ground := Ground.data }], guard := none }) (v := (.slice a1 N1 q1)) rfl (by kernel_rfl) (by kernel_rfl) (by kernel_rfl) (fun _ _ _ h => h) (yieldsIf_ld rfl 25 (.tmp 45) rfl _ _ rfl (fun u hu => ld25 b (o + i) N1 q1 a1 u hu.2)) (by assumption) ?_
            (try simp only [Act.put, List.setIfInBounds_toArray, List.set_cons_zero, List.set_cons_succ])
            refine wpAnyH_ready (rs := [8]) (by kernel_rfl) (by simp) ?_
            refine AllReadyH.cons rfl (fun K hK => ?_) AllReadyH.nil
            go_simp
            go_wp2_with (go_at_call 8; (with_reducible refine (HCp.out _ (gdrew1 _ _)).mono ?_); rintro e u1 ⟨x1, rfl, hO1, hg1⟩; have HT := hid (gtrans (gdrew1 wr none) hg1); have HO := hid (hO1.below (C := wr.heap.size) (gdrew1 wr none).size); clear hO1 hg1)
            refine hK.out _ _ ?_ (fun hHeld => ?_)
            · exact ⟨HcB.out _ HT.out, HcR.out _ HT.out⟩
            clear hK K
            (try simp only [Act.put, List.setIfInBounds_toArray, List.set_cons_zero, List.set_cons_succ])
            refine wpAnyH_ready (rs := [9]) (by kernel_rfl) (by simp) ?_
            refine AllReadyH.cons rfl (fun K hK => ?_) AllReadyH.nil
            go_simp
            go_wp2_with (go_at_call 14; (with_reducible refine (HWr.out _ _ HT.out HO.out).mono ?_); rintro e u2 ⟨rfl, hH2, hg2⟩; have HH2 := hid hH2; have HG2 := hid hg2; have HM2 := hid ((HM.out.keep HT.out).wrote hr8 HG2.out HH2.out); have HW2 := hid ((gtrans HG.out HT.out).andThen HG2.out (fun j hj => .inl (by have hj' : B r = j := Option.some.inj hj; have := (HM.out.hs r hr8).2; have := HN.out; omega))); clear hH2 hg2)
            refine hK.out _ _ ?_ (fun hHeld => ?_)
            · exact ⟨by rw [HM2.out.hp.cell, cells8_get _ r hr8], (HC1.out _ HW2.out).1⟩
            clear hK K
            (try simp only [Act.put, List.setIfInBounds_toArray, List.set_cons_zero, List.set_cons_succ])
            refine wpAnyH_done (by kernel_rfl) ?_ _
            go_upto_region 16 with fail
            have HC2 : Hid (C ≤ u2.heap.size) := hid (by have := HC.out; have := HT.out.size; have := HG2.out.size; omega)
            clear HM HG HC HT HO HG2 HH2 HWr y0 y1 HcB HcR HCp
            obtain ⟨va, _, _, vc, hve, -⟩ := (HM2.out.os r hr8).rd
            obtain ⟨vn, hvn⟩ : ∃ x, (L r).length = x := ⟨_, rfl⟩
            rw [hvn] at hve
            have HVe := hid hve
            have HVn := hid hvn
            clear hve hvn
            have HSk : Hid (∀ u, u2.grownBy u none → u.cell? ⟨p4, r, none⟩ = some (.slice va vn vc) ∧ u.cell? ⟨b, o + i, none⟩ = some (.slice a1 N1 q1)) := fun u hu => ⟨by rw [(HM2.out.vp.keep hu).cell, cells8_get _ r hr8, HVe.out], (HC1.out u (gtrans HW2.out hu)).1⟩
            have HOr : Hid (∀ u, u2.grownBy u none → Out C u (.slice va vn vc) (L r)) := fun u hu => by
              rw [← HVe.out]
              exact (HM2.out.os r hr8).keep hu
            have HKp : Hid (∀ u, u2.grownBy u (Value.slice va vn vc).ownBlock → u.cell? ⟨p4, r, none⟩ = some (.slice va vn vc) ∧ u.cell? ⟨b, o + i, none⟩ = some (.slice a1 N1 q1) ∧ Blk u p4 (cells8 V) 36) := fun u hu => by
              have hO := HM2.out.os r hr8
              rw [HVe.out] at hO
              have hb := HM2.out.vp.on hu (hO.apartBlk HM2.out.vp (by decide))
              refine ⟨by rw [hb.cell, cells8_get _ r hr8, HVe.out], ?_, hb⟩
              have h1 := HC1.out u2 HW2.out
              rw [cell_at hu h1.2 (fun e => by have := hO.block _ e; have h2 := (HC1.out w (grefl _ _)).2; have := HN.out; omega)]
              exact h1.1
            refine wp_region_held_drew (S := fun u => u.cell? ⟨b, o + i, none⟩ = some (.slice a1 N1 q1)) (by kernel_rfl) ?_ (fun hHeld => ?_)
            · exact (HSk.out _ (gdrew1 _ _)).2
            refine wpAnyH_take (i := 0) (oi := { dst := some 49, op := Op.move (Operand.tmp 7), type := 3, pos := "outright.go:110", after := #[], guard := none }) (v := (.int .i64 (i : Nat))) rfl (by kernel_rfl) (by kernel_rfl) (by kernel_rfl) (fun _ _ _ h => h) (yieldsIf_mv rfl (.tmp 7) rfl _ rfl) (by assumption) ?_
            (try simp only [Act.put, List.setIfInBounds_toArray, List.set_cons_zero, List.set_cons_succ])
            refine wpAnyH_take (i := 1) (oi := { dst := some 50, op := Op.binOp BinOp.rem 3 (Operand.tmp 49) (Operand.const (Value.int IntKind.i64 8)) 3, type := 3, pos := "outright.go:110", after := #[{ on := 0, ground := Ground.data }], guard := none }) (v := (.int .i64 (r : Nat))) rfl (by kernel_rfl) (by kernel_rfl) (by kernel_rfl) (fun _ _ _ h => h) (yieldsIf_bin rfl .rem 3 (.tmp 49) _ 3 rfl _ _ _ rfl rfl (HRem.out _ _)) (by assumption) ?_
            (try simp only [Act.put, List.setIfInBounds_toArray, List.set_cons_zero, List.set_cons_succ])
            refine wpAnyH_take (i := 2) (oi := { dst := some 51, op := Op.move (Operand.tmp 7), type := 3, pos := "outright.go:110", after := #[], guard := none }) (v := (.int .i64 (i : Nat))) rfl (by kernel_rfl) (by kernel_rfl) (by kernel_rfl) (fun _ _ _ h => h) (yieldsIf_mv rfl (.tmp 7) rfl _ rfl) (by assumption) ?_
            (try simp only [Act.put, List.setIfInBounds_toArray, List.set_cons_zero, List.set_cons_succ])
            refine wpAnyH_take (i := 3) (oi := { dst := some 52, op := Op.binOp BinOp.rem 3 (Operand.tmp 51) (Operand.const (Value.int IntKind.i64 8)) 3, type := 3, pos := "outright.go:110", after := #[{ on := 2, ground := Ground.data }], guard := none }) (v := (.int .i64 (r : Nat))) rfl (by kernel_rfl) (by kernel_rfl) (by kernel_rfl) (fun _ _ _ h => h) (yieldsIf_bin rfl .rem 3 (.tmp 51) _ 3 rfl _ _ _ rfl rfl (HRem.out _ _)) (by assumption) ?_
            (try simp only [Act.put, List.setIfInBounds_toArray, List.set_cons_zero, List.set_cons_succ])
            refine wpAnyH_take (i := 4) (oi := { dst := some 53, op := Op.indexAddr 36 (Operand.tmp 4) (Operand.tmp 52), type := 0, pos := "outright.go:110", after := #[{ on := 3, ground := Ground.data }], guard := none }) (v := (.pointer (some ⟨p4, r, none⟩))) rfl (by kernel_rfl) (by kernel_rfl) (by kernel_rfl) (fun _ _ _ h => h) (yieldsIf_idx rfl 36 (.tmp 4) (.tmp 52) rfl _ _ _ rfl rfl (idx36 p4 r hr8)) (by assumption) ?_
            (try simp only [Act.put, List.setIfInBounds_toArray, List.set_cons_zero, List.set_cons_succ])
            refine wpAnyH_take (i := 6) (oi := { dst := some 55, op := Op.move (Operand.tmp 0), type := 22, pos := "outright.go:110", after := #[], guard := none }) (v := (.slice (some ⟨b, o, none⟩) n c)) rfl (by kernel_rfl) (by kernel_rfl) (by kernel_rfl) (fun _ _ _ h => h) (yieldsIf_mv rfl (.tmp 0) rfl _ rfl) (by assumption) ?_
            (try simp only [Act.put, List.setIfInBounds_toArray, List.set_cons_zero, List.set_cons_succ])
            refine wpAnyH_take (i := 7) (oi := { dst := some 56, op := Op.move (Operand.tmp 7), type := 3, pos := "outright.go:110", after := #[], guard := none }) (v := (.int .i64 (i : Nat))) rfl (by kernel_rfl) (by kernel_rfl) (by kernel_rfl) (fun _ _ _ h => h) (yieldsIf_mv rfl (.tmp 7) rfl _ rfl) (by assumption) ?_
            (try simp only [Act.put, List.setIfInBounds_toArray, List.set_cons_zero, List.set_cons_succ])
            refine wpAnyH_take (i := 8) (oi := { dst := some 57, op := Op.indexAddr 22 (Operand.tmp 55) (Operand.tmp 56), type := 0, pos := "outright.go:110", after := #[{ on := 6, ground := Ground.data }, { on := 7, ground := Ground.data }], guard := none }) (v := (.pointer (some ⟨b, o + i, none⟩))) rfl (by kernel_rfl) (by kernel_rfl) (by kernel_rfl) (fun _ _ _ h => h) (yieldsIf_idx rfl 22 (.tmp 55) (.tmp 56) rfl _ _ _ rfl rfl (idx22 b o n c i hlt1)) (by assumption) ?_
            (try simp only [Act.put, List.setIfInBounds_toArray, List.set_cons_zero, List.set_cons_succ])
            refine wpAnyH_take (i := 9) (oi := { dst := some 58, op := Op.load 25 (Operand.tmp 57), type := 25, pos := "outright.go:110", after := #[{ on := 8, ground := Ground.data }], guard := none }) (v := (.slice a1 N1 q1)) rfl (by kernel_rfl) (by kernel_rfl) (by kernel_rfl) (fun _ _ _ h => h) (yieldsIf_ld rfl 25 (.tmp 57) rfl _ _ rfl (fun u hu => ld25 b (o + i) N1 q1 a1 u hu)) (by assumption) ?_
            (try simp only [Act.put, List.setIfInBounds_toArray, List.set_cons_zero, List.set_cons_succ])
            refine wpAnyH_ready (rs := [5]) (by kernel_rfl) (by simp) ?_
            refine AllReadyH.cons rfl (fun K hK => ?_) AllReadyH.nil
            have hc5 := (HSk.out _ (gdrew1 u2 none)).1
            go_simp
            refine hK.out _ _ ?_ (fun hHeld => ?_)
            · exact (HSk.out _ (gdrew1 _ _)).2
            clear hK K
            (try simp only [Act.put, List.setIfInBounds_toArray, List.set_cons_zero, List.set_cons_succ])
            refine wpAnyH_ready (rs := [10]) (by kernel_rfl) (by simp) ?_
            refine AllReadyH.cons rfl (fun K hK => ?_) AllReadyH.nil
            refine step_append_at rfl (.tmp 54) (.tmp 58) rfl C _ (L r) X (HOr.out _ (gdrew1 _ _)) (HR1.out _ (gtrans HW2.out (gdrew1 _ _))) (by have h1 := HL.out r hr8; have h2 := HSM.out; rw [HNX.out]; omega) (by have := HC2.out; exact this) ?_
            intro x3 u3 hO3 hg3 hat3
            obtain ⟨xa, _, _, xc, hxe, -⟩ := hO3.rd
            obtain ⟨xn, hxn⟩ : ∃ x, (L r ++ X).length = x := ⟨_, rfl⟩
            rw [hxn] at hxe
            subst hxe
            have HO3 := hid hO3
            have HG3 : Hid (u2.grownBy u3 (Value.slice va vn vc).ownBlock) := hid (gtrans (gsome (gdrew1 u2 none) _) hg3)
            have HAt : Hid ((Value.slice xa xn xc).ownBlock = (Value.slice va vn vc).ownBlock ∨ (Value.slice xa xn xc).ownBlock = some u2.heap.size) := hid hat3
            have HCel := hid (HKp.out u3 HG3.out)
            clear hO3 hg3 hat3 hxn
            refine hK.out _ _ ?_ (fun hHeld => ?_)
            · exact HCel.out.2.1
            clear hK K
            (try simp only [Act.put, List.setIfInBounds_toArray])
            refine wpAnyH_take (i := 11) (oi := { dst := some 60, op := Op.indexAddr 36 (Operand.tmp 4) (Operand.tmp 50), type := 0, pos := "outright.go:110", after := #[{ on := 1, ground := Ground.data }, { on := 0, ground := Ground.phase }, { on := 1, ground := Ground.phase }, { on := 2, ground := Ground.phase }, { on := 3, ground := Ground.phase }, { on := 4, ground := Ground.phase }, { on := 5, ground := Ground.phase }, { on := 6, ground := Ground.phase }, { on := 7, ground := Ground.phase }, { on := 8, ground := Ground.phase }, { on := 9, ground := Ground.phase }, { on := 10, ground := Ground.phase }], guard := none }) (v := (.pointer (some ⟨p4, r, none⟩))) rfl (by kernel_rfl) (by kernel_rfl) (by kernel_rfl) (fun _ _ _ h => h) (yieldsIf_idx rfl 36 (.tmp 4) (.tmp 50) rfl _ _ _ rfl rfl (idx36 p4 r hr8)) (by assumption) ?_
            (try simp only [Act.put])
            refine wpAnyH_ready (rs := [12]) (by kernel_rfl) (by simp) ?_
            refine AllReadyH.cons rfl (fun K hK => ?_) AllReadyH.nil
            have hfz := HCel.out.2.2.frozen r
            have hc12 := HCel.out.1
            go_simp
            obtain ⟨u4, hu4⟩ : ∃ x, u3.setCell ⟨p4, r, none⟩ (Value.slice xa xn xc) = x := ⟨_, rfl⟩
            rw [hu4]
            have HG4 : Hid (u3.grownBy u4 (some p4)) := hid (by rw [← hu4]; exact gset _ _ _)
            have HP4 : Hid (Blk u4 p4 ((cells8 V).set r (.slice xa xn xc)) 36) := hid (by rw [← hu4]; exact HCel.out.2.2.set r _)
            clear hu4 hfz hc12
            refine hK.out _ _ ?_ (fun hHeld => ?_)
            · exact by rw [cell_at HG4.out (Nat.lt_of_lt_of_le (HC1.out u2 HW2.out).2 HG3.out.size) (fun e => by have e' : p4 = b := Option.some.inj e; have h2 := (HC1.out w (grefl _ _)).2; have := HN.out; omega)]; exact HCel.out.2.1
            clear hK K
            refine wpAnyH_done (by kernel_rfl) ?_ _
            have HM4 := hid (HM2.out.appended hr8 (by rw [HVe.out]; exact HG3.out) HO3.out (by rw [HVe.out]; exact HAt.out) HG4.out HP4.out)
            have HW4 : Hid (w.grownBy u4 none) := hid ((HW2.out.andThen HG3.out (fun j hj => .inl (by have hO := HM2.out.os r hr8; rw [HVe.out] at hO; have := hO.block _ hj; have := HN.out; omega))).andThen HG4.out (fun j hj => .inl (by have hj' : p4 = j := Option.some.inj hj; have := HN.out; omega)))
            have HC4 : Hid (C ≤ u4.heap.size) := hid (by have := HC2.out; have := HG3.out.size; have := HG4.out.size; omega)
            clear HM2 HW2 HG3 HO3 HAt HG4 HP4 HOr HKp HSk HCel HC2 HVe hHeld
            have y0 : u4.cell? ⟨p3, r3, none⟩ = some (.pointer (some ⟨B r3, 0, none⟩)) := by rw [HM4.out.hp.cell, cells8_get _ r3 hr38]
            have y1 := HM4.out.hp.lt
            have hr39 : (r3 : Int) < 8 := by omega
            have er4 : Int.tmod ((i : Int) + 3) 8 = (r3 : Int) := by rw [Int.tmod_eq_emod_of_nonneg (by omega)]; exact er3
            have HL4 : Hid (∀ j, j < 8 → (upd L r (L r ++ X) j).length + (s - N1) ≤ 65536) := hid (fun j hj => by
              have h1 := HL.out j hj
              have h2 := HSM.out
              by_cases e : j = r
              · subst e
                rw [upd_same, List.length_append, HNX.out]
                omega
              · rw [upd_ne _ _ e]
                omega)
            have HSu : Hid (Calls Tryd.prog 15 #[.pointer (some ⟨B r3, 0, none⟩)] u4 fun e w' => ∃ x, e = .returned x ∧ u4.grownBy w' none) := hid ((hsum_any u4 (B r3) _ (HM4.out.hs r3 hr38).1 (HGl.out u4 HW4.out) (by have := HL4.out r3 hr38; omega)).mono fun e w' ⟨he, hg⟩ => ⟨_, he, hg⟩)
            go_wp2_with (go_at_call 15; (with_reducible refine HSu.out.mono ?_); rintro e u5 ⟨x5, rfl, hg5⟩; have HG5 := hid hg5; clear hg5)
            go_roundw
            case rel => exact ⟨s - N1, i + 1, upd V r (.slice xa xn xc), upd L r (L r ++ X), by rw [show ((s - N1 : Nat) : Int) = T - Y by have := HSM.out; omega], by go_num, by omega, hid (by have := HS.out; omega), HL4, hid (HM4.out.keep HG5.out), hid (gtrans HW4.out HG5.out), hid (Nat.le_trans HC4.out HG5.out.size)⟩
            case measure => simp [intOf]; omega
        · by_cases h1 : i < n
          · have i1 : (i : Int) < (n : Int) := by omega
            have i2 : ¬ (i : Int) < 200 := by omega
            clear hlt
            go_wp2_with fail
            have HMf := HM
            have HGf := HG
            obtain ⟨wx, hwx⟩ : ∃ x, x = wr := ⟨_, rfl⟩
            subst hwx
            go_loopw [8] (fun kv wq => ∃ k : Nat, k ≤ 8 ∧ kv = .int .i64 k ∧ Hid (wx.grownBy wq none)) (fun kv _ => 8 - (intOf kv).toNat)
            case atStart => exact ⟨0, by omega, rfl, hid (grefl _ _)⟩
            case round =>
              obtain ⟨k, hk, rfl, HQ⟩ := hrel
              by_cases hk8 : k < 8
              · have hk8' : (k : Int) < 8 := by omega
                have HMk := hid (HMf.out.keep HQ.out)
                have HGk := hid (gtrans HGf.out HQ.out)
                obtain ⟨va, _, _, vc, hve, -⟩ := (HMk.out.os k hk8).rd
                obtain ⟨X, HX⟩ : ∃ x, Hid (L k = x) := ⟨_, hid rfl⟩
                obtain ⟨vn, hvn⟩ : ∃ x, (L k).length = x := ⟨_, rfl⟩
                rw [hvn] at hve
                have HVe := hid hve
                have HXn : Hid (X.length = vn) := hid (by rw [← HX.out]; exact hvn)
                have HVn : Hid (vn ≤ 65536) := hid (by have := HL.out k hk8; omega)
                clear hve hvn
                obtain ⟨S, HSe⟩ : ∃ x, Hid (Lib.byteCells (sumL X) = x) := ⟨_, hid rfl⟩
                have HcB : Hid (∀ u, wr.grownBy u none → u.cell? ⟨p3, k, none⟩ = some (.pointer (some ⟨B k, 0, none⟩))) := fun u hu => by rw [(HMk.out.hp.keep hu).cell, cells8_get _ k hk8]
                have HcV : Hid (∀ u, wr.grownBy u none → u.cell? ⟨p4, k, none⟩ = some (.slice va vn vc)) := fun u hu => by rw [(HMk.out.vp.keep hu).cell, cells8_get _ k hk8, HVe.out]
                have HSm : Hid (∀ u, wr.grownBy u none → Calls Tryd.prog 15 #[.pointer (some ⟨B k, 0, none⟩)] u fun e w' => e = .returned (.agg S.toArray) ∧ u.grownBy w' none) := fun u hu => by
                  have := hsum_any u (B k) (L k) ((HMk.out.hs k hk8).1.keep hu) (HGl.out u (gtrans HGk.out hu)) (by rw [HX.out, HXn.out]; have := HVn.out; omega)
                  rw [HX.out, HSe.out] at this
                  exact this
                have HLn : Hid (∀ u, wr.grownBy u none → Calls Tryd.prog 16 #[.pointer (some ⟨B k, 0, none⟩)] u fun e w' => e = .returned (.int .u64 (vn : Nat)) ∧ u.grownBy w' none) := fun u hu => by
                  have h := ((HMk.out.hs k hk8).1.keep hu).taken
                  rw [HX.out, HXn.out] at h
                  exact (len_any vn (B k) u h).mono fun e w' ⟨he, hw⟩ => ⟨he, by rw [hw]; exact grefl _ _⟩
                have HCp : Hid (∀ u, wr.grownBy u none → Calls Tryd.prog 8 #[.slice va vn vc] u fun e w' => ∃ v', e = .returned v' ∧ Out u.heap.size w' v' X ∧ u.grownBy w' none) := fun u hu => by
                  have h := ((HMk.out.os k hk8).keep hu).rd
                  rw [HVe.out, HX.out] at h
                  exact copyR_any u _ _ X h (by rw [HXn.out]; have := HVn.out; omega)
                have HDs : Hid (∀ (u : World) (v : Value), wr.grownBy u none → Rd u (fun _ => True) v X → Calls Tryd.prog 9 #[v] u fun e w' => e = .returned (.agg S.toArray) ∧ u.grownBy w' none) := fun u v hu h => by
                  rw [← HSe.out]
                  exact dsum_any u v _ X h (HGl.out u (gtrans HGk.out hu)) (by rw [HXn.out]; have := HVn.out; omega)
                have HNe : Hid (∀ (x y : Operand) (u : World), (do eqGuard .neq 26 x y (.agg S.toArray) (.agg S.toArray); binOp .neq 26 (.agg S.toArray) (.agg S.toArray) : Sem Value).run Tryd.prog u = .ok (.bool false) u) := fun x y u => by
                  rw [← HSe.out, neqG_32]
                  exact neq_self _ (sumL_length _) u
                have HCv : Hid (∀ u : World, (convert 3 40 (.int .i64 (vn : Nat))).run Tryd.prog u = .ok (.int .u64 (vn : Nat)) u) := fun u => cv40 vn HVn.out u
                go_upto_region 21 with fail
                refine wp_region_list (by kernel_rfl) [fun v _ => v = (Value.int .i64 (k : Nat)), fun v _ => v = (Value.pointer (some ⟨p3, k, none⟩)), fun v _ => v = (Value.pointer (some ⟨B k, 0, none⟩)), fun v _ => v = (Value.agg S.toArray), fun v _ => v = (Value.int .i64 (k : Nat)), fun v _ => v = (Value.pointer (some ⟨p4, k, none⟩)), fun v _ => v = (Value.slice va vn vc), fun v u => ∃ z, v = z ∧ Rd u (fun _ => True) z X, fun v _ => v = (Value.agg S.toArray), fun v _ => v = (Value.bool false), fun v _ => v = (Value.bool false), fun v _ => v = (Value.int .i64 (k : Nat)), fun v _ => v = (Value.pointer (some ⟨p3, k, none⟩)), fun v _ => v = (Value.pointer (some ⟨B k, 0, none⟩)), fun v _ => v = (Value.int .u64 (vn : Nat)), fun v _ => v = (Value.int .i64 (k : Nat)), fun v _ => v = (Value.pointer (some ⟨p4, k, none⟩)), fun v _ => v = (Value.slice va vn vc), fun v _ => v = (Value.int .i64 (vn : Nat)), fun v _ => v = (Value.int .u64 (vn : Nat)), fun v _ => v = (Value.bool false), fun v _ => v = (Value.bool false)] (none) (fun _ => none) 22 (by kernel_rfl) (by kernel_rfl) (by kernel_rfl) (by kernel_rfl) (by decide) noRow_one (fun _ => .inl rfl) ⟨fun i v u u' hki h hg => h, fun i v u u' hki h hg => h, fun i v u u' hki h hg => h, fun i v u u' hki h hg => h, fun i v u u' hki h hg => h, fun i v u u' hki h hg => h, fun i v u u' hki h hg => h, fun i v u u' hki h hg => (by obtain ⟨z, rfl, h1⟩ := h; exact ⟨_, rfl, h1.keep hg⟩), fun i v u u' hki h hg => h, fun i v u u' hki h hg => h, fun i v u u' hki h hg => h, fun i v u u' hki h hg => h, fun i v u u' hki h hg => h, fun i v u u' hki h hg => h, fun i v u u' hki h hg => h, fun i v u u' hki h hg => h, fun i v u u' hki h hg => h, fun i v u u' hki h hg => h, fun i v u u' hki h hg => h, fun i v u u' hki h hg => h, fun i v u u' hki h hg => h, fun i v u u' hki h hg => h, trivial⟩ ⟨?_, ?_, ?_, ?_, ?_, ?_, ?_, ?_, ?_, ?_, ?_, ?_, ?_, ?_, ?_, ?_, ?_, ?_, ?_, ?_, ?_, ?_, trivial⟩ ?_
                · intro A u hu hpu hsz hout hdeps
                  have e8 : A.eval (.tmp 8) = (.int .i64 (k : Nat)) := (hout 8 (by kernel_rfl)).trans rfl
                  refine ifw_none rfl ?_
                  with_reducible refine shown_q (Value.int .i64 (k : Nat)) ?qq_2b_0 (fun _ _ => ?qr_2b_0)
                  case qr_2b_0 => exact (rfl : (Value.int .i64 (k : Nat)) = (Value.int .i64 (k : Nat)))
                  with_reducible refine quietAt_mv (.tmp 8) (Value.int .i64 (k : Nat)) ?h0_2b_0 ?h1_2b_0
                  case h0_2b_0 => rfl
                  case h1_2b_0 => exact e8
                · intro A u hu hpu hsz hout hdeps
                  have e3 : A.eval (.tmp 3) = (.pointer (some ⟨p3, 0, none⟩)) := (hout 3 (by kernel_rfl)).trans rfl
                  have e71 : A.eval (.tmp 71) = (.int .i64 (k : Nat)) := by have h := depL hdeps 0 (by kernel_rfl) 71 (by kernel_rfl); exact h
                  refine ifw_none rfl ?_
                  with_reducible refine shown_q (Value.pointer (some ⟨p3, k, none⟩)) ?qq_2b_1 (fun _ _ => ?qr_2b_1)
                  case qr_2b_1 => exact (rfl : (Value.pointer (some ⟨p3, k, none⟩)) = (Value.pointer (some ⟨p3, k, none⟩)))
                  with_reducible refine quietAt_idx 35 (.tmp 3) (.tmp 71) (Value.pointer (some ⟨p3, 0, none⟩)) (Value.int .i64 (k : Nat)) (Value.pointer (some ⟨p3, k, none⟩)) ?h0_2b_1 ?h1_2b_1 ?h2_2b_1 ?h3_2b_1
                  case h0_2b_1 => rfl
                  case h1_2b_1 => exact e3
                  case h2_2b_1 => exact e71
                  case h3_2b_1 => exact (idx35 p3 k hk8 u)
                · intro A u hu hpu hsz hout hdeps
                  have e72 : A.eval (.tmp 72) = (.pointer (some ⟨p3, k, none⟩)) := by have h := depL hdeps 1 (by kernel_rfl) 72 (by kernel_rfl); exact h
                  refine ifw_none rfl ?_
                  with_reducible refine shown_q (Value.pointer (some ⟨B k, 0, none⟩)) ?qq_2b_2 (fun _ _ => ?qr_2b_2)
                  case qr_2b_2 => exact (rfl : (Value.pointer (some ⟨B k, 0, none⟩)) = (Value.pointer (some ⟨B k, 0, none⟩)))
                  with_reducible refine quietAt_ld 34 (.tmp 72) (Value.pointer (some ⟨p3, k, none⟩)) (Value.pointer (some ⟨B k, 0, none⟩)) ?h0_2b_2 ?h1_2b_2 ?h2_2b_2
                  case h0_2b_2 => rfl
                  case h1_2b_2 => exact e72
                  case h2_2b_2 => exact (ld34 p3 k _ u (HcB.out u hu))
                · intro A u hu hpu hsz hout hdeps
                  have e73 : A.eval (.tmp 73) = (.pointer (some ⟨B k, 0, none⟩)) := by have h := depL hdeps 2 (by kernel_rfl) 73 (by kernel_rfl); exact h
                  refine ifw_none rfl ?_
                  with_reducible refine shown_q (Value.agg S.toArray) ?qq_2b_3 (fun _ _ => ?qr_2b_3)
                  case qr_2b_3 => exact (rfl : (Value.agg S.toArray) = (Value.agg S.toArray))
                  with_reducible refine quietAt_call 15 Tryd.f15 ?h0_2b_3 ?h1_2b_3 ?h2_2b_3 #[.tmp 73] #[34] ?h3_2b_3 (Value.agg S.toArray) #[(Value.pointer (some ⟨B k, 0, none⟩))] ?h4_2b_3 ?h5_2b_3
                  case h0_2b_3 => exact Tryd.func15
                  case h1_2b_3 => kernel_rfl
                  case h2_2b_3 => kernel_rfl
                  case h3_2b_3 => rfl
                  case h4_2b_3 => exact map1 _ _ _ e73
                  case h5_2b_3 => exact (HSm.out u hu)
                · intro A u hu hpu hsz hout hdeps
                  have e8 : A.eval (.tmp 8) = (.int .i64 (k : Nat)) := (hout 8 (by kernel_rfl)).trans rfl
                  refine ifw_none rfl ?_
                  with_reducible refine shown_q (Value.int .i64 (k : Nat)) ?qq_2b_4 (fun _ _ => ?qr_2b_4)
                  case qr_2b_4 => exact (rfl : (Value.int .i64 (k : Nat)) = (Value.int .i64 (k : Nat)))
                  with_reducible refine quietAt_mv (.tmp 8) (Value.int .i64 (k : Nat)) ?h0_2b_4 ?h1_2b_4
                  case h0_2b_4 => rfl
                  case h1_2b_4 => exact e8
                · intro A u hu hpu hsz hout hdeps
                  have e4 : A.eval (.tmp 4) = (.pointer (some ⟨p4, 0, none⟩)) := (hout 4 (by kernel_rfl)).trans rfl
                  have e75 : A.eval (.tmp 75) = (.int .i64 (k : Nat)) := by have h := depL hdeps 4 (by kernel_rfl) 75 (by kernel_rfl); exact h
                  refine ifw_none rfl ?_
                  with_reducible refine shown_q (Value.pointer (some ⟨p4, k, none⟩)) ?qq_2b_5 (fun _ _ => ?qr_2b_5)
                  case qr_2b_5 => exact (rfl : (Value.pointer (some ⟨p4, k, none⟩)) = (Value.pointer (some ⟨p4, k, none⟩)))
                  with_reducible refine quietAt_idx 36 (.tmp 4) (.tmp 75) (Value.pointer (some ⟨p4, 0, none⟩)) (Value.int .i64 (k : Nat)) (Value.pointer (some ⟨p4, k, none⟩)) ?h0_2b_5 ?h1_2b_5 ?h2_2b_5 ?h3_2b_5
                  case h0_2b_5 => rfl
                  case h1_2b_5 => exact e4
                  case h2_2b_5 => exact e75
                  case h3_2b_5 => exact (idx36 p4 k hk8 u)
                · intro A u hu hpu hsz hout hdeps
                  have e76 : A.eval (.tmp 76) = (.pointer (some ⟨p4, k, none⟩)) := by have h := depL hdeps 5 (by kernel_rfl) 76 (by kernel_rfl); exact h
                  refine ifw_none rfl ?_
                  with_reducible refine shown_q (Value.slice va vn vc) ?qq_2b_6 (fun _ _ => ?qr_2b_6)
                  case qr_2b_6 => exact (rfl : (Value.slice va vn vc) = (Value.slice va vn vc))
                  with_reducible refine quietAt_ld 25 (.tmp 76) (Value.pointer (some ⟨p4, k, none⟩)) (Value.slice va vn vc) ?h0_2b_6 ?h1_2b_6 ?h2_2b_6
                  case h0_2b_6 => rfl
                  case h1_2b_6 => exact e76
                  case h2_2b_6 => exact (ld25 p4 k vn vc va u (HcV.out u hu))
                · intro A u hu hpu hsz hout hdeps
                  have e77 : A.eval (.tmp 77) = (.slice va vn vc) := by have h := depL hdeps 6 (by kernel_rfl) 77 (by kernel_rfl); exact h
                  refine ifw_none rfl ?_
                  with_reducible refine shown_call 8 Tryd.f8 ?h0_2b_7 ?h1_2b_7 ?h2_2b_7 #[.tmp 77] #[25] ?h3_2b_7 #[(Value.slice va vn vc)] ?h4_2b_7 ?h5_2b_7
                  case h0_2b_7 => exact Tryd.func8
                  case h1_2b_7 => kernel_rfl
                  case h2_2b_7 => kernel_rfl
                  case h3_2b_7 => rfl
                  case h4_2b_7 => exact map1 _ _ _ e77
                  case h5_2b_7 => exact (HCp.out u hu).mono fun e w' ⟨v', he, ho, hg⟩ => ⟨v', he, hg, v', rfl, ho.rd.mono (fun _ _ _ => trivial)⟩
                · intro A u hu hpu hsz hout hdeps
                  have f78 : (fun v u => ∃ z, v = z ∧ Rd u (fun _ => True) z X) (A.eval (.tmp 78)) u := by have h := depL hdeps 7 (by kernel_rfl) 78 (by kernel_rfl); exact h
                  obtain ⟨V78, e78, HV78⟩ := f78
                  refine ifw_none rfl ?_
                  with_reducible refine shown_q (Value.agg S.toArray) ?qq_2b_8 (fun _ _ => ?qr_2b_8)
                  case qr_2b_8 => exact (rfl : (Value.agg S.toArray) = (Value.agg S.toArray))
                  with_reducible refine quietAt_call 9 Tryd.f9 ?h0_2b_8 ?h1_2b_8 ?h2_2b_8 #[.tmp 78] #[25] ?h3_2b_8 (Value.agg S.toArray) #[V78] ?h4_2b_8 ?h5_2b_8
                  case h0_2b_8 => exact Tryd.func9
                  case h1_2b_8 => kernel_rfl
                  case h2_2b_8 => kernel_rfl
                  case h3_2b_8 => rfl
                  case h4_2b_8 => exact map1 _ _ _ e78
                  case h5_2b_8 => exact (HDs.out u _ hu HV78)
                · intro A u hu hpu hsz hout hdeps
                  have e74 : A.eval (.tmp 74) = (.agg S.toArray) := by have h := depL hdeps 3 (by kernel_rfl) 74 (by kernel_rfl); exact h
                  have e79 : A.eval (.tmp 79) = (.agg S.toArray) := by have h := depL hdeps 8 (by kernel_rfl) 79 (by kernel_rfl); exact h
                  refine ifw_none rfl ?_
                  with_reducible refine shown_q (Value.bool false) ?qq_2b_9 (fun _ _ => ?qr_2b_9)
                  case qr_2b_9 => exact (rfl : (Value.bool false) = (Value.bool false))
                  with_reducible refine quietAt_bin .neq 26 (.tmp 74) (.tmp 79) 26 (Value.agg S.toArray) (Value.agg S.toArray) (Value.bool false) ?h0_2b_9 ?h1_2b_9 ?h2_2b_9 ?h3_2b_9
                  case h0_2b_9 => rfl
                  case h1_2b_9 => exact e74
                  case h2_2b_9 => exact e79
                  case h3_2b_9 => exact (HNe.out _ _ u)
                · intro A u hu hpu hsz hout hdeps
                  have e80 : A.eval (.tmp 80) = (.bool false) := by have h := depL hdeps 9 (by kernel_rfl) 80 (by kernel_rfl); exact h
                  refine ifw_none rfl ?_
                  with_reducible refine shown_q (Value.bool false) ?qq_2b_10 (fun _ _ => ?qr_2b_10)
                  case qr_2b_10 => exact (rfl : (Value.bool false) = (Value.bool false))
                  with_reducible refine quietAt_mv (.tmp 80) (Value.bool false) ?h0_2b_10 ?h1_2b_10
                  case h0_2b_10 => rfl
                  case h1_2b_10 => exact e80
                · intro A u hu hpu hsz hout hdeps
                  have e81 : A.eval (.tmp 81) = (.bool false) := by have h := depL hdeps 10 (by kernel_rfl) 81 (by kernel_rfl); exact h
                  have e8 : A.eval (.tmp 8) = (.int .i64 (k : Nat)) := (hout 8 (by kernel_rfl)).trans rfl
                  refine ifw_want 10 false 81 rfl rfl e81 ?_
                  with_reducible refine shown_q (Value.int .i64 (k : Nat)) ?qq_2b_11 (fun _ _ => ?qr_2b_11)
                  case qr_2b_11 => exact (rfl : (Value.int .i64 (k : Nat)) = (Value.int .i64 (k : Nat)))
                  with_reducible refine quietAt_mv (.tmp 8) (Value.int .i64 (k : Nat)) ?h0_2b_11 ?h1_2b_11
                  case h0_2b_11 => rfl
                  case h1_2b_11 => exact e8
                · intro A u hu hpu hsz hout hdeps
                  have e81 : A.eval (.tmp 81) = (.bool false) := by have h := depL hdeps 10 (by kernel_rfl) 81 (by kernel_rfl); exact h
                  have e3 : A.eval (.tmp 3) = (.pointer (some ⟨p3, 0, none⟩)) := (hout 3 (by kernel_rfl)).trans rfl
                  have e82 : A.eval (.tmp 82) = (.int .i64 (k : Nat)) := by have h := depL hdeps 11 (by kernel_rfl) 82 (by kernel_rfl); exact h
                  refine ifw_want 10 false 81 rfl rfl e81 ?_
                  with_reducible refine shown_q (Value.pointer (some ⟨p3, k, none⟩)) ?qq_2b_12 (fun _ _ => ?qr_2b_12)
                  case qr_2b_12 => exact (rfl : (Value.pointer (some ⟨p3, k, none⟩)) = (Value.pointer (some ⟨p3, k, none⟩)))
                  with_reducible refine quietAt_idx 35 (.tmp 3) (.tmp 82) (Value.pointer (some ⟨p3, 0, none⟩)) (Value.int .i64 (k : Nat)) (Value.pointer (some ⟨p3, k, none⟩)) ?h0_2b_12 ?h1_2b_12 ?h2_2b_12 ?h3_2b_12
                  case h0_2b_12 => rfl
                  case h1_2b_12 => exact e3
                  case h2_2b_12 => exact e82
                  case h3_2b_12 => exact (idx35 p3 k hk8 u)
                · intro A u hu hpu hsz hout hdeps
                  have e81 : A.eval (.tmp 81) = (.bool false) := by have h := depL hdeps 10 (by kernel_rfl) 81 (by kernel_rfl); exact h
                  have e83 : A.eval (.tmp 83) = (.pointer (some ⟨p3, k, none⟩)) := by have h := depL hdeps 12 (by kernel_rfl) 83 (by kernel_rfl); exact h
                  refine ifw_want 10 false 81 rfl rfl e81 ?_
                  with_reducible refine shown_q (Value.pointer (some ⟨B k, 0, none⟩)) ?qq_2b_13 (fun _ _ => ?qr_2b_13)
                  case qr_2b_13 => exact (rfl : (Value.pointer (some ⟨B k, 0, none⟩)) = (Value.pointer (some ⟨B k, 0, none⟩)))
                  with_reducible refine quietAt_ld 34 (.tmp 83) (Value.pointer (some ⟨p3, k, none⟩)) (Value.pointer (some ⟨B k, 0, none⟩)) ?h0_2b_13 ?h1_2b_13 ?h2_2b_13
                  case h0_2b_13 => rfl
                  case h1_2b_13 => exact e83
                  case h2_2b_13 => exact (ld34 p3 k _ u (HcB.out u hu))
                · intro A u hu hpu hsz hout hdeps
                  have e81 : A.eval (.tmp 81) = (.bool false) := by have h := depL hdeps 10 (by kernel_rfl) 81 (by kernel_rfl); exact h
                  have e84 : A.eval (.tmp 84) = (.pointer (some ⟨B k, 0, none⟩)) := by have h := depL hdeps 13 (by kernel_rfl) 84 (by kernel_rfl); exact h
                  refine ifw_want 10 false 81 rfl rfl e81 ?_
                  with_reducible refine shown_q (Value.int .u64 (vn : Nat)) ?qq_2b_14 (fun _ _ => ?qr_2b_14)
                  case qr_2b_14 => exact (rfl : (Value.int .u64 (vn : Nat)) = (Value.int .u64 (vn : Nat)))
                  with_reducible refine quietAt_call 16 Tryd.f16 ?h0_2b_14 ?h1_2b_14 ?h2_2b_14 #[.tmp 84] #[34] ?h3_2b_14 (Value.int .u64 (vn : Nat)) #[(Value.pointer (some ⟨B k, 0, none⟩))] ?h4_2b_14 ?h5_2b_14
                  case h0_2b_14 => exact Tryd.func16
                  case h1_2b_14 => kernel_rfl
                  case h2_2b_14 => kernel_rfl
                  case h3_2b_14 => rfl
                  case h4_2b_14 => exact map1 _ _ _ e84
                  case h5_2b_14 => exact (HLn.out u hu)
                · intro A u hu hpu hsz hout hdeps
                  have e81 : A.eval (.tmp 81) = (.bool false) := by have h := depL hdeps 10 (by kernel_rfl) 81 (by kernel_rfl); exact h
                  have e8 : A.eval (.tmp 8) = (.int .i64 (k : Nat)) := (hout 8 (by kernel_rfl)).trans rfl
                  refine ifw_want 10 false 81 rfl rfl e81 ?_
                  with_reducible refine shown_q (Value.int .i64 (k : Nat)) ?qq_2b_15 (fun _ _ => ?qr_2b_15)
                  case qr_2b_15 => exact (rfl : (Value.int .i64 (k : Nat)) = (Value.int .i64 (k : Nat)))
                  with_reducible refine quietAt_mv (.tmp 8) (Value.int .i64 (k : Nat)) ?h0_2b_15 ?h1_2b_15
                  case h0_2b_15 => rfl
                  case h1_2b_15 => exact e8
                · intro A u hu hpu hsz hout hdeps
                  have e81 : A.eval (.tmp 81) = (.bool false) := by have h := depL hdeps 10 (by kernel_rfl) 81 (by kernel_rfl); exact h
                  have e4 : A.eval (.tmp 4) = (.pointer (some ⟨p4, 0, none⟩)) := (hout 4 (by kernel_rfl)).trans rfl
                  have e86 : A.eval (.tmp 86) = (.int .i64 (k : Nat)) := by have h := depL hdeps 15 (by kernel_rfl) 86 (by kernel_rfl); exact h
                  refine ifw_want 10 false 81 rfl rfl e81 ?_
                  with_reducible refine shown_q (Value.pointer (some ⟨p4, k, none⟩)) ?qq_2b_16 (fun _ _ => ?qr_2b_16)
                  case qr_2b_16 => exact (rfl : (Value.pointer (some ⟨p4, k, none⟩)) = (Value.pointer (some ⟨p4, k, none⟩)))
                  with_reducible refine quietAt_idx 36 (.tmp 4) (.tmp 86) (Value.pointer (some ⟨p4, 0, none⟩)) (Value.int .i64 (k : Nat)) (Value.pointer (some ⟨p4, k, none⟩)) ?h0_2b_16 ?h1_2b_16 ?h2_2b_16 ?h3_2b_16
                  case h0_2b_16 => rfl
                  case h1_2b_16 => exact e4
                  case h2_2b_16 => exact e86
                  case h3_2b_16 => exact (idx36 p4 k hk8 u)
                · intro A u hu hpu hsz hout hdeps
                  have e81 : A.eval (.tmp 81) = (.bool false) := by have h := depL hdeps 10 (by kernel_rfl) 81 (by kernel_rfl); exact h
                  have e87 : A.eval (.tmp 87) = (.pointer (some ⟨p4, k, none⟩)) := by have h := depL hdeps 16 (by kernel_rfl) 87 (by kernel_rfl); exact h
                  refine ifw_want 10 false 81 rfl rfl e81 ?_
                  with_reducible refine shown_q (Value.slice va vn vc) ?qq_2b_17 (fun _ _ => ?qr_2b_17)
                  case qr_2b_17 => exact (rfl : (Value.slice va vn vc) = (Value.slice va vn vc))
                  with_reducible refine quietAt_ld 25 (.tmp 87) (Value.pointer (some ⟨p4, k, none⟩)) (Value.slice va vn vc) ?h0_2b_17 ?h1_2b_17 ?h2_2b_17
                  case h0_2b_17 => rfl
                  case h1_2b_17 => exact e87
                  case h2_2b_17 => exact (ld25 p4 k vn vc va u (HcV.out u hu))
                · intro A u hu hpu hsz hout hdeps
                  have e81 : A.eval (.tmp 81) = (.bool false) := by have h := depL hdeps 10 (by kernel_rfl) 81 (by kernel_rfl); exact h
                  have e88 : A.eval (.tmp 88) = (.slice va vn vc) := by have h := depL hdeps 17 (by kernel_rfl) 88 (by kernel_rfl); exact h
                  refine ifw_want 10 false 81 rfl rfl e81 ?_
                  with_reducible refine shown_q (Value.int .i64 (vn : Nat)) ?qq_2b_18 (fun _ _ => ?qr_2b_18)
                  case qr_2b_18 => exact (rfl : (Value.int .i64 (vn : Nat)) = (Value.int .i64 (vn : Nat)))
                  with_reducible refine quietAt_len (.tmp 88) 25 ?h0_2b_18 va vn vc ?h1_2b_18 ?h2_2b_18
                  case h0_2b_18 => rfl
                  case h1_2b_18 => exact e88
                  case h2_2b_18 => kernel_rfl
                · intro A u hu hpu hsz hout hdeps
                  have e81 : A.eval (.tmp 81) = (.bool false) := by have h := depL hdeps 10 (by kernel_rfl) 81 (by kernel_rfl); exact h
                  have e89 : A.eval (.tmp 89) = (.int .i64 (vn : Nat)) := by have h := depL hdeps 18 (by kernel_rfl) 89 (by kernel_rfl); exact h
                  refine ifw_want 10 false 81 rfl rfl e81 ?_
                  with_reducible refine shown_q (Value.int .u64 (vn : Nat)) ?qq_2b_19 (fun _ _ => ?qr_2b_19)
                  case qr_2b_19 => exact (rfl : (Value.int .u64 (vn : Nat)) = (Value.int .u64 (vn : Nat)))
                  with_reducible refine quietAt_cv 3 40 (.tmp 89) (Value.int .i64 (vn : Nat)) (Value.int .u64 (vn : Nat)) ?h0_2b_19 ?h1_2b_19 ?h2_2b_19
                  case h0_2b_19 => rfl
                  case h1_2b_19 => exact e89
                  case h2_2b_19 => exact (HCv.out u)
                · intro A u hu hpu hsz hout hdeps
                  have e81 : A.eval (.tmp 81) = (.bool false) := by have h := depL hdeps 10 (by kernel_rfl) 81 (by kernel_rfl); exact h
                  have e85 : A.eval (.tmp 85) = (.int .u64 (vn : Nat)) := by have h := depL hdeps 14 (by kernel_rfl) 85 (by kernel_rfl); exact h
                  have e90 : A.eval (.tmp 90) = (.int .u64 (vn : Nat)) := by have h := depL hdeps 19 (by kernel_rfl) 90 (by kernel_rfl); exact h
                  refine ifw_want 10 false 81 rfl rfl e81 ?_
                  with_reducible refine shown_q (Value.bool false) ?qq_2b_20 (fun _ _ => ?qr_2b_20)
                  case qr_2b_20 => exact (rfl : (Value.bool false) = (Value.bool false))
                  with_reducible refine quietAt_bin .neq 40 (.tmp 85) (.tmp 90) 40 (Value.int .u64 (vn : Nat)) (Value.int .u64 (vn : Nat)) (Value.bool false) ?h0_2b_20 ?h1_2b_20 ?h2_2b_20 ?h3_2b_20
                  case h0_2b_20 => rfl
                  case h1_2b_20 => exact e85
                  case h2_2b_20 => exact e90
                  case h3_2b_20 => exact (neq40 vn _ _ u)
                · intro A u hu hpu hsz hout hdeps
                  have e81 : A.eval (.tmp 81) = (.bool false) := by have h := depL hdeps 10 (by kernel_rfl) 81 (by kernel_rfl); exact h
                  have e91 : A.eval (.tmp 91) = (.bool false) := by have h := depL hdeps 20 (by kernel_rfl) 91 (by kernel_rfl); exact h
                  refine ifw_none rfl ?_
                  with_reducible refine shown_q (Value.bool false) ?qq_2b_21 (fun _ _ => ?qr_2b_21)
                  case qr_2b_21 => exact (rfl : (Value.bool false) = (Value.bool false))
                  with_reducible refine quietAt_pick (.tmp 81) (.const (.bool true)) (.tmp 91) false (Value.bool false) ?h0_2b_21 ?h1_2b_21 ?h2_2b_21
                  case h0_2b_21 => rfl
                  case h1_2b_21 => exact e81
                  case h2_2b_21 => rw [if_neg (by decide)]; exact e91
                · intro A u1 listed hh hall
                  have hA := hh.frame
                  have HU := hid hh.grown
                  obtain ⟨x71, hx71⟩ : ∃ x, A.eval (.tmp 71) = x := ⟨_, rfl⟩
                  have f71 : (fun v _ => v = (Value.int .i64 (k : Nat))) x71 u1 := by rw [← hx71]; exact hh.got 0 _ 71 rfl rfl (hall 0 (by decide))
                  obtain ⟨x72, hx72⟩ : ∃ x, A.eval (.tmp 72) = x := ⟨_, rfl⟩
                  have f72 : (fun v _ => v = (Value.pointer (some ⟨p3, k, none⟩))) x72 u1 := by rw [← hx72]; exact hh.got 1 _ 72 rfl rfl (hall 1 (by decide))
                  obtain ⟨x73, hx73⟩ : ∃ x, A.eval (.tmp 73) = x := ⟨_, rfl⟩
                  have f73 : (fun v _ => v = (Value.pointer (some ⟨B k, 0, none⟩))) x73 u1 := by rw [← hx73]; exact hh.got 2 _ 73 rfl rfl (hall 2 (by decide))
                  obtain ⟨x74, hx74⟩ : ∃ x, A.eval (.tmp 74) = x := ⟨_, rfl⟩
                  have f74 : (fun v _ => v = (Value.agg S.toArray)) x74 u1 := by rw [← hx74]; exact hh.got 3 _ 74 rfl rfl (hall 3 (by decide))
                  obtain ⟨x75, hx75⟩ : ∃ x, A.eval (.tmp 75) = x := ⟨_, rfl⟩
                  have f75 : (fun v _ => v = (Value.int .i64 (k : Nat))) x75 u1 := by rw [← hx75]; exact hh.got 4 _ 75 rfl rfl (hall 4 (by decide))
                  obtain ⟨x76, hx76⟩ : ∃ x, A.eval (.tmp 76) = x := ⟨_, rfl⟩
                  have f76 : (fun v _ => v = (Value.pointer (some ⟨p4, k, none⟩))) x76 u1 := by rw [← hx76]; exact hh.got 5 _ 76 rfl rfl (hall 5 (by decide))
                  obtain ⟨x77, hx77⟩ : ∃ x, A.eval (.tmp 77) = x := ⟨_, rfl⟩
                  have f77 : (fun v _ => v = (Value.slice va vn vc)) x77 u1 := by rw [← hx77]; exact hh.got 6 _ 77 rfl rfl (hall 6 (by decide))
                  obtain ⟨x78, hx78⟩ : ∃ x, A.eval (.tmp 78) = x := ⟨_, rfl⟩
                  have f78 : (fun v u => ∃ z, v = z ∧ Rd u (fun _ => True) z X) x78 u1 := by rw [← hx78]; exact hh.got 7 _ 78 rfl rfl (hall 7 (by decide))
                  obtain ⟨x79, hx79⟩ : ∃ x, A.eval (.tmp 79) = x := ⟨_, rfl⟩
                  have f79 : (fun v _ => v = (Value.agg S.toArray)) x79 u1 := by rw [← hx79]; exact hh.got 8 _ 79 rfl rfl (hall 8 (by decide))
                  obtain ⟨x80, hx80⟩ : ∃ x, A.eval (.tmp 80) = x := ⟨_, rfl⟩
                  have f80 : (fun v _ => v = (Value.bool false)) x80 u1 := by rw [← hx80]; exact hh.got 9 _ 80 rfl rfl (hall 9 (by decide))
                  obtain ⟨x81, hx81⟩ : ∃ x, A.eval (.tmp 81) = x := ⟨_, rfl⟩
                  have f81 : (fun v _ => v = (Value.bool false)) x81 u1 := by rw [← hx81]; exact hh.got 10 _ 81 rfl rfl (hall 10 (by decide))
                  obtain ⟨x82, hx82⟩ : ∃ x, A.eval (.tmp 82) = x := ⟨_, rfl⟩
                  have f82 : (fun v _ => v = (Value.int .i64 (k : Nat))) x82 u1 := by rw [← hx82]; exact hh.got 11 _ 82 rfl rfl (hall 11 (by decide))
                  obtain ⟨x83, hx83⟩ : ∃ x, A.eval (.tmp 83) = x := ⟨_, rfl⟩
                  have f83 : (fun v _ => v = (Value.pointer (some ⟨p3, k, none⟩))) x83 u1 := by rw [← hx83]; exact hh.got 12 _ 83 rfl rfl (hall 12 (by decide))
                  obtain ⟨x84, hx84⟩ : ∃ x, A.eval (.tmp 84) = x := ⟨_, rfl⟩
                  have f84 : (fun v _ => v = (Value.pointer (some ⟨B k, 0, none⟩))) x84 u1 := by rw [← hx84]; exact hh.got 13 _ 84 rfl rfl (hall 13 (by decide))
                  obtain ⟨x85, hx85⟩ : ∃ x, A.eval (.tmp 85) = x := ⟨_, rfl⟩
                  have f85 : (fun v _ => v = (Value.int .u64 (vn : Nat))) x85 u1 := by rw [← hx85]; exact hh.got 14 _ 85 rfl rfl (hall 14 (by decide))
                  obtain ⟨x86, hx86⟩ : ∃ x, A.eval (.tmp 86) = x := ⟨_, rfl⟩
                  have f86 : (fun v _ => v = (Value.int .i64 (k : Nat))) x86 u1 := by rw [← hx86]; exact hh.got 15 _ 86 rfl rfl (hall 15 (by decide))
                  obtain ⟨x87, hx87⟩ : ∃ x, A.eval (.tmp 87) = x := ⟨_, rfl⟩
                  have f87 : (fun v _ => v = (Value.pointer (some ⟨p4, k, none⟩))) x87 u1 := by rw [← hx87]; exact hh.got 16 _ 87 rfl rfl (hall 16 (by decide))
                  obtain ⟨x88, hx88⟩ : ∃ x, A.eval (.tmp 88) = x := ⟨_, rfl⟩
                  have f88 : (fun v _ => v = (Value.slice va vn vc)) x88 u1 := by rw [← hx88]; exact hh.got 17 _ 88 rfl rfl (hall 17 (by decide))
                  obtain ⟨x89, hx89⟩ : ∃ x, A.eval (.tmp 89) = x := ⟨_, rfl⟩
                  have f89 : (fun v _ => v = (Value.int .i64 (vn : Nat))) x89 u1 := by rw [← hx89]; exact hh.got 18 _ 89 rfl rfl (hall 18 (by decide))
                  obtain ⟨x90, hx90⟩ : ∃ x, A.eval (.tmp 90) = x := ⟨_, rfl⟩
                  have f90 : (fun v _ => v = (Value.int .u64 (vn : Nat))) x90 u1 := by rw [← hx90]; exact hh.got 19 _ 90 rfl rfl (hall 19 (by decide))
                  obtain ⟨x91, hx91⟩ : ∃ x, A.eval (.tmp 91) = x := ⟨_, rfl⟩
                  have f91 : (fun v _ => v = (Value.bool false)) x91 u1 := by rw [← hx91]; exact hh.got 20 _ 91 rfl rfl (hall 20 (by decide))
                  obtain ⟨x92, hx92⟩ : ∃ x, A.eval (.tmp 92) = x := ⟨_, rfl⟩
                  have f92 : (fun v _ => v = (Value.bool false)) x92 u1 := by rw [← hx92]; exact hh.got 21 _ 92 rfl rfl (hall 21 (by decide))
                  dsimp only [wrote, List.foldl] at hA
                  rw [hx71, hx72, hx73, hx74, hx75, hx76, hx77, hx78, hx79, hx80, hx81, hx82, hx83, hx84, hx85, hx86, hx87, hx88, hx89, hx90, hx91, hx92] at hA
                  clear hh hall hx71 hx72 hx73 hx74 hx75 hx76 hx77 hx78 hx79 hx80 hx81 hx82 hx83 hx84 hx85 hx86 hx87 hx88 hx89 hx90 hx91 hx92
                  replace f71 := (f71 : x71 = (.int .i64 (k : Nat)))
                  subst f71
                  replace f72 := (f72 : x72 = (.pointer (some ⟨p3, k, none⟩)))
                  subst f72
                  replace f73 := (f73 : x73 = (.pointer (some ⟨B k, 0, none⟩)))
                  subst f73
                  replace f74 := (f74 : x74 = (.agg S.toArray))
                  subst f74
                  replace f75 := (f75 : x75 = (.int .i64 (k : Nat)))
                  subst f75
                  replace f76 := (f76 : x76 = (.pointer (some ⟨p4, k, none⟩)))
                  subst f76
                  replace f77 := (f77 : x77 = (.slice va vn vc))
                  subst f77
                  obtain ⟨V78, e78, HV78⟩ := f78
                  subst e78
                  replace f79 := (f79 : x79 = (.agg S.toArray))
                  subst f79
                  replace f80 := (f80 : x80 = (.bool false))
                  subst f80
                  replace f81 := (f81 : x81 = (.bool false))
                  subst f81
                  replace f82 := (f82 : x82 = (.int .i64 (k : Nat)))
                  subst f82
                  replace f83 := (f83 : x83 = (.pointer (some ⟨p3, k, none⟩)))
                  subst f83
                  replace f84 := (f84 : x84 = (.pointer (some ⟨B k, 0, none⟩)))
                  subst f84
                  replace f85 := (f85 : x85 = (.int .u64 (vn : Nat)))
                  subst f85
                  replace f86 := (f86 : x86 = (.int .i64 (k : Nat)))
                  subst f86
                  replace f87 := (f87 : x87 = (.pointer (some ⟨p4, k, none⟩)))
                  subst f87
                  replace f88 := (f88 : x88 = (.slice va vn vc))
                  subst f88
                  replace f89 := (f89 : x89 = (.int .i64 (vn : Nat)))
                  subst f89
                  replace f90 := (f90 : x90 = (.int .u64 (vn : Nat)))
                  subst f90
                  replace f91 := (f91 : x91 = (.bool false))
                  subst f91
                  replace f92 := (f92 : x92 = (.bool false))
                  subst f92
                  subst hA
                  show wpList _ _ _ [] _ _
                  unfold wpList
                  simp only [Act.put, List.setIfInBounds_toArray, List.set_cons_succ, List.set_cons_zero]
                  have HT := hid HU.out
                  clear HU
                  go_wp2_with fail
                  go_roundw
                  case rel => exact ⟨k + 1, by omega, by go_num, hid (gtrans HQ.out HT.out)⟩
                  case measure => simp [intOf]; omega
              · have hk9 : ¬ (k : Int) < 8 := by omega
                go_wp2_with (go_at_call 12; (with_reducible refine (HWk.out _ (gtrans HGf.out HQ.out)).mono ?_); rintro e w9 ⟨rfl, hg9⟩; have HG9 := hid hg9; clear hg9)
                go_ret
                exact ⟨rfl, gtrans (gtrans HGf.out HQ.out) HG9.out⟩
          · have i1 : ¬ (i : Int) < (n : Int) := by omega
            clear hlt
            go_wp2_with fail
            have HMf := HM
            have HGf := HG
            obtain ⟨wx, hwx⟩ : ∃ x, x = wr := ⟨_, rfl⟩
            subst hwx
            go_loopw [8] (fun kv wq => ∃ k : Nat, k ≤ 8 ∧ kv = .int .i64 k ∧ Hid (wx.grownBy wq none)) (fun kv _ => 8 - (intOf kv).toNat)
            case atStart => exact ⟨0, by omega, rfl, hid (grefl _ _)⟩
            case round =>
              obtain ⟨k, hk, rfl, HQ⟩ := hrel
              by_cases hk8 : k < 8
              · have hk8' : (k : Int) < 8 := by omega
                have HMk := hid (HMf.out.keep HQ.out)
                have HGk := hid (gtrans HGf.out HQ.out)
                obtain ⟨va, _, _, vc, hve, -⟩ := (HMk.out.os k hk8).rd
                obtain ⟨X, HX⟩ : ∃ x, Hid (L k = x) := ⟨_, hid rfl⟩
                obtain ⟨vn, hvn⟩ : ∃ x, (L k).length = x := ⟨_, rfl⟩
                rw [hvn] at hve
                have HVe := hid hve
                have HXn : Hid (X.length = vn) := hid (by rw [← HX.out]; exact hvn)
                have HVn : Hid (vn ≤ 65536) := hid (by have := HL.out k hk8; omega)
                clear hve hvn
                obtain ⟨S, HSe⟩ : ∃ x, Hid (Lib.byteCells (sumL X) = x) := ⟨_, hid rfl⟩
                have HcB : Hid (∀ u, wr.grownBy u none → u.cell? ⟨p3, k, none⟩ = some (.pointer (some ⟨B k, 0, none⟩))) := fun u hu => by rw [(HMk.out.hp.keep hu).cell, cells8_get _ k hk8]
                have HcV : Hid (∀ u, wr.grownBy u none → u.cell? ⟨p4, k, none⟩ = some (.slice va vn vc)) := fun u hu => by rw [(HMk.out.vp.keep hu).cell, cells8_get _ k hk8, HVe.out]
                have HSm : Hid (∀ u, wr.grownBy u none → Calls Tryd.prog 15 #[.pointer (some ⟨B k, 0, none⟩)] u fun e w' => e = .returned (.agg S.toArray) ∧ u.grownBy w' none) := fun u hu => by
                  have := hsum_any u (B k) (L k) ((HMk.out.hs k hk8).1.keep hu) (HGl.out u (gtrans HGk.out hu)) (by rw [HX.out, HXn.out]; have := HVn.out; omega)
                  rw [HX.out, HSe.out] at this
                  exact this
                have HLn : Hid (∀ u, wr.grownBy u none → Calls Tryd.prog 16 #[.pointer (some ⟨B k, 0, none⟩)] u fun e w' => e = .returned (.int .u64 (vn : Nat)) ∧ u.grownBy w' none) := fun u hu => by
                  have h := ((HMk.out.hs k hk8).1.keep hu).taken
                  rw [HX.out, HXn.out] at h
                  exact (len_any vn (B k) u h).mono fun e w' ⟨he, hw⟩ => ⟨he, by rw [hw]; exact grefl _ _⟩
                have HCp : Hid (∀ u, wr.grownBy u none → Calls Tryd.prog 8 #[.slice va vn vc] u fun e w' => ∃ v', e = .returned v' ∧ Out u.heap.size w' v' X ∧ u.grownBy w' none) := fun u hu => by
                  have h := ((HMk.out.os k hk8).keep hu).rd
                  rw [HVe.out, HX.out] at h
                  exact copyR_any u _ _ X h (by rw [HXn.out]; have := HVn.out; omega)
                have HDs : Hid (∀ (u : World) (v : Value), wr.grownBy u none → Rd u (fun _ => True) v X → Calls Tryd.prog 9 #[v] u fun e w' => e = .returned (.agg S.toArray) ∧ u.grownBy w' none) := fun u v hu h => by
                  rw [← HSe.out]
                  exact dsum_any u v _ X h (HGl.out u (gtrans HGk.out hu)) (by rw [HXn.out]; have := HVn.out; omega)
                have HNe : Hid (∀ (x y : Operand) (u : World), (do eqGuard .neq 26 x y (.agg S.toArray) (.agg S.toArray); binOp .neq 26 (.agg S.toArray) (.agg S.toArray) : Sem Value).run Tryd.prog u = .ok (.bool false) u) := fun x y u => by
                  rw [← HSe.out, neqG_32]
                  exact neq_self _ (sumL_length _) u
                have HCv : Hid (∀ u : World, (convert 3 40 (.int .i64 (vn : Nat))).run Tryd.prog u = .ok (.int .u64 (vn : Nat)) u) := fun u => cv40 vn HVn.out u
                go_upto_region 21 with fail
                refine wp_region_list (by kernel_rfl) [fun v _ => v = (Value.int .i64 (k : Nat)), fun v _ => v = (Value.pointer (some ⟨p3, k, none⟩)), fun v _ => v = (Value.pointer (some ⟨B k, 0, none⟩)), fun v _ => v = (Value.agg S.toArray), fun v _ => v = (Value.int .i64 (k : Nat)), fun v _ => v = (Value.pointer (some ⟨p4, k, none⟩)), fun v _ => v = (Value.slice va vn vc), fun v u => ∃ z, v = z ∧ Rd u (fun _ => True) z X, fun v _ => v = (Value.agg S.toArray), fun v _ => v = (Value.bool false), fun v _ => v = (Value.bool false), fun v _ => v = (Value.int .i64 (k : Nat)), fun v _ => v = (Value.pointer (some ⟨p3, k, none⟩)), fun v _ => v = (Value.pointer (some ⟨B k, 0, none⟩)), fun v _ => v = (Value.int .u64 (vn : Nat)), fun v _ => v = (Value.int .i64 (k : Nat)), fun v _ => v = (Value.pointer (some ⟨p4, k, none⟩)), fun v _ => v = (Value.slice va vn vc), fun v _ => v = (Value.int .i64 (vn : Nat)), fun v _ => v = (Value.int .u64 (vn : Nat)), fun v _ => v = (Value.bool false), fun v _ => v = (Value.bool false)] (none) (fun _ => none) 22 (by kernel_rfl) (by kernel_rfl) (by kernel_rfl) (by kernel_rfl) (by decide) noRow_one (fun _ => .inl rfl) ⟨fun i v u u' hki h hg => h, fun i v u u' hki h hg => h, fun i v u u' hki h hg => h, fun i v u u' hki h hg => h, fun i v u u' hki h hg => h, fun i v u u' hki h hg => h, fun i v u u' hki h hg => h, fun i v u u' hki h hg => (by obtain ⟨z, rfl, h1⟩ := h; exact ⟨_, rfl, h1.keep hg⟩), fun i v u u' hki h hg => h, fun i v u u' hki h hg => h, fun i v u u' hki h hg => h, fun i v u u' hki h hg => h, fun i v u u' hki h hg => h, fun i v u u' hki h hg => h, fun i v u u' hki h hg => h, fun i v u u' hki h hg => h, fun i v u u' hki h hg => h, fun i v u u' hki h hg => h, fun i v u u' hki h hg => h, fun i v u u' hki h hg => h, fun i v u u' hki h hg => h, fun i v u u' hki h hg => h, trivial⟩ ⟨?_, ?_, ?_, ?_, ?_, ?_, ?_, ?_, ?_, ?_, ?_, ?_, ?_, ?_, ?_, ?_, ?_, ?_, ?_, ?_, ?_, ?_, trivial⟩ ?_
                · intro A u hu hpu hsz hout hdeps
                  have e8 : A.eval (.tmp 8) = (.int .i64 (k : Nat)) := (hout 8 (by kernel_rfl)).trans rfl
                  refine ifw_none rfl ?_
                  with_reducible refine shown_q (Value.int .i64 (k : Nat)) ?qq_2c_0 (fun _ _ => ?qr_2c_0)
                  case qr_2c_0 => exact (rfl : (Value.int .i64 (k : Nat)) = (Value.int .i64 (k : Nat)))
                  with_reducible refine quietAt_mv (.tmp 8) (Value.int .i64 (k : Nat)) ?h0_2c_0 ?h1_2c_0
                  case h0_2c_0 => rfl
                  case h1_2c_0 => exact e8
                · intro A u hu hpu hsz hout hdeps
                  have e3 : A.eval (.tmp 3) = (.pointer (some ⟨p3, 0, none⟩)) := (hout 3 (by kernel_rfl)).trans rfl
                  have e71 : A.eval (.tmp 71) = (.int .i64 (k : Nat)) := by have h := depL hdeps 0 (by kernel_rfl) 71 (by kernel_rfl); exact h
                  refine ifw_none rfl ?_
                  with_reducible refine shown_q (Value.pointer (some ⟨p3, k, none⟩)) ?qq_2c_1 (fun _ _ => ?qr_2c_1)
                  case qr_2c_1 => exact (rfl : (Value.pointer (some ⟨p3, k, none⟩)) = (Value.pointer (some ⟨p3, k, none⟩)))
                  with_reducible refine quietAt_idx 35 (.tmp 3) (.tmp 71) (Value.pointer (some ⟨p3, 0, none⟩)) (Value.int .i64 (k : Nat)) (Value.pointer (some ⟨p3, k, none⟩)) ?h0_2c_1 ?h1_2c_1 ?h2_2c_1 ?h3_2c_1
                  case h0_2c_1 => rfl
                  case h1_2c_1 => exact e3
                  case h2_2c_1 => exact e71
                  case h3_2c_1 => exact (idx35 p3 k hk8 u)
                · intro A u hu hpu hsz hout hdeps
                  have e72 : A.eval (.tmp 72) = (.pointer (some ⟨p3, k, none⟩)) := by have h := depL hdeps 1 (by kernel_rfl) 72 (by kernel_rfl); exact h
                  refine ifw_none rfl ?_
                  with_reducible refine shown_q (Value.pointer (some ⟨B k, 0, none⟩)) ?qq_2c_2 (fun _ _ => ?qr_2c_2)
                  case qr_2c_2 => exact (rfl : (Value.pointer (some ⟨B k, 0, none⟩)) = (Value.pointer (some ⟨B k, 0, none⟩)))
                  with_reducible refine quietAt_ld 34 (.tmp 72) (Value.pointer (some ⟨p3, k, none⟩)) (Value.pointer (some ⟨B k, 0, none⟩)) ?h0_2c_2 ?h1_2c_2 ?h2_2c_2
                  case h0_2c_2 => rfl
                  case h1_2c_2 => exact e72
                  case h2_2c_2 => exact (ld34 p3 k _ u (HcB.out u hu))
                · intro A u hu hpu hsz hout hdeps
                  have e73 : A.eval (.tmp 73) = (.pointer (some ⟨B k, 0, none⟩)) := by have h := depL hdeps 2 (by kernel_rfl) 73 (by kernel_rfl); exact h
                  refine ifw_none rfl ?_
                  with_reducible refine shown_q (Value.agg S.toArray) ?qq_2c_3 (fun _ _ => ?qr_2c_3)
                  case qr_2c_3 => exact (rfl : (Value.agg S.toArray) = (Value.agg S.toArray))
                  with_reducible refine quietAt_call 15 Tryd.f15 ?h0_2c_3 ?h1_2c_3 ?h2_2c_3 #[.tmp 73] #[34] ?h3_2c_3 (Value.agg S.toArray) #[(Value.pointer (some ⟨B k, 0, none⟩))] ?h4_2c_3 ?h5_2c_3
                  case h0_2c_3 => exact Tryd.func15
                  case h1_2c_3 => kernel_rfl
                  case h2_2c_3 => kernel_rfl
                  case h3_2c_3 => rfl
                  case h4_2c_3 => exact map1 _ _ _ e73
                  case h5_2c_3 => exact (HSm.out u hu)
                · intro A u hu hpu hsz hout hdeps
                  have e8 : A.eval (.tmp 8) = (.int .i64 (k : Nat)) := (hout 8 (by kernel_rfl)).trans rfl
                  refine ifw_none rfl ?_
                  with_reducible refine shown_q (Value.int .i64 (k : Nat)) ?qq_2c_4 (fun _ _ => ?qr_2c_4)
                  case qr_2c_4 => exact (rfl : (Value.int .i64 (k : Nat)) = (Value.int .i64 (k : Nat)))
                  with_reducible refine quietAt_mv (.tmp 8) (Value.int .i64 (k : Nat)) ?h0_2c_4 ?h1_2c_4
                  case h0_2c_4 => rfl
                  case h1_2c_4 => exact e8
                · intro A u hu hpu hsz hout hdeps
                  have e4 : A.eval (.tmp 4) = (.pointer (some ⟨p4, 0, none⟩)) := (hout 4 (by kernel_rfl)).trans rfl
                  have e75 : A.eval (.tmp 75) = (.int .i64 (k : Nat)) := by have h := depL hdeps 4 (by kernel_rfl) 75 (by kernel_rfl); exact h
                  refine ifw_none rfl ?_
                  with_reducible refine shown_q (Value.pointer (some ⟨p4, k, none⟩)) ?qq_2c_5 (fun _ _ => ?qr_2c_5)
                  case qr_2c_5 => exact (rfl : (Value.pointer (some ⟨p4, k, none⟩)) = (Value.pointer (some ⟨p4, k, none⟩)))
                  with_reducible refine quietAt_idx 36 (.tmp 4) (.tmp 75) (Value.pointer (some ⟨p4, 0, none⟩)) (Value.int .i64 (k : Nat)) (Value.pointer (some ⟨p4, k, none⟩)) ?h0_2c_5 ?h1_2c_5 ?h2_2c_5 ?h3_2c_5
                  case h0_2c_5 => rfl
                  case h1_2c_5 => exact e4
                  case h2_2c_5 => exact e75
                  case h3_2c_5 => exact (idx36 p4 k hk8 u)
                · intro A u hu hpu hsz hout hdeps
                  have e76 : A.eval (.tmp 76) = (.pointer (some ⟨p4, k, none⟩)) := by have h := depL hdeps 5 (by kernel_rfl) 76 (by kernel_rfl); exact h
                  refine ifw_none rfl ?_
                  with_reducible refine shown_q (Value.slice va vn vc) ?qq_2c_6 (fun _ _ => ?qr_2c_6)
                  case qr_2c_6 => exact (rfl : (Value.slice va vn vc) = (Value.slice va vn vc))
                  with_reducible refine quietAt_ld 25 (.tmp 76) (Value.pointer (some ⟨p4, k, none⟩)) (Value.slice va vn vc) ?h0_2c_6 ?h1_2c_6 ?h2_2c_6
                  case h0_2c_6 => rfl
                  case h1_2c_6 => exact e76
                  case h2_2c_6 => exact (ld25 p4 k vn vc va u (HcV.out u hu))
                · intro A u hu hpu hsz hout hdeps
                  have e77 : A.eval (.tmp 77) = (.slice va vn vc) := by have h := depL hdeps 6 (by kernel_rfl) 77 (by kernel_rfl); exact h
                  refine ifw_none rfl ?_
                  with_reducible refine shown_call 8 Tryd.f8 ?h0_2c_7 ?h1_2c_7 ?h2_2c_7 #[.tmp 77] #[25] ?h3_2c_7 #[(Value.slice va vn vc)] ?h4_2c_7 ?h5_2c_7
                  case h0_2c_7 => exact Tryd.func8
                  case h1_2c_7 => kernel_rfl
                  case h2_2c_7 => kernel_rfl
                  case h3_2c_7 => rfl
                  case h4_2c_7 => exact map1 _ _ _ e77
                  case h5_2c_7 => exact (HCp.out u hu).mono fun e w' ⟨v', he, ho, hg⟩ => ⟨v', he, hg, v', rfl, ho.rd.mono (fun _ _ _ => trivial)⟩
                · intro A u hu hpu hsz hout hdeps
                  have f78 : (fun v u => ∃ z, v = z ∧ Rd u (fun _ => True) z X) (A.eval (.tmp 78)) u := by have h := depL hdeps 7 (by kernel_rfl) 78 (by kernel_rfl); exact h
                  obtain ⟨V78, e78, HV78⟩ := f78
                  refine ifw_none rfl ?_
                  with_reducible refine shown_q (Value.agg S.toArray) ?qq_2c_8 (fun _ _ => ?qr_2c_8)
                  case qr_2c_8 => exact (rfl : (Value.agg S.toArray) = (Value.agg S.toArray))
                  with_reducible refine quietAt_call 9 Tryd.f9 ?h0_2c_8 ?h1_2c_8 ?h2_2c_8 #[.tmp 78] #[25] ?h3_2c_8 (Value.agg S.toArray) #[V78] ?h4_2c_8 ?h5_2c_8
                  case h0_2c_8 => exact Tryd.func9
                  case h1_2c_8 => kernel_rfl
                  case h2_2c_8 => kernel_rfl
                  case h3_2c_8 => rfl
                  case h4_2c_8 => exact map1 _ _ _ e78
                  case h5_2c_8 => exact (HDs.out u _ hu HV78)
                · intro A u hu hpu hsz hout hdeps
                  have e74 : A.eval (.tmp 74) = (.agg S.toArray) := by have h := depL hdeps 3 (by kernel_rfl) 74 (by kernel_rfl); exact h
                  have e79 : A.eval (.tmp 79) = (.agg S.toArray) := by have h := depL hdeps 8 (by kernel_rfl) 79 (by kernel_rfl); exact h
                  refine ifw_none rfl ?_
                  with_reducible refine shown_q (Value.bool false) ?qq_2c_9 (fun _ _ => ?qr_2c_9)
                  case qr_2c_9 => exact (rfl : (Value.bool false) = (Value.bool false))
                  with_reducible refine quietAt_bin .neq 26 (.tmp 74) (.tmp 79) 26 (Value.agg S.toArray) (Value.agg S.toArray) (Value.bool false) ?h0_2c_9 ?h1_2c_9 ?h2_2c_9 ?h3_2c_9
                  case h0_2c_9 => rfl
                  case h1_2c_9 => exact e74
                  case h2_2c_9 => exact e79
                  case h3_2c_9 => exact (HNe.out _ _ u)
                · intro A u hu hpu hsz hout hdeps
                  have e80 : A.eval (.tmp 80) = (.bool false) := by have h := depL hdeps 9 (by kernel_rfl) 80 (by kernel_rfl); exact h
                  refine ifw_none rfl ?_
                  with_reducible refine shown_q (Value.bool false) ?qq_2c_10 (fun _ _ => ?qr_2c_10)
                  case qr_2c_10 => exact (rfl : (Value.bool false) = (Value.bool false))
                  with_reducible refine quietAt_mv (.tmp 80) (Value.bool false) ?h0_2c_10 ?h1_2c_10
                  case h0_2c_10 => rfl
                  case h1_2c_10 => exact e80
                · intro A u hu hpu hsz hout hdeps
                  have e81 : A.eval (.tmp 81) = (.bool false) := by have h := depL hdeps 10 (by kernel_rfl) 81 (by kernel_rfl); exact h
                  have e8 : A.eval (.tmp 8) = (.int .i64 (k : Nat)) := (hout 8 (by kernel_rfl)).trans rfl
                  refine ifw_want 10 false 81 rfl rfl e81 ?_
                  with_reducible refine shown_q (Value.int .i64 (k : Nat)) ?qq_2c_11 (fun _ _ => ?qr_2c_11)
                  case qr_2c_11 => exact (rfl : (Value.int .i64 (k : Nat)) = (Value.int .i64 (k : Nat)))
                  with_reducible refine quietAt_mv (.tmp 8) (Value.int .i64 (k : Nat)) ?h0_2c_11 ?h1_2c_11
                  case h0_2c_11 => rfl
                  case h1_2c_11 => exact e8
                · intro A u hu hpu hsz hout hdeps
                  have e81 : A.eval (.tmp 81) = (.bool false) := by have h := depL hdeps 10 (by kernel_rfl) 81 (by kernel_rfl); exact h
                  have e3 : A.eval (.tmp 3) = (.pointer (some ⟨p3, 0, none⟩)) := (hout 3 (by kernel_rfl)).trans rfl
                  have e82 : A.eval (.tmp 82) = (.int .i64 (k : Nat)) := by have h := depL hdeps 11 (by kernel_rfl) 82 (by kernel_rfl); exact h
                  refine ifw_want 10 false 81 rfl rfl e81 ?_
                  with_reducible refine shown_q (Value.pointer (some ⟨p3, k, none⟩)) ?qq_2c_12 (fun _ _ => ?qr_2c_12)
                  case qr_2c_12 => exact (rfl : (Value.pointer (some ⟨p3, k, none⟩)) = (Value.pointer (some ⟨p3, k, none⟩)))
                  with_reducible refine quietAt_idx 35 (.tmp 3) (.tmp 82) (Value.pointer (some ⟨p3, 0, none⟩)) (Value.int .i64 (k : Nat)) (Value.pointer (some ⟨p3, k, none⟩)) ?h0_2c_12 ?h1_2c_12 ?h2_2c_12 ?h3_2c_12
                  case h0_2c_12 => rfl
                  case h1_2c_12 => exact e3
                  case h2_2c_12 => exact e82
                  case h3_2c_12 => exact (idx35 p3 k hk8 u)
                · intro A u hu hpu hsz hout hdeps
                  have e81 : A.eval (.tmp 81) = (.bool false) := by have h := depL hdeps 10 (by kernel_rfl) 81 (by kernel_rfl); exact h
                  have e83 : A.eval (.tmp 83) = (.pointer (some ⟨p3, k, none⟩)) := by have h := depL hdeps 12 (by kernel_rfl) 83 (by kernel_rfl); exact h
                  refine ifw_want 10 false 81 rfl rfl e81 ?_
                  with_reducible refine shown_q (Value.pointer (some ⟨B k, 0, none⟩)) ?qq_2c_13 (fun _ _ => ?qr_2c_13)
                  case qr_2c_13 => exact (rfl : (Value.pointer (some ⟨B k, 0, none⟩)) = (Value.pointer (some ⟨B k, 0, none⟩)))
                  with_reducible refine quietAt_ld 34 (.tmp 83) (Value.pointer (some ⟨p3, k, none⟩)) (Value.pointer (some ⟨B k, 0, none⟩)) ?h0_2c_13 ?h1_2c_13 ?h2_2c_13
                  case h0_2c_13 => rfl
                  case h1_2c_13 => exact e83
                  case h2_2c_13 => exact (ld34 p3 k _ u (HcB.out u hu))
                · intro A u hu hpu hsz hout hdeps
                  have e81 : A.eval (.tmp 81) = (.bool false) := by have h := depL hdeps 10 (by kernel_rfl) 81 (by kernel_rfl); exact h
                  have e84 : A.eval (.tmp 84) = (.pointer (some ⟨B k, 0, none⟩)) := by have h := depL hdeps 13 (by kernel_rfl) 84 (by kernel_rfl); exact h
                  refine ifw_want 10 false 81 rfl rfl e81 ?_
                  with_reducible refine shown_q (Value.int .u64 (vn : Nat)) ?qq_2c_14 (fun _ _ => ?qr_2c_14)
                  case qr_2c_14 => exact (rfl : (Value.int .u64 (vn : Nat)) = (Value.int .u64 (vn : Nat)))
                  with_reducible refine quietAt_call 16 Tryd.f16 ?h0_2c_14 ?h1_2c_14 ?h2_2c_14 #[.tmp 84] #[34] ?h3_2c_14 (Value.int .u64 (vn : Nat)) #[(Value.pointer (some ⟨B k, 0, none⟩))] ?h4_2c_14 ?h5_2c_14
                  case h0_2c_14 => exact Tryd.func16
                  case h1_2c_14 => kernel_rfl
                  case h2_2c_14 => kernel_rfl
                  case h3_2c_14 => rfl
                  case h4_2c_14 => exact map1 _ _ _ e84
                  case h5_2c_14 => exact (HLn.out u hu)
                · intro A u hu hpu hsz hout hdeps
                  have e81 : A.eval (.tmp 81) = (.bool false) := by have h := depL hdeps 10 (by kernel_rfl) 81 (by kernel_rfl); exact h
                  have e8 : A.eval (.tmp 8) = (.int .i64 (k : Nat)) := (hout 8 (by kernel_rfl)).trans rfl
                  refine ifw_want 10 false 81 rfl rfl e81 ?_
                  with_reducible refine shown_q (Value.int .i64 (k : Nat)) ?qq_2c_15 (fun _ _ => ?qr_2c_15)
                  case qr_2c_15 => exact (rfl : (Value.int .i64 (k : Nat)) = (Value.int .i64 (k : Nat)))
                  with_reducible refine quietAt_mv (.tmp 8) (Value.int .i64 (k : Nat)) ?h0_2c_15 ?h1_2c_15
                  case h0_2c_15 => rfl
                  case h1_2c_15 => exact e8
                · intro A u hu hpu hsz hout hdeps
                  have e81 : A.eval (.tmp 81) = (.bool false) := by have h := depL hdeps 10 (by kernel_rfl) 81 (by kernel_rfl); exact h
                  have e4 : A.eval (.tmp 4) = (.pointer (some ⟨p4, 0, none⟩)) := (hout 4 (by kernel_rfl)).trans rfl
                  have e86 : A.eval (.tmp 86) = (.int .i64 (k : Nat)) := by have h := depL hdeps 15 (by kernel_rfl) 86 (by kernel_rfl); exact h
                  refine ifw_want 10 false 81 rfl rfl e81 ?_
                  with_reducible refine shown_q (Value.pointer (some ⟨p4, k, none⟩)) ?qq_2c_16 (fun _ _ => ?qr_2c_16)
                  case qr_2c_16 => exact (rfl : (Value.pointer (some ⟨p4, k, none⟩)) = (Value.pointer (some ⟨p4, k, none⟩)))
                  with_reducible refine quietAt_idx 36 (.tmp 4) (.tmp 86) (Value.pointer (some ⟨p4, 0, none⟩)) (Value.int .i64 (k : Nat)) (Value.pointer (some ⟨p4, k, none⟩)) ?h0_2c_16 ?h1_2c_16 ?h2_2c_16 ?h3_2c_16
                  case h0_2c_16 => rfl
                  case h1_2c_16 => exact e4
                  case h2_2c_16 => exact e86
                  case h3_2c_16 => exact (idx36 p4 k hk8 u)
                · intro A u hu hpu hsz hout hdeps
                  have e81 : A.eval (.tmp 81) = (.bool false) := by have h := depL hdeps 10 (by kernel_rfl) 81 (by kernel_rfl); exact h
                  have e87 : A.eval (.tmp 87) = (.pointer (some ⟨p4, k, none⟩)) := by have h := depL hdeps 16 (by kernel_rfl) 87 (by kernel_rfl); exact h
                  refine ifw_want 10 false 81 rfl rfl e81 ?_
                  with_reducible refine shown_q (Value.slice va vn vc) ?qq_2c_17 (fun _ _ => ?qr_2c_17)
                  case qr_2c_17 => exact (rfl : (Value.slice va vn vc) = (Value.slice va vn vc))
                  with_reducible refine quietAt_ld 25 (.tmp 87) (Value.pointer (some ⟨p4, k, none⟩)) (Value.slice va vn vc) ?h0_2c_17 ?h1_2c_17 ?h2_2c_17
                  case h0_2c_17 => rfl
                  case h1_2c_17 => exact e87
                  case h2_2c_17 => exact (ld25 p4 k vn vc va u (HcV.out u hu))
                · intro A u hu hpu hsz hout hdeps
                  have e81 : A.eval (.tmp 81) = (.bool false) := by have h := depL hdeps 10 (by kernel_rfl) 81 (by kernel_rfl); exact h
                  have e88 : A.eval (.tmp 88) = (.slice va vn vc) := by have h := depL hdeps 17 (by kernel_rfl) 88 (by kernel_rfl); exact h
                  refine ifw_want 10 false 81 rfl rfl e81 ?_
                  with_reducible refine shown_q (Value.int .i64 (vn : Nat)) ?qq_2c_18 (fun _ _ => ?qr_2c_18)
                  case qr_2c_18 => exact (rfl : (Value.int .i64 (vn : Nat)) = (Value.int .i64 (vn : Nat)))
                  with_reducible refine quietAt_len (.tmp 88) 25 ?h0_2c_18 va vn vc ?h1_2c_18 ?h2_2c_18
                  case h0_2c_18 => rfl
                  case h1_2c_18 => exact e88
                  case h2_2c_18 => kernel_rfl
                · intro A u hu hpu hsz hout hdeps
                  have e81 : A.eval (.tmp 81) = (.bool false) := by have h := depL hdeps 10 (by kernel_rfl) 81 (by kernel_rfl); exact h
                  have e89 : A.eval (.tmp 89) = (.int .i64 (vn : Nat)) := by have h := depL hdeps 18 (by kernel_rfl) 89 (by kernel_rfl); exact h
                  refine ifw_want 10 false 81 rfl rfl e81 ?_
                  with_reducible refine shown_q (Value.int .u64 (vn : Nat)) ?qq_2c_19 (fun _ _ => ?qr_2c_19)
                  case qr_2c_19 => exact (rfl : (Value.int .u64 (vn : Nat)) = (Value.int .u64 (vn : Nat)))
                  with_reducible refine quietAt_cv 3 40 (.tmp 89) (Value.int .i64 (vn : Nat)) (Value.int .u64 (vn : Nat)) ?h0_2c_19 ?h1_2c_19 ?h2_2c_19
                  case h0_2c_19 => rfl
                  case h1_2c_19 => exact e89
                  case h2_2c_19 => exact (HCv.out u)
                · intro A u hu hpu hsz hout hdeps
                  have e81 : A.eval (.tmp 81) = (.bool false) := by have h := depL hdeps 10 (by kernel_rfl) 81 (by kernel_rfl); exact h
                  have e85 : A.eval (.tmp 85) = (.int .u64 (vn : Nat)) := by have h := depL hdeps 14 (by kernel_rfl) 85 (by kernel_rfl); exact h
                  have e90 : A.eval (.tmp 90) = (.int .u64 (vn : Nat)) := by have h := depL hdeps 19 (by kernel_rfl) 90 (by kernel_rfl); exact h
                  refine ifw_want 10 false 81 rfl rfl e81 ?_
                  with_reducible refine shown_q (Value.bool false) ?qq_2c_20 (fun _ _ => ?qr_2c_20)
                  case qr_2c_20 => exact (rfl : (Value.bool false) = (Value.bool false))
                  with_reducible refine quietAt_bin .neq 40 (.tmp 85) (.tmp 90) 40 (Value.int .u64 (vn : Nat)) (Value.int .u64 (vn : Nat)) (Value.bool false) ?h0_2c_20 ?h1_2c_20 ?h2_2c_20 ?h3_2c_20
                  case h0_2c_20 => rfl
                  case h1_2c_20 => exact e85
                  case h2_2c_20 => exact e90
                  case h3_2c_20 => exact (neq40 vn _ _ u)
                · intro A u hu hpu hsz hout hdeps
                  have e81 : A.eval (.tmp 81) = (.bool false) := by have h := depL hdeps 10 (by kernel_rfl) 81 (by kernel_rfl); exact h
                  have e91 : A.eval (.tmp 91) = (.bool false) := by have h := depL hdeps 20 (by kernel_rfl) 91 (by kernel_rfl); exact h
                  refine ifw_none rfl ?_
                  with_reducible refine shown_q (Value.bool false) ?qq_2c_21 (fun _ _ => ?qr_2c_21)
                  case qr_2c_21 => exact (rfl : (Value.bool false) = (Value.bool false))
                  with_reducible refine quietAt_pick (.tmp 81) (.const (.bool true)) (.tmp 91) false (Value.bool false) ?h0_2c_21 ?h1_2c_21 ?h2_2c_21
                  case h0_2c_21 => rfl
                  case h1_2c_21 => exact e81
                  case h2_2c_21 => rw [if_neg (by decide)]; exact e91
                · intro A u1 listed hh hall
                  have hA := hh.frame
                  have HU := hid hh.grown
                  obtain ⟨x71, hx71⟩ : ∃ x, A.eval (.tmp 71) = x := ⟨_, rfl⟩
                  have f71 : (fun v _ => v = (Value.int .i64 (k : Nat))) x71 u1 := by rw [← hx71]; exact hh.got 0 _ 71 rfl rfl (hall 0 (by decide))
                  obtain ⟨x72, hx72⟩ : ∃ x, A.eval (.tmp 72) = x := ⟨_, rfl⟩
                  have f72 : (fun v _ => v = (Value.pointer (some ⟨p3, k, none⟩))) x72 u1 := by rw [← hx72]; exact hh.got 1 _ 72 rfl rfl (hall 1 (by decide))
                  obtain ⟨x73, hx73⟩ : ∃ x, A.eval (.tmp 73) = x := ⟨_, rfl⟩
                  have f73 : (fun v _ => v = (Value.pointer (some ⟨B k, 0, none⟩))) x73 u1 := by rw [← hx73]; exact hh.got 2 _ 73 rfl rfl (hall 2 (by decide))
                  obtain ⟨x74, hx74⟩ : ∃ x, A.eval (.tmp 74) = x := ⟨_, rfl⟩
                  have f74 : (fun v _ => v = (Value.agg S.toArray)) x74 u1 := by rw [← hx74]; exact hh.got 3 _ 74 rfl rfl (hall 3 (by decide))
                  obtain ⟨x75, hx75⟩ : ∃ x, A.eval (.tmp 75) = x := ⟨_, rfl⟩
                  have f75 : (fun v _ => v = (Value.int .i64 (k : Nat))) x75 u1 := by rw [← hx75]; exact hh.got 4 _ 75 rfl rfl (hall 4 (by decide))
                  obtain ⟨x76, hx76⟩ : ∃ x, A.eval (.tmp 76) = x := ⟨_, rfl⟩
                  have f76 : (fun v _ => v = (Value.pointer (some ⟨p4, k, none⟩))) x76 u1 := by rw [← hx76]; exact hh.got 5 _ 76 rfl rfl (hall 5 (by decide))
                  obtain ⟨x77, hx77⟩ : ∃ x, A.eval (.tmp 77) = x := ⟨_, rfl⟩
                  have f77 : (fun v _ => v = (Value.slice va vn vc)) x77 u1 := by rw [← hx77]; exact hh.got 6 _ 77 rfl rfl (hall 6 (by decide))
                  obtain ⟨x78, hx78⟩ : ∃ x, A.eval (.tmp 78) = x := ⟨_, rfl⟩
                  have f78 : (fun v u => ∃ z, v = z ∧ Rd u (fun _ => True) z X) x78 u1 := by rw [← hx78]; exact hh.got 7 _ 78 rfl rfl (hall 7 (by decide))
                  obtain ⟨x79, hx79⟩ : ∃ x, A.eval (.tmp 79) = x := ⟨_, rfl⟩
                  have f79 : (fun v _ => v = (Value.agg S.toArray)) x79 u1 := by rw [← hx79]; exact hh.got 8 _ 79 rfl rfl (hall 8 (by decide))
                  obtain ⟨x80, hx80⟩ : ∃ x, A.eval (.tmp 80) = x := ⟨_, rfl⟩
                  have f80 : (fun v _ => v = (Value.bool false)) x80 u1 := by rw [← hx80]; exact hh.got 9 _ 80 rfl rfl (hall 9 (by decide))
                  obtain ⟨x81, hx81⟩ : ∃ x, A.eval (.tmp 81) = x := ⟨_, rfl⟩
                  have f81 : (fun v _ => v = (Value.bool false)) x81 u1 := by rw [← hx81]; exact hh.got 10 _ 81 rfl rfl (hall 10 (by decide))
                  obtain ⟨x82, hx82⟩ : ∃ x, A.eval (.tmp 82) = x := ⟨_, rfl⟩
                  have f82 : (fun v _ => v = (Value.int .i64 (k : Nat))) x82 u1 := by rw [← hx82]; exact hh.got 11 _ 82 rfl rfl (hall 11 (by decide))
                  obtain ⟨x83, hx83⟩ : ∃ x, A.eval (.tmp 83) = x := ⟨_, rfl⟩
                  have f83 : (fun v _ => v = (Value.pointer (some ⟨p3, k, none⟩))) x83 u1 := by rw [← hx83]; exact hh.got 12 _ 83 rfl rfl (hall 12 (by decide))
                  obtain ⟨x84, hx84⟩ : ∃ x, A.eval (.tmp 84) = x := ⟨_, rfl⟩
                  have f84 : (fun v _ => v = (Value.pointer (some ⟨B k, 0, none⟩))) x84 u1 := by rw [← hx84]; exact hh.got 13 _ 84 rfl rfl (hall 13 (by decide))
                  obtain ⟨x85, hx85⟩ : ∃ x, A.eval (.tmp 85) = x := ⟨_, rfl⟩
                  have f85 : (fun v _ => v = (Value.int .u64 (vn : Nat))) x85 u1 := by rw [← hx85]; exact hh.got 14 _ 85 rfl rfl (hall 14 (by decide))
                  obtain ⟨x86, hx86⟩ : ∃ x, A.eval (.tmp 86) = x := ⟨_, rfl⟩
                  have f86 : (fun v _ => v = (Value.int .i64 (k : Nat))) x86 u1 := by rw [← hx86]; exact hh.got 15 _ 86 rfl rfl (hall 15 (by decide))
                  obtain ⟨x87, hx87⟩ : ∃ x, A.eval (.tmp 87) = x := ⟨_, rfl⟩
                  have f87 : (fun v _ => v = (Value.pointer (some ⟨p4, k, none⟩))) x87 u1 := by rw [← hx87]; exact hh.got 16 _ 87 rfl rfl (hall 16 (by decide))
                  obtain ⟨x88, hx88⟩ : ∃ x, A.eval (.tmp 88) = x := ⟨_, rfl⟩
                  have f88 : (fun v _ => v = (Value.slice va vn vc)) x88 u1 := by rw [← hx88]; exact hh.got 17 _ 88 rfl rfl (hall 17 (by decide))
                  obtain ⟨x89, hx89⟩ : ∃ x, A.eval (.tmp 89) = x := ⟨_, rfl⟩
                  have f89 : (fun v _ => v = (Value.int .i64 (vn : Nat))) x89 u1 := by rw [← hx89]; exact hh.got 18 _ 89 rfl rfl (hall 18 (by decide))
                  obtain ⟨x90, hx90⟩ : ∃ x, A.eval (.tmp 90) = x := ⟨_, rfl⟩
                  have f90 : (fun v _ => v = (Value.int .u64 (vn : Nat))) x90 u1 := by rw [← hx90]; exact hh.got 19 _ 90 rfl rfl (hall 19 (by decide))
                  obtain ⟨x91, hx91⟩ : ∃ x, A.eval (.tmp 91) = x := ⟨_, rfl⟩
                  have f91 : (fun v _ => v = (Value.bool false)) x91 u1 := by rw [← hx91]; exact hh.got 20 _ 91 rfl rfl (hall 20 (by decide))
                  obtain ⟨x92, hx92⟩ : ∃ x, A.eval (.tmp 92) = x := ⟨_, rfl⟩
                  have f92 : (fun v _ => v = (Value.bool false)) x92 u1 := by rw [← hx92]; exact hh.got 21 _ 92 rfl rfl (hall 21 (by decide))
                  dsimp only [wrote, List.foldl] at hA
                  rw [hx71, hx72, hx73, hx74, hx75, hx76, hx77, hx78, hx79, hx80, hx81, hx82, hx83, hx84, hx85, hx86, hx87, hx88, hx89, hx90, hx91, hx92] at hA
                  clear hh hall hx71 hx72 hx73 hx74 hx75 hx76 hx77 hx78 hx79 hx80 hx81 hx82 hx83 hx84 hx85 hx86 hx87 hx88 hx89 hx90 hx91 hx92
                  replace f71 := (f71 : x71 = (.int .i64 (k : Nat)))
                  subst f71
                  replace f72 := (f72 : x72 = (.pointer (some ⟨p3, k, none⟩)))
                  subst f72
                  replace f73 := (f73 : x73 = (.pointer (some ⟨B k, 0, none⟩)))
                  subst f73
                  replace f74 := (f74 : x74 = (.agg S.toArray))
                  subst f74
                  replace f75 := (f75 : x75 = (.int .i64 (k : Nat)))
                  subst f75
                  replace f76 := (f76 : x76 = (.pointer (some ⟨p4, k, none⟩)))
                  subst f76
                  replace f77 := (f77 : x77 = (.slice va vn vc))
                  subst f77
                  obtain ⟨V78, e78, HV78⟩ := f78
                  subst e78
                  replace f79 := (f79 : x79 = (.agg S.toArray))
                  subst f79
                  replace f80 := (f80 : x80 = (.bool false))
                  subst f80
                  replace f81 := (f81 : x81 = (.bool false))
                  subst f81
                  replace f82 := (f82 : x82 = (.int .i64 (k : Nat)))
                  subst f82
                  replace f83 := (f83 : x83 = (.pointer (some ⟨p3, k, none⟩)))
                  subst f83
                  replace f84 := (f84 : x84 = (.pointer (some ⟨B k, 0, none⟩)))
                  subst f84
                  replace f85 := (f85 : x85 = (.int .u64 (vn : Nat)))
                  subst f85
                  replace f86 := (f86 : x86 = (.int .i64 (k : Nat)))
                  subst f86
                  replace f87 := (f87 : x87 = (.pointer (some ⟨p4, k, none⟩)))
                  subst f87
                  replace f88 := (f88 : x88 = (.slice va vn vc))
                  subst f88
                  replace f89 := (f89 : x89 = (.int .i64 (vn : Nat)))
                  subst f89
                  replace f90 := (f90 : x90 = (.int .u64 (vn : Nat)))
                  subst f90
                  replace f91 := (f91 : x91 = (.bool false))
                  subst f91
                  replace f92 := (f92 : x92 = (.bool false))
                  subst f92
                  subst hA
                  show wpList _ _ _ [] _ _
                  unfold wpList
                  simp only [Act.put, List.setIfInBounds_toArray, List.set_cons_succ, List.set_cons_zero]
                  have HT := hid HU.out
                  clear HU
                  go_wp2_with fail
                  go_roundw
                  case rel => exact ⟨k + 1, by omega, by go_num, hid (gtrans HQ.out HT.out)⟩
                  case measure => simp [intOf]; omega
              · have hk9 : ¬ (k : Int) < 8 := by omega
                go_wp2_with (go_at_call 12; (with_reducible refine (HWk.out _ (gtrans HGf.out HQ.out)).mono ?_); rintro e w9 ⟨rfl, hg9⟩; have HG9 := hid hg9; clear hg9)
                go_ret
                exact ⟨rfl, gtrans (gtrans HGf.out HQ.out) HG9.out⟩
end Go.Proofs.YtmiojplbcjhggabDoor
