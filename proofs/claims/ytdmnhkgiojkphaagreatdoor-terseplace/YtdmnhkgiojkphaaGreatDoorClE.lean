/- clone, walked. -/
import Derived.Test.YtdmnhkgiojkphaaGreatDoorClD
namespace Go.Proofs.YtdmnhkgiojkphaaGreatDoor
open Go Go.RowKit
open Go.RowKit (wrap32 wrap64)

/-- What clone promises of trees that hold no more than m. -/
def CloneOk (m : Nat) : Prop := ∀ (t : Tree), cntT t ≤ m → ∀ (w : World) (F : Nat → Prop) (v : Value), RdT w F t v →
  Calls Tryz.prog 62 #[v] w fun e w' => ∃ v', e = .returned v' ∧ RdT w' (fun g => w.heap.size ≤ g) t v' ∧ w.grownBy w' none
set_option maxRecDepth 100000 in
set_option maxHeartbeats 8000000 in
theorem cloneT_any : ∀ m, m ≤ 1099511627776 → CloneOk m
  | 0, _, t, ht, w, F, v, hv => by rw [cntT_eq] at ht; omega
  | m + 1, hm, t, ht, w, F, v, hv => by
    obtain ⟨i9, hi9, hz9', hs9, hb9'⟩ := info_parts Tryz.info9
    obtain ⟨z9, hz9, hzz9⟩ : ∃ z, i9.zero = some z ∧ z.cells.size = 1 := ⟨_, hz9', rfl⟩
    obtain ⟨i26, hi26, hz26, hs26, hb26⟩ := info_parts Tryz.info26
    obtain ⟨z26, hzz, hzs⟩ : ∃ z, i26.zero = some z ∧ z.cells.size = 6 := ⟨_, hz26, rfl⟩
    clear hz9' hz26
    obtain ⟨kv0, iv0, rfl, hk, hi⟩ := RdT_split hv
    have hkl := keyN_length t.keys
    have hil0 := cntL_length t.items
    have hkb : t.keys.length ≤ 1099511627776 := by rw [cntT_eq] at ht; omega
    have hib : t.items.length ≤ 1099511627776 := by rw [cntT_eq] at ht; omega
    have htx : t.text.size ≤ 1099511627776 := by rw [cntT_eq] at ht; omega
    have HKz : Hid (∀ k ∈ t.keys, k.size ≤ 1099511627776) := hid (fun k hk => by have := keyN_mem hk; rw [cntT_eq] at ht; omega)
    have HRec : Hid (∀ (i : Nat) (hi : i < t.items.length) (u : World) (v : Value), RdT u F t.items[i] v → Calls Tryz.prog 62 #[v] u fun e w' => ∃ v', e = .returned v' ∧ RdT w' (fun g => u.heap.size ≤ g) t.items[i] v' ∧ u.grownBy w' none) := hid (fun i hi u v hv => cloneT_any m (by omega) t.items[i] (by have := cntL_mem (List.getElem_mem hi); rw [cntT_eq] at ht; omega) u F v hv)
    obtain ⟨ka, kc, rfl⟩ := hk.slice
    have HKat : Hid (∀ i (hi : i < t.keys.length), ∃ b o, ka = some ⟨b, o, none⟩ ∧ ∀ u : World, w.grownBy u none → u.cell? ⟨b, o + i, none⟩ = some (.string t.keys[i])) := hid (fun i hi => by
      obtain ⟨b, o, e, _, h⟩ := hk.atS i hi
      exact ⟨b, o, e, h⟩)
    obtain ⟨ia, ic, rfl, hic, hir⟩ := hi
    have HIat : Hid (∀ i (hi : i < t.items.length), ∃ (b o : Nat) (V6 : List Value), ia = some ⟨b, o, none⟩ ∧ V6.length = 6 ∧ ∀ u : World, w.grownBy u none → u.rangeAt b (o + i * 6) V6 ∧ RdT u F t.items[i] (.agg V6.toArray)) := hid (fun i hi => by
      obtain ⟨b, o, e, hb, hFb, hrv⟩ := hir (by omega)
      obtain ⟨ds, h4, h5, h6⟩ := RdIs.row t.items hrv i hi
      exact ⟨b, o, ds, e, h4, fun u hu => ⟨range_grown h5 hu hb, h6.on (Stays.none hu)⟩⟩)
    obtain ⟨K, HK⟩ : ∃ z, Hid (t.kind = z) := ⟨_, hid rfl⟩
    obtain ⟨f, Hf⟩ : ∃ z, Hid (t.flag = z) := ⟨_, hid rfl⟩
    obtain ⟨N, HN⟩ : ∃ z, Hid (t.n = z) := ⟨_, hid rfl⟩
    obtain ⟨X, HX⟩ : ∃ z, Hid (t.text = z) := ⟨_, hid rfl⟩
    obtain ⟨KS, HKS⟩ : ∃ z, Hid (t.keys = z) := ⟨_, hid rfl⟩
    obtain ⟨L, HL⟩ : ∃ z, Hid (t.items = z) := ⟨_, hid rfl⟩
    rw [HKS.out] at HKat hkb HKz
    rw [HL.out] at HIat hib HRec
    rw [HX.out] at htx
    rw [HK.out, Hf.out, HN.out, HX.out, HKS.out, HL.out]
    obtain ⟨kn, Hkn⟩ : ∃ z, Hid (KS.length = z) := ⟨_, hid rfl⟩
    obtain ⟨il, Hil⟩ : ∃ z, Hid (L.length = z) := ⟨_, hid rfl⟩
    rw [Hkn.out] at hkb
    rw [Hil.out] at hib
    rw [Hkn.out, Hil.out]
    clear hv ht hm hk hir hkl hil0 hic
    have HCX := hid (fun u : World => clone_any X u (by omega))
    go_enter Tryz.func62, Tryz.ntmps62
    go_upto_region 1 with (first
      | ((with_reducible refine wpList_box_row (by with_unfolding_all rfl) 26 _ (by with_unfolding_all rfl) [.int .i64 K, .bool f, .int .i64 N, .string X, .slice ka kn kc, .slice ia il ic] (by with_unfolding_all rfl) ?_); intro w1 B1 s1 g1; have HB1 := hid B1; have HG1 := hid g1; clear B1 s1 g1)
      | ((with_reducible refine wpList_alloc_row (by with_unfolding_all rfl) 26 (by with_unfolding_all rfl) Z6 Tryz.zero26 ?_); intro w2 B2 s2 g2; have HB2 := hid B2; have HG2 := hid (gtrans HG1.out g2); have HL2 : Hid (w.heap.size < w1.heap.size) := hid HB1.out.lt; replace HB1 := hid (HB1.out.keep g2); clear B2 s2 g2))
    obtain ⟨b1, hb1⟩ : ∃ z, w.heap.size = z := ⟨_, rfl⟩
    have HW := hid hb1
    rw [hb1] at HB1 HL2 ⊢
    clear hb1
    obtain ⟨b2, hb2⟩ : ∃ z, w1.heap.size = z := ⟨_, rfl⟩
    rw [hb2] at HB2 HL2 ⊢
    clear hb2 HG1
    go_upto_region 2 with (first
      | ((with_reducible refine wpList_store_all (by with_unfolding_all rfl) 26 _ _ (by with_unfolding_all rfl) w2.heap.size Z6 [.int .i64 K, .bool f, .int .i64 N, .string X, .slice ka kn kc, .slice ia il ic] 26 (by with_unfolding_all rfl) (by with_unfolding_all rfl) HB3.out (by with_unfolding_all rfl) (by with_unfolding_all exact Tryz.size26) (one6 _ _ _ _ _ _ _ _ _ _) ?_); intro w4 B4 g4 s4; have HB4 := hid B4; have HG4 : Hid (w3.grownBy w4 (some w2.heap.size)) := hid g4; clear B4 g4 s4)
      | ((with_reducible refine wpList_alloc_row (by with_unfolding_all rfl) 26 (by with_unfolding_all rfl) Z6 Tryz.zero26 ?_); intro w3 B3 s3 g3; have HB3 := hid B3; have HG3 := hid g3; clear B3 s3 g3)
      | (with_reducible refine wpList_load_part (by with_unfolding_all rfl) 26 _ (by with_unfolding_all rfl) b1 0 [.int .i64 K, .bool f, .int .i64 N, .string X, .slice ka kn kc, .slice ia il ic] _ (by with_unfolding_all rfl) HB1.out.whole Tryz.underlying26 (by with_unfolding_all rfl) (by with_unfolding_all exact Tryz.size26) ?_))
    obtain ⟨b3, hb3⟩ : ∃ z, w2.heap.size = z := ⟨_, rfl⟩
    have HL3 : Hid (b2 < b3) := hid (by rw [← hb3]; exact HB2.out.lt)
    rw [hb3] at HB4 HG4 ⊢
    have HS2 := hid hb3
    clear hb3 HB3
    have HLL : Hid (b1 < b2 ∧ b2 < b3) := hid ⟨HL2.out, HL3.out⟩
    clear HL2 HL3
    have HG04 : Hid (w.grownBy w4 none) := hid ((gtrans HG2.out HG3.out).andThen HG4.out (fun j hj => .inl (by injection hj with hj; have := HLL.out; have := HW.out; omega)))
    have HC1 : Hid (Blk w4 b1 [.int .i64 K, .bool f, .int .i64 N, .string X, .slice ka kn kc, .slice ia il ic] 26) := hid ((HB1.out.keep HG3.out).on HG4.out (by intro e; injection e with e; have := HLL.out; omega))
    have HC2 : Hid (Blk w4 b2 Z6 26) := hid ((HB2.out.keep HG3.out).on HG4.out (by intro e; injection e with e; have := HLL.out; omega))
    clear HB1 HB2 HG2 HG3 HG4 HS2
    have HL4 : Hid (b3 < w4.heap.size) := hid HB4.out.lt
    obtain ⟨CS, hCS⟩ : ∃ z : List Value, [.int .i64 K, .bool f, .int .i64 N, .string X, .slice ka kn kc, .slice ia il ic] = z := ⟨_, rfl⟩
    have HCS := hid hCS
    clear hCS
    have c3 : w4.cell? ⟨b1, 3, none⟩ = some (.string X) := HC1.out.cell 3
    have k3 : w4.cell? ⟨b3, 3, none⟩ = some (.string X) := HB4.out.cell 3
    go_upto_region 3 with (go_at_call 124; (with_reducible refine (HCX.out w4).mono ?_); rintro e w5 ⟨rfl, hg5⟩; have HG5 := hid hg5; have k5 : w5.cell? ⟨b3, 3, none⟩ = some (.string X) := (HB4.out.keep hg5).cell 3; have f5 := (HB4.out.keep hg5).frozen 3; clear hg5)
    have HB5 : Hid (Blk (w5.setCell ⟨b3, 3, none⟩ (.string X)) b3 [.int .i64 K, .bool f, .int .i64 N, .string X, .slice ka kn kc, .slice ia il ic] 26) := hid ((HB4.out.keep HG5.out).set 3 (.string X))
    have HG6 : Hid (w5.grownBy (w5.setCell ⟨b3, 3, none⟩ (.string X)) (some b3)) := hid (gset w5 ⟨b3, 3, none⟩ (.string X))
    have HD1 : Hid (Blk (w5.setCell ⟨b3, 3, none⟩ (.string X)) b1 [.int .i64 K, .bool f, .int .i64 N, .string X, .slice ka kn kc, .slice ia il ic] 26) := hid ((HC1.out.keep HG5.out).on HG6.out (by intro e; injection e with e; have := HLL.out; omega))
    have HD2 : Hid (Blk (w5.setCell ⟨b3, 3, none⟩ (.string X)) b2 Z6 26) := hid ((HC2.out.keep HG5.out).on HG6.out (by intro e; injection e with e; have := HLL.out; omega))
    have HG06 : Hid (w.grownBy (w5.setCell ⟨b3, 3, none⟩ (.string X)) none) := hid ((gtrans HG04.out HG5.out).andThen HG6.out (fun j hj => .inl (by injection hj with hj; have := HLL.out; have := HW.out; omega)))
    obtain ⟨w6, hw6⟩ : ∃ z, w5.setCell ⟨b3, 3, none⟩ (.string X) = z := ⟨_, rfl⟩
    rw [hw6] at HB5 HD1 HD2 HG06 ⊢
    clear hw6 k5 f5 c3 k3 HB4 HG5 HG6 HC1 HC2 HG04 HL4
    have a4 := HB5.out.cell 4
    have a5 := HB5.out.cell 5
    have af := fun o => HB5.out.frozen o
    go_upto_region 4 with fail
    have HBx : Hid (Blk ((w6.setCell ⟨b3, 4, none⟩ (.slice none 0 0)).setCell ⟨b3, 5, none⟩ (.slice none 0 0)) b3 [.int .i64 K, .bool f, .int .i64 N, .string X, .slice none 0 0, .slice none 0 0] 26) := hid ((HB5.out.set 4 (.slice none 0 0)).set 5 (.slice none 0 0))
    have HGx : Hid (w6.grownBy ((w6.setCell ⟨b3, 4, none⟩ (.slice none 0 0)).setCell ⟨b3, 5, none⟩ (.slice none 0 0)) (some b3)) := hid (gtrans (gset w6 ⟨b3, 4, none⟩ (.slice none 0 0)) (gset _ ⟨b3, 5, none⟩ (.slice none 0 0)))
    obtain ⟨w7, hw7⟩ : ∃ z, (w6.setCell ⟨b3, 4, none⟩ (.slice none 0 0)).setCell ⟨b3, 5, none⟩ (.slice none 0 0) = z := ⟨_, rfl⟩
    rw [hw7] at HBx HGx ⊢
    clear hw7 a4 a5 af HB5
    have HTS0 : Hid (TS w w7 b1 b2 b3 (b3 + 1) CS K f N X KS L 0 0 (.slice none 0 0) (.slice none 0 0)) := hid (by
      have hlt := HBx.out.lt
      have hLL := HLL.out
      have hW := HW.out
      refine ⟨⟨hLL.1, hLL.2, by omega, by omega, by omega⟩, ?_, ?_, HBx.out, World.ownsRow_nil _ _ _ _, ⟨[], World.ownsRow_nil _ _ _ _, by rw [List.take_zero]; rfl⟩, HG06.out.andThen HGx.out (fun j hj => .inl (by injection hj with hj; omega)), Nat.zero_le _, Nat.zero_le _⟩
      · rw [← HCS.out]; exact HD1.out.on HGx.out (by intro e; injection e with e; omega)
      · exact HD2.out.on HGx.out (by intro e; injection e with e; omega))
    clear HBx HGx HD1 HD2 HG06
    have s4 : w7.cell? ⟨b1, 4, none⟩ = some (.slice ka kn kc) := by have h := HTS0.out.x2; rw [← HCS.out] at h; exact h.cell 4
    go_wp2_with fail
    go_loopw [18] (fun jv wr => ∃ (j : Nat) (kv : Value), jv = .int .i64 j ∧ j ≤ kn ∧ Hid (TS w wr b1 b2 b3 (b3 + 1) CS K f N X KS L j 0 kv (.slice none 0 0))) (fun jv _ => kn - (intOf jv).toNat)
    case atStart => exact ⟨0, _, rfl, Nat.zero_le _, HTS0⟩
    case round =>
      clear HTS0 s4
      obtain ⟨j, kv, rfl, hj, HS⟩ := hrel
      obtain ⟨w8, hw8⟩ : ∃ x : World, x = wr := ⟨_, rfl⟩
      rw [← hw8] at HS ⊢
      clear hw8
      by_cases hlt : j < kn
      · have hlt' : (j : Int) < (kn : Int) := by omega
        have hjl : j < KS.length := by rw [Hkn.out]; exact hlt
        obtain ⟨ka', kc', ekv⟩ := own_slice HS.out.k
        subst ekv
        obtain ⟨gk, ok, rfl, hcell⟩ := HKat.out j hjl
        have hky := HKz.out KS[j] (List.getElem_mem hjl)
        obtain ⟨ky, Hky⟩ : ∃ z, Hid (KS[j] = z) := ⟨_, hid rfl⟩
        rw [Hky.out] at hcell hky
        have HKj : Hid (KS[j]? = some ky) := hid (by rw [List.getElem?_eq_getElem hjl, Hky.out])
        have y0 := hcell w8 HS.out.g
        have HCl := hid (fun u : World => clone_any ky u (by omega))
        have HZ4 : Hid (∀ u, w8.grownBy u none → u.cell? ⟨b3, 4, none⟩ = some (.slice ka' j kc')) := hid (fun u hu => (HS.out.x5.keep hu).cell 4)
        clear hcell hky
        go_upto_region 7 with fail
        refine wp_region_listX (by kernel_rfl) [fun v _ => v = (Value.pointer (some ⟨b3, 4, none⟩)), fun v _ => v = (Value.slice ka' j kc'), fun v _ => v = (Value.string ky), fun v _ => v = (Value.string ky), fun v u => ∃ bb, v = Value.slice (some ⟨bb, 0, none⟩) 1 1 ∧ Blk u bb [.string ky] 9] (none) (fun _ => none) 5 (by kernel_rfl) (by kernel_rfl) (by kernel_rfl) (by kernel_rfl) (by decide) noRow_one (fun _ => .inl rfl) ⟨fun i v u u' hki h hg => h, fun i v u u' hki h hg => h, fun i v u u' hki h hg => h, fun i v u u' hki h hg => h, fun i v u u' hki h hg => (by obtain ⟨bb, e, hb⟩ := h; exact ⟨bb, e, hb.keep hg⟩), trivial⟩ ⟨?_, ?_, ?_, ?_, ?_, trivial⟩ ?_
        · intro A u hu hpu hsz hout hdeps
          have e3 : A.eval (.tmp 3) = (.pointer (some ⟨b3, 0, none⟩)) := (hout 3 (by kernel_rfl)).trans rfl
          refine ifw_none rfl ?_
          with_reducible refine shown_q (Value.pointer (some ⟨b3, 4, none⟩)) ?qq_1_0 (fun _ _ => ?qr_1_0)
          case qr_1_0 => exact (rfl : (Value.pointer (some ⟨b3, 4, none⟩)) = (Value.pointer (some ⟨b3, 4, none⟩)))
          with_reducible refine quietAt_field 26 (.tmp 3) 4 ?h0_1_0 ⟨b3, 0, none⟩ ⟨b3, 4, none⟩ ?h1_1_0 ?h2_1_0
          case h0_1_0 => rfl
          case h1_1_0 => exact e3
          case h2_1_0 => kernel_rfl
        · intro A u hu hpu hsz hout hdeps
          have e22 : A.eval (.tmp 22) = (.pointer (some ⟨b3, 4, none⟩)) := by have h := depL hdeps 0 (by kernel_rfl) 22 (by kernel_rfl); exact h
          refine ifw_none rfl ?_
          with_reducible refine shown_q (Value.slice ka' j kc') ?qq_1_1 (fun _ _ => ?qr_1_1)
          case qr_1_1 => exact (rfl : (Value.slice ka' j kc') = (Value.slice ka' j kc'))
          with_reducible refine quietAt_ld 24 (.tmp 22) (Value.pointer (some ⟨b3, 4, none⟩)) (Value.slice ka' j kc') ?h0_1_1 ?h1_1_1 ?h2_1_1
          case h0_1_1 => rfl
          case h1_1_1 => exact e22
          case h2_1_1 => exact ld24 b3 4 j kc' ka' u (HZ4.out u hu)
        · intro A u hu hpu hsz hout hdeps
          have e5 : A.eval (.tmp 5) = (.string ky) := (hout 5 (by kernel_rfl)).trans rfl
          refine ifw_none rfl ?_
          with_reducible refine shown_q (Value.string ky) ?qq_1_2 (fun _ _ => ?qr_1_2)
          case qr_1_2 => exact (rfl : (Value.string ky) = (Value.string ky))
          with_reducible refine quietAt_mv (.tmp 5) (Value.string ky) ?h0_1_2 ?h1_1_2
          case h0_1_2 => rfl
          case h1_1_2 => exact e5
        · intro A u hu hpu hsz hout hdeps
          have e24 : A.eval (.tmp 24) = (.string ky) := by have h := depL hdeps 2 (by kernel_rfl) 24 (by kernel_rfl); exact h
          refine ifw_none rfl ?_
          with_reducible refine shown_q (Value.string ky) ?qq_1_3 (fun _ _ => ?qr_1_3)
          case qr_1_3 => exact (rfl : (Value.string ky) = (Value.string ky))
          with_reducible refine quietAt_call 124 Tryz.f124 ?h0_1_3 ?h1_1_3 ?h2_1_3 #[.tmp 24] #[9] ?h3_1_3 (Value.string ky) #[(Value.string ky)] ?h4_1_3 ?h5_1_3
          case h0_1_3 => exact Tryz.func124
          case h1_1_3 => kernel_rfl
          case h2_1_3 => kernel_rfl
          case h3_1_3 => rfl
          case h4_1_3 => exact map1 _ _ _ e24
          case h5_1_3 => exact HCl.out u
        · intro A u hu hpu hsz hout hdeps
          have e25 : A.eval (.tmp 25) = (.string ky) := by have h := depL hdeps 3 (by kernel_rfl) 25 (by kernel_rfl); exact h
          refine ifw_none rfl ?_
          exact shown_slice1s (.tmp 25) rfl ky e25 (fun w' h hg => ⟨u.heap.size, rfl, h⟩)
        · intro A u8 listed hh hall
          have hA := hh.frame
          have HU := hid hh.grown
          obtain ⟨x22, hx22⟩ : ∃ x, A.eval (.tmp 22) = x := ⟨_, rfl⟩
          have f22 : (fun v _ => v = (Value.pointer (some ⟨b3, 4, none⟩))) x22 u8 := by rw [← hx22]; exact hh.got 0 _ 22 rfl rfl (hall 0 (by decide))
          obtain ⟨x23, hx23⟩ : ∃ x, A.eval (.tmp 23) = x := ⟨_, rfl⟩
          have f23 : (fun v _ => v = (Value.slice ka' j kc')) x23 u8 := by rw [← hx23]; exact hh.got 1 _ 23 rfl rfl (hall 1 (by decide))
          obtain ⟨x24, hx24⟩ : ∃ x, A.eval (.tmp 24) = x := ⟨_, rfl⟩
          have f24 : (fun v _ => v = (Value.string ky)) x24 u8 := by rw [← hx24]; exact hh.got 2 _ 24 rfl rfl (hall 2 (by decide))
          obtain ⟨x25, hx25⟩ : ∃ x, A.eval (.tmp 25) = x := ⟨_, rfl⟩
          have f25 : (fun v _ => v = (Value.string ky)) x25 u8 := by rw [← hx25]; exact hh.got 3 _ 25 rfl rfl (hall 3 (by decide))
          obtain ⟨x26, hx26⟩ : ∃ x, A.eval (.tmp 26) = x := ⟨_, rfl⟩
          have f26 : (fun v u => ∃ bb, v = Value.slice (some ⟨bb, 0, none⟩) 1 1 ∧ Blk u bb [.string ky] 9) x26 u8 := by rw [← hx26]; exact hh.got 4 _ 26 rfl rfl (hall 4 (by decide))
          obtain ⟨x27, hx27⟩ : ∃ x, A.eval (.tmp 27) = x := ⟨_, rfl⟩
          obtain ⟨x28, hx28⟩ : ∃ x, A.eval (.tmp 28) = x := ⟨_, rfl⟩
          dsimp only [wrote, List.foldl] at hA
          rw [hx22, hx23, hx24, hx25, hx26, hx27, hx28] at hA
          clear hh hall hx22 hx23 hx24 hx25 hx26 hx27 hx28
          replace f22 := (f22 : x22 = (.pointer (some ⟨b3, 4, none⟩)))
          subst f22
          replace f23 := (f23 : x23 = (.slice ka' j kc'))
          subst f23
          replace f24 := (f24 : x24 = (.string ky))
          subst f24
          replace f25 := (f25 : x25 = (.string ky))
          subst f25
          obtain ⟨b9, e26, hb9⟩ := f26
          subst e26
          subst hA
          show wpList _ _ _ [_, _, _] _ _
          simp only [Act.put, List.setIfInBounds_toArray, List.set_cons_succ, List.set_cons_zero]
          have HB9 := hid hb9
          clear hb9
          go_wp2_with (at_builtin; refine wpList_append_lies _ rfl _ _ 24 rfl (b3 + 1) 9 i9 z9 1 16 Tryz.underlying24 hi9 hz9 hs9 hb9' hzz9 (by decide) (.slice ka' j kc') j _ rfl (own_keep HS.out.k HU.out) ⟨b9, 0, none⟩ 1 1 [.string ky] rfl rfl HB9.out.news (one1 _) (by decide) (by unfold maxLen; omega) (by omega) (by have := HS.out.o; have := HU.out.size; omega) u8.heap.size rfl ?_; intro g3 cap3 w3 ho3 hg3 hat3 hlt3; have HO3 := hid ho3; have HG3 := hid hg3; have HA3 := hid hat3; have x3 : Blk w3 b3 [.int .i64 K, .bool f, .int .i64 N, .string X, .slice ka' j kc', .slice none 0 0] 26 := (HS.out.x5.keep HU.out).on hg3 (fun e => by have := (HS.out.k.lt b3 e).1; omega); have k3 := x3.cell 4; have f3 := x3.frozen 4; clear ho3 hg3 hat3 hlt3 x3)
          have HTK : Hid (TS w (w3.setCell ⟨b3, 4, none⟩ (.slice (some ⟨g3, 0, none⟩) (j + 1) cap3)) b1 b2 b3 (b3 + 1) CS K f N X KS L (j + 1) 0 (.slice (some ⟨g3, 0, none⟩) (j + 1) cap3) (.slice none 0 0)) := hid (HS.out.keyX HU.out HG3.out HO3.out HA3.out HKj.out)
          go_roundw
          case rel => exact ⟨j + 1, _, by go_num, by omega, HTK⟩
          case measure => simp [intOf]; omega
      · have hlt' : ¬ (j : Int) < (kn : Int) := by omega
        have hjk : j = kn := by omega
        subst hjk
        have s5 : w8.cell? ⟨b1, 5, none⟩ = some (.slice ia il ic) := by have h := HS.out.x2; rw [← HCS.out] at h; exact h.cell 5
        go_wp2_with fail
        go_loopw [33] (fun iv wr => ∃ (i : Nat) (ivv : Value), iv = .int .i64 i ∧ i ≤ il ∧ Hid (TS w wr b1 b2 b3 (b3 + 1) CS K f N X KS L j i kv ivv)) (fun iv _ => il - (intOf iv).toNat)
        case atStart => exact ⟨0, _, rfl, Nat.zero_le _, HS⟩
        case round =>
          clear HS s5
          obtain ⟨i, ivv, rfl, hi, HS⟩ := hrel
          obtain ⟨u5, hu5⟩ : ∃ x : World, x = wr := ⟨_, rfl⟩
          rw [← hu5] at HS ⊢
          clear hu5
          by_cases hlt : i < il
          · have hlt' : (i : Int) < (il : Int) := by omega
            have hilx : i < L.length := by rw [Hil.out]; exact hlt
            obtain ⟨xs0, q1, q2⟩ := HS.out.it
            obtain ⟨ia', ic', eiv⟩ := own_slice q1
            subst eiv
            obtain ⟨gi, oi, IT, rfl, hI6, hIc⟩ := HIat.out i hilx
            have HI6 := hid hI6
            have HIc := hid (fun u (hu : u5.grownBy u none) => hIc u (gtrans HS.out.g hu))
            have HRec1 := hid (HRec.out i hilx)
            obtain ⟨tt, Htt⟩ : ∃ z, Hid (L[i] = z) := ⟨_, hid rfl⟩
            rw [Htt.out] at HIc HRec1
            have HLi : Hid (L[i]? = some tt) := hid (by rw [List.getElem?_eq_getElem hilx, Htt.out])
            have HOne : Hid (∀ v ∈ IT, v.oneCell' = true) := hid (by
              obtain ⟨p1, p2, p3, p4, p5, p6, e⟩ := RdT_six (HIc.out u5 (grefl _ _)).2
              have e' : IT = [.int .i64 tt.kind, .bool tt.flag, .int .i64 tt.n, .string tt.text, .slice p1 p2 p3, .slice p4 p5 p6] := by injection e with e; exact congrArg Array.toList e
              rw [e']
              exact one6 _ _ _ _ _ _ _ _ _ _)
            clear q1 q2 hI6 hIc
            go_upto_region 12 with (first
              | ((with_reducible refine wpList_store_all (by with_unfolding_all rfl) 26 _ _ (by with_unfolding_all rfl) u5.heap.size Z6 IT 26 (by with_unfolding_all rfl) (by with_unfolding_all rfl) HB6.out (by with_unfolding_all exact HI6.out) (by rw [HI6.out]; with_unfolding_all exact Tryz.size26) HOne.out ?_); intro u7 B7 g7 s7; have HB7 := hid B7; have HG7 : Hid (u6.grownBy u7 (some u5.heap.size)) := hid g7; clear B7 g7 s7)
              | ((with_reducible refine wpList_alloc_row (by with_unfolding_all rfl) 26 (by with_unfolding_all rfl) Z6 Tryz.zero26 ?_); intro u6 B6 s6 g6; have HB6 := hid B6; have HG6 := hid g6; clear B6 s6 g6)
              | (with_reducible refine wpList_load_part (by with_unfolding_all rfl) 26 _ (by with_unfolding_all rfl) gi (oi + i * 6) IT _ (by with_unfolding_all rfl) (HIc.out u5 (grefl _ _)).1 Tryz.underlying26 (by with_unfolding_all rfl) (by rw [HI6.out]; exact Tryz.size26) ?_))
            obtain ⟨b7, hb7⟩ : ∃ b, u5.heap.size = b := ⟨_, rfl⟩
            have HBS := hid hb7
            rw [hb7] at HB7 HG7 ⊢
            clear hb7
            have HGu : Hid (u5.grownBy u7 none) := hid (HG6.out.andThen HG7.out (fun q hq => .inl (by injection hq with hq; have := HBS.out; omega)))
            replace HS : Hid (TS w u7 b1 b2 b3 (b3 + 1) CS K f N X KS L j i kv (.slice ia' i ic')) := hid (HS.out.keep HGu.out)
            have HZ5 : Hid (∀ u, u7.grownBy u none → u.cell? ⟨b3, 5, none⟩ = some (.slice ia' i ic')) := hid (fun u hu => (HS.out.x5.keep hu).cell 5)
            have HLd : Hid (∀ u, u7.grownBy u none → (Instr.loadAt 26 (.pointer (some ⟨b7, 0, none⟩))).run Tryz.prog u = .ok (.agg IT.toArray) u) := hid (fun u hu => ld25 _ _ _ u (HB7.out.keep hu).whole HI6.out)
            have HC : Hid (∀ u, u7.grownBy u none → Calls Tryz.prog 62 #[.agg IT.toArray] u fun e w' => ∃ v', e = .returned v' ∧ RdT w' (fun g => u.heap.size ≤ g) tt v' ∧ u.grownBy w' none) := hid (fun u hu => HRec1.out u _ (HIc.out u (gtrans HGu.out hu)).2)
            obtain ⟨xs, HXs⟩ : ∃ xs, Hid (u7.ownsRow (b3 + 1) 26 6 (.slice ia' i ic') i xs ∧ Elems u7 (fun g => (b3 + 1 ≤ g ∧ some g ≠ kv.ownBlock) ∧ some g ≠ (Value.slice ia' i ic').ownBlock) (L.take i) xs) := ⟨HS.out.it.choose, hid HS.out.it.choose_spec⟩
            have HOb : Hid (b3 + 1 ≤ u7.heap.size) := hid HS.out.o.2.2.2.1
            clear HB6 HG6 HG7 HOne HIc HI6 HRec1
            refine wp_region_listX (by kernel_rfl) [fun v _ => v = (Value.pointer (some ⟨b3, 5, none⟩)), fun v _ => v = (Value.slice ia' i ic'), fun v _ => v = (Value.agg IT.toArray), fun v u => RdT u (fun g => u7.heap.size ≤ g) tt v, fun v u => ∃ bb xs6, v = Value.slice (some ⟨bb, 0, none⟩) 1 1 ∧ Blk u bb xs6 26 ∧ RdT u (fun g => u7.heap.size ≤ g) tt (.agg xs6.toArray)] (none) (fun _ => none) 5 (by kernel_rfl) (by kernel_rfl) (by kernel_rfl) (by kernel_rfl) (by decide) noRow_one (fun _ => .inl rfl) ⟨fun i v u u' hki h hg => h, fun i v u u' hki h hg => h, fun i v u u' hki h hg => h, fun i v u u' hki h hg => (h.on (Stays.none hg)), fun i v u u' hki h hg => (by obtain ⟨bb, xs6, e, hb, hr⟩ := h; exact ⟨bb, xs6, e, hb.keep hg, hr.on (Stays.none hg)⟩), trivial⟩ ⟨?_, ?_, ?_, ?_, ?_, trivial⟩ ?_
            · intro A u hu hpu hsz hout hdeps
              have e3 : A.eval (.tmp 3) = (.pointer (some ⟨b3, 0, none⟩)) := (hout 3 (by kernel_rfl)).trans rfl
              refine ifw_none rfl ?_
              with_reducible refine shown_q (Value.pointer (some ⟨b3, 5, none⟩)) ?qq_2_0 (fun _ _ => ?qr_2_0)
              case qr_2_0 => exact (rfl : (Value.pointer (some ⟨b3, 5, none⟩)) = (Value.pointer (some ⟨b3, 5, none⟩)))
              with_reducible refine quietAt_field 26 (.tmp 3) 5 ?h0_2_0 ⟨b3, 0, none⟩ ⟨b3, 5, none⟩ ?h1_2_0 ?h2_2_0
              case h0_2_0 => rfl
              case h1_2_0 => exact e3
              case h2_2_0 => kernel_rfl
            · intro A u hu hpu hsz hout hdeps
              have e37 : A.eval (.tmp 37) = (.pointer (some ⟨b3, 5, none⟩)) := by have h := depL hdeps 0 (by kernel_rfl) 37 (by kernel_rfl); exact h
              refine ifw_none rfl ?_
              with_reducible refine shown_q (Value.slice ia' i ic') ?qq_2_1 (fun _ _ => ?qr_2_1)
              case qr_2_1 => exact (rfl : (Value.slice ia' i ic') = (Value.slice ia' i ic'))
              with_reducible refine quietAt_ld 22 (.tmp 37) (Value.pointer (some ⟨b3, 5, none⟩)) (Value.slice ia' i ic') ?h0_2_1 ?h1_2_1 ?h2_2_1
              case h0_2_1 => rfl
              case h1_2_1 => exact e37
              case h2_2_1 => exact ld23 b3 5 i ic' ia' u (HZ5.out u hu)
            · intro A u hu hpu hsz hout hdeps
              have e7 : A.eval (.tmp 7) = (.pointer (some ⟨b7, 0, none⟩)) := (hout 7 (by kernel_rfl)).trans rfl
              refine ifw_none rfl ?_
              with_reducible refine shown_q (Value.agg IT.toArray) ?qq_2_2 (fun _ _ => ?qr_2_2)
              case qr_2_2 => exact (rfl : (Value.agg IT.toArray) = (Value.agg IT.toArray))
              with_reducible refine quietAt_ld 26 (.tmp 7) (Value.pointer (some ⟨b7, 0, none⟩)) (Value.agg IT.toArray) ?h0_2_2 ?h1_2_2 ?h2_2_2
              case h0_2_2 => rfl
              case h1_2_2 => exact e7
              case h2_2_2 => exact HLd.out u hu
            · intro A u hu hpu hsz hout hdeps
              have e39 : A.eval (.tmp 39) = (.agg IT.toArray) := by have h := depL hdeps 2 (by kernel_rfl) 39 (by kernel_rfl); exact h
              refine ifw_none rfl ?_
              with_reducible refine shown_call 62 Tryz.f62 ?h0_2_3 ?h1_2_3 ?h2_2_3 #[.tmp 39] #[26] ?h3_2_3 #[(Value.agg IT.toArray)] ?h4_2_3 ?h5_2_3
              case h0_2_3 => exact Tryz.func62
              case h1_2_3 => kernel_rfl
              case h2_2_3 => kernel_rfl
              case h3_2_3 => rfl
              case h4_2_3 => exact map1 _ _ _ e39
              case h5_2_3 => exact (HC.out u hu).mono (by rintro e w2 ⟨v2, rfl, hT2, hg2⟩; exact ⟨v2, rfl, hg2, RdT.since hu hT2⟩)
            · intro A u hu hpu hsz hout hdeps
              have f40 : (fun v u => RdT u (fun g => u7.heap.size ≤ g) tt v) (A.eval (.tmp 40)) u := by have h := depL hdeps 3 (by kernel_rfl) 40 (by kernel_rfl); exact h
              obtain ⟨ya, yn, yc, za, zn, zc, e40⟩ := RdT_six f40; rw [e40] at f40
              refine ifw_none rfl ?_
              exact shown_slice6 (.tmp 40) rfl _ _ _ _ _ _ e40 (fun w' h hg => ⟨u.heap.size, _, rfl, h, f40.on (Stays.none hg)⟩)
            · intro A u8 listed hh hall
              have hA := hh.frame
              have HU := hid hh.grown
              obtain ⟨x37, hx37⟩ : ∃ x, A.eval (.tmp 37) = x := ⟨_, rfl⟩
              have f37 : (fun v _ => v = (Value.pointer (some ⟨b3, 5, none⟩))) x37 u8 := by rw [← hx37]; exact hh.got 0 _ 37 rfl rfl (hall 0 (by decide))
              obtain ⟨x38, hx38⟩ : ∃ x, A.eval (.tmp 38) = x := ⟨_, rfl⟩
              have f38 : (fun v _ => v = (Value.slice ia' i ic')) x38 u8 := by rw [← hx38]; exact hh.got 1 _ 38 rfl rfl (hall 1 (by decide))
              obtain ⟨x39, hx39⟩ : ∃ x, A.eval (.tmp 39) = x := ⟨_, rfl⟩
              have f39 : (fun v _ => v = (Value.agg IT.toArray)) x39 u8 := by rw [← hx39]; exact hh.got 2 _ 39 rfl rfl (hall 2 (by decide))
              obtain ⟨x40, hx40⟩ : ∃ x, A.eval (.tmp 40) = x := ⟨_, rfl⟩
              have f40 : (fun v u => RdT u (fun g => u7.heap.size ≤ g) tt v) x40 u8 := by rw [← hx40]; exact hh.got 3 _ 40 rfl rfl (hall 3 (by decide))
              obtain ⟨x41, hx41⟩ : ∃ x, A.eval (.tmp 41) = x := ⟨_, rfl⟩
              have f41 : (fun v u => ∃ bb xs6, v = Value.slice (some ⟨bb, 0, none⟩) 1 1 ∧ Blk u bb xs6 26 ∧ RdT u (fun g => u7.heap.size ≤ g) tt (.agg xs6.toArray)) x41 u8 := by rw [← hx41]; exact hh.got 4 _ 41 rfl rfl (hall 4 (by decide))
              obtain ⟨x42, hx42⟩ : ∃ x, A.eval (.tmp 42) = x := ⟨_, rfl⟩
              obtain ⟨x43, hx43⟩ : ∃ x, A.eval (.tmp 43) = x := ⟨_, rfl⟩
              dsimp only [wrote, List.foldl] at hA
              rw [hx37, hx38, hx39, hx40, hx41, hx42, hx43] at hA
              clear hh hall hx37 hx38 hx39 hx40 hx41 hx42 hx43
              replace f37 := (f37 : x37 = (.pointer (some ⟨b3, 5, none⟩)))
              subst f37
              replace f38 := (f38 : x38 = (.slice ia' i ic'))
              subst f38
              replace f39 := (f39 : x39 = (.agg IT.toArray))
              subst f39
              obtain ⟨ya, yn, yc, za, zn, zc, e40⟩ := RdT_six f40; rw [e40] at f40
              subst e40
              obtain ⟨b9, xs6, e41, hb9, hr9⟩ := f41
              subst e41
              subst hA
              show wpList _ _ _ [_, _, _] _ _
              simp only [Act.put, List.setIfInBounds_toArray, List.set_cons_succ, List.set_cons_zero]
              obtain ⟨ya, yn, yc, za, zn, zc, e9⟩ := RdT_six hr9
              have e9' : xs6 = [.int .i64 tt.kind, .bool tt.flag, .int .i64 tt.n, .string tt.text, .slice ya yn yc, .slice za zn zc] := by injection e9 with e9; exact congrArg Array.toList e9
              subst e9'
              have HB9 := hid hb9
              have HR9 := hid hr9
              clear hb9 hr9 e9 f40
              go_wp2_with (at_builtin; refine wpList_append_lies _ rfl _ _ 22 rfl (b3 + 1) 26 i26 z26 6 88 Tryz.underlying22 hi26 hzz hs26 hb26 hzs (by decide) (.slice ia' i ic') i xs rfl (own_keep HXs.out.1 HU.out) ⟨b9, 0, none⟩ 1 1 [.int .i64 tt.kind, .bool tt.flag, .int .i64 tt.n, .string tt.text, .slice ya yn yc, .slice za zn zc] rfl rfl HB9.out.news (one6 _ _ _ _ _ _ _ _ _ _) (by decide) (by unfold maxLen; omega) (by omega) (by have := HOb.out; have := HU.out.size; omega) u8.heap.size rfl ?_; intro g4 cap4 w4' ho4 hg4 hat4 hlt4; have HO4 := hid ho4; have HG4 := hid hg4; have HA4 := hid hat4; have x4 : Blk w4' b3 [.int .i64 K, .bool f, .int .i64 N, .string X, kv, .slice ia' i ic'] 26 := (HS.out.x5.keep HU.out).on hg4 (fun e => by have := (HXs.out.1.lt b3 e).1; omega); have k4 := x4.cell 5; have f4 := x4.frozen 5; clear ho4 hg4 hat4 hlt4 x4)
              have HTS : Hid (TS w (w4'.setCell ⟨b3, 5, none⟩ (.slice (some ⟨g4, 0, none⟩) (i + 1) cap4)) b1 b2 b3 (b3 + 1) CS K f N X KS L j (i + 1) kv (.slice (some ⟨g4, 0, none⟩) (i + 1) cap4)) := hid (HS.out.itemX HU.out HR9.out HG4.out HXs.out HO4.out HA4.out HLi.out)
              go_roundw
              case rel => exact ⟨i + 1, _, by go_num, by omega, HTS⟩
              case measure => simp [intOf]; omega
          · have hlt' : ¬ (i : Int) < (il : Int) := by omega
            have hik : i = il := by omega
            subst hik
            obtain ⟨ka', kc', ekv⟩ := own_slice HS.out.k
            subst ekv
            obtain ⟨xs0, q1, q2⟩ := HS.out.it
            obtain ⟨ia', ic', eiv⟩ := own_slice q1
            subst eiv
            clear q1 q2
            have HRd : Hid (RdT u5 (fun g => b3 + 1 ≤ g) (.mk K f N X KS L) (.agg #[.int .i64 K, .bool f, .int .i64 N, .string X, .slice ka' j kc', .slice ia' i ic'])) := hid (by
              have h := HS.out
              rw [← Hkn.out, ← Hil.out] at h
              have h2 := h.rd
              rw [Hkn.out, Hil.out] at h2
              exact h2)
            have HE2 := hid HS.out.x4
            have HB8 := hid HS.out.x5
            have HLo := hid HS.out.o
            have HGs := hid HS.out.g
            go_wp2_with (first
              | ((with_reducible refine wpList_store_all (by with_unfolding_all rfl) 26 _ _ (by with_unfolding_all rfl) b2 Z6 [.int .i64 K, .bool f, .int .i64 N, .string X, .slice ka' j kc', .slice ia' i ic'] 26 (by with_unfolding_all rfl) (by with_unfolding_all rfl) HE2.out (by with_unfolding_all rfl) (by with_unfolding_all exact Tryz.size26) (one6 _ _ _ _ _ _ _ _ _ _) ?_); intro w9 B9 g9 s9; have HB9 := hid B9; have HG9 := hid g9; clear B9 g9 s9)
              | (with_reducible refine wpList_load_part (by with_unfolding_all rfl) 26 _ (by with_unfolding_all rfl) b3 0 [.int .i64 K, .bool f, .int .i64 N, .string X, .slice ka' j kc', .slice ia' i ic'] _ (by with_unfolding_all rfl) HB8.out.whole Tryz.underlying26 (by with_unfolding_all rfl) (by with_unfolding_all exact Tryz.size26) ?_))
            refine bodyPost_ret (results_blk rfl _ b2 26 [.int .i64 K, .bool f, .int .i64 N, .string X, .slice ka' j kc', .slice ia' i ic'] _ rfl HB9.out Tryz.underlying26 rfl Tryz.size26) rfl ?_
            have hLo := HLo.out
            have hT : Tree.mk K f N X KS L = t := by rw [← HK.out, ← Hf.out, ← HN.out, ← HX.out, ← HKS.out, ← HL.out]; cases t; rfl
            refine ⟨_, rfl, ?_, HGs.out.andThen HG9.out (fun q hq => .inl (by injection hq with hq; omega))⟩
            have h3 := RdT.kept (F := fun g => b3 + 1 ≤ g) (F' := fun g => w.heap.size ≤ g) (Stays.grown HG9.out (fun g hg e => by injection e with e; omega)) (fun g hg _ => by omega) _ HRd.out
            rw [hT] at h3
            exact h3
end Go.Proofs.YtdmnhkgiojkphaaGreatDoor
