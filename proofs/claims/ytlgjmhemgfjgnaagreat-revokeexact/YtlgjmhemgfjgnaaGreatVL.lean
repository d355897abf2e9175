/- Prune, Kill. -/
import Derived.Test.YtlgjmhemgfjgnaaGreatVK
namespace Go.Proofs.YtlgjmhemgfjgnaaGreat
open Go Go.RowKit
open Go.RowKit (wrap32 wrap64)

set_option maxRecDepth 100000 in
theorem map3 (f : Operand → Value) (x y z : Operand) (u v t : Value) (hx : f x = u) (hy : f y = v) (hz : f z = t) : #[x, y, z].map f = #[u, v, t] := by simp [hx, hy, hz]
set_option maxRecDepth 100000 in
theorem ld2 (b i : Nat) (n : Int) (u : World) (h : u.cell? ⟨b, i, none⟩ = some (.int .i64 n)) : (Instr.loadAt 2 (.pointer (some ⟨b, i, none⟩))).run Tryz.prog u = .ok (.int .i64 n) u := by go_simp
set_option maxRecDepth 100000 in
set_option maxHeartbeats 800000 in
theorem prune_any (w : World) (v : Value) (F : Nat → Prop) (l : List Ky) (now : Int) (hv : RdK w F v l) (hl : l.length ≤ 1000000) :
    Calls Tryz.prog 26 #[v, .int .i64 now] w fun e w' => ∃ v', e = .returned v' ∧ OutK w.heap.size w' v' (prnL l now) ∧ w.grownBy w' none := by
  have HV := hid hv
  obtain ⟨ho, a, b, off, c, rfl, hc, Ha, Hc⟩ := hv.open
  obtain ⟨n, HN⟩ : ∃ n, Hid (l.length = n) := ⟨_, hid rfl⟩
  have HO := hid ho
  obtain ⟨gk, HGk⟩ : ∃ x, Hid (chk l = x) := ⟨_, hid rfl⟩
  have HCk : Hid (∀ u, w.grownBy u none → Calls Tryz.prog 17 #[.slice a n c] u fun e w' => e = .returned (.int .i64 (if gk = true then 0 else 140)) ∧ u.grownBy w' none) := hid (fun u hu => by
    have := check_any u _ F l (HV.out.keep hu) (by omega)
    rw [HGk.out, HN.out] at this
    exact this)
  obtain ⟨W1, hW1⟩ : ∃ x, w.alloc (.cells #[.int .i64 now] 2) = x := ⟨_, rfl⟩
  obtain ⟨b1, hb1⟩ : ∃ x, w.heap.size = x := ⟨_, rfl⟩
  have HB1 : Hid (Blk W1 b1 [.int .i64 now] 2) := hid (by rw [← hW1, ← hb1]; exact Blk.new w [.int .i64 now] 2)
  have HG1 : Hid (w.grownBy W1 none) := hid (by rw [← hW1]; exact galloc _ _ _)
  have HSz : Hid (w.heap.size = b1) := hid hb1
  have HPr : Hid (prnL l now = if gk = true then l.filter (fun r => decide (now < r.ex)) else []) := hid (by unfold prnL; rw [HGk.out])
  have HCl : Hid (∀ u, w.grownBy u none → Calls Tryz.prog 38 #[.slice a n c] u fun e w' => ∃ v', e = .returned v' ∧ OutK u.heap.size w' v' l ∧ u.grownBy w' none) := hid (fun u hu => by
    have := clone_any u _ F l (HV.out.keep hu) hl
    rw [HN.out] at this
    exact this)
  have HDe : Hid (∀ (u : World) (B : Nat) (v : Value), OutK B u v l → u.cell? ⟨b1, 0, none⟩ = some (.int .i64 now) → b1 < B → Calls Tryz.prog 40 #[v, .func (.func 41) #[] #[.pointer (some ⟨b1, 0, none⟩)]] u fun e w' => ∃ v', e = .returned v' ∧ OutK B w' v' (l.filter (fun r => decide (now < r.ex))) ∧ u.grownBy w' v.ownBlock) := hid (fun u B v hv hp hb =>
    delete_any u B v l b1 now hv (by omega) hp (fun e => by have := hv.block _ e; omega))
  rw [HPr.out, HN.out]
  clear hv ho hc Ha Hc HPr hl HGk
  cases gk with
  | false =>
    rw [if_neg (by decide)] at HCk ⊢
    go_enter Tryz.func26, Tryz.ntmps26
    go_wp2_with (go_at_call 17; (with_reducible refine (HCk.out _ HG1.out).mono ?_); rintro e w2 ⟨rfl, hg2⟩; have HG2 := hid (gtrans HG1.out hg2); clear hg2)
    go_ret
    exact ⟨_, rfl, OutK.nil _ _, HG2.out⟩
  | true =>
    rw [if_pos rfl] at HCk ⊢
    go_enter Tryz.func26, Tryz.ntmps26
    go_wp2_with (first
      | (go_at_call 17; (with_reducible refine (HCk.out _ HG1.out).mono ?_); rintro e w2 ⟨rfl, hg2⟩; have HG2 := hid (gtrans HG1.out hg2); have HB2 := hid (HB1.out.keep hg2); clear hg2)
      | (go_at_call 38; (with_reducible refine (HCl.out _ HG2.out).mono ?_); rintro e w3 ⟨v3, rfl, ho3, hg3⟩; have HG3 := hid (gtrans HG2.out hg3); have HO3 := hid ho3; have HB3 : Hid (w3.cell? ⟨b1, 0, none⟩ = some (.int .i64 now)) := hid ((HB2.out.keep hg3).cell 0); clear hg3 ho3)
      | (go_at_call 40; (with_reducible refine (HDe.out _ _ _ HO3.out HB3.out HB2.out.lt).mono ?_); rintro e w4 ⟨v4, rfl, ho4, hg4⟩; have HG4 := hid (HG3.out.andThen hg4 (fun j hj => .inl (Nat.le_trans HG2.out.size (HO3.out.block j hj)))); have HO4 := hid (ho4.below HG2.out.size); clear hg4 ho4))
    go_ret
    exact ⟨_, rfl, HO4.out, HG4.out⟩

set_option maxRecDepth 100000 in
theorem run_max2 (a b : Int) (u : World) (ty : TypeId) : (Builtin.max_ #[2, 2] ty #[.int .i64 a, .int .i64 b]).run Tryz.prog u = .ok (.int .i64 (mx b a)) u := by
  unfold mx
  go_simp
set_option maxRecDepth 100000 in
set_option maxHeartbeats 1600000 in
theorem kill_any (w : World) (v : Value) (F : Nat → Prop) (l : List Ky) (g : Nat) (ex : Int) (hv : RdK w F v l) (hl : l.length ≤ 1000000) (hg : g < 18446744073709551616) (hex : -9223372036854775808 ≤ ex ∧ ex ≤ 9223372036854775807) :
    Calls Tryz.prog 25 #[v, .int .u64 g, .int .i64 ex] w fun e w' => ∃ v', e = .returned v' ∧ OutK w.heap.size w' v' (killL l g ex) ∧ w.grownBy w' none := by
  have HV := hid hv
  obtain ⟨ho, a, b, off, c, rfl, hc, Ha, Hc⟩ := hv.open
  obtain ⟨n, HN⟩ : ∃ n, Hid (l.length = n) := ⟨_, hid rfl⟩
  have HO := hid ho
  obtain ⟨gk, HGk⟩ : ∃ x, Hid (chk l = x) := ⟨_, hid rfl⟩
  have HCk : Hid (∀ u, w.grownBy u none → Calls Tryz.prog 17 #[.slice a n c] u fun e w' => e = .returned (.int .i64 (if gk = true then 0 else 140)) ∧ u.grownBy w' none) := hid (fun u hu => by
    have := check_any u _ F l (HV.out.keep hu) (by omega)
    rw [HGk.out, HN.out] at this
    exact this)
  cases gk with
  | false =>
    have HPr : Hid (killL l g ex = []) := hid (by unfold killL; rw [HGk.out, if_neg (by decide)])
    rw [HPr.out, HN.out]
    rw [if_neg (by decide)] at HCk
    clear hv ho hc Ha Hc HPr hl HGk hg hex
    go_enter Tryz.func25, Tryz.ntmps25
    go_wp2_with (go_at_call 17; (with_reducible refine (HCk.out _ (grefl _ _)).mono ?_); rintro e w2 ⟨rfl, hg2⟩; have HG2 := hid hg2; clear hg2)
    go_ret
    exact ⟨_, rfl, OutK.nil _ _, HG2.out⟩
  | true =>
    rw [if_pos rfl] at HCk
    have hck := HGk.out
    obtain ⟨hlo, hdr⟩ := chk_lo hck g
    have hle := lo_own_le hck g
    have hsp := chk_split hck g
    obtain ⟨f, HF⟩ : ∃ x, Hid ((lo l g).length = x) := ⟨_, hid rfl⟩
    obtain ⟨o, HOw⟩ : ∃ x, Hid ((own l g).length = x) := ⟨_, hid rfl⟩
    obtain ⟨t, HT⟩ : ∃ x, Hid (f + o = x) := ⟨_, hid rfl⟩
    rw [HF.out] at hlo hdr hle
    rw [HOw.out] at hle
    rw [HT.out, HN.out] at hle
    rw [HN.out] at HV hc
    have hto : l.drop t = hi l g := by
      rw [← HT.out, ← List.drop_drop, hdr, ← HOw.out, List.drop_left]
    have hmi : (l.drop f).take (t - f) = own l g := by
      rw [hdr, ← HT.out, Nat.add_sub_cancel_left, ← HOw.out, List.take_left]
    have HSp : Hid (∀ u, w.grownBy u none → Calls Tryz.prog 33 #[.slice a n c, .int .u64 g] u fun e w' => e = .returned (.tuple #[.int .i64 f, .int .i64 t]) ∧ u.grownBy w' none) := hid (fun u hu => by
      have := span_any u _ F l g (HV.out.keep hu) (by omega) hck
      rw [HF.out, HOw.out, HT.out] at this
      exact this)
    have hft : f ≤ t := by rw [← HT.out]; omega
    obtain ⟨a1, hs1, hr1⟩ := HV.out.front f (by omega) hc
    obtain ⟨a2, hs2, hr2⟩ := HV.out.cut f t hft hle hc
    obtain ⟨a3, hs3, hr3⟩ := HV.out.tail HN.out t hle hc
    rw [hlo] at hr1
    rw [hmi] at hr2
    rw [hto] at hr3
    have HS1 := hid hs1
    have HS2 := hid hs2
    obtain ⟨n3, HN3⟩ : ∃ x, Hid (n - t = x) := ⟨_, hid rfl⟩
    obtain ⟨c3, HC3⟩ : ∃ x, Hid (c - t = x) := ⟨_, hid rfl⟩
    rw [HN3.out, HC3.out] at hs3 hr3
    have HS3 := hid hs3
    have HR1 := hid hr1
    have HR3 := hid hr3
    obtain ⟨WB, HWB⟩ : ∃ x, Hid (wholeIn l g = x) := ⟨_, hid rfl⟩
    have HWh : Hid (∀ u, w.grownBy u none → Calls Tryz.prog 35 #[.slice a2 (t - f) (c - f)] u fun e w' => e = .returned (.bool WB) ∧ u.grownBy w' none) := hid (fun u hu => by
      have := isWhole_any u _ F (own l g) (hr2.keep hu) (by rw [HOw.out]; have := HT.out; have := HN.out; omega)
      rw [isWh_own hck g, HWB.out] at this
      exact this)
    have HRL : Hid (∀ E : Int, E = (if WB = true then timeOf (own l g) ex else ex) → killL l g ex = lo l g ++ (⟨true, g, z16, E⟩ :: hi l g)) := hid (fun E hE => by
      unfold killL
      rw [hck, if_pos rfl, HWB.out, hE])
    have HW0 : Hid (∀ (u : World) (E : Int), -9223372036854775808 ≤ E ∧ E ≤ 9223372036854775807 → w.grownBy u none → Calls Tryz.prog 39 #[.slice a1 f c, .agg (Ky.mk true g z16 E).cells.toArray, .slice a3 n3 c3] u fun e w' => ∃ v', e = .returned v' ∧ OutK u.heap.size w' v' (lo l g ++ (⟨true, g, z16, E⟩ :: hi l g)) ∧ u.grownBy w' none) := hid (fun u E hE hu =>
      with_any u F _ _ _ _ ⟨true, g, z16, E⟩ ⟨hg, rfl, hE.1, hE.2⟩ (HR1.out.keep hu) (HR3.out.keep hu) (by
        have h1 := congrArg List.length hsp
        rw [List.length_append, List.length_append] at h1
        omega))
    have HBb : Hid (∀ E : Int, Tryz.prog.built 85 [(0, .bool true), (1, .int .u64 (g : Int)), (3, .int .i64 E)] = some (Ky.mk true g z16 E).cells.toArray) := hid (fun E => built_kill g E)
    have HTn : Hid (t ≤ n ∧ f ≤ t ∧ t ≤ c) := hid ⟨hle, hft, by omega⟩
    have hb1 : (t : Int) ≤ (n : Int) := by omega
    have hb2 : (f : Int) ≤ (t : Int) := by omega
    have hb3 : (n : Int) ≤ (c : Int) := by omega
    have HEx := hid hex
    -- the entry of the whole grant
    have HOn : Hid (WB = true → ∃ r, own l g = [r] ∧ r.ok ∧ a = some ⟨b, off, none⟩ ∧ f < n ∧ ∀ u, w.grownBy u none → u.cell? ⟨b, off + f * 19 + 18, none⟩ = some (.int .i64 r.ex)) := hid (fun h => by
      obtain ⟨r, e1, e2, e3, e4, e5⟩ := own_one hck (HWB.out.trans h)
      have ho1 : o = 1 := by rw [← HOw.out, e1]; rfl
      have hfn : f < n := by have := HT.out; omega
      have hfl : f < l.length := by rw [HN.out]; exact hfn
      have hlf : l[f] = r := by
        rw [List.drop_eq_getElem_cons hfl, e1] at hdr
        exact (List.cons.inj hdr).1
      refine ⟨r, e1, HO.out r e5, (Ha.out (by omega)).1, hfn, fun u hu => ?_⟩
      have := (Hc.out u hu f hfl).1
      rw [hlf] at this
      exact this 18 _ (Ky.c18 (HO.out r e5).2.1))
    rw [HN.out]
    clear hv ho hc Ha Hc hl HGk hg hex hck hlo hdr hle hsp hto hmi hft hs1 hr1 hs2 hr2 hs3 hr3 HV HR1 HR3 HC3 HWB HO HF HOw HT
    cases WB with
    | false =>
      as_aux_lemma =>
      obtain ⟨E, HE⟩ : ∃ E, Hid (ex = E) := ⟨_, hid rfl⟩
      have HRl := hid (HRL.out E (by rw [HE.out]; rfl))
      obtain ⟨KN, HKN⟩ : ∃ x, Hid ((Ky.mk true g z16 E).cells = x) := ⟨_, hid rfl⟩
      have HBn := hid (HBb.out E)
      have HW1 := hid (fun u hu => HW0.out u E (by rw [← HE.out]; exact HEx.out) hu)
      rw [HKN.out] at HBn HW1
      obtain ⟨RL, HRLe⟩ : ∃ x, Hid (lo l g ++ (⟨true, g, z16, E⟩ :: hi l g) = x) := ⟨_, hid rfl⟩
      have HWi : Hid (∀ u, w.grownBy u none → Calls Tryz.prog 39 #[.slice a1 f c, .agg KN.toArray, .slice a3 n3 c3] u fun e w' => ∃ v', e = .returned v' ∧ OutK u.heap.size w' v' RL ∧ u.grownBy w' none) := hid (fun u hu => by have := HW1.out u hu; rw [HRLe.out] at this; exact this)
      rw [HRl.out, HRLe.out, HE.out]
      clear HRL HW0 HW1 HBb HKN HRl HRLe HOn HEx HE
      go_enter Tryz.func25, Tryz.ntmps25
      go_upto_region 6 with (first
        | (go_at_call 17; (with_reducible refine (HCk.out _ (grefl _ _)).mono ?_); rintro e w2 ⟨rfl, hg2⟩; have HG2 := hid hg2; clear hg2)
        | (go_at_call 33; (with_reducible refine (HSp.out _ HG2.out).mono ?_); rintro e w3 ⟨rfl, hg3⟩; have HG3 := hid (gtrans HG2.out hg3); clear hg3)
        | (with_reducible refine wpList_slice_lh (by with_unfolding_all rfl) 57 _ _ _ (by with_unfolding_all rfl) _ _ _ _ (by with_unfolding_all rfl) (by with_unfolding_all rfl) (by with_unfolding_all rfl) (HS2.out _) ?_)
        | (go_at_call 35; (with_reducible refine (HWh.out _ HG3.out).mono ?_); rintro e wa ⟨rfl, hga⟩; have HUa := hid (gtrans HG3.out hga); clear hga))
      refine wp_region_listX (by kernel_rfl) [fun v _ => v = (Value.slice a n c), fun v _ => v = (Value.int .i64 (f : Nat)), fun v _ => v = (Value.slice a1 f c), fun v _ => v = (Value.int .u64 (g : Nat)), fun v _ => v = (Value.int .i64 E), fun v _ => v = (Value.agg KN.toArray), fun v _ => v = (Value.slice a n c), fun v _ => v = (Value.int .i64 (t : Nat)), fun v _ => v = (Value.slice a3 n3 c3), fun v u => ∃ z, v = z ∧ OutK wa.heap.size u z RL, fun v u => ∃ z, v = z ∧ OutK wa.heap.size u z RL] (none) (fun _ => none) 11 (by kernel_rfl) (by kernel_rfl) (by kernel_rfl) (by kernel_rfl) (by decide) noRow_one (fun _ => .inl rfl) ⟨fun i v u u' hki h hg => h, fun i v u u' hki h hg => h, fun i v u u' hki h hg => h, fun i v u u' hki h hg => h, fun i v u u' hki h hg => h, fun i v u u' hki h hg => h, fun i v u u' hki h hg => h, fun i v u u' hki h hg => h, fun i v u u' hki h hg => h, fun i v u u' hki h hg => (by obtain ⟨z, rfl, h1⟩ := h; exact ⟨_, rfl, h1.keep hg⟩), fun i v u u' hki h hg => (by obtain ⟨z, rfl, h1⟩ := h; exact ⟨_, rfl, h1.keep hg⟩), trivial⟩ ⟨?_, ?_, ?_, ?_, ?_, ?_, ?_, ?_, ?_, ?_, ?_, trivial⟩ ?_
      · intro A u hu hpu hsz hout hdeps
        have e0 : A.eval (.tmp 0) = (.slice a n c) := (hout 0 (by kernel_rfl)).trans rfl
        refine ifw_none rfl ?_
        with_reducible refine shown_q (Value.slice a n c) ?qq_1k_0 (fun _ _ => ?qr_1k_0)
        case qr_1k_0 => exact (rfl : (Value.slice a n c) = (Value.slice a n c))
        with_reducible refine quietAt_mv (.tmp 0) (Value.slice a n c) ?h0_1k_0 ?h1_1k_0
        case h0_1k_0 => rfl
        case h1_1k_0 => exact e0
      · intro A u hu hpu hsz hout hdeps
        have e7 : A.eval (.tmp 7) = (.int .i64 (f : Nat)) := (hout 7 (by kernel_rfl)).trans rfl
        refine ifw_none rfl ?_
        with_reducible refine shown_q (Value.int .i64 (f : Nat)) ?qq_1k_1 (fun _ _ => ?qr_1k_1)
        case qr_1k_1 => exact (rfl : (Value.int .i64 (f : Nat)) = (Value.int .i64 (f : Nat)))
        with_reducible refine quietAt_mv (.tmp 7) (Value.int .i64 (f : Nat)) ?h0_1k_1 ?h1_1k_1
        case h0_1k_1 => rfl
        case h1_1k_1 => exact e7
      · intro A u hu hpu hsz hout hdeps
        have e30 : A.eval (.tmp 30) = (.slice a n c) := by have h := depL hdeps 0 (by kernel_rfl) 30 (by kernel_rfl); exact h
        have e31 : A.eval (.tmp 31) = (.int .i64 (f : Nat)) := by have h := depL hdeps 1 (by kernel_rfl) 31 (by kernel_rfl); exact h
        refine ifw_none rfl ?_
        with_reducible refine shown_q (Value.slice a1 f c) ?qq_1k_2 (fun _ _ => ?qr_1k_2)
        case qr_1k_2 => exact (rfl : (Value.slice a1 f c) = (Value.slice a1 f c))
        with_reducible refine quietAt_sliceh 57 (.tmp 30) (.tmp 31) (Value.slice a n c) (Value.int .i64 (f : Nat)) (Value.slice a1 f c) ?h0_1k_2 ?h1_1k_2 ?h2_1k_2 ?h3_1k_2
        case h0_1k_2 => rfl
        case h1_1k_2 => exact e30
        case h2_1k_2 => exact e31
        case h3_1k_2 => exact (HS1.out u)
      · intro A u hu hpu hsz hout hdeps
        have e1 : A.eval (.tmp 1) = (.int .u64 (g : Nat)) := (hout 1 (by kernel_rfl)).trans rfl
        refine ifw_none rfl ?_
        with_reducible refine shown_q (Value.int .u64 (g : Nat)) ?qq_1k_3 (fun _ _ => ?qr_1k_3)
        case qr_1k_3 => exact (rfl : (Value.int .u64 (g : Nat)) = (Value.int .u64 (g : Nat)))
        with_reducible refine quietAt_mv (.tmp 1) (Value.int .u64 (g : Nat)) ?h0_1k_3 ?h1_1k_3
        case h0_1k_3 => rfl
        case h1_1k_3 => exact e1
      · intro A u hu hpu hsz hout hdeps
        have e2 : A.eval (.tmp 2) = (.int .i64 E) := (hout 2 (by kernel_rfl)).trans rfl
        refine ifw_none rfl ?_
        with_reducible refine shown_q (Value.int .i64 E) ?qq_1k_4 (fun _ _ => ?qr_1k_4)
        case qr_1k_4 => exact (rfl : (Value.int .i64 E) = (Value.int .i64 E))
        with_reducible refine quietAt_mv (.tmp 2) (Value.int .i64 E) ?h0_1k_4 ?h1_1k_4
        case h0_1k_4 => rfl
        case h1_1k_4 => exact e2
      · intro A u hu hpu hsz hout hdeps
        have ec0 : A.eval (.const (.bool true)) = (Value.bool true) := rfl
        have e33 : A.eval (.tmp 33) = (.int .u64 (g : Nat)) := by have h := depL hdeps 3 (by kernel_rfl) 33 (by kernel_rfl); exact h
        have e34 : A.eval (.tmp 34) = (.int .i64 E) := by have h := depL hdeps 4 (by kernel_rfl) 34 (by kernel_rfl); exact h
        refine ifw_none rfl ?_
        with_reducible refine shown_q (Value.agg KN.toArray) ?qq_1k_5 (fun _ _ => ?qr_1k_5)
        case qr_1k_5 => exact (rfl : (Value.agg KN.toArray) = (Value.agg KN.toArray))
        with_reducible refine quietAt_build 85 #[(0, .const (.bool true)), (1, .tmp 33), (3, .tmp 34)] ?h0_1k_5 [(0, (Value.bool true)), (1, (Value.int .u64 (g : Nat))), (3, (Value.int .i64 E))] ?h1_1k_5 KN ?h2_1k_5
        case h0_1k_5 => rfl
        case h1_1k_5 => simp only [List.map_toArray, List.map_cons, List.map_nil, ec0, e33, e34]
        case h2_1k_5 => exact HBn.out
      · intro A u hu hpu hsz hout hdeps
        have e0 : A.eval (.tmp 0) = (.slice a n c) := (hout 0 (by kernel_rfl)).trans rfl
        refine ifw_none rfl ?_
        with_reducible refine shown_q (Value.slice a n c) ?qq_1k_6 (fun _ _ => ?qr_1k_6)
        case qr_1k_6 => exact (rfl : (Value.slice a n c) = (Value.slice a n c))
        with_reducible refine quietAt_mv (.tmp 0) (Value.slice a n c) ?h0_1k_6 ?h1_1k_6
        case h0_1k_6 => rfl
        case h1_1k_6 => exact e0
      · intro A u hu hpu hsz hout hdeps
        have e8 : A.eval (.tmp 8) = (.int .i64 (t : Nat)) := (hout 8 (by kernel_rfl)).trans rfl
        refine ifw_none rfl ?_
        with_reducible refine shown_q (Value.int .i64 (t : Nat)) ?qq_1k_7 (fun _ _ => ?qr_1k_7)
        case qr_1k_7 => exact (rfl : (Value.int .i64 (t : Nat)) = (Value.int .i64 (t : Nat)))
        with_reducible refine quietAt_mv (.tmp 8) (Value.int .i64 (t : Nat)) ?h0_1k_7 ?h1_1k_7
        case h0_1k_7 => rfl
        case h1_1k_7 => exact e8
      · intro A u hu hpu hsz hout hdeps
        have e36 : A.eval (.tmp 36) = (.slice a n c) := by have h := depL hdeps 6 (by kernel_rfl) 36 (by kernel_rfl); exact h
        have e37 : A.eval (.tmp 37) = (.int .i64 (t : Nat)) := by have h := depL hdeps 7 (by kernel_rfl) 37 (by kernel_rfl); exact h
        refine ifw_none rfl ?_
        with_reducible refine shown_q (Value.slice a3 n3 c3) ?qq_1k_8 (fun _ _ => ?qr_1k_8)
        case qr_1k_8 => exact (rfl : (Value.slice a3 n3 c3) = (Value.slice a3 n3 c3))
        with_reducible refine quietAt_slicel 57 (.tmp 36) (.tmp 37) (Value.slice a n c) (Value.int .i64 (t : Nat)) (Value.slice a3 n3 c3) ?h0_1k_8 ?h1_1k_8 ?h2_1k_8 ?h3_1k_8
        case h0_1k_8 => rfl
        case h1_1k_8 => exact e36
        case h2_1k_8 => exact e37
        case h3_1k_8 => exact (HS3.out u)
      · intro A u hu hpu hsz hout hdeps
        have e32 : A.eval (.tmp 32) = (.slice a1 f c) := by have h := depL hdeps 2 (by kernel_rfl) 32 (by kernel_rfl); exact h
        have e35 : A.eval (.tmp 35) = (.agg KN.toArray) := by have h := depL hdeps 5 (by kernel_rfl) 35 (by kernel_rfl); exact h
        have e38 : A.eval (.tmp 38) = (.slice a3 n3 c3) := by have h := depL hdeps 8 (by kernel_rfl) 38 (by kernel_rfl); exact h
        refine ifw_none rfl ?_
        with_reducible refine shown_call 39 Tryz.f39 ?h0_1k_9 ?h1_1k_9 ?h2_1k_9 #[.tmp 32, .tmp 35, .tmp 38] #[57, 85, 57] ?h3_1k_9 #[(Value.slice a1 f c), (Value.agg KN.toArray), (Value.slice a3 n3 c3)] ?h4_1k_9 ?h5_1k_9
        case h0_1k_9 => exact Tryz.func39
        case h1_1k_9 => kernel_rfl
        case h2_1k_9 => kernel_rfl
        case h3_1k_9 => rfl
        case h4_1k_9 => exact map3 _ _ _ _ _ _ _ e32 e35 e38
        case h5_1k_9 => exact (HWi.out u (gtrans HUa.out hu)).mono fun e w' ⟨v', he, ho, hg⟩ => ⟨v', he, hg, v', rfl, ho.below hu.size⟩
      · intro A u hu hpu hsz hout hdeps
        have f39 : (fun v u => ∃ z, v = z ∧ OutK wa.heap.size u z RL) (A.eval (.tmp 39)) u := by have h := depL hdeps 9 (by kernel_rfl) 39 (by kernel_rfl); exact h
        obtain ⟨V9, e39, HV9⟩ := f39
        refine ifw_none rfl ?_
        exact shown_q _ (quietAt_as (.tmp 39) _ rfl e39) (fun u' hg => ⟨_, rfl, HV9.keep hg⟩)
      · intro A u8 listed hh hall
        have hA := hh.frame
        have HU := hid hh.grown
        obtain ⟨x30, hx30⟩ : ∃ x, A.eval (.tmp 30) = x := ⟨_, rfl⟩
        have f30 : (fun v _ => v = (Value.slice a n c)) x30 u8 := by rw [← hx30]; exact hh.got 0 _ 30 rfl rfl (hall 0 (by decide))
        obtain ⟨x31, hx31⟩ : ∃ x, A.eval (.tmp 31) = x := ⟨_, rfl⟩
        have f31 : (fun v _ => v = (Value.int .i64 (f : Nat))) x31 u8 := by rw [← hx31]; exact hh.got 1 _ 31 rfl rfl (hall 1 (by decide))
        obtain ⟨x32, hx32⟩ : ∃ x, A.eval (.tmp 32) = x := ⟨_, rfl⟩
        have f32 : (fun v _ => v = (Value.slice a1 f c)) x32 u8 := by rw [← hx32]; exact hh.got 2 _ 32 rfl rfl (hall 2 (by decide))
        obtain ⟨x33, hx33⟩ : ∃ x, A.eval (.tmp 33) = x := ⟨_, rfl⟩
        have f33 : (fun v _ => v = (Value.int .u64 (g : Nat))) x33 u8 := by rw [← hx33]; exact hh.got 3 _ 33 rfl rfl (hall 3 (by decide))
        obtain ⟨x34, hx34⟩ : ∃ x, A.eval (.tmp 34) = x := ⟨_, rfl⟩
        have f34 : (fun v _ => v = (Value.int .i64 E)) x34 u8 := by rw [← hx34]; exact hh.got 4 _ 34 rfl rfl (hall 4 (by decide))
        obtain ⟨x35, hx35⟩ : ∃ x, A.eval (.tmp 35) = x := ⟨_, rfl⟩
        have f35 : (fun v _ => v = (Value.agg KN.toArray)) x35 u8 := by rw [← hx35]; exact hh.got 5 _ 35 rfl rfl (hall 5 (by decide))
        obtain ⟨x36, hx36⟩ : ∃ x, A.eval (.tmp 36) = x := ⟨_, rfl⟩
        have f36 : (fun v _ => v = (Value.slice a n c)) x36 u8 := by rw [← hx36]; exact hh.got 6 _ 36 rfl rfl (hall 6 (by decide))
        obtain ⟨x37, hx37⟩ : ∃ x, A.eval (.tmp 37) = x := ⟨_, rfl⟩
        have f37 : (fun v _ => v = (Value.int .i64 (t : Nat))) x37 u8 := by rw [← hx37]; exact hh.got 7 _ 37 rfl rfl (hall 7 (by decide))
        obtain ⟨x38, hx38⟩ : ∃ x, A.eval (.tmp 38) = x := ⟨_, rfl⟩
        have f38 : (fun v _ => v = (Value.slice a3 n3 c3)) x38 u8 := by rw [← hx38]; exact hh.got 8 _ 38 rfl rfl (hall 8 (by decide))
        obtain ⟨x39, hx39⟩ : ∃ x, A.eval (.tmp 39) = x := ⟨_, rfl⟩
        have f39 : (fun v u => ∃ z, v = z ∧ OutK wa.heap.size u z RL) x39 u8 := by rw [← hx39]; exact hh.got 9 _ 39 rfl rfl (hall 9 (by decide))
        obtain ⟨x6, hx6⟩ : ∃ x, A.eval (.tmp 6) = x := ⟨_, rfl⟩
        have f6 : (fun v u => ∃ z, v = z ∧ OutK wa.heap.size u z RL) x6 u8 := by rw [← hx6]; exact hh.got 10 _ 6 rfl rfl (hall 10 (by decide))
        dsimp only [wrote, List.foldl] at hA
        rw [hx30, hx31, hx32, hx33, hx34, hx35, hx36, hx37, hx38, hx39, hx6] at hA
        clear hh hall hx30 hx31 hx32 hx33 hx34 hx35 hx36 hx37 hx38 hx39 hx6
        replace f30 := (f30 : x30 = (.slice a n c))
        subst f30
        replace f31 := (f31 : x31 = (.int .i64 (f : Nat)))
        subst f31
        replace f32 := (f32 : x32 = (.slice a1 f c))
        subst f32
        replace f33 := (f33 : x33 = (.int .u64 (g : Nat)))
        subst f33
        replace f34 := (f34 : x34 = (.int .i64 E))
        subst f34
        replace f35 := (f35 : x35 = (.agg KN.toArray))
        subst f35
        replace f36 := (f36 : x36 = (.slice a n c))
        subst f36
        replace f37 := (f37 : x37 = (.int .i64 (t : Nat)))
        subst f37
        replace f38 := (f38 : x38 = (.slice a3 n3 c3))
        subst f38
        obtain ⟨V9, e39, HV9⟩ := f39
        subst e39
        obtain ⟨V9, e6, HV9⟩ := f6
        subst e6
        subst hA
        show wpList _ _ _ [] _ _
        unfold wpList
        simp only [Act.put, List.setIfInBounds_toArray, List.set_cons_succ, List.set_cons_zero]
        have HUz := hid (gtrans HUa.out HU.out)
        have HOz := hid (OutK.below HV9 HUa.out.size)
        go_wp2_with fail
        go_ret
        exact ⟨_, rfl, HOz.out, HUz.out⟩
    | true =>
      as_aux_lemma =>
      obtain ⟨r, e1, hrok, rfl, hfn, hcell⟩ := HOn.out rfl
      obtain ⟨x, hx⟩ : ∃ x, r.ex = x := ⟨_, rfl⟩
      rw [hx] at hcell
      obtain ⟨E, HE⟩ : ∃ E, Hid (mx x ex = E) := ⟨_, hid rfl⟩
      have hEr : -9223372036854775808 ≤ E ∧ E ≤ 9223372036854775807 := by
        have h1 := HEx.out
        have h2 := hrok.2.2
        rw [hx] at h2
        rw [← HE.out]
        unfold mx
        split
        · exact h2
        · exact h1
      have HMx : Hid (∀ u ty, (Builtin.max_ #[2, 2] ty #[.int .i64 ex, .int .i64 x]).run Tryz.prog u = .ok (.int .i64 E) u) := hid (fun u ty => by rw [← HE.out]; exact run_max2 ex x u ty)
      have HRl := hid (HRL.out E (by rw [← HE.out, ← hx, if_pos rfl, e1]; rfl))
      obtain ⟨KN, HKN⟩ : ∃ x, Hid ((Ky.mk true g z16 E).cells = x) := ⟨_, hid rfl⟩
      have HBn := hid (HBb.out E)
      have HW1 := hid (fun u hu => HW0.out u E hEr hu)
      rw [HKN.out] at HBn HW1
      obtain ⟨RL, HRLe⟩ : ∃ x, Hid (lo l g ++ (⟨true, g, z16, E⟩ :: hi l g) = x) := ⟨_, hid rfl⟩
      have HWi : Hid (∀ u, w.grownBy u none → Calls Tryz.prog 39 #[.slice a1 f c, .agg KN.toArray, .slice a3 n3 c3] u fun e w' => ∃ v', e = .returned v' ∧ OutK u.heap.size w' v' RL ∧ u.grownBy w' none) := hid (fun u hu => by have := HW1.out u hu; rw [HRLe.out] at this; exact this)
      have HCe := hid hcell
      have hfn' : (f : Int) < (n : Int) := by omega
      rw [HRl.out, HRLe.out]
      clear HRL HW0 HW1 HBb HKN HRl HRLe HOn HEx HE hcell e1 hrok hx hEr hfn
      go_enter Tryz.func25, Tryz.ntmps25
      go_upto_region 6 with (first
        | (go_at_call 17; (with_reducible refine (HCk.out _ (grefl _ _)).mono ?_); rintro e w2 ⟨rfl, hg2⟩; have HG2 := hid hg2; clear hg2)
        | (go_at_call 33; (with_reducible refine (HSp.out _ HG2.out).mono ?_); rintro e w3 ⟨rfl, hg3⟩; have HG3 := hid (gtrans HG2.out hg3); clear hg3)
        | (with_reducible refine wpList_slice_lh (by with_unfolding_all rfl) 57 _ _ _ (by with_unfolding_all rfl) _ _ _ _ (by with_unfolding_all rfl) (by with_unfolding_all rfl) (by with_unfolding_all rfl) (HS2.out _) ?_)
        | (go_at_call 35; (with_reducible refine (HWh.out _ HG3.out).mono ?_); rintro e wa ⟨rfl, hga⟩; have HUa := hid (gtrans HG3.out hga); have y18 := HCe.out _ HUa.out; have ymx := HMx.out wa; clear hga))
      refine wp_region_listX (by kernel_rfl) [fun v _ => v = (Value.slice (some ⟨b, off, none⟩) n c), fun v _ => v = (Value.int .i64 (f : Nat)), fun v _ => v = (Value.slice a1 f c), fun v _ => v = (Value.int .u64 (g : Nat)), fun v _ => v = (Value.int .i64 E), fun v _ => v = (Value.agg KN.toArray), fun v _ => v = (Value.slice (some ⟨b, off, none⟩) n c), fun v _ => v = (Value.int .i64 (t : Nat)), fun v _ => v = (Value.slice a3 n3 c3), fun v u => ∃ z, v = z ∧ OutK wa.heap.size u z RL, fun v u => ∃ z, v = z ∧ OutK wa.heap.size u z RL] (none) (fun _ => none) 11 (by kernel_rfl) (by kernel_rfl) (by kernel_rfl) (by kernel_rfl) (by decide) noRow_one (fun _ => .inl rfl) ⟨fun i v u u' hki h hg => h, fun i v u u' hki h hg => h, fun i v u u' hki h hg => h, fun i v u u' hki h hg => h, fun i v u u' hki h hg => h, fun i v u u' hki h hg => h, fun i v u u' hki h hg => h, fun i v u u' hki h hg => h, fun i v u u' hki h hg => h, fun i v u u' hki h hg => (by obtain ⟨z, rfl, h1⟩ := h; exact ⟨_, rfl, h1.keep hg⟩), fun i v u u' hki h hg => (by obtain ⟨z, rfl, h1⟩ := h; exact ⟨_, rfl, h1.keep hg⟩), trivial⟩ ⟨?_, ?_, ?_, ?_, ?_, ?_, ?_, ?_, ?_, ?_, ?_, trivial⟩ ?_
      · intro A u hu hpu hsz hout hdeps
        have e0 : A.eval (.tmp 0) = (.slice (some ⟨b, off, none⟩) n c) := (hout 0 (by kernel_rfl)).trans rfl
        refine ifw_none rfl ?_
        with_reducible refine shown_q (Value.slice (some ⟨b, off, none⟩) n c) ?qq_2k_0 (fun _ _ => ?qr_2k_0)
        case qr_2k_0 => exact (rfl : (Value.slice (some ⟨b, off, none⟩) n c) = (Value.slice (some ⟨b, off, none⟩) n c))
        with_reducible refine quietAt_mv (.tmp 0) (Value.slice (some ⟨b, off, none⟩) n c) ?h0_2k_0 ?h1_2k_0
        case h0_2k_0 => rfl
        case h1_2k_0 => exact e0
      · intro A u hu hpu hsz hout hdeps
        have e7 : A.eval (.tmp 7) = (.int .i64 (f : Nat)) := (hout 7 (by kernel_rfl)).trans rfl
        refine ifw_none rfl ?_
        with_reducible refine shown_q (Value.int .i64 (f : Nat)) ?qq_2k_1 (fun _ _ => ?qr_2k_1)
        case qr_2k_1 => exact (rfl : (Value.int .i64 (f : Nat)) = (Value.int .i64 (f : Nat)))
        with_reducible refine quietAt_mv (.tmp 7) (Value.int .i64 (f : Nat)) ?h0_2k_1 ?h1_2k_1
        case h0_2k_1 => rfl
        case h1_2k_1 => exact e7
      · intro A u hu hpu hsz hout hdeps
        have e30 : A.eval (.tmp 30) = (.slice (some ⟨b, off, none⟩) n c) := by have h := depL hdeps 0 (by kernel_rfl) 30 (by kernel_rfl); exact h
        have e31 : A.eval (.tmp 31) = (.int .i64 (f : Nat)) := by have h := depL hdeps 1 (by kernel_rfl) 31 (by kernel_rfl); exact h
        refine ifw_none rfl ?_
        with_reducible refine shown_q (Value.slice a1 f c) ?qq_2k_2 (fun _ _ => ?qr_2k_2)
        case qr_2k_2 => exact (rfl : (Value.slice a1 f c) = (Value.slice a1 f c))
        with_reducible refine quietAt_sliceh 57 (.tmp 30) (.tmp 31) (Value.slice (some ⟨b, off, none⟩) n c) (Value.int .i64 (f : Nat)) (Value.slice a1 f c) ?h0_2k_2 ?h1_2k_2 ?h2_2k_2 ?h3_2k_2
        case h0_2k_2 => rfl
        case h1_2k_2 => exact e30
        case h2_2k_2 => exact e31
        case h3_2k_2 => exact (HS1.out u)
      · intro A u hu hpu hsz hout hdeps
        have e1 : A.eval (.tmp 1) = (.int .u64 (g : Nat)) := (hout 1 (by kernel_rfl)).trans rfl
        refine ifw_none rfl ?_
        with_reducible refine shown_q (Value.int .u64 (g : Nat)) ?qq_2k_3 (fun _ _ => ?qr_2k_3)
        case qr_2k_3 => exact (rfl : (Value.int .u64 (g : Nat)) = (Value.int .u64 (g : Nat)))
        with_reducible refine quietAt_mv (.tmp 1) (Value.int .u64 (g : Nat)) ?h0_2k_3 ?h1_2k_3
        case h0_2k_3 => rfl
        case h1_2k_3 => exact e1
      · intro A u hu hpu hsz hout hdeps
        have e2 : A.eval (.tmp 2) = (.int .i64 E) := (hout 2 (by kernel_rfl)).trans rfl
        refine ifw_none rfl ?_
        with_reducible refine shown_q (Value.int .i64 E) ?qq_2k_4 (fun _ _ => ?qr_2k_4)
        case qr_2k_4 => exact (rfl : (Value.int .i64 E) = (Value.int .i64 E))
        with_reducible refine quietAt_mv (.tmp 2) (Value.int .i64 E) ?h0_2k_4 ?h1_2k_4
        case h0_2k_4 => rfl
        case h1_2k_4 => exact e2
      · intro A u hu hpu hsz hout hdeps
        have ec0 : A.eval (.const (.bool true)) = (Value.bool true) := rfl
        have e33 : A.eval (.tmp 33) = (.int .u64 (g : Nat)) := by have h := depL hdeps 3 (by kernel_rfl) 33 (by kernel_rfl); exact h
        have e34 : A.eval (.tmp 34) = (.int .i64 E) := by have h := depL hdeps 4 (by kernel_rfl) 34 (by kernel_rfl); exact h
        refine ifw_none rfl ?_
        with_reducible refine shown_q (Value.agg KN.toArray) ?qq_2k_5 (fun _ _ => ?qr_2k_5)
        case qr_2k_5 => exact (rfl : (Value.agg KN.toArray) = (Value.agg KN.toArray))
        with_reducible refine quietAt_build 85 #[(0, .const (.bool true)), (1, .tmp 33), (3, .tmp 34)] ?h0_2k_5 [(0, (Value.bool true)), (1, (Value.int .u64 (g : Nat))), (3, (Value.int .i64 E))] ?h1_2k_5 KN ?h2_2k_5
        case h0_2k_5 => rfl
        case h1_2k_5 => simp only [List.map_toArray, List.map_cons, List.map_nil, ec0, e33, e34]
        case h2_2k_5 => exact HBn.out
      · intro A u hu hpu hsz hout hdeps
        have e0 : A.eval (.tmp 0) = (.slice (some ⟨b, off, none⟩) n c) := (hout 0 (by kernel_rfl)).trans rfl
        refine ifw_none rfl ?_
        with_reducible refine shown_q (Value.slice (some ⟨b, off, none⟩) n c) ?qq_2k_6 (fun _ _ => ?qr_2k_6)
        case qr_2k_6 => exact (rfl : (Value.slice (some ⟨b, off, none⟩) n c) = (Value.slice (some ⟨b, off, none⟩) n c))
        with_reducible refine quietAt_mv (.tmp 0) (Value.slice (some ⟨b, off, none⟩) n c) ?h0_2k_6 ?h1_2k_6
        case h0_2k_6 => rfl
        case h1_2k_6 => exact e0
      · intro A u hu hpu hsz hout hdeps
        have e8 : A.eval (.tmp 8) = (.int .i64 (t : Nat)) := (hout 8 (by kernel_rfl)).trans rfl
        refine ifw_none rfl ?_
        with_reducible refine shown_q (Value.int .i64 (t : Nat)) ?qq_2k_7 (fun _ _ => ?qr_2k_7)
        case qr_2k_7 => exact (rfl : (Value.int .i64 (t : Nat)) = (Value.int .i64 (t : Nat)))
        with_reducible refine quietAt_mv (.tmp 8) (Value.int .i64 (t : Nat)) ?h0_2k_7 ?h1_2k_7
        case h0_2k_7 => rfl
        case h1_2k_7 => exact e8
      · intro A u hu hpu hsz hout hdeps
        have e36 : A.eval (.tmp 36) = (.slice (some ⟨b, off, none⟩) n c) := by have h := depL hdeps 6 (by kernel_rfl) 36 (by kernel_rfl); exact h
        have e37 : A.eval (.tmp 37) = (.int .i64 (t : Nat)) := by have h := depL hdeps 7 (by kernel_rfl) 37 (by kernel_rfl); exact h
        refine ifw_none rfl ?_
        with_reducible refine shown_q (Value.slice a3 n3 c3) ?qq_2k_8 (fun _ _ => ?qr_2k_8)
        case qr_2k_8 => exact (rfl : (Value.slice a3 n3 c3) = (Value.slice a3 n3 c3))
        with_reducible refine quietAt_slicel 57 (.tmp 36) (.tmp 37) (Value.slice (some ⟨b, off, none⟩) n c) (Value.int .i64 (t : Nat)) (Value.slice a3 n3 c3) ?h0_2k_8 ?h1_2k_8 ?h2_2k_8 ?h3_2k_8
        case h0_2k_8 => rfl
        case h1_2k_8 => exact e36
        case h2_2k_8 => exact e37
        case h3_2k_8 => exact (HS3.out u)
      · intro A u hu hpu hsz hout hdeps
        have e32 : A.eval (.tmp 32) = (.slice a1 f c) := by have h := depL hdeps 2 (by kernel_rfl) 32 (by kernel_rfl); exact h
        have e35 : A.eval (.tmp 35) = (.agg KN.toArray) := by have h := depL hdeps 5 (by kernel_rfl) 35 (by kernel_rfl); exact h
        have e38 : A.eval (.tmp 38) = (.slice a3 n3 c3) := by have h := depL hdeps 8 (by kernel_rfl) 38 (by kernel_rfl); exact h
        refine ifw_none rfl ?_
        with_reducible refine shown_call 39 Tryz.f39 ?h0_2k_9 ?h1_2k_9 ?h2_2k_9 #[.tmp 32, .tmp 35, .tmp 38] #[57, 85, 57] ?h3_2k_9 #[(Value.slice a1 f c), (Value.agg KN.toArray), (Value.slice a3 n3 c3)] ?h4_2k_9 ?h5_2k_9
        case h0_2k_9 => exact Tryz.func39
        case h1_2k_9 => kernel_rfl
        case h2_2k_9 => kernel_rfl
        case h3_2k_9 => rfl
        case h4_2k_9 => exact map3 _ _ _ _ _ _ _ e32 e35 e38
        case h5_2k_9 => exact (HWi.out u (gtrans HUa.out hu)).mono fun e w' ⟨v', he, ho, hg⟩ => ⟨v', he, hg, v', rfl, ho.below hu.size⟩
      · intro A u hu hpu hsz hout hdeps
        have f39 : (fun v u => ∃ z, v = z ∧ OutK wa.heap.size u z RL) (A.eval (.tmp 39)) u := by have h := depL hdeps 9 (by kernel_rfl) 39 (by kernel_rfl); exact h
        obtain ⟨V9, e39, HV9⟩ := f39
        refine ifw_none rfl ?_
        exact shown_q _ (quietAt_as (.tmp 39) _ rfl e39) (fun u' hg => ⟨_, rfl, HV9.keep hg⟩)
      · intro A u8 listed hh hall
        have hA := hh.frame
        have HU := hid hh.grown
        obtain ⟨x30, hx30⟩ : ∃ x, A.eval (.tmp 30) = x := ⟨_, rfl⟩
        have f30 : (fun v _ => v = (Value.slice (some ⟨b, off, none⟩) n c)) x30 u8 := by rw [← hx30]; exact hh.got 0 _ 30 rfl rfl (hall 0 (by decide))
        obtain ⟨x31, hx31⟩ : ∃ x, A.eval (.tmp 31) = x := ⟨_, rfl⟩
        have f31 : (fun v _ => v = (Value.int .i64 (f : Nat))) x31 u8 := by rw [← hx31]; exact hh.got 1 _ 31 rfl rfl (hall 1 (by decide))
        obtain ⟨x32, hx32⟩ : ∃ x, A.eval (.tmp 32) = x := ⟨_, rfl⟩
        have f32 : (fun v _ => v = (Value.slice a1 f c)) x32 u8 := by rw [← hx32]; exact hh.got 2 _ 32 rfl rfl (hall 2 (by decide))
        obtain ⟨x33, hx33⟩ : ∃ x, A.eval (.tmp 33) = x := ⟨_, rfl⟩
        have f33 : (fun v _ => v = (Value.int .u64 (g : Nat))) x33 u8 := by rw [← hx33]; exact hh.got 3 _ 33 rfl rfl (hall 3 (by decide))
        obtain ⟨x34, hx34⟩ : ∃ x, A.eval (.tmp 34) = x := ⟨_, rfl⟩
        have f34 : (fun v _ => v = (Value.int .i64 E)) x34 u8 := by rw [← hx34]; exact hh.got 4 _ 34 rfl rfl (hall 4 (by decide))
        obtain ⟨x35, hx35⟩ : ∃ x, A.eval (.tmp 35) = x := ⟨_, rfl⟩
        have f35 : (fun v _ => v = (Value.agg KN.toArray)) x35 u8 := by rw [← hx35]; exact hh.got 5 _ 35 rfl rfl (hall 5 (by decide))
        obtain ⟨x36, hx36⟩ : ∃ x, A.eval (.tmp 36) = x := ⟨_, rfl⟩
        have f36 : (fun v _ => v = (Value.slice (some ⟨b, off, none⟩) n c)) x36 u8 := by rw [← hx36]; exact hh.got 6 _ 36 rfl rfl (hall 6 (by decide))
        obtain ⟨x37, hx37⟩ : ∃ x, A.eval (.tmp 37) = x := ⟨_, rfl⟩
        have f37 : (fun v _ => v = (Value.int .i64 (t : Nat))) x37 u8 := by rw [← hx37]; exact hh.got 7 _ 37 rfl rfl (hall 7 (by decide))
        obtain ⟨x38, hx38⟩ : ∃ x, A.eval (.tmp 38) = x := ⟨_, rfl⟩
        have f38 : (fun v _ => v = (Value.slice a3 n3 c3)) x38 u8 := by rw [← hx38]; exact hh.got 8 _ 38 rfl rfl (hall 8 (by decide))
        obtain ⟨x39, hx39⟩ : ∃ x, A.eval (.tmp 39) = x := ⟨_, rfl⟩
        have f39 : (fun v u => ∃ z, v = z ∧ OutK wa.heap.size u z RL) x39 u8 := by rw [← hx39]; exact hh.got 9 _ 39 rfl rfl (hall 9 (by decide))
        obtain ⟨x6, hx6⟩ : ∃ x, A.eval (.tmp 6) = x := ⟨_, rfl⟩
        have f6 : (fun v u => ∃ z, v = z ∧ OutK wa.heap.size u z RL) x6 u8 := by rw [← hx6]; exact hh.got 10 _ 6 rfl rfl (hall 10 (by decide))
        dsimp only [wrote, List.foldl] at hA
        rw [hx30, hx31, hx32, hx33, hx34, hx35, hx36, hx37, hx38, hx39, hx6] at hA
        clear hh hall hx30 hx31 hx32 hx33 hx34 hx35 hx36 hx37 hx38 hx39 hx6
        replace f30 := (f30 : x30 = (.slice (some ⟨b, off, none⟩) n c))
        subst f30
        replace f31 := (f31 : x31 = (.int .i64 (f : Nat)))
        subst f31
        replace f32 := (f32 : x32 = (.slice a1 f c))
        subst f32
        replace f33 := (f33 : x33 = (.int .u64 (g : Nat)))
        subst f33
        replace f34 := (f34 : x34 = (.int .i64 E))
        subst f34
        replace f35 := (f35 : x35 = (.agg KN.toArray))
        subst f35
        replace f36 := (f36 : x36 = (.slice (some ⟨b, off, none⟩) n c))
        subst f36
        replace f37 := (f37 : x37 = (.int .i64 (t : Nat)))
        subst f37
        replace f38 := (f38 : x38 = (.slice a3 n3 c3))
        subst f38
        obtain ⟨V9, e39, HV9⟩ := f39
        subst e39
        obtain ⟨V9, e6, HV9⟩ := f6
        subst e6
        subst hA
        show wpList _ _ _ [] _ _
        unfold wpList
        simp only [Act.put, List.setIfInBounds_toArray, List.set_cons_succ, List.set_cons_zero]
        have HUz := hid (gtrans HUa.out HU.out)
        have HOz := hid (OutK.below HV9 HUa.out.size)
        go_wp2_with fail
        go_ret
        exact ⟨_, rfl, HOz.out, HUz.out⟩
end Go.Proofs.YtlgjmhemgfjgnaaGreat
