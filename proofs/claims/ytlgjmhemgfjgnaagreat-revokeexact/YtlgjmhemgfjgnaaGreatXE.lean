/- The reference's laid. -/
import Derived.Test.YtlgjmhemgfjgnaaGreatXC
import Derived.Test.YtlgjmhemgfjgnaaGreatX04
namespace Go.Proofs.YtlgjmhemgfjgnaaGreat
open Go Go.RowKit
open Go.RowKit (wrap32 wrap64)

/-- entries with one more, at its place. -/
def layL (x : Ky) : Bool → List Ky → List Ky
  | d, [] => if d = true then [] else [x]
  | d, r :: l => if (!d && ahd2 x r) = true then x :: r :: layL x true l else r :: layL x d l
theorem layL_drop (x : Ky) (d : Bool) (l : List Ky) (i : Nat) (h : i < l.length) : layL x d (l.drop i) = if (!d && ahd2 x l[i]) = true then x :: l[i] :: layL x true (l.drop (i + 1)) else l[i] :: layL x d (l.drop (i + 1)) := by
  rw [List.drop_eq_getElem_cons h]
  rfl
theorem layL_end (x : Ky) (d : Bool) (l : List Ky) (i : Nat) (h : l.length ≤ i) : layL x d (l.drop i) = if d = true then [] else [x] := by
  rw [List.drop_of_length_le h]
  rfl
set_option maxRecDepth 100000 in
set_option maxHeartbeats 6400000 in
theorem rlaid_any (w : World) (v : Value) (F : Nat → Prop) (l : List Ky) (xx : Ky) (hv : RdK w F v l) (hx : xx.ok) (hl : l.length ≤ 1000000) :
    Calls Tryz.prog 37 #[v, .agg xx.cells.toArray] w fun e w' => ∃ v', e = .returned v' ∧ OutK w.heap.size w' v' (layL xx false l) ∧ w.grownBy w' none := by
  obtain ⟨ho, a, b, off, c, rfl, hc, Ha, Hc⟩ := hv.open
  obtain ⟨n, HN⟩ : ∃ n, Hid (l.length = n) := ⟨_, hid rfl⟩
  have HO := hid ho
  have HLn : Hid (n ≤ 1000000) := hid (by rw [← HN.out]; exact hl)
  have HA : Hid (0 < n → a = some ⟨b, off, none⟩) := hid (fun h => (Ha.out (by rw [HN.out]; exact h)).1)
  rw [HN.out] at hl ⊢
  obtain ⟨T, HT⟩ : ∃ T, Hid (layL xx false l = T) := ⟨_, hid rfl⟩
  have HT0 : Hid (T = [] ++ layL xx false (l.drop 0)) := hid (by rw [← HT.out]; rfl)
  rw [HT.out]
  have HXo := hid hx
  have HXl : Hid (xx.id.length = 16) := hid hx.2.1
  have HXL : Hid ((Tryz.prog.info? 85).map (·.size) = some xx.cells.length) := hid (by rw [Ky.cells_length hx.2.1]; exact Tryz.size85)
  have HA0 : Hid (∀ (q : Ky) u, q.id.length = 16 → Calls Tryz.prog 32 #[.agg xx.cells.toArray, .agg q.cells.toArray] u fun e w' => e = .returned (.bool (ahd2 xx q)) ∧ u.grownBy w' none) := hid (fun q u hq => ahead_any u _ _ hx.2.1 hq)
  obtain ⟨KX, HXe⟩ : ∃ x, Hid (xx.cells = x) := ⟨_, hid rfl⟩
  rw [HXe.out] at HXL HA0 ⊢
  clear hv hc ho Ha HT hx
  go_enter Tryz.func37, Tryz.ntmps37
  go_wp2_with ((with_reducible refine wpList_box_row (by with_unfolding_all rfl) 85 _ (by with_unfolding_all rfl) KX (by with_unfolding_all rfl) ?_); intro w1 B0 s0 g0; have HB0 := hid B0; have HG0 := hid g0; clear B0 g0 s0)
  obtain ⟨b3, hb3⟩ : ∃ z, w.heap.size = z := ⟨_, rfl⟩
  rw [hb3] at HB0 ⊢
  clear hb3
  have HBx : Hid (∀ u, w1.grownBy u none → u.rangeAt b3 0 KX) := hid (fun u hu => (HB0.out.keep hu).whole)
  clear HB0
  go_loopw [5, 6, 7] (fun sv dv iv wr => ∃ (y : Value) (i : Nat) (d : Bool) (acc : List Ky), y = sv ∧ dv = .bool d ∧ iv = .int .i64 i ∧ i ≤ n ∧ Hid (OutK w1.heap.size wr y acc) ∧ Hid (T = acc ++ layL xx d (l.drop i)) ∧ Hid (acc.length ≤ i + d.toNat) ∧ Hid (w1.grownBy wr none)) (fun _ _ iv _ => n - (intOf iv).toNat)
  case atStart => exact ⟨_, 0, false, [], rfl, rfl, rfl, Nat.zero_le _, hid (OutK.nil _ _), HT0, hid (Nat.le_refl _), hid (grefl _ _)⟩
  case round =>
    clear HT0
    obtain ⟨y, i, d, acc, rfl, rfl, rfl, hi, HS, HTi, HAl, HG⟩ := hrel
    obtain ⟨w0, hw0⟩ : ∃ x, x = wr := ⟨_, rfl⟩
    subst hw0
    by_cases hlt : i < n
    · have hil : i < l.length := by rw [HN.out]; exact hlt
      have hlt' : (i : Int) < (n : Int) := by omega
      obtain rfl : a = some ⟨b, off, none⟩ := HA.out (by omega)
      have hko := HO.out _ (List.getElem_mem hil)
      have HKr : Hid (∀ u, w1.grownBy u none → u.rangeAt b (off + i * 19) l[i].cells) := hid (fun u hu => (Hc.out u (gtrans HG0.out hu) i hil).1)
      have HKL : Hid ((Tryz.prog.info? 85).map (·.size) = some l[i].cells.length) := hid (by rw [Ky.cells_length hko.2.1]; exact Tryz.size85)
      have HAh := hid (fun u => HA0.out l[i] u hko.2.1)
      have HTt := hid HTi.out
      rw [layL_drop xx d l i hil] at HTt
      have HQo := hid hko
      have HQl : Hid (l[i].id.length = 16) := hid hko.2.1
      obtain ⟨q, hq⟩ : ∃ q, l[i] = q := ⟨_, rfl⟩
      rw [hq] at HKr HKL HAh HTt HQo HQl
      obtain ⟨A, hA⟩ : ∃ x, ahd2 xx q = x := ⟨_, rfl⟩
      rw [hA] at HAh HTt
      obtain ⟨K, HKe⟩ : ∃ x, Hid (q.cells = x) := ⟨_, hid rfl⟩
      rw [HKe.out] at HKr HKL HAh
      have HIn := hid hlt
      clear hko hq hA hil HTi HA0 hi hlt
      cases d with
      | true =>
        as_aux_lemma =>
        have HAl : Hid (acc.length ≤ i + 1) := hid HAl.out
        go_upto_region 6 with fail
        go_quiet (fail)
        generalize hud : w0.drewN _ = ud
        have HG8 : Hid (w1.grownBy ud none) := hid (by rw [← hud]; exact gtrans HG.out (gd1n _ _))
        have HS8 : Hid (OutK w1.heap.size ud y acc) := hid (by rw [← hud]; exact HS.out.keep (gd1n _ _))
        clear hud
        go_wp2_with (first
        | (have hb9 := HK9q.out; clear HK9q; at_builtin; refine wpList_append_keys rfl _ _ rfl w1.heap.size (fun _ => True) acc [q] (HS8.out.keep HG9q.out) (one_rd HQo.out hb9 _ trivial) (by have := HAl.out; have := HLn.out; have := HIn.out; simp only [List.length_cons, List.length_nil] at *; omega) (Nat.le_trans HG8.out.size HG9q.out.size) ?_; intro v10q w10q hO10 hg10; have HO10q := hid hO10; have HG10q : Hid (w1.grownBy w10q none) := hid ((gtrans HG8.out HG9q.out).andThen hg10 (fun j hj => .inl (HS8.out.block j hj))); clear hO10 hg10)
        | ((with_reducible refine wpList_slice1 (by with_unfolding_all rfl) _ (by with_unfolding_all rfl) q HQl.out (by rw [HKe.out]; with_unfolding_all rfl) ?_); intro w9q B9 s9 g9; have HK9q := hid B9; have HG9q := hid g9; clear B9 s9 g9)
        | (with_reducible refine wpList_load_part (by with_unfolding_all rfl) 85 _ (by with_unfolding_all rfl) b (off + i * 19) K _ (by with_unfolding_all rfl) (HKr.out _ HG8.out) Tryz.under48 (by with_unfolding_all rfl) HKL.out ?_))
        have HTn : Hid (T = (acc ++ [q]) ++ layL xx true (l.drop (i + 1))) := hid (by rw [HTt.out, List.append_assoc]; rfl)
        go_roundw
        case rel => exact ⟨_, i + 1, true, _, rfl, rfl, by go_num, by have := HIn.out; omega, HO10q, HTn, hid (by have := HAl.out; simp only [List.length_append, List.length_cons, List.length_nil, Bool.toNat_true]; omega), HG10q⟩
        case measure => have := HIn.out; simp [intOf]; omega
      | false =>
        have HAl : Hid (acc.length ≤ i) := hid HAl.out
        cases A with
        | true =>
          as_aux_lemma =>
          go_upto_region 6 with fail
          refine wp_region_listX (by kernel_rfl) [fun v _ => v = (Value.bool false), fun v _ => v = (Value.bool true), fun v _ => v = (Value.bool true), fun v _ => v = (Value.agg KX.toArray), fun v _ => v = (Value.slice (some ⟨b, off, none⟩) n c), fun v _ => v = (Value.int .i64 (i : Nat)), fun v _ => v = (Value.pointer (some ⟨b, off + i * 19, none⟩)), fun v _ => v = (Value.agg K.toArray), fun v _ => v = (Value.bool true), fun v _ => v = (Value.bool true)] (none) (fun _ => none) 10 (by kernel_rfl) (by kernel_rfl) (by kernel_rfl) (by kernel_rfl) (by decide) noRow_one (fun _ => .inl rfl) ⟨fun i v u u' hki h hg => h, fun i v u u' hki h hg => h, fun i v u u' hki h hg => h, fun i v u u' hki h hg => h, fun i v u u' hki h hg => h, fun i v u u' hki h hg => h, fun i v u u' hki h hg => h, fun i v u u' hki h hg => h, fun i v u u' hki h hg => h, fun i v u u' hki h hg => h, trivial⟩ ⟨?_, ?_, ?_, ?_, ?_, ?_, ?_, ?_, ?_, ?_, trivial⟩ ?_
          · intro A u hu hpu hsz hout hdeps
            have e6 : A.eval (.tmp 6) = (.bool false) := (hout 6 (by kernel_rfl)).trans rfl
            refine ifw_none rfl ?_
            with_reducible refine shown_q (Value.bool false) ?qq_1ltrue_0 (fun _ _ => ?qr_1ltrue_0)
            case qr_1ltrue_0 => exact (rfl : (Value.bool false) = (Value.bool false))
            with_reducible refine quietAt_mv (.tmp 6) (Value.bool false) ?h0_1ltrue_0 ?h1_1ltrue_0
            case h0_1ltrue_0 => rfl
            case h1_1ltrue_0 => exact e6
          · intro A u hu hpu hsz hout hdeps
            have e14 : A.eval (.tmp 14) = (.bool false) := by have h := depL hdeps 0 (by kernel_rfl) 14 (by kernel_rfl); exact h
            refine ifw_none rfl ?_
            with_reducible refine shown_q (Value.bool true) ?qq_1ltrue_1 (fun _ _ => ?qr_1ltrue_1)
            case qr_1ltrue_1 => exact (rfl : (Value.bool true) = (Value.bool true))
            with_reducible refine quietAt_un .not 4 (.tmp 14) (Value.bool false) (Value.bool true) ?h0_1ltrue_1 ?h1_1ltrue_1 ?h2_1ltrue_1
            case h0_1ltrue_1 => rfl
            case h1_1ltrue_1 => exact e14
            case h2_1ltrue_1 => rfl
          · intro A u hu hpu hsz hout hdeps
            have e15 : A.eval (.tmp 15) = (.bool true) := by have h := depL hdeps 1 (by kernel_rfl) 15 (by kernel_rfl); exact h
            refine ifw_none rfl ?_
            with_reducible refine shown_q (Value.bool true) ?qq_1ltrue_2 (fun _ _ => ?qr_1ltrue_2)
            case qr_1ltrue_2 => exact (rfl : (Value.bool true) = (Value.bool true))
            with_reducible refine quietAt_mv (.tmp 15) (Value.bool true) ?h0_1ltrue_2 ?h1_1ltrue_2
            case h0_1ltrue_2 => rfl
            case h1_1ltrue_2 => exact e15
          · intro A u hu hpu hsz hout hdeps
            have e16 : A.eval (.tmp 16) = (.bool true) := by have h := depL hdeps 2 (by kernel_rfl) 16 (by kernel_rfl); exact h
            have e3 : A.eval (.tmp 3) = (.pointer (some ⟨b3, 0, none⟩)) := (hout 3 (by kernel_rfl)).trans rfl
            refine ifw_want 2 true 16 rfl rfl e16 ?_
            with_reducible refine shown_q (Value.agg KX.toArray) ?qq_1ltrue_3 (fun _ _ => ?qr_1ltrue_3)
            case qr_1ltrue_3 => exact (rfl : (Value.agg KX.toArray) = (Value.agg KX.toArray))
            with_reducible refine quietAt_load 85 (.tmp 3) ?h0_1ltrue_3 b3 0 KX (.struct (Tryz.prog.fieldsOf 85)) ?h1_1ltrue_3 ?h2_1ltrue_3 ?h3_1ltrue_3 ?h4_1ltrue_3 ?h5_1ltrue_3
            case h0_1ltrue_3 => rfl
            case h1_1ltrue_3 => exact e3
            case h2_1ltrue_3 => exact (HBx.out u (gtrans HG.out hu))
            case h3_1ltrue_3 => exact Tryz.under48
            case h4_1ltrue_3 => rfl
            case h5_1ltrue_3 => exact HXL.out
          · intro A u hu hpu hsz hout hdeps
            have e16 : A.eval (.tmp 16) = (.bool true) := by have h := depL hdeps 2 (by kernel_rfl) 16 (by kernel_rfl); exact h
            have e0 : A.eval (.tmp 0) = (.slice (some ⟨b, off, none⟩) n c) := (hout 0 (by kernel_rfl)).trans rfl
            refine ifw_want 2 true 16 rfl rfl e16 ?_
            with_reducible refine shown_q (Value.slice (some ⟨b, off, none⟩) n c) ?qq_1ltrue_4 (fun _ _ => ?qr_1ltrue_4)
            case qr_1ltrue_4 => exact (rfl : (Value.slice (some ⟨b, off, none⟩) n c) = (Value.slice (some ⟨b, off, none⟩) n c))
            with_reducible refine quietAt_mv (.tmp 0) (Value.slice (some ⟨b, off, none⟩) n c) ?h0_1ltrue_4 ?h1_1ltrue_4
            case h0_1ltrue_4 => rfl
            case h1_1ltrue_4 => exact e0
          · intro A u hu hpu hsz hout hdeps
            have e16 : A.eval (.tmp 16) = (.bool true) := by have h := depL hdeps 2 (by kernel_rfl) 16 (by kernel_rfl); exact h
            have e7 : A.eval (.tmp 7) = (.int .i64 (i : Nat)) := (hout 7 (by kernel_rfl)).trans rfl
            refine ifw_want 2 true 16 rfl rfl e16 ?_
            with_reducible refine shown_q (Value.int .i64 (i : Nat)) ?qq_1ltrue_5 (fun _ _ => ?qr_1ltrue_5)
            case qr_1ltrue_5 => exact (rfl : (Value.int .i64 (i : Nat)) = (Value.int .i64 (i : Nat)))
            with_reducible refine quietAt_mv (.tmp 7) (Value.int .i64 (i : Nat)) ?h0_1ltrue_5 ?h1_1ltrue_5
            case h0_1ltrue_5 => rfl
            case h1_1ltrue_5 => exact e7
          · intro A u hu hpu hsz hout hdeps
            have e16 : A.eval (.tmp 16) = (.bool true) := by have h := depL hdeps 2 (by kernel_rfl) 16 (by kernel_rfl); exact h
            have e18 : A.eval (.tmp 18) = (.slice (some ⟨b, off, none⟩) n c) := by have h := depL hdeps 4 (by kernel_rfl) 18 (by kernel_rfl); exact h
            have e19 : A.eval (.tmp 19) = (.int .i64 (i : Nat)) := by have h := depL hdeps 5 (by kernel_rfl) 19 (by kernel_rfl); exact h
            refine ifw_want 2 true 16 rfl rfl e16 ?_
            with_reducible refine shown_q (Value.pointer (some ⟨b, off + i * 19, none⟩)) ?qq_1ltrue_6 (fun _ _ => ?qr_1ltrue_6)
            case qr_1ltrue_6 => exact (rfl : (Value.pointer (some ⟨b, off + i * 19, none⟩)) = (Value.pointer (some ⟨b, off + i * 19, none⟩)))
            with_reducible refine quietAt_idx 57 (.tmp 18) (.tmp 19) (Value.slice (some ⟨b, off, none⟩) n c) (Value.int .i64 (i : Nat)) (Value.pointer (some ⟨b, off + i * 19, none⟩)) ?h0_1ltrue_6 ?h1_1ltrue_6 ?h2_1ltrue_6 ?h3_1ltrue_6
            case h0_1ltrue_6 => rfl
            case h1_1ltrue_6 => exact e18
            case h2_1ltrue_6 => exact e19
            case h3_1ltrue_6 => exact (idx23 b off n c i HIn.out u)
          · intro A u hu hpu hsz hout hdeps
            have e16 : A.eval (.tmp 16) = (.bool true) := by have h := depL hdeps 2 (by kernel_rfl) 16 (by kernel_rfl); exact h
            have e20 : A.eval (.tmp 20) = (.pointer (some ⟨b, off + i * 19, none⟩)) := by have h := depL hdeps 6 (by kernel_rfl) 20 (by kernel_rfl); exact h
            refine ifw_want 2 true 16 rfl rfl e16 ?_
            with_reducible refine shown_q (Value.agg K.toArray) ?qq_1ltrue_7 (fun _ _ => ?qr_1ltrue_7)
            case qr_1ltrue_7 => exact (rfl : (Value.agg K.toArray) = (Value.agg K.toArray))
            with_reducible refine quietAt_load 85 (.tmp 20) ?h0_1ltrue_7 b (off + i * 19) K (.struct (Tryz.prog.fieldsOf 85)) ?h1_1ltrue_7 ?h2_1ltrue_7 ?h3_1ltrue_7 ?h4_1ltrue_7 ?h5_1ltrue_7
            case h0_1ltrue_7 => rfl
            case h1_1ltrue_7 => exact e20
            case h2_1ltrue_7 => exact (HKr.out u (gtrans HG.out hu))
            case h3_1ltrue_7 => exact Tryz.under48
            case h4_1ltrue_7 => rfl
            case h5_1ltrue_7 => exact HKL.out
          · intro A u hu hpu hsz hout hdeps
            have e16 : A.eval (.tmp 16) = (.bool true) := by have h := depL hdeps 2 (by kernel_rfl) 16 (by kernel_rfl); exact h
            have e17 : A.eval (.tmp 17) = (.agg KX.toArray) := by have h := depL hdeps 3 (by kernel_rfl) 17 (by kernel_rfl); exact h
            have e21 : A.eval (.tmp 21) = (.agg K.toArray) := by have h := depL hdeps 7 (by kernel_rfl) 21 (by kernel_rfl); exact h
            refine ifw_want 2 true 16 rfl rfl e16 ?_
            with_reducible refine shown_q (Value.bool true) ?qq_1ltrue_8 (fun _ _ => ?qr_1ltrue_8)
            case qr_1ltrue_8 => exact (rfl : (Value.bool true) = (Value.bool true))
            with_reducible refine quietAt_call 32 Tryz.f32 ?h0_1ltrue_8 ?h1_1ltrue_8 ?h2_1ltrue_8 #[.tmp 17, .tmp 21] #[85, 85] ?h3_1ltrue_8 (Value.bool true) #[(Value.agg KX.toArray), (Value.agg K.toArray)] ?h4_1ltrue_8 ?h5_1ltrue_8
            case h0_1ltrue_8 => exact Tryz.func32
            case h1_1ltrue_8 => kernel_rfl
            case h2_1ltrue_8 => kernel_rfl
            case h3_1ltrue_8 => rfl
            case h4_1ltrue_8 => exact map2 _ _ _ _ _ e17 e21
            case h5_1ltrue_8 => exact HAh.out u
          · intro A u hu hpu hsz hout hdeps
            have e16 : A.eval (.tmp 16) = (.bool true) := by have h := depL hdeps 2 (by kernel_rfl) 16 (by kernel_rfl); exact h
            have e22 : A.eval (.tmp 22) = (.bool true) := by have h := depL hdeps 8 (by kernel_rfl) 22 (by kernel_rfl); exact h
            refine ifw_none rfl ?_
            with_reducible refine shown_q (Value.bool true) ?qq_1ltrue_9 (fun _ _ => ?qr_1ltrue_9)
            case qr_1ltrue_9 => exact (rfl : (Value.bool true) = (Value.bool true))
            with_reducible refine quietAt_pick (.tmp 16) (.tmp 22) (.const (.bool false)) true (Value.bool true) ?h0_1ltrue_9 ?h1_1ltrue_9 ?h2_1ltrue_9
            case h0_1ltrue_9 => rfl
            case h1_1ltrue_9 => exact e16
            case h2_1ltrue_9 => rw [if_pos rfl]; exact e22
          · intro A u8 listed hh hall
            have hA := hh.frame
            have HU := hid hh.grown
            obtain ⟨x14, hx14⟩ : ∃ x, A.eval (.tmp 14) = x := ⟨_, rfl⟩
            have f14 : (fun v _ => v = (Value.bool false)) x14 u8 := by rw [← hx14]; exact hh.got 0 _ 14 rfl rfl (hall 0 (by decide))
            obtain ⟨x15, hx15⟩ : ∃ x, A.eval (.tmp 15) = x := ⟨_, rfl⟩
            have f15 : (fun v _ => v = (Value.bool true)) x15 u8 := by rw [← hx15]; exact hh.got 1 _ 15 rfl rfl (hall 1 (by decide))
            obtain ⟨x16, hx16⟩ : ∃ x, A.eval (.tmp 16) = x := ⟨_, rfl⟩
            have f16 : (fun v _ => v = (Value.bool true)) x16 u8 := by rw [← hx16]; exact hh.got 2 _ 16 rfl rfl (hall 2 (by decide))
            obtain ⟨x17, hx17⟩ : ∃ x, A.eval (.tmp 17) = x := ⟨_, rfl⟩
            have f17 : (fun v _ => v = (Value.agg KX.toArray)) x17 u8 := by rw [← hx17]; exact hh.got 3 _ 17 rfl rfl (hall 3 (by decide))
            obtain ⟨x18, hx18⟩ : ∃ x, A.eval (.tmp 18) = x := ⟨_, rfl⟩
            have f18 : (fun v _ => v = (Value.slice (some ⟨b, off, none⟩) n c)) x18 u8 := by rw [← hx18]; exact hh.got 4 _ 18 rfl rfl (hall 4 (by decide))
            obtain ⟨x19, hx19⟩ : ∃ x, A.eval (.tmp 19) = x := ⟨_, rfl⟩
            have f19 : (fun v _ => v = (Value.int .i64 (i : Nat))) x19 u8 := by rw [← hx19]; exact hh.got 5 _ 19 rfl rfl (hall 5 (by decide))
            obtain ⟨x20, hx20⟩ : ∃ x, A.eval (.tmp 20) = x := ⟨_, rfl⟩
            have f20 : (fun v _ => v = (Value.pointer (some ⟨b, off + i * 19, none⟩))) x20 u8 := by rw [← hx20]; exact hh.got 6 _ 20 rfl rfl (hall 6 (by decide))
            obtain ⟨x21, hx21⟩ : ∃ x, A.eval (.tmp 21) = x := ⟨_, rfl⟩
            have f21 : (fun v _ => v = (Value.agg K.toArray)) x21 u8 := by rw [← hx21]; exact hh.got 7 _ 21 rfl rfl (hall 7 (by decide))
            obtain ⟨x22, hx22⟩ : ∃ x, A.eval (.tmp 22) = x := ⟨_, rfl⟩
            have f22 : (fun v _ => v = (Value.bool true)) x22 u8 := by rw [← hx22]; exact hh.got 8 _ 22 rfl rfl (hall 8 (by decide))
            obtain ⟨x23, hx23⟩ : ∃ x, A.eval (.tmp 23) = x := ⟨_, rfl⟩
            have f23 : (fun v _ => v = (Value.bool true)) x23 u8 := by rw [← hx23]; exact hh.got 9 _ 23 rfl rfl (hall 9 (by decide))
            dsimp only [wrote, List.foldl] at hA
            rw [hx14, hx15, hx16, hx17, hx18, hx19, hx20, hx21, hx22, hx23] at hA
            clear hh hall hx14 hx15 hx16 hx17 hx18 hx19 hx20 hx21 hx22 hx23
            replace f14 := (f14 : x14 = (.bool false))
            subst f14
            replace f15 := (f15 : x15 = (.bool true))
            subst f15
            replace f16 := (f16 : x16 = (.bool true))
            subst f16
            replace f17 := (f17 : x17 = (.agg KX.toArray))
            subst f17
            replace f18 := (f18 : x18 = (.slice (some ⟨b, off, none⟩) n c))
            subst f18
            replace f19 := (f19 : x19 = (.int .i64 (i : Nat)))
            subst f19
            replace f20 := (f20 : x20 = (.pointer (some ⟨b, off + i * 19, none⟩)))
            subst f20
            replace f21 := (f21 : x21 = (.agg K.toArray))
            subst f21
            replace f22 := (f22 : x22 = (.bool true))
            subst f22
            replace f23 := (f23 : x23 = (.bool true))
            subst f23
            subst hA
            show wpList _ _ _ [] _ _
            unfold wpList
            simp only [Act.put, List.setIfInBounds_toArray, List.set_cons_succ, List.set_cons_zero]
            have HG8 := hid (gtrans HG.out HU.out)
            have HS8 := hid (HS.out.keep HU.out)
            clear HU
            go_upto_region 9 with (first
              | (have hb9 := HK9x.out; clear HK9x; at_builtin; refine wpList_append_keys rfl _ _ rfl w1.heap.size (fun _ => True) acc [xx] (HS8.out.keep HG9x.out) (one_rd HXo.out hb9 _ trivial) (by have := HAl.out; have := HLn.out; have := HIn.out; simp only [List.length_cons, List.length_nil] at *; omega) (Nat.le_trans HG8.out.size HG9x.out.size) ?_; intro v10x w10x hO10 hg10; have HO10x := hid hO10; have HG10x : Hid (w1.grownBy w10x none) := hid ((gtrans HG8.out HG9x.out).andThen hg10 (fun j hj => .inl (HS8.out.block j hj))); clear hO10 hg10)
              | ((with_reducible refine wpList_slice1 (by with_unfolding_all rfl) _ (by with_unfolding_all rfl) xx HXl.out (by rw [HXe.out]; with_unfolding_all rfl) ?_); intro w9x B9 s9 g9; have HK9x := hid B9; have HG9x := hid g9; clear B9 s9 g9)
              | (with_reducible refine wpList_load_part (by with_unfolding_all rfl) 85 _ (by with_unfolding_all rfl) b3 (0) KX _ (by with_unfolding_all rfl) (HBx.out _ HG8.out) Tryz.under48 (by with_unfolding_all rfl) HXL.out ?_))
            have HLx : Hid ((acc ++ [xx]).length ≤ i + 1 + 1) := hid (by have := HAl.out; simp only [List.length_append, List.length_cons, List.length_nil]; omega)
            go_wp2_with (first
              | (have hb9 := HK9q.out; clear HK9q; at_builtin; refine wpList_append_keys rfl _ _ rfl w1.heap.size (fun _ => True) (acc ++ [xx]) [q] (HO10x.out.keep HG9q.out) (one_rd HQo.out hb9 _ trivial) (by have := HLx.out; have := HLn.out; have := HIn.out; simp only [List.length_append, List.length_cons, List.length_nil] at *; omega) (Nat.le_trans HG10x.out.size HG9q.out.size) ?_; intro v10q w10q hO10 hg10; have HO10q := hid hO10; have HG10q : Hid (w1.grownBy w10q none) := hid ((gtrans HG10x.out HG9q.out).andThen hg10 (fun j hj => .inl (HO10x.out.block j hj))); clear hO10 hg10)
              | ((with_reducible refine wpList_slice1 (by with_unfolding_all rfl) _ (by with_unfolding_all rfl) q HQl.out (by rw [HKe.out]; with_unfolding_all rfl) ?_); intro w9q B9 s9 g9; have HK9q := hid B9; have HG9q := hid g9; clear B9 s9 g9)
              | (with_reducible refine wpList_load_part (by with_unfolding_all rfl) 85 _ (by with_unfolding_all rfl) b (off + i * 19) K _ (by with_unfolding_all rfl) (HKr.out _ HG10x.out) Tryz.under48 (by with_unfolding_all rfl) HKL.out ?_))
            have HTn : Hid (T = ((acc ++ [xx]) ++ [q]) ++ layL xx true (l.drop (i + 1))) := hid (by rw [HTt.out, List.append_assoc, List.append_assoc]; rfl)
            go_roundw
            case rel => exact ⟨_, i + 1, true, _, rfl, rfl, by go_num, by have := HIn.out; omega, HO10q, HTn, hid (by have := HAl.out; simp only [List.length_append, List.length_cons, List.length_nil, Bool.toNat_true]; omega), HG10q⟩
            case measure => have := HIn.out; simp [intOf]; omega
        | false =>
          as_aux_lemma =>
          go_upto_region 6 with fail
          refine wp_region_listX (by kernel_rfl) [fun v _ => v = (Value.bool false), fun v _ => v = (Value.bool true), fun v _ => v = (Value.bool true), fun v _ => v = (Value.agg KX.toArray), fun v _ => v = (Value.slice (some ⟨b, off, none⟩) n c), fun v _ => v = (Value.int .i64 (i : Nat)), fun v _ => v = (Value.pointer (some ⟨b, off + i * 19, none⟩)), fun v _ => v = (Value.agg K.toArray), fun v _ => v = (Value.bool false), fun v _ => v = (Value.bool false)] (none) (fun _ => none) 10 (by kernel_rfl) (by kernel_rfl) (by kernel_rfl) (by kernel_rfl) (by decide) noRow_one (fun _ => .inl rfl) ⟨fun i v u u' hki h hg => h, fun i v u u' hki h hg => h, fun i v u u' hki h hg => h, fun i v u u' hki h hg => h, fun i v u u' hki h hg => h, fun i v u u' hki h hg => h, fun i v u u' hki h hg => h, fun i v u u' hki h hg => h, fun i v u u' hki h hg => h, fun i v u u' hki h hg => h, trivial⟩ ⟨?_, ?_, ?_, ?_, ?_, ?_, ?_, ?_, ?_, ?_, trivial⟩ ?_
          · intro A u hu hpu hsz hout hdeps
            have e6 : A.eval (.tmp 6) = (.bool false) := (hout 6 (by kernel_rfl)).trans rfl
            refine ifw_none rfl ?_
            with_reducible refine shown_q (Value.bool false) ?qq_2lfalse_0 (fun _ _ => ?qr_2lfalse_0)
            case qr_2lfalse_0 => exact (rfl : (Value.bool false) = (Value.bool false))
            with_reducible refine quietAt_mv (.tmp 6) (Value.bool false) ?h0_2lfalse_0 ?h1_2lfalse_0
            case h0_2lfalse_0 => rfl
            case h1_2lfalse_0 => exact e6
          · intro A u hu hpu hsz hout hdeps
            have e14 : A.eval (.tmp 14) = (.bool false) := by have h := depL hdeps 0 (by kernel_rfl) 14 (by kernel_rfl); exact h
            refine ifw_none rfl ?_
            with_reducible refine shown_q (Value.bool true) ?qq_2lfalse_1 (fun _ _ => ?qr_2lfalse_1)
            case qr_2lfalse_1 => exact (rfl : (Value.bool true) = (Value.bool true))
            with_reducible refine quietAt_un .not 4 (.tmp 14) (Value.bool false) (Value.bool true) ?h0_2lfalse_1 ?h1_2lfalse_1 ?h2_2lfalse_1
            case h0_2lfalse_1 => rfl
            case h1_2lfalse_1 => exact e14
            case h2_2lfalse_1 => rfl
          · intro A u hu hpu hsz hout hdeps
            have e15 : A.eval (.tmp 15) = (.bool true) := by have h := depL hdeps 1 (by kernel_rfl) 15 (by kernel_rfl); exact h
            refine ifw_none rfl ?_
            with_reducible refine shown_q (Value.bool true) ?qq_2lfalse_2 (fun _ _ => ?qr_2lfalse_2)
            case qr_2lfalse_2 => exact (rfl : (Value.bool true) = (Value.bool true))
            with_reducible refine quietAt_mv (.tmp 15) (Value.bool true) ?h0_2lfalse_2 ?h1_2lfalse_2
            case h0_2lfalse_2 => rfl
            case h1_2lfalse_2 => exact e15
          · intro A u hu hpu hsz hout hdeps
            have e16 : A.eval (.tmp 16) = (.bool true) := by have h := depL hdeps 2 (by kernel_rfl) 16 (by kernel_rfl); exact h
            have e3 : A.eval (.tmp 3) = (.pointer (some ⟨b3, 0, none⟩)) := (hout 3 (by kernel_rfl)).trans rfl
            refine ifw_want 2 true 16 rfl rfl e16 ?_
            with_reducible refine shown_q (Value.agg KX.toArray) ?qq_2lfalse_3 (fun _ _ => ?qr_2lfalse_3)
            case qr_2lfalse_3 => exact (rfl : (Value.agg KX.toArray) = (Value.agg KX.toArray))
            with_reducible refine quietAt_load 85 (.tmp 3) ?h0_2lfalse_3 b3 0 KX (.struct (Tryz.prog.fieldsOf 85)) ?h1_2lfalse_3 ?h2_2lfalse_3 ?h3_2lfalse_3 ?h4_2lfalse_3 ?h5_2lfalse_3
            case h0_2lfalse_3 => rfl
            case h1_2lfalse_3 => exact e3
            case h2_2lfalse_3 => exact (HBx.out u (gtrans HG.out hu))
            case h3_2lfalse_3 => exact Tryz.under48
            case h4_2lfalse_3 => rfl
            case h5_2lfalse_3 => exact HXL.out
          · intro A u hu hpu hsz hout hdeps
            have e16 : A.eval (.tmp 16) = (.bool true) := by have h := depL hdeps 2 (by kernel_rfl) 16 (by kernel_rfl); exact h
            have e0 : A.eval (.tmp 0) = (.slice (some ⟨b, off, none⟩) n c) := (hout 0 (by kernel_rfl)).trans rfl
            refine ifw_want 2 true 16 rfl rfl e16 ?_
            with_reducible refine shown_q (Value.slice (some ⟨b, off, none⟩) n c) ?qq_2lfalse_4 (fun _ _ => ?qr_2lfalse_4)
            case qr_2lfalse_4 => exact (rfl : (Value.slice (some ⟨b, off, none⟩) n c) = (Value.slice (some ⟨b, off, none⟩) n c))
            with_reducible refine quietAt_mv (.tmp 0) (Value.slice (some ⟨b, off, none⟩) n c) ?h0_2lfalse_4 ?h1_2lfalse_4
            case h0_2lfalse_4 => rfl
            case h1_2lfalse_4 => exact e0
          · intro A u hu hpu hsz hout hdeps
            have e16 : A.eval (.tmp 16) = (.bool true) := by have h := depL hdeps 2 (by kernel_rfl) 16 (by kernel_rfl); exact h
            have e7 : A.eval (.tmp 7) = (.int .i64 (i : Nat)) := (hout 7 (by kernel_rfl)).trans rfl
            refine ifw_want 2 true 16 rfl rfl e16 ?_
            with_reducible refine shown_q (Value.int .i64 (i : Nat)) ?qq_2lfalse_5 (fun _ _ => ?qr_2lfalse_5)
            case qr_2lfalse_5 => exact (rfl : (Value.int .i64 (i : Nat)) = (Value.int .i64 (i : Nat)))
            with_reducible refine quietAt_mv (.tmp 7) (Value.int .i64 (i : Nat)) ?h0_2lfalse_5 ?h1_2lfalse_5
            case h0_2lfalse_5 => rfl
            case h1_2lfalse_5 => exact e7
          · intro A u hu hpu hsz hout hdeps
            have e16 : A.eval (.tmp 16) = (.bool true) := by have h := depL hdeps 2 (by kernel_rfl) 16 (by kernel_rfl); exact h
            have e18 : A.eval (.tmp 18) = (.slice (some ⟨b, off, none⟩) n c) := by have h := depL hdeps 4 (by kernel_rfl) 18 (by kernel_rfl); exact h
            have e19 : A.eval (.tmp 19) = (.int .i64 (i : Nat)) := by have h := depL hdeps 5 (by kernel_rfl) 19 (by kernel_rfl); exact h
            refine ifw_want 2 true 16 rfl rfl e16 ?_
            with_reducible refine shown_q (Value.pointer (some ⟨b, off + i * 19, none⟩)) ?qq_2lfalse_6 (fun _ _ => ?qr_2lfalse_6)
            case qr_2lfalse_6 => exact (rfl : (Value.pointer (some ⟨b, off + i * 19, none⟩)) = (Value.pointer (some ⟨b, off + i * 19, none⟩)))
            with_reducible refine quietAt_idx 57 (.tmp 18) (.tmp 19) (Value.slice (some ⟨b, off, none⟩) n c) (Value.int .i64 (i : Nat)) (Value.pointer (some ⟨b, off + i * 19, none⟩)) ?h0_2lfalse_6 ?h1_2lfalse_6 ?h2_2lfalse_6 ?h3_2lfalse_6
            case h0_2lfalse_6 => rfl
            case h1_2lfalse_6 => exact e18
            case h2_2lfalse_6 => exact e19
            case h3_2lfalse_6 => exact (idx23 b off n c i HIn.out u)
          · intro A u hu hpu hsz hout hdeps
            have e16 : A.eval (.tmp 16) = (.bool true) := by have h := depL hdeps 2 (by kernel_rfl) 16 (by kernel_rfl); exact h
            have e20 : A.eval (.tmp 20) = (.pointer (some ⟨b, off + i * 19, none⟩)) := by have h := depL hdeps 6 (by kernel_rfl) 20 (by kernel_rfl); exact h
            refine ifw_want 2 true 16 rfl rfl e16 ?_
            with_reducible refine shown_q (Value.agg K.toArray) ?qq_2lfalse_7 (fun _ _ => ?qr_2lfalse_7)
            case qr_2lfalse_7 => exact (rfl : (Value.agg K.toArray) = (Value.agg K.toArray))
            with_reducible refine quietAt_load 85 (.tmp 20) ?h0_2lfalse_7 b (off + i * 19) K (.struct (Tryz.prog.fieldsOf 85)) ?h1_2lfalse_7 ?h2_2lfalse_7 ?h3_2lfalse_7 ?h4_2lfalse_7 ?h5_2lfalse_7
            case h0_2lfalse_7 => rfl
            case h1_2lfalse_7 => exact e20
            case h2_2lfalse_7 => exact (HKr.out u (gtrans HG.out hu))
            case h3_2lfalse_7 => exact Tryz.under48
            case h4_2lfalse_7 => rfl
            case h5_2lfalse_7 => exact HKL.out
          · intro A u hu hpu hsz hout hdeps
            have e16 : A.eval (.tmp 16) = (.bool true) := by have h := depL hdeps 2 (by kernel_rfl) 16 (by kernel_rfl); exact h
            have e17 : A.eval (.tmp 17) = (.agg KX.toArray) := by have h := depL hdeps 3 (by kernel_rfl) 17 (by kernel_rfl); exact h
            have e21 : A.eval (.tmp 21) = (.agg K.toArray) := by have h := depL hdeps 7 (by kernel_rfl) 21 (by kernel_rfl); exact h
            refine ifw_want 2 true 16 rfl rfl e16 ?_
            with_reducible refine shown_q (Value.bool false) ?qq_2lfalse_8 (fun _ _ => ?qr_2lfalse_8)
            case qr_2lfalse_8 => exact (rfl : (Value.bool false) = (Value.bool false))
            with_reducible refine quietAt_call 32 Tryz.f32 ?h0_2lfalse_8 ?h1_2lfalse_8 ?h2_2lfalse_8 #[.tmp 17, .tmp 21] #[85, 85] ?h3_2lfalse_8 (Value.bool false) #[(Value.agg KX.toArray), (Value.agg K.toArray)] ?h4_2lfalse_8 ?h5_2lfalse_8
            case h0_2lfalse_8 => exact Tryz.func32
            case h1_2lfalse_8 => kernel_rfl
            case h2_2lfalse_8 => kernel_rfl
            case h3_2lfalse_8 => rfl
            case h4_2lfalse_8 => exact map2 _ _ _ _ _ e17 e21
            case h5_2lfalse_8 => exact HAh.out u
          · intro A u hu hpu hsz hout hdeps
            have e16 : A.eval (.tmp 16) = (.bool true) := by have h := depL hdeps 2 (by kernel_rfl) 16 (by kernel_rfl); exact h
            have e22 : A.eval (.tmp 22) = (.bool false) := by have h := depL hdeps 8 (by kernel_rfl) 22 (by kernel_rfl); exact h
            refine ifw_none rfl ?_
            with_reducible refine shown_q (Value.bool false) ?qq_2lfalse_9 (fun _ _ => ?qr_2lfalse_9)
            case qr_2lfalse_9 => exact (rfl : (Value.bool false) = (Value.bool false))
            with_reducible refine quietAt_pick (.tmp 16) (.tmp 22) (.const (.bool false)) true (Value.bool false) ?h0_2lfalse_9 ?h1_2lfalse_9 ?h2_2lfalse_9
            case h0_2lfalse_9 => rfl
            case h1_2lfalse_9 => exact e16
            case h2_2lfalse_9 => rw [if_pos rfl]; exact e22
          · intro A u8 listed hh hall
            have hA := hh.frame
            have HU := hid hh.grown
            obtain ⟨x14, hx14⟩ : ∃ x, A.eval (.tmp 14) = x := ⟨_, rfl⟩
            have f14 : (fun v _ => v = (Value.bool false)) x14 u8 := by rw [← hx14]; exact hh.got 0 _ 14 rfl rfl (hall 0 (by decide))
            obtain ⟨x15, hx15⟩ : ∃ x, A.eval (.tmp 15) = x := ⟨_, rfl⟩
            have f15 : (fun v _ => v = (Value.bool true)) x15 u8 := by rw [← hx15]; exact hh.got 1 _ 15 rfl rfl (hall 1 (by decide))
            obtain ⟨x16, hx16⟩ : ∃ x, A.eval (.tmp 16) = x := ⟨_, rfl⟩
            have f16 : (fun v _ => v = (Value.bool true)) x16 u8 := by rw [← hx16]; exact hh.got 2 _ 16 rfl rfl (hall 2 (by decide))
            obtain ⟨x17, hx17⟩ : ∃ x, A.eval (.tmp 17) = x := ⟨_, rfl⟩
            have f17 : (fun v _ => v = (Value.agg KX.toArray)) x17 u8 := by rw [← hx17]; exact hh.got 3 _ 17 rfl rfl (hall 3 (by decide))
            obtain ⟨x18, hx18⟩ : ∃ x, A.eval (.tmp 18) = x := ⟨_, rfl⟩
            have f18 : (fun v _ => v = (Value.slice (some ⟨b, off, none⟩) n c)) x18 u8 := by rw [← hx18]; exact hh.got 4 _ 18 rfl rfl (hall 4 (by decide))
            obtain ⟨x19, hx19⟩ : ∃ x, A.eval (.tmp 19) = x := ⟨_, rfl⟩
            have f19 : (fun v _ => v = (Value.int .i64 (i : Nat))) x19 u8 := by rw [← hx19]; exact hh.got 5 _ 19 rfl rfl (hall 5 (by decide))
            obtain ⟨x20, hx20⟩ : ∃ x, A.eval (.tmp 20) = x := ⟨_, rfl⟩
            have f20 : (fun v _ => v = (Value.pointer (some ⟨b, off + i * 19, none⟩))) x20 u8 := by rw [← hx20]; exact hh.got 6 _ 20 rfl rfl (hall 6 (by decide))
            obtain ⟨x21, hx21⟩ : ∃ x, A.eval (.tmp 21) = x := ⟨_, rfl⟩
            have f21 : (fun v _ => v = (Value.agg K.toArray)) x21 u8 := by rw [← hx21]; exact hh.got 7 _ 21 rfl rfl (hall 7 (by decide))
            obtain ⟨x22, hx22⟩ : ∃ x, A.eval (.tmp 22) = x := ⟨_, rfl⟩
            have f22 : (fun v _ => v = (Value.bool false)) x22 u8 := by rw [← hx22]; exact hh.got 8 _ 22 rfl rfl (hall 8 (by decide))
            obtain ⟨x23, hx23⟩ : ∃ x, A.eval (.tmp 23) = x := ⟨_, rfl⟩
            have f23 : (fun v _ => v = (Value.bool false)) x23 u8 := by rw [← hx23]; exact hh.got 9 _ 23 rfl rfl (hall 9 (by decide))
            dsimp only [wrote, List.foldl] at hA
            rw [hx14, hx15, hx16, hx17, hx18, hx19, hx20, hx21, hx22, hx23] at hA
            clear hh hall hx14 hx15 hx16 hx17 hx18 hx19 hx20 hx21 hx22 hx23
            replace f14 := (f14 : x14 = (.bool false))
            subst f14
            replace f15 := (f15 : x15 = (.bool true))
            subst f15
            replace f16 := (f16 : x16 = (.bool true))
            subst f16
            replace f17 := (f17 : x17 = (.agg KX.toArray))
            subst f17
            replace f18 := (f18 : x18 = (.slice (some ⟨b, off, none⟩) n c))
            subst f18
            replace f19 := (f19 : x19 = (.int .i64 (i : Nat)))
            subst f19
            replace f20 := (f20 : x20 = (.pointer (some ⟨b, off + i * 19, none⟩)))
            subst f20
            replace f21 := (f21 : x21 = (.agg K.toArray))
            subst f21
            replace f22 := (f22 : x22 = (.bool false))
            subst f22
            replace f23 := (f23 : x23 = (.bool false))
            subst f23
            subst hA
            show wpList _ _ _ [] _ _
            unfold wpList
            simp only [Act.put, List.setIfInBounds_toArray, List.set_cons_succ, List.set_cons_zero]
            have HG8 := hid (gtrans HG.out HU.out)
            have HS8 := hid (HS.out.keep HU.out)
            clear HU
            go_wp2_with (first
              | (have hb9 := HK9q.out; clear HK9q; at_builtin; refine wpList_append_keys rfl _ _ rfl w1.heap.size (fun _ => True) acc [q] (HS8.out.keep HG9q.out) (one_rd HQo.out hb9 _ trivial) (by have := HAl.out; have := HLn.out; have := HIn.out; simp only [List.length_cons, List.length_nil] at *; omega) (Nat.le_trans HG8.out.size HG9q.out.size) ?_; intro v10q w10q hO10 hg10; have HO10q := hid hO10; have HG10q : Hid (w1.grownBy w10q none) := hid ((gtrans HG8.out HG9q.out).andThen hg10 (fun j hj => .inl (HS8.out.block j hj))); clear hO10 hg10)
              | ((with_reducible refine wpList_slice1 (by with_unfolding_all rfl) _ (by with_unfolding_all rfl) q HQl.out (by rw [HKe.out]; with_unfolding_all rfl) ?_); intro w9q B9 s9 g9; have HK9q := hid B9; have HG9q := hid g9; clear B9 s9 g9)
              | (with_reducible refine wpList_load_part (by with_unfolding_all rfl) 85 _ (by with_unfolding_all rfl) b (off + i * 19) K _ (by with_unfolding_all rfl) (HKr.out _ HG8.out) Tryz.under48 (by with_unfolding_all rfl) HKL.out ?_))
            have HTn : Hid (T = (acc ++ [q]) ++ layL xx false (l.drop (i + 1))) := hid (by rw [HTt.out, List.append_assoc]; rfl)
            go_roundw
            case rel => exact ⟨_, i + 1, false, _, rfl, rfl, by go_num, by have := HIn.out; omega, HO10q, HTn, hid (by have := HAl.out; simp only [List.length_append, List.length_cons, List.length_nil, Bool.toNat_false]; omega), HG10q⟩
            case measure => have := HIn.out; simp [intOf]; omega
    · have hlt' : ¬ (i : Int) < (n : Int) := by omega
      have HTe := hid HTi.out
      rw [layL_end xx d l i (by rw [HN.out]; omega)] at HTe
      have HIe : Hid (i ≤ n) := hid hi
      cases d with
      | true =>
        have HF : Hid (OutK w1.heap.size w0 y T) := hid (by rw [HTe.out, if_pos rfl, List.append_nil]; exact HS.out)
        go_wp2_with fail
        go_ret
        exact ⟨_, rfl, HF.out.below HG0.out.size, gtrans HG0.out HG.out⟩
      | false =>
        have HAl : Hid (acc.length ≤ i) := hid HAl.out
        have HTf : Hid (T = acc ++ [xx]) := hid (by rw [HTe.out, if_neg (by decide)])
        have HIn := HIe
        go_wp2_with (first
        | (have hb9 := HK9x.out; clear HK9x; at_builtin; refine wpList_append_keys rfl _ _ rfl w1.heap.size (fun _ => True) acc [xx] (HS.out.keep HG9x.out) (one_rd HXo.out hb9 _ trivial) (by have := HAl.out; have := HLn.out; have := HIn.out; simp only [List.length_cons, List.length_nil] at *; omega) (Nat.le_trans HG.out.size HG9x.out.size) ?_; intro v10x w10x hO10 hg10; have HO10x := hid hO10; have HG10x : Hid (w1.grownBy w10x none) := hid ((gtrans HG.out HG9x.out).andThen hg10 (fun j hj => .inl (HS.out.block j hj))); clear hO10 hg10)
        | ((with_reducible refine wpList_slice1 (by with_unfolding_all rfl) _ (by with_unfolding_all rfl) xx HXl.out (by rw [HXe.out]; with_unfolding_all rfl) ?_); intro w9x B9 s9 g9; have HK9x := hid B9; have HG9x := hid g9; clear B9 s9 g9)
        | (with_reducible refine wpList_load_part (by with_unfolding_all rfl) 85 _ (by with_unfolding_all rfl) b3 (0) KX _ (by with_unfolding_all rfl) (HBx.out _ HG.out) Tryz.under48 (by with_unfolding_all rfl) HXL.out ?_))
        have HF : Hid (OutK w1.heap.size w10x v10x T) := hid (by rw [HTf.out]; exact HO10x.out)
        go_ret
        exact ⟨_, rfl, HF.out.below HG0.out.size, gtrans HG0.out HG10x.out⟩
end Go.Proofs.YtlgjmhemgfjgnaaGreat
