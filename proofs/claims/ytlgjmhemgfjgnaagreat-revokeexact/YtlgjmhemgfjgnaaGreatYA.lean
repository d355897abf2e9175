/- Keys that are lent, and come back. -/
import Derived.Test.YtlgjmhemgfjgnaaGreatXG
import Derived.OwnWalk
namespace Go.Proofs.YtlgjmhemgfjgnaaGreat
open Go Go.RowKit
open Go.RowKit (wrap32 wrap64)

theorem OutK.blkB {C g : Nat} {w : World} {v : Value} {l : List Ky} (h : OutK C w v l) (hv : v.ownBlock = some g) : ∃ cs, Blk w g cs 85 ∧ C ≤ g := by
  rcases h.2.2 with ⟨rfl, _⟩ | ⟨g', cap, cur, rfl, hb, hg, _⟩
  · simp [Value.ownBlock] at hv
  · have : g' = g := by simpa [Value.ownBlock] using hv
    subst this
    exact ⟨cur.toList, by unfold Blk; simpa using hg, hb⟩
theorem OutK.slice {B : Nat} {w : World} {v : Value} {l : List Ky} (h : OutK B w v l) : ∃ a c, v = .slice a l.length c := by
  rcases h.2.2 with ⟨rfl, h0⟩ | ⟨g, cap, cur, e, _⟩
  · exact ⟨none, 0, by rw [h0]⟩
  · exact ⟨_, _, e⟩
theorem len_snoc {α : Type} (l : List α) (x : α) : (l ++ [x]).length = l.length + 1 := by simp
theorem OutK.formK {C : Nat} {w : World} {v : Value} {l : List Ky} (h : OutK C w v l) (hl : 0 < l.length) : ∃ g c, v = .slice (some ⟨g, 0, none⟩) l.length c ∧ C ≤ g ∧ g < w.heap.size := by
  rcases h.2.2 with ⟨_, h0⟩ | ⟨g, cap, cur, e, hb, hg, _⟩
  · omega
  · exact ⟨g, cap, e, hb, (Array.getElem?_eq_some_iff.1 hg).1⟩
/-- The mark. -/
def mkK : Ky := ⟨false, 777, z16, -777⟩
theorem mkK_ok : mkK.ok := by unfold Ky.ok mkK z16; simp
theorem mkK_len : mkK.id.length = 16 := mkK_ok.2.1
theorem built_mk : Tryz.prog.built 85 [(1, .int .u64 777), (3, .int .i64 (-777))] = some mkK.cells.toArray := by kernel_rfl
theorem idx57y (b n c i : Nat) (h : i < n) (u : World) : (Instr.indexAt 57 (.slice (some ⟨b, 0, none⟩) n c) (.int .i64 (i : Nat))).run Tryz.prog u = .ok (.pointer (some ⟨b, i * 19, none⟩)) u := by
  have := idx23 b 0 n c i h u
  rw [Nat.zero_add] at this
  exact this
/-- Keys that were lent: marks lie behind them. -/
def LentK (C : Nat) (w : World) (g c : Nat) (l : List Ky) : Prop := OutK C w (.slice (some ⟨g, 0, none⟩) (l.length + 9) c) (l ++ List.replicate 9 mkK) ∧ l.length + 9 ≤ c
theorem LentK.keep {C g c : Nat} {w w' : World} {l : List Ky} (h : LentK C w g c l) (hg : w.grownBy w' none) : LentK C w' g c l := ⟨h.1.keep hg, h.2⟩
theorem OutK.at_ {C g n c : Nat} {w : World} {l : List Ky} (h : OutK C w (.slice (some ⟨g, 0, none⟩) n c) l) (i : Nat) (hi : i < l.length) : w.rangeAt g (i * 19) (l[i]).cells := by
  intro j v hj
  have hlen : (l[i]).cells.length = 19 := Ky.cells_length (h.1 _ (List.getElem_mem hi)).2.1
  have hj' : j < 19 := by have := (List.getElem?_eq_some_iff.1 hj).1; omega
  have h1 := h.2.cells (g := g) rfl (i * 19 + j) v (by rw [kcs_get l h.1.len i l[i] (List.getElem?_eq_getElem hi) j hj']; exact hj)
  rw [Addr.add_lit, Nat.zero_add] at h1
  exact h1
theorem LentK.lt {C g c : Nat} {w : World} {l : List Ky} (h : LentK C w g c l) : C ≤ g ∧ g < w.heap.size := by
  obtain ⟨cs, hb, hC⟩ := h.1.blkB (g := g) rfl
  exact ⟨hC, hb.lt⟩
theorem LentK.rd {C g c : Nat} {w : World} {l : List Ky} (h : LentK C w g c l) : RdK w (fun k => C ≤ k) (.slice (some ⟨g, 0, none⟩) l.length c) l := by
  refine ⟨fun k hk => h.1.1 k (List.mem_append_left _ hk), some ⟨g, 0, none⟩, g, 0, c, rfl, by have := h.2; omega, (fun h => by cases h), fun _ => ⟨rfl, h.lt.2, h.lt.1⟩, fun i hi => ?_⟩
  have h1 := h.1.at_ i (by rw [List.length_append]; omega)
  rw [Nat.zero_add]
  rw [List.getElem_append_left hi] at h1
  exact h1
theorem LentK.mark {C g c : Nat} {w : World} {l : List Ky} (h : LentK C w g c l) (j : Nat) (h1 : l.length ≤ j) (h2 : j < l.length + 9) : w.rangeAt g (j * 19) mkK.cells := by
  have h3 := h.1.at_ j (by rw [List.length_append, List.length_replicate]; exact h2)
  rw [List.getElem_append_right h1, List.getElem_replicate] at h3
  exact h3
set_option maxRecDepth 100000 in
set_option maxHeartbeats 1600000 in
theorem lendK_any (w : World) (v : Value) (F : Nat → Prop) (l : List Ky) (hv : RdK w F v l) (hl : l.length ≤ 1000000) :
    Calls Tryz.prog 7 #[v] w fun e w' => ∃ g c, e = .returned (.slice (some ⟨g, 0, none⟩) l.length c) ∧ LentK w.heap.size w' g c l ∧ w.grownBy w' none := by
  obtain ⟨inf, hi, hz0, hz1, hz2⟩ := info_parts Tryz.info85
  have HV := hid hv
  obtain ⟨ho, a, b, off, c, rfl, hc, Ha, Hc⟩ := hv.open
  obtain ⟨n, HN⟩ : ∃ n, Hid (l.length = n) := ⟨_, hid rfl⟩
  rw [HN.out] at hl HV ⊢
  clear hv hc ho Ha Hc
  go_enter Tryz.func7, Tryz.ntmps7
  go_wp2_with (at_make; refine wpList_make_own _ rfl _ _ 57 rfl w.heap.size 85 inf (.agg zky.cells.toArray) 19 Tryz.underlying57 hi hz0 hz1 _ _ _ (n + 9) rfl rfl (by omega) (by rw [hz2]; omega) (by unfold maxLen; omega) (Nat.le_refl _) ?_)
  intro w1 hown1 hg1
  have HG1 := hid hg1
  have HO1 : Hid (OutK w.heap.size w1 _ []) := hid ⟨fun k hk => by simp at hk, hown1⟩
  have HR1 := hid (HV.out.keep hg1)
  clear hg1 hown1 HV
  go_wp2_with (at_builtin; refine wpList_append_keys rfl _ _ rfl w.heap.size F [] l HO1.out HR1.out (by show 0 + l.length ≤ _; rw [HN.out]; omega) HG1.out.size ?_; intro v2 w2 hO2 hg2)
  have HO : Hid (OutK w.heap.size w2 v2 (l ++ List.replicate 0 mkK)) := hid (by simpa using hO2)
  have HG : Hid (w.grownBy w2 none) := hid (HG1.out.andThen hg2 (fun j hj => .inl (HO1.out.block j hj)))
  clear hO2 hg2 HR1 HG1 HO1
  go_wp2_with fail
  go_loopw [3, 4] (fun tv iv wr => ∃ i : Nat, iv = .int .i64 i ∧ i ≤ 9 ∧ Hid (OutK w.heap.size wr tv (l ++ List.replicate i mkK)) ∧ Hid (w.grownBy wr none)) (fun _ iv _ => 9 - (intOf iv).toNat)
  case atStart => exact ⟨0, rfl, by omega, HO, HG⟩
  case round =>
    clear HO HG
    obtain ⟨i, rfl, hi9, HO, HG⟩ := hrel
    by_cases hlt : i < 9
    · have hlt' : (i : Int) < 9 := by omega
      go_wp2_with (first
        | (with_reducible refine wpList_build_ofW (by with_unfolding_all rfl) 85 _ (by with_unfolding_all rfl) [(1, .int .u64 777), (3, .int .i64 (-777))] (by with_unfolding_all rfl) mkK.cells built_mk ?_)
        | ((with_reducible refine wpList_slice1 (by with_unfolding_all rfl) _ (by with_unfolding_all rfl) mkK mkK_len (by with_unfolding_all rfl) ?_); intro w3 B3 s3 g3; have HB3 := hid B3; have HO3 := hid (HO.out.keep g3); have HG3 := hid (gtrans HG.out g3); clear B3 s3 g3)
        | (at_builtin; refine wpList_append_keys rfl _ _ rfl w.heap.size (fun _ => True) (l ++ List.replicate i mkK) [mkK] HO3.out (one_rd mkK_ok HB3.out _ trivial) (by rw [List.length_append, List.length_replicate, HN.out]; show n + i + 1 ≤ _; omega) HG3.out.size ?_; intro v4 w4 hO4 hg4; have HO4 := hid hO4; have HG4 := hid (HG3.out.andThen hg4 (fun j hj => .inl (HO3.out.block j hj))); clear hO4 hg4))
      go_roundw
      case rel => exact ⟨i + 1, by go_num, by omega, hid (by have h := HO4.out; rw [List.append_assoc, ← List.replicate_succ'] at h; exact h), HG4⟩
      case measure => simp [intOf]; omega
    · obtain rfl : i = 9 := by omega
      have hlt' : ¬ (9 : Int) < 9 := by omega
      obtain ⟨tv, htv⟩ : ∃ x, u3 = x := ⟨_, rfl⟩
      rw [htv] at HO ⊢
      clear htv
      obtain ⟨g, cg, hve, hgC, hgl⟩ := HO.out.formK (by rw [List.length_append, List.length_replicate]; omega)
      have hcap : n + 9 ≤ cg := by
        rcases HO.out.2.2 with ⟨e, h0⟩ | ⟨g', cap, cur, e, _, _, h2, _⟩
        · rw [List.length_append, List.length_replicate] at h0; omega
        · rw [hve] at e
          injection e with e1 e2 e3
          rw [List.length_append, List.length_replicate, HN.out] at h2
          omega
      rw [List.length_append, List.length_replicate, HN.out] at hve
      have HVE := hid hve
      rw [HVE.out] at HO ⊢
      clear hve hgC hgl
      go_wp2_with fail
      go_ret
      exact ⟨g, cg, rfl, ⟨by rw [HN.out]; exact HO.out, by rw [HN.out]; exact hcap⟩, HG.out⟩
set_option maxRecDepth 100000 in
set_option maxHeartbeats 1600000 in
theorem backK_any (w : World) (v : Value) (F : Nat → Prop) (C g c : Nat) (l : List Ky) (hx : LentK C w g c l) (hv : RdK w F v l) (hl : l.length ≤ 1000000) :
    Calls Tryz.prog 10 #[.slice (some ⟨g, 0, none⟩) l.length c, v] w fun e w' => e = .returned (.bool true) ∧ w.grownBy w' none := by
  have HLt := hid hx
  obtain ⟨ho, a, b, off, cv, rfl, hc, Ha, Hc⟩ := hv.open
  obtain ⟨n, HN⟩ : ∃ n, Hid (l.length = n) := ⟨_, hid rfl⟩
  have HOk := hid ho
  have hcap := hx.2
  rw [HN.out] at hl hcap ⊢
  clear hv hc ho hx
  go_enter Tryz.func10, Tryz.ntmps10
  go_wp2_with fail
  go_loopw [5] (fun iv wr => ∃ i : Nat, iv = .int .i64 i ∧ i ≤ n ∧ Hid (w.grownBy wr none)) (fun iv _ => n - (intOf iv).toNat)
  case atStart => exact ⟨0, rfl, Nat.zero_le _, hid (grefl _ _)⟩
  case round =>
    obtain ⟨i, rfl, hi, HG⟩ := hrel
    by_cases hlt : i < n
    · as_aux_lemma =>
      have hlt' : (i : Int) < (n : Int) := by omega
      have hil : i < l.length := by rw [HN.out]; exact hlt
      obtain ⟨rfl, -⟩ := Ha.out (by omega)
      have hok := HOk.out _ (List.getElem_mem hil)
      have HX := hid (fun u (hu : w.grownBy u none) => by
        have h1 := (HLt.out.keep hu).1.at_ i (by rw [List.length_append]; omega)
        rw [List.getElem_append_left hil] at h1
        exact h1)
      have HL := hid (fun u (hu : w.grownBy u none) => (Hc.out u hu i hil).1)
      obtain ⟨q, hq⟩ : ∃ q, l[i] = q := ⟨_, rfl⟩
      rw [hq] at hok HX HL
      have HQl : Hid (q.cells.length = 19) := hid (Ky.cells_length hok.2.1)
      have HNe : Hid (∀ (x y : Operand) (u : World), (do eqGuard .neq 85 x y (.agg q.cells.toArray) (.agg q.cells.toArray); binOp .neq 85 (.agg q.cells.toArray) (.agg q.cells.toArray) : Sem Value).run Tryz.prog u = .ok (.bool false) u) := fun x y u => by
        have := neq_key (k := q) (q := q) hok.2.1 hok.2.1 (x := x) (y := y) u
        rw [beq_self_eq_true] at this
        exact this
      clear hok hq hil Ha Hc
      go_upto_region 6 with fail
      refine wp_region_listX (by kernel_rfl) [fun v _ => v = (Value.slice (some ⟨g, 0, none⟩) n c), fun v _ => v = (Value.int .i64 (i : Nat)), fun v _ => v = (Value.pointer (some ⟨g, i * 19, none⟩)), fun v _ => v = (Value.agg q.cells.toArray), fun v _ => v = (Value.slice (some ⟨b, off, none⟩) n cv), fun v _ => v = (Value.int .i64 (i : Nat)), fun v _ => v = (Value.pointer (some ⟨b, off + i * 19, none⟩)), fun v _ => v = (Value.agg q.cells.toArray), fun v _ => v = (Value.bool false)] (none) (fun _ => none) 9 (by kernel_rfl) (by kernel_rfl) (by kernel_rfl) (by kernel_rfl) (by decide) noRow_one (fun _ => .inl rfl) ⟨fun i v u u' hki h hg => h, fun i v u u' hki h hg => h, fun i v u u' hki h hg => h, fun i v u u' hki h hg => h, fun i v u u' hki h hg => h, fun i v u u' hki h hg => h, fun i v u u' hki h hg => h, fun i v u u' hki h hg => h, fun i v u u' hki h hg => h, trivial⟩ ⟨?_, ?_, ?_, ?_, ?_, ?_, ?_, ?_, ?_, trivial⟩ ?_
      · intro A u hu hpu hsz hout hdeps
        have e0 : A.eval (.tmp 0) = (.slice (some ⟨g, 0, none⟩) n c) := (hout 0 (by kernel_rfl)).trans rfl
        refine ifw_none rfl ?_
        with_reducible refine shown_q (Value.slice (some ⟨g, 0, none⟩) n c) ?qq_5z1_0 (fun _ _ => ?qr_5z1_0)
        case qr_5z1_0 => exact (rfl : (Value.slice (some ⟨g, 0, none⟩) n c) = (Value.slice (some ⟨g, 0, none⟩) n c))
        with_reducible refine quietAt_mv (.tmp 0) (Value.slice (some ⟨g, 0, none⟩) n c) ?h0_5z1_0 ?h1_5z1_0
        case h0_5z1_0 => rfl
        case h1_5z1_0 => exact e0
      · intro A u hu hpu hsz hout hdeps
        have e5 : A.eval (.tmp 5) = (.int .i64 (i : Nat)) := (hout 5 (by kernel_rfl)).trans rfl
        refine ifw_none rfl ?_
        with_reducible refine shown_q (Value.int .i64 (i : Nat)) ?qq_5z1_1 (fun _ _ => ?qr_5z1_1)
        case qr_5z1_1 => exact (rfl : (Value.int .i64 (i : Nat)) = (Value.int .i64 (i : Nat)))
        with_reducible refine quietAt_mv (.tmp 5) (Value.int .i64 (i : Nat)) ?h0_5z1_1 ?h1_5z1_1
        case h0_5z1_1 => rfl
        case h1_5z1_1 => exact e5
      · intro A u hu hpu hsz hout hdeps
        have e19 : A.eval (.tmp 19) = (.slice (some ⟨g, 0, none⟩) n c) := by have h := depL hdeps 0 (by kernel_rfl) 19 (by kernel_rfl); exact h
        have e20 : A.eval (.tmp 20) = (.int .i64 (i : Nat)) := by have h := depL hdeps 1 (by kernel_rfl) 20 (by kernel_rfl); exact h
        refine ifw_none rfl ?_
        with_reducible refine shown_q (Value.pointer (some ⟨g, i * 19, none⟩)) ?qq_5z1_2 (fun _ _ => ?qr_5z1_2)
        case qr_5z1_2 => exact (rfl : (Value.pointer (some ⟨g, i * 19, none⟩)) = (Value.pointer (some ⟨g, i * 19, none⟩)))
        with_reducible refine quietAt_idx 57 (.tmp 19) (.tmp 20) (Value.slice (some ⟨g, 0, none⟩) n c) (Value.int .i64 (i : Nat)) (Value.pointer (some ⟨g, i * 19, none⟩)) ?h0_5z1_2 ?h1_5z1_2 ?h2_5z1_2 ?h3_5z1_2
        case h0_5z1_2 => rfl
        case h1_5z1_2 => exact e19
        case h2_5z1_2 => exact e20
        case h3_5z1_2 => exact idx57y g n c i hlt u
      · intro A u hu hpu hsz hout hdeps
        have e21 : A.eval (.tmp 21) = (.pointer (some ⟨g, i * 19, none⟩)) := by have h := depL hdeps 2 (by kernel_rfl) 21 (by kernel_rfl); exact h
        refine ifw_none rfl ?_
        with_reducible refine shown_q (Value.agg q.cells.toArray) ?qq_5z1_3 (fun _ _ => ?qr_5z1_3)
        case qr_5z1_3 => exact (rfl : (Value.agg q.cells.toArray) = (Value.agg q.cells.toArray))
        with_reducible refine quietAt_load 85 (.tmp 21) ?h0_5z1_3 g (i * 19) q.cells (.struct (Tryz.prog.fieldsOf 85)) ?h1_5z1_3 ?h2_5z1_3 ?h3_5z1_3 ?h4_5z1_3 ?h5_5z1_3
        case h0_5z1_3 => rfl
        case h1_5z1_3 => exact e21
        case h2_5z1_3 => exact (HX.out u (gtrans HG.out hu))
        case h3_5z1_3 => exact Tryz.under48
        case h4_5z1_3 => rfl
        case h5_5z1_3 => exact (by rw [HQl.out]; exact Tryz.size85)
      · intro A u hu hpu hsz hout hdeps
        have e1 : A.eval (.tmp 1) = (.slice (some ⟨b, off, none⟩) n cv) := (hout 1 (by kernel_rfl)).trans rfl
        refine ifw_none rfl ?_
        with_reducible refine shown_q (Value.slice (some ⟨b, off, none⟩) n cv) ?qq_5z1_4 (fun _ _ => ?qr_5z1_4)
        case qr_5z1_4 => exact (rfl : (Value.slice (some ⟨b, off, none⟩) n cv) = (Value.slice (some ⟨b, off, none⟩) n cv))
        with_reducible refine quietAt_mv (.tmp 1) (Value.slice (some ⟨b, off, none⟩) n cv) ?h0_5z1_4 ?h1_5z1_4
        case h0_5z1_4 => rfl
        case h1_5z1_4 => exact e1
      · intro A u hu hpu hsz hout hdeps
        have e5 : A.eval (.tmp 5) = (.int .i64 (i : Nat)) := (hout 5 (by kernel_rfl)).trans rfl
        refine ifw_none rfl ?_
        with_reducible refine shown_q (Value.int .i64 (i : Nat)) ?qq_5z1_5 (fun _ _ => ?qr_5z1_5)
        case qr_5z1_5 => exact (rfl : (Value.int .i64 (i : Nat)) = (Value.int .i64 (i : Nat)))
        with_reducible refine quietAt_mv (.tmp 5) (Value.int .i64 (i : Nat)) ?h0_5z1_5 ?h1_5z1_5
        case h0_5z1_5 => rfl
        case h1_5z1_5 => exact e5
      · intro A u hu hpu hsz hout hdeps
        have e23 : A.eval (.tmp 23) = (.slice (some ⟨b, off, none⟩) n cv) := by have h := depL hdeps 4 (by kernel_rfl) 23 (by kernel_rfl); exact h
        have e24 : A.eval (.tmp 24) = (.int .i64 (i : Nat)) := by have h := depL hdeps 5 (by kernel_rfl) 24 (by kernel_rfl); exact h
        refine ifw_none rfl ?_
        with_reducible refine shown_q (Value.pointer (some ⟨b, off + i * 19, none⟩)) ?qq_5z1_6 (fun _ _ => ?qr_5z1_6)
        case qr_5z1_6 => exact (rfl : (Value.pointer (some ⟨b, off + i * 19, none⟩)) = (Value.pointer (some ⟨b, off + i * 19, none⟩)))
        with_reducible refine quietAt_idx 57 (.tmp 23) (.tmp 24) (Value.slice (some ⟨b, off, none⟩) n cv) (Value.int .i64 (i : Nat)) (Value.pointer (some ⟨b, off + i * 19, none⟩)) ?h0_5z1_6 ?h1_5z1_6 ?h2_5z1_6 ?h3_5z1_6
        case h0_5z1_6 => rfl
        case h1_5z1_6 => exact e23
        case h2_5z1_6 => exact e24
        case h3_5z1_6 => exact idx23 b off n cv i hlt u
      · intro A u hu hpu hsz hout hdeps
        have e25 : A.eval (.tmp 25) = (.pointer (some ⟨b, off + i * 19, none⟩)) := by have h := depL hdeps 6 (by kernel_rfl) 25 (by kernel_rfl); exact h
        refine ifw_none rfl ?_
        with_reducible refine shown_q (Value.agg q.cells.toArray) ?qq_5z1_7 (fun _ _ => ?qr_5z1_7)
        case qr_5z1_7 => exact (rfl : (Value.agg q.cells.toArray) = (Value.agg q.cells.toArray))
        with_reducible refine quietAt_load 85 (.tmp 25) ?h0_5z1_7 b (off + i * 19) q.cells (.struct (Tryz.prog.fieldsOf 85)) ?h1_5z1_7 ?h2_5z1_7 ?h3_5z1_7 ?h4_5z1_7 ?h5_5z1_7
        case h0_5z1_7 => rfl
        case h1_5z1_7 => exact e25
        case h2_5z1_7 => exact (HL.out u (gtrans HG.out hu))
        case h3_5z1_7 => exact Tryz.under48
        case h4_5z1_7 => rfl
        case h5_5z1_7 => exact (by rw [HQl.out]; exact Tryz.size85)
      · intro A u hu hpu hsz hout hdeps
        have e22 : A.eval (.tmp 22) = (.agg q.cells.toArray) := by have h := depL hdeps 3 (by kernel_rfl) 22 (by kernel_rfl); exact h
        have e26 : A.eval (.tmp 26) = (.agg q.cells.toArray) := by have h := depL hdeps 7 (by kernel_rfl) 26 (by kernel_rfl); exact h
        refine ifw_none rfl ?_
        with_reducible refine shown_q (Value.bool false) ?qq_5z1_8 (fun _ _ => ?qr_5z1_8)
        case qr_5z1_8 => exact (rfl : (Value.bool false) = (Value.bool false))
        with_reducible refine quietAt_bin .neq 85 (.tmp 22) (.tmp 26) 85 (Value.agg q.cells.toArray) (Value.agg q.cells.toArray) (Value.bool false) ?h0_5z1_8 ?h1_5z1_8 ?h2_5z1_8 ?h3_5z1_8
        case h0_5z1_8 => rfl
        case h1_5z1_8 => exact e22
        case h2_5z1_8 => exact e26
        case h3_5z1_8 => exact HNe.out _ _ u
      · intro A u8 listed hh hall
        have hA := hh.frame
        have HU := hid hh.grown
        obtain ⟨x19, hx19⟩ : ∃ x, A.eval (.tmp 19) = x := ⟨_, rfl⟩
        have f19 : (fun v _ => v = (Value.slice (some ⟨g, 0, none⟩) n c)) x19 u8 := by rw [← hx19]; exact hh.got 0 _ 19 rfl rfl (hall 0 (by decide))
        obtain ⟨x20, hx20⟩ : ∃ x, A.eval (.tmp 20) = x := ⟨_, rfl⟩
        have f20 : (fun v _ => v = (Value.int .i64 (i : Nat))) x20 u8 := by rw [← hx20]; exact hh.got 1 _ 20 rfl rfl (hall 1 (by decide))
        obtain ⟨x21, hx21⟩ : ∃ x, A.eval (.tmp 21) = x := ⟨_, rfl⟩
        have f21 : (fun v _ => v = (Value.pointer (some ⟨g, i * 19, none⟩))) x21 u8 := by rw [← hx21]; exact hh.got 2 _ 21 rfl rfl (hall 2 (by decide))
        obtain ⟨x22, hx22⟩ : ∃ x, A.eval (.tmp 22) = x := ⟨_, rfl⟩
        have f22 : (fun v _ => v = (Value.agg q.cells.toArray)) x22 u8 := by rw [← hx22]; exact hh.got 3 _ 22 rfl rfl (hall 3 (by decide))
        obtain ⟨x23, hx23⟩ : ∃ x, A.eval (.tmp 23) = x := ⟨_, rfl⟩
        have f23 : (fun v _ => v = (Value.slice (some ⟨b, off, none⟩) n cv)) x23 u8 := by rw [← hx23]; exact hh.got 4 _ 23 rfl rfl (hall 4 (by decide))
        obtain ⟨x24, hx24⟩ : ∃ x, A.eval (.tmp 24) = x := ⟨_, rfl⟩
        have f24 : (fun v _ => v = (Value.int .i64 (i : Nat))) x24 u8 := by rw [← hx24]; exact hh.got 5 _ 24 rfl rfl (hall 5 (by decide))
        obtain ⟨x25, hx25⟩ : ∃ x, A.eval (.tmp 25) = x := ⟨_, rfl⟩
        have f25 : (fun v _ => v = (Value.pointer (some ⟨b, off + i * 19, none⟩))) x25 u8 := by rw [← hx25]; exact hh.got 6 _ 25 rfl rfl (hall 6 (by decide))
        obtain ⟨x26, hx26⟩ : ∃ x, A.eval (.tmp 26) = x := ⟨_, rfl⟩
        have f26 : (fun v _ => v = (Value.agg q.cells.toArray)) x26 u8 := by rw [← hx26]; exact hh.got 7 _ 26 rfl rfl (hall 7 (by decide))
        obtain ⟨x27, hx27⟩ : ∃ x, A.eval (.tmp 27) = x := ⟨_, rfl⟩
        have f27 : (fun v _ => v = (Value.bool false)) x27 u8 := by rw [← hx27]; exact hh.got 8 _ 27 rfl rfl (hall 8 (by decide))
        dsimp only [wrote, List.foldl] at hA
        rw [hx19, hx20, hx21, hx22, hx23, hx24, hx25, hx26, hx27] at hA
        clear hh hall hx19 hx20 hx21 hx22 hx23 hx24 hx25 hx26 hx27
        replace f19 := (f19 : x19 = (.slice (some ⟨g, 0, none⟩) n c))
        subst f19
        replace f20 := (f20 : x20 = (.int .i64 (i : Nat)))
        subst f20
        replace f21 := (f21 : x21 = (.pointer (some ⟨g, i * 19, none⟩)))
        subst f21
        replace f22 := (f22 : x22 = (.agg q.cells.toArray))
        subst f22
        replace f23 := (f23 : x23 = (.slice (some ⟨b, off, none⟩) n cv))
        subst f23
        replace f24 := (f24 : x24 = (.int .i64 (i : Nat)))
        subst f24
        replace f25 := (f25 : x25 = (.pointer (some ⟨b, off + i * 19, none⟩)))
        subst f25
        replace f26 := (f26 : x26 = (.agg q.cells.toArray))
        subst f26
        replace f27 := (f27 : x27 = (.bool false))
        subst f27
        subst hA
        show wpList _ _ _ [] _ _
        unfold wpList
        simp only [Act.put, List.setIfInBounds_toArray, List.set_cons_succ, List.set_cons_zero]
        go_wp2_with fail
        go_roundw
        case rel => exact ⟨i + 1, by go_num, by omega, hid (gtrans HG.out HU.out)⟩
        case measure => simp [intOf]; omega
    · as_aux_lemma =>
      have hlt' : ¬ (i : Int) < (n : Int) := by omega
      go_upto_region 9 with fail
      go_wp2_with fail
      go_loopw [7] (fun jv wr => ∃ j : Nat, jv = .int .i64 j ∧ n ≤ j ∧ j ≤ n + 9 ∧ Hid (w.grownBy wr none)) (fun jv _ => n + 9 - (intOf jv).toNat)
      case atStart => exact ⟨n, rfl, Nat.le_refl _, by omega, HG⟩
      case round =>
        clear HG
        obtain ⟨j, rfl, hj1, hj2, HG⟩ := hrel
        by_cases hjl : j < n + 9
        · as_aux_lemma =>
          have hj3 : (j : Int) < (n : Int) + 9 := by omega
          have HMk := hid ((HLt.out.keep HG.out).mark j (by rw [HN.out]; exact hj1) (by rw [HN.out]; exact hjl))
          have HNe : Hid (∀ (x y : Operand) (u : World), (do eqGuard .neq 85 x y (.agg mkK.cells.toArray) (.agg mkK.cells.toArray); binOp .neq 85 (.agg mkK.cells.toArray) (.agg mkK.cells.toArray) : Sem Value).run Tryz.prog u = .ok (.bool false) u) := fun x y u => by
            have := neq_key (k := mkK) (q := mkK) mkK_ok.2.1 mkK_ok.2.1 (x := x) (y := y) u
            rw [beq_self_eq_true] at this
            exact this
          go_wp2_with (first
            | (with_reducible refine wpList_load_part (by with_unfolding_all rfl) 85 _ (by with_unfolding_all rfl) g (j * 19) mkK.cells _ (by with_unfolding_all rfl) HMk.out Tryz.underlying85 (by with_unfolding_all rfl) (by with_unfolding_all exact Tryz.size85) ?_)
            | (with_reducible refine wpList_build_ofW (by with_unfolding_all rfl) 85 _ (by with_unfolding_all rfl) [(1, .int .u64 777), (3, .int .i64 (-777))] (by with_unfolding_all rfl) mkK.cells built_mk ?_)
            | (with_reducible refine wpList_binW (by with_unfolding_all rfl) .neq 85 _ _ _ (by with_unfolding_all rfl) _ _ _ (by with_unfolding_all rfl) (by with_unfolding_all rfl) (HNe.out _ _ _) ?_))
          go_roundw
          case rel => exact ⟨j + 1, by go_num, by omega, by omega, HG⟩
          case measure => simp [intOf]; omega
        · as_aux_lemma =>
          have hj3 : ¬ (j : Int) < (n : Int) + 9 := by omega
          go_wp2_with fail
          go_ret
          exact ⟨rfl, HG.out⟩
end Go.Proofs.YtlgjmhemgfjgnaaGreat
