/- turned: other. -/
import Derived.Test.YtihbpkebknifdaaGreatDoorTuD
namespace Go.Proofs.YtihbpkebknifdaaGreatDoor
open Go Go.RowKit
open Go.RowKit (wrap32 wrap64)

set_option maxRecDepth 100000 in
set_option maxHeartbeats 8000000 in
theorem turned_other (mm : Nat) (hm : mm + 1 ≤ 1099511627776) (hrec : TurnOk mm) (t : Tree) (ht : cntT t ≤ mm + 1) (hgd : GoodP t) (n : Nat) (hn : n < 1000) (w : World) (F : Nat → Prop) (v : Value) (hv : RdT w F t v) (h60 : t.kind ≠ 6) :
    Calls Tryz.prog 8 #[v, .int .i64 (n : Nat)] w fun e w' => ∃ v', e = .returned v' ∧ RdT w' (fun g => w.heap.size ≤ g) (turnT n t) v' ∧ w.grownBy w' none := by
  obtain ⟨i26, hi26, hz26, hs26, hb26⟩ := info_parts Tryz.info25
  obtain ⟨i9, hi9, hz9, hs9, hb9⟩ := info_parts Tryz.info9
  obtain ⟨kv, iv, rfl, hk, hi⟩ := RdT_split hv
  obtain ⟨p1, p2, p3, p4, p5, p6, p7⟩ := turn_parts n t
  have HH6 := hid h60
  have hLb : t.items.length ≤ 1099511627776 := by have := cntL_length t.items; rw [cntT_eq] at ht; omega
  have hKb : t.keys.length ≤ 1099511627776 := by have := keyN_length t.keys; rw [cntT_eq] at ht; omega
  have HRec : Hid (∀ (k : Nat) (hk : k < t.items.length) (u : World) (v : Value), RdT u F t.items[k] v → Calls Tryz.prog 8 #[v, .int .i64 (n : Nat)] u fun e w' => ∃ v', e = .returned v' ∧ RdT w' (fun g => u.heap.size ≤ g) (turnT n t.items[k]) v' ∧ u.grownBy w' none) := hid (fun k hk u v hv => hrec t.items[k] (by have := cntL_mem (List.getElem_mem hk); rw [cntT_eq] at ht; omega) (hgd.item (List.getElem_mem hk)) n hn u F v hv)
  have HKg : Hid (t.kind = 6 → t.keys.length = t.items.length) := hid (fun h6 => (hgd.keys h6).1)
  have HT : Hid (turnT n t = .mk t.kind t.flag t.n t.text (turnT n t).keys (turnT n t).items) := hid (by have := (tree_eta (turnT n t)).symm; rw [p1, p2, p3, p4] at this; exact this)
  have HL6 : Hid (t.kind = 6 → ∀ k, k < t.items.length → ∃ h : px n t.items.length k < t.items.length, (turnT n t).items[k]? = some (turnT n t.items[px n t.items.length k]) ∧ ∃ h' : px n t.items.length k < t.keys.length, (turnT n t).keys[k]? = some t.keys[px n t.items.length k]) := hid (fun h6 k hk => by
    have hp := px_lt (n := n) hk
    have hkl := (hgd.keys h6).1
    refine ⟨hp, ?_, by omega, ?_⟩
    · rw [(p6 h6).2, pm_get zeroT n (t.items.map (turnT n)) (i := k) (by simpa using hk)]
      simp only [List.getElem_map, List.length_map]
    · rw [(p6 h6).1, pm_get (⟨#[]⟩ : ByteArray) n t.keys (i := k) (by omega)]
      simp only [hkl])
  have HL5 : Hid (t.kind ≠ 6 → ∀ k (hk : k < t.items.length), (turnT n t).items[k]? = some (turnT n t.items[k])) := hid (fun h6 k hk => by rw [(p7 h6).2, List.getElem?_map, List.getElem?_eq_getElem hk]; rfl)
  have HKn : Hid (t.kind ≠ 6 → (turnT n t).keys = []) := hid (fun h6 => (p7 h6).1)
  have HKl : Hid (t.kind = 6 → (turnT n t).keys.length = t.items.length) := hid (fun h6 => by rw [(p6 h6).1, pm_length]; exact (hgd.keys h6).1)
  have HLl : Hid ((turnT n t).items.length = t.items.length) := hid p5
  rw [HT.out]
  have HKc : Hid (∀ u, w.grownBy u none → ∀ k (hk : k < t.keys.length), ∃ gk ok ck, kv = .slice (some ⟨gk, ok, none⟩) t.keys.length ck ∧ t.keys.length ≤ ck ∧ u.cell? ⟨gk, ok + k, none⟩ = some (.string t.keys[k])) := hid (fun u hu k hkk => by
    obtain ⟨a, c, e, hc, q⟩ := hk
    obtain ⟨g, o, rfl, hg, hF, hcell⟩ := q (by omega)
    exact ⟨g, o, c, e, hc, (Stays.none (F := F) hu).cell hF hg (hcell k _ (List.getElem?_eq_getElem hkk))⟩)
  have HIc : Hid (∀ u, w.grownBy u none → ∀ k (hk : k < t.items.length), ∃ gi oi ci, iv = .slice (some ⟨gi, oi, none⟩) t.items.length ci ∧ t.items.length ≤ ci ∧ gi < w.heap.size ∧ ∃ (k' : Int) (f' : Bool) (n' : Int) (x' : ByteArray) (ka : Option Addr) (kn kc : Nat) (ia : Option Addr) (il ic : Nat), u.cell? ⟨gi, oi + k * 6, none⟩ = some (.int .i64 k') ∧ u.cell? ⟨gi, oi + k * 6 + 1, none⟩ = some (.bool f') ∧ u.cell? ⟨gi, oi + k * 6 + 2, none⟩ = some (.int .i64 n') ∧ u.cell? ⟨gi, oi + k * 6 + 3, none⟩ = some (.string x') ∧ u.cell? ⟨gi, oi + k * 6 + 4, none⟩ = some (.slice ka kn kc) ∧ u.cell? ⟨gi, oi + k * 6 + 5, none⟩ = some (.slice ia il ic) ∧ RdT u F t.items[k] (.agg #[.int .i64 k', .bool f', .int .i64 n', .string x', .slice ka kn kc, .slice ia il ic])) := hid (fun u hu k hkk => by
    obtain ⟨a, c, e, hc, q⟩ := hi
    obtain ⟨g, o, rfl, hg, hF, hr⟩ := q (by omega)
    obtain ⟨k', f', n', x', ka, kn, kc, ia, il, ic, q⟩ := hr.shaped (Stays.none hu) hF hg k hkk
    exact ⟨g, o, c, e, hc, hg, k', f', n', x', ka, kn, kc, ia, il, ic, q⟩)
  obtain ⟨ka, kc, ek, -, -⟩ := hk
  obtain ⟨ia, ic, ei, -, -⟩ := hi
  rw [ek] at HKc
  rw [ei] at HIc
  subst ek
  subst ei
  obtain ⟨L, HLL⟩ : ∃ z, Hid ((turnT n t).items = z) := ⟨_, hid rfl⟩
  obtain ⟨KS, HKS⟩ : ∃ z, Hid ((turnT n t).keys = z) := ⟨_, hid rfl⟩
  rw [HLL.out] at HL6 HL5 HLl ⊢
  rw [HKS.out] at HL6 HKn HKl ⊢
  obtain ⟨K, HK⟩ : ∃ z, Hid (t.kind = z) := ⟨_, hid rfl⟩
  obtain ⟨f, Hf⟩ : ∃ z, Hid (t.flag = z) := ⟨_, hid rfl⟩
  obtain ⟨N, HN⟩ : ∃ z, Hid (t.n = z) := ⟨_, hid rfl⟩
  obtain ⟨X, HX⟩ : ∃ z, Hid (t.text = z) := ⟨_, hid rfl⟩
  obtain ⟨kn, Hkn⟩ : ∃ z, Hid (t.keys.length = z) := ⟨_, hid rfl⟩
  obtain ⟨m, Hil⟩ : ∃ z, Hid (t.items.length = z) := ⟨_, hid rfl⟩
  rw [HK.out, Hf.out, HN.out, HX.out, Hkn.out, Hil.out]
  rw [HK.out] at HH6
  rw [HK.out] at HL6 HL5 HKn HKl HKg
  rw [Hil.out] at hLb HLl HKl HKg
  rw [Hkn.out] at hKb HKg
  clear hv ht hm hgd p1 p2 p3 p4 p5 p6 p7 HT HLL HKS
  go_enter Tryz.func8, Tryz.ntmps8
  go_upto_region 1 with (first
    | ((with_reducible refine wpList_box_row (by with_unfolding_all rfl) 25 _ (by with_unfolding_all rfl) [.int .i64 K, .bool f, .int .i64 N, .string X, .slice ka kn kc, .slice ia m ic] (by with_unfolding_all rfl) ?_); intro w1 B1 s1 g1; have HB1 := hid B1; have HG1 := hid g1; clear B1 s1 g1)
    | ((with_reducible refine wpList_alloc_row (by with_unfolding_all rfl) 25 (by with_unfolding_all rfl) Z6 Tryz.zero25 ?_); intro w2 B2 s2 g2; have HB2 := hid B2; have HG2 := hid (gtrans HG1.out g2); have HL2 : Hid (w.heap.size < w1.heap.size) := hid HB1.out.lt; replace HB1 := hid (HB1.out.keep g2); clear B2 s2 g2))
  obtain ⟨b2, hb2⟩ : ∃ z, w.heap.size = z := ⟨_, rfl⟩
  have HW := hid hb2
  rw [hb2] at HB1 HL2 ⊢
  clear hb2
  obtain ⟨b4, hb4⟩ : ∃ z, w1.heap.size = z := ⟨_, rfl⟩
  rw [hb4] at HB2 HL2 ⊢
  clear hb4 HG1
  go_upto_region 2 with (first
    | ((with_reducible refine wpList_store_all (by with_unfolding_all rfl) 25 _ _ (by with_unfolding_all rfl) w2.heap.size Z6 [.int .i64 K, .bool f, .int .i64 N, .string X, .slice ka kn kc, .slice ia m ic] 25 (by with_unfolding_all rfl) (by with_unfolding_all rfl) HB3.out (by with_unfolding_all rfl) (by with_unfolding_all exact Tryz.size25) (six_one _ _ _ _ _ _ _ _ _ _) ?_); intro w4 B4 g4 s4; have HB4 := hid B4; have HG4 : Hid (w3.grownBy w4 (some w2.heap.size)) := hid g4; clear B4 g4 s4)
    | ((with_reducible refine wpList_alloc_row (by with_unfolding_all rfl) 25 (by with_unfolding_all rfl) Z6 Tryz.zero25 ?_); intro w3 B3 s3 g3; have HB3 := hid B3; have HG3 := hid g3; clear B3 s3 g3)
    | (with_reducible refine wpList_load_part (by with_unfolding_all rfl) 25 _ (by with_unfolding_all rfl) b2 0 [.int .i64 K, .bool f, .int .i64 N, .string X, .slice ka kn kc, .slice ia m ic] _ (by with_unfolding_all rfl) HB1.out.whole Tryz.underlying25 (by with_unfolding_all rfl) (by with_unfolding_all exact Tryz.size25) ?_))
  obtain ⟨b5, hb5⟩ : ∃ z, w2.heap.size = z := ⟨_, rfl⟩
  have HL3 : Hid (b4 < b5) := hid (by rw [← hb5]; exact HB2.out.lt)
  rw [hb5] at HB4 HG4 ⊢
  clear hb5 HB3
  have HLt : Hid (b2 < b4 ∧ b4 < b5) := hid ⟨HL2.out, HL3.out⟩
  clear HL2 HL3
  have k5 : w4.cell? ⟨b5, 5, none⟩ = some (.slice ia m ic) := HB4.out.cell 5
  have f5 := HB4.out.frozen 5
  have HB5 := hid (HB4.out.set 5 (.slice none 0 0))
  have k4 : (w4.setCell ⟨b5, 5, none⟩ (.slice none 0 0)).cell? ⟨b5, 4, none⟩ = some (.slice ka kn kc) := HB5.out.cell 4
  have f4 := HB5.out.frozen 4
  have HB6 := hid (HB5.out.set 4 (.slice none 0 0))
  have gs1 := hid (gset w4 ⟨b5, 5, none⟩ (.slice none 0 0))
  have gs2 := hid (gset (w4.setCell ⟨b5, 5, none⟩ (.slice none 0 0)) ⟨b5, 4, none⟩ (.slice none 0 0))
  have HTS : Hid (TS w ((w4.setCell ⟨b5, 5, none⟩ (.slice none 0 0)).setCell ⟨b5, 4, none⟩ (.slice none 0 0)) b2 b4 b5 (b5 + 1) [.int .i64 K, .bool f, .int .i64 N, .string X, .slice ka kn kc, .slice ia m ic] K f N X KS L 0 0 (.slice none 0 0) (.slice none 0 0)) := hid (by
    have o1 := HLt.out
    have ne : ∀ b, b < b5 → (some b5 : Option Nat) ≠ some b := fun b hb e => by injection e with e; omega
    have y2 := ((HB1.out.keep HG3.out).on HG4.out (ne b2 (by omega)))
    have y4 := ((HB2.out.keep HG3.out).on HG4.out (ne b4 (by omega)))
    have hsz := HB6.out.lt
    refine ⟨⟨o1.1, o1.2, Nat.lt_succ_self _, hsz, by rw [HW.out]; exact Nat.le_refl _⟩, (y2.on gs1.out (ne b2 (by omega))).on gs2.out (ne b2 (by omega)), (y4.on gs1.out (ne b4 (by omega))).on gs2.out (ne b4 (by omega)), HB6.out, World.ownsRow_nil _ _ _ _, ⟨[], World.ownsRow_nil _ _ _ _, rfl⟩, ?_, Nat.zero_le _, Nat.zero_le _⟩
    have hb : ∀ x, some b5 = some x → w.heap.size ≤ x := fun x hx => by injection hx with hx; rw [HW.out]; omega
    exact (((gtrans HG2.out HG3.out).andThen HG4.out (fun x hx => .inl (hb x hx))).andThen gs1.out (fun x hx => .inl (hb x hx))).andThen gs2.out (fun x hx => .inl (hb x hx)))
  go_upto_region 4 with fail
  obtain ⟨w6, hw6⟩ : ∃ z, (w4.setCell ⟨b5, 5, none⟩ (.slice none 0 0)).setCell ⟨b5, 4, none⟩ (.slice none 0 0) = z := ⟨_, rfl⟩
  rw [hw6] at HTS ⊢
  clear hw6 k5 f5 k4 f4 HB4 HB5 HB6 gs1 gs2 HB1 HB2 HG2 HG3 HG4
  have c5 : w6.cell? ⟨b2, 5, none⟩ = some (.slice ia m ic) := HTS.out.x2.cell 5
  go_wp2_with fail
  go_loopw [7] (fun iv wr => ∃ (i j : Nat) (ka' : Option Addr) (kc' : Nat) (ia' : Option Addr) (ic' : Nat), iv = .int .i64 i ∧ i ≤ m ∧ Hid (j = if K = 6 then i else 0) ∧ Hid (TS w wr b2 b4 b5 (b5 + 1) [.int .i64 K, .bool f, .int .i64 N, .string X, .slice ka kn kc, .slice ia m ic] K f N X KS L j i (.slice ka' j kc') (.slice ia' i ic'))) (fun iv _ => m - (intOf iv).toNat)
  case atStart => exact ⟨0, 0, none, 0, none, 0, rfl, Nat.zero_le _, hid (by split <;> rfl), HTS⟩
  case round =>
    clear HTS c5
    obtain ⟨i, j, ka', kc', ia', ic', rfl, him, HJ, HS⟩ := hrel
    obtain ⟨u5, hu5⟩ : ∃ x : World, x = wr := ⟨_, rfl⟩
    rw [← hu5] at HS ⊢
    clear hu5
    by_cases hlt : i < m
    · have hlt' : (i : Int) < (m : Int) := by omega
      have c0 : u5.cell? ⟨b2, 0, none⟩ = some (.int .i64 K) := HS.out.x2.cell 0
      as_aux_lemma =>
      have h6 : K ≠ 6 := HH6.out
      have HJ2 : Hid (j = 0) := hid (by rw [HJ.out, if_neg h6])
      have hji := HJ2.out
      subst hji
      have h6b : (K == 6) = false := beq_eq_false_iff_ne.2 h6
      have hrm : i < m := hlt
      have hrm' : (i : Int) < (m : Int) := by omega
      obtain ⟨u7, hu7⟩ : ∃ x : World, x = u5 := ⟨_, rfl⟩
      rw [← hu7] at HS c0 ⊢
      clear hu7
      have HLi : Hid (L[i]? = some (turnT n (t.items[i]'(by rw [Hil.out]; exact hrm)))) := hid (HL5.out h6 i (by rw [Hil.out]; exact hlt))
      have HJn : Hid (0 = if K = 6 then i + 1 else 0) := hid (by rw [if_neg h6])
      have hri : i < t.items.length := by rw [Hil.out]; exact hrm
      obtain ⟨gi, oi, ci, ei, hci, hgi, k', f', n', x', pa, pn, pc, qa, qn, qc, y0, y1, y2, y3, y4, y5, hT⟩ := HIc.out u7 HS.out.g i hri
      rw [Hil.out] at ei hci
      injection ei with ei1 _ ei2
      subst ei1
      subst ei2
      have hgi7 : gi < u7.heap.size := by have := HS.out.g.size; omega
      have HC := hid (fun (u : World) (hu : u7.grownBy u none) => HRec.out i hri u _ (hT.on (Stays.none hu)))
      obtain ⟨tt, Htt⟩ : ∃ z, Hid (turnT n (t.items[i]'hri) = z) := ⟨_, hid rfl⟩
      rw [Htt.out] at HC HLi
      have HZ5 : Hid (∀ u, u7.grownBy u none → u.cell? ⟨b5, 5, none⟩ = some (.slice ia' i ic')) := hid (fun u hu => (HS.out.x5.keep hu).cell 5)
      have HZ2 : Hid (∀ u, u7.grownBy u none → u.cell? ⟨b2, 5, none⟩ = some (.slice (some ⟨gi, oi, none⟩) m ic)) := hid (fun u hu => (HS.out.x2.keep hu).cell 5)
      have HLd : Hid (∀ u, u7.grownBy u none → (Instr.loadAt 25 (.pointer (some ⟨gi, oi + i * 6, none⟩))).run Tryz.prog u = .ok (.agg #[.int .i64 k', .bool f', .int .i64 n', .string x', .slice pa pn pc, .slice qa qn qc]) u) := hid (fun u hu => ld25 _ _ _ u (range_keep (range6 y0 y1 y2 y3 y4 y5) hgi7 hu) rfl)
      have HOx : Hid (∃ xs, u7.ownsRow (b5 + 1) 25 6 (.slice ia' i ic') i xs ∧ Elems u7 (fun g => (b5 + 1 ≤ g ∧ some g ≠ (Value.slice ka' 0 kc').ownBlock) ∧ some g ≠ (Value.slice ia' i ic').ownBlock) (L.take i) xs) := hid HS.out.it
      obtain ⟨xs, HXs⟩ : ∃ xs, Hid (u7.ownsRow (b5 + 1) 25 6 (.slice ia' i ic') i xs ∧ Elems u7 (fun g => (b5 + 1 ≤ g ∧ some g ≠ (Value.slice ka' 0 kc').ownBlock) ∧ some g ≠ (Value.slice ia' i ic').ownBlock) (L.take i) xs) := ⟨HOx.out.choose, hid HOx.out.choose_spec⟩
      have HOb := hid HS.out.o
      clear hT HOx hci y0 y1 y2 y3 y4 y5
      go_upto_region 14 with fail
      refine wp_region_listX (by kernel_rfl) [fun v _ => v = (Value.pointer (some ⟨b5, 5, none⟩)), fun v _ => v = (Value.slice ia' i ic'), fun v _ => v = (Value.pointer (some ⟨b2, 5, none⟩)), fun v _ => v = (Value.slice (some ⟨gi, oi, none⟩) m ic), fun v _ => v = (Value.int .i64 (i : Nat)), fun v _ => v = (Value.pointer (some ⟨gi, oi + i * 6, none⟩)), fun v _ => v = (Value.agg #[Value.int .i64 k', Value.bool f', Value.int .i64 n', Value.string x', Value.slice pa pn pc, Value.slice qa qn qc]), fun v _ => v = (Value.int .i64 (n : Nat)), fun v u => RdT u (fun g => u7.heap.size ≤ g) tt v, fun v u => ∃ bb xs6, v = Value.slice (some ⟨bb, 0, none⟩) 1 1 ∧ Blk u bb xs6 25 ∧ RdT u (fun g => u7.heap.size ≤ g) tt (.agg xs6.toArray)] (none) (fun _ => none) 10 (by kernel_rfl) (by kernel_rfl) (by kernel_rfl) (by kernel_rfl) (by decide) noRow_one (fun _ => .inl rfl) ⟨fun i v u u' hki h hg => h, fun i v u u' hki h hg => h, fun i v u u' hki h hg => h, fun i v u u' hki h hg => h, fun i v u u' hki h hg => h, fun i v u u' hki h hg => h, fun i v u u' hki h hg => h, fun i v u u' hki h hg => h, fun i v u u' hki h hg => (h.on (Stays.none hg)), fun i v u u' hki h hg => (by obtain ⟨bb, xs6, e, hb, hr⟩ := h; exact ⟨bb, xs6, e, hb.keep hg, hr.on (Stays.none hg)⟩), trivial⟩ ⟨?_, ?_, ?_, ?_, ?_, ?_, ?_, ?_, ?_, ?_, trivial⟩ ?_
      · intro A u hu hpu hsz hout hdeps
        have e5 : A.eval (.tmp 5) = (.pointer (some ⟨b5, 0, none⟩)) := (hout 5 (by kernel_rfl)).trans rfl
        refine ifw_none rfl ?_
        with_reducible refine shown_q (Value.pointer (some ⟨b5, 5, none⟩)) ?qq_1_0 (fun _ _ => ?qr_1_0)
        case qr_1_0 => exact (rfl : (Value.pointer (some ⟨b5, 5, none⟩)) = (Value.pointer (some ⟨b5, 5, none⟩)))
        with_reducible refine quietAt_field 25 (.tmp 5) 5 ?h0_1_0 ⟨b5, 0, none⟩ ⟨b5, 5, none⟩ ?h1_1_0 ?h2_1_0
        case h0_1_0 => rfl
        case h1_1_0 => exact e5
        case h2_1_0 => kernel_rfl
      · intro A u hu hpu hsz hout hdeps
        have e46 : A.eval (.tmp 46) = (.pointer (some ⟨b5, 5, none⟩)) := by have h := depL hdeps 0 (by kernel_rfl) 46 (by kernel_rfl); exact h
        refine ifw_none rfl ?_
        with_reducible refine shown_q (Value.slice ia' i ic') ?qq_1_1 (fun _ _ => ?qr_1_1)
        case qr_1_1 => exact (rfl : (Value.slice ia' i ic') = (Value.slice ia' i ic'))
        with_reducible refine quietAt_ld 23 (.tmp 46) (Value.pointer (some ⟨b5, 5, none⟩)) (Value.slice ia' i ic') ?h0_1_1 ?h1_1_1 ?h2_1_1
        case h0_1_1 => rfl
        case h1_1_1 => exact e46
        case h2_1_1 => exact ld23 b5 5 i ic' ia' u (HZ5.out u hu)
      · intro A u hu hpu hsz hout hdeps
        have e2 : A.eval (.tmp 2) = (.pointer (some ⟨b2, 0, none⟩)) := (hout 2 (by kernel_rfl)).trans rfl
        refine ifw_none rfl ?_
        with_reducible refine shown_q (Value.pointer (some ⟨b2, 5, none⟩)) ?qq_1_2 (fun _ _ => ?qr_1_2)
        case qr_1_2 => exact (rfl : (Value.pointer (some ⟨b2, 5, none⟩)) = (Value.pointer (some ⟨b2, 5, none⟩)))
        with_reducible refine quietAt_field 25 (.tmp 2) 5 ?h0_1_2 ⟨b2, 0, none⟩ ⟨b2, 5, none⟩ ?h1_1_2 ?h2_1_2
        case h0_1_2 => rfl
        case h1_1_2 => exact e2
        case h2_1_2 => kernel_rfl
      · intro A u hu hpu hsz hout hdeps
        have e48 : A.eval (.tmp 48) = (.pointer (some ⟨b2, 5, none⟩)) := by have h := depL hdeps 2 (by kernel_rfl) 48 (by kernel_rfl); exact h
        refine ifw_none rfl ?_
        with_reducible refine shown_q (Value.slice (some ⟨gi, oi, none⟩) m ic) ?qq_1_3 (fun _ _ => ?qr_1_3)
        case qr_1_3 => exact (rfl : (Value.slice (some ⟨gi, oi, none⟩) m ic) = (Value.slice (some ⟨gi, oi, none⟩) m ic))
        with_reducible refine quietAt_ld 23 (.tmp 48) (Value.pointer (some ⟨b2, 5, none⟩)) (Value.slice (some ⟨gi, oi, none⟩) m ic) ?h0_1_3 ?h1_1_3 ?h2_1_3
        case h0_1_3 => rfl
        case h1_1_3 => exact e48
        case h2_1_3 => exact ld23 b2 5 m ic (some ⟨gi, oi, none⟩) u (HZ2.out u hu)
      · intro A u hu hpu hsz hout hdeps
        have e8 : A.eval (.tmp 8) = (.int .i64 (i : Nat)) := (hout 8 (by kernel_rfl)).trans rfl
        refine ifw_none rfl ?_
        with_reducible refine shown_q (Value.int .i64 (i : Nat)) ?qq_1_4 (fun _ _ => ?qr_1_4)
        case qr_1_4 => exact (rfl : (Value.int .i64 (i : Nat)) = (Value.int .i64 (i : Nat)))
        with_reducible refine quietAt_mv (.tmp 8) (Value.int .i64 (i : Nat)) ?h0_1_4 ?h1_1_4
        case h0_1_4 => rfl
        case h1_1_4 => exact e8
      · intro A u hu hpu hsz hout hdeps
        have e49 : A.eval (.tmp 49) = (.slice (some ⟨gi, oi, none⟩) m ic) := by have h := depL hdeps 3 (by kernel_rfl) 49 (by kernel_rfl); exact h
        have e50 : A.eval (.tmp 50) = (.int .i64 (i : Nat)) := by have h := depL hdeps 4 (by kernel_rfl) 50 (by kernel_rfl); exact h
        refine ifw_none rfl ?_
        with_reducible refine shown_q (Value.pointer (some ⟨gi, oi + i * 6, none⟩)) ?qq_1_5 (fun _ _ => ?qr_1_5)
        case qr_1_5 => exact (rfl : (Value.pointer (some ⟨gi, oi + i * 6, none⟩)) = (Value.pointer (some ⟨gi, oi + i * 6, none⟩)))
        with_reducible refine quietAt_idx 23 (.tmp 49) (.tmp 50) (Value.slice (some ⟨gi, oi, none⟩) m ic) (Value.int .i64 (i : Nat)) (Value.pointer (some ⟨gi, oi + i * 6, none⟩)) ?h0_1_5 ?h1_1_5 ?h2_1_5 ?h3_1_5
        case h0_1_5 => rfl
        case h1_1_5 => exact e49
        case h2_1_5 => exact e50
        case h3_1_5 => exact idx23 gi oi m ic i hrm u
      · intro A u hu hpu hsz hout hdeps
        have e51 : A.eval (.tmp 51) = (.pointer (some ⟨gi, oi + i * 6, none⟩)) := by have h := depL hdeps 5 (by kernel_rfl) 51 (by kernel_rfl); exact h
        refine ifw_none rfl ?_
        with_reducible refine shown_q (Value.agg #[Value.int .i64 k', Value.bool f', Value.int .i64 n', Value.string x', Value.slice pa pn pc, Value.slice qa qn qc]) ?qq_1_6 (fun _ _ => ?qr_1_6)
        case qr_1_6 => exact (rfl : (Value.agg #[Value.int .i64 k', Value.bool f', Value.int .i64 n', Value.string x', Value.slice pa pn pc, Value.slice qa qn qc]) = (Value.agg #[Value.int .i64 k', Value.bool f', Value.int .i64 n', Value.string x', Value.slice pa pn pc, Value.slice qa qn qc]))
        with_reducible refine quietAt_ld 25 (.tmp 51) (Value.pointer (some ⟨gi, oi + i * 6, none⟩)) (Value.agg #[Value.int .i64 k', Value.bool f', Value.int .i64 n', Value.string x', Value.slice pa pn pc, Value.slice qa qn qc]) ?h0_1_6 ?h1_1_6 ?h2_1_6
        case h0_1_6 => rfl
        case h1_1_6 => exact e51
        case h2_1_6 => exact HLd.out u hu
      · intro A u hu hpu hsz hout hdeps
        have e1 : A.eval (.tmp 1) = (.int .i64 (n : Nat)) := (hout 1 (by kernel_rfl)).trans rfl
        refine ifw_none rfl ?_
        with_reducible refine shown_q (Value.int .i64 (n : Nat)) ?qq_1_7 (fun _ _ => ?qr_1_7)
        case qr_1_7 => exact (rfl : (Value.int .i64 (n : Nat)) = (Value.int .i64 (n : Nat)))
        with_reducible refine quietAt_mv (.tmp 1) (Value.int .i64 (n : Nat)) ?h0_1_7 ?h1_1_7
        case h0_1_7 => rfl
        case h1_1_7 => exact e1
      · intro A u hu hpu hsz hout hdeps
        have e52 : A.eval (.tmp 52) = (.agg #[.int .i64 k', .bool f', .int .i64 n', .string x', .slice pa pn pc, .slice qa qn qc]) := by have h := depL hdeps 6 (by kernel_rfl) 52 (by kernel_rfl); exact h
        have e53 : A.eval (.tmp 53) = (.int .i64 (n : Nat)) := by have h := depL hdeps 7 (by kernel_rfl) 53 (by kernel_rfl); exact h
        refine ifw_none rfl ?_
        with_reducible refine shown_call 8 Tryz.f8 ?h0_1_8 ?h1_1_8 ?h2_1_8 #[.tmp 52, .tmp 53] #[25, 3] ?h3_1_8 #[(Value.agg #[Value.int .i64 k', Value.bool f', Value.int .i64 n', Value.string x', Value.slice pa pn pc, Value.slice qa qn qc]), (Value.int .i64 (n : Nat))] ?h4_1_8 ?h5_1_8
        case h0_1_8 => exact Tryz.func8
        case h1_1_8 => kernel_rfl
        case h2_1_8 => kernel_rfl
        case h3_1_8 => rfl
        case h4_1_8 => exact map2 _ _ _ _ _ e52 e53
        case h5_1_8 => exact (HC.out u hu).mono (by rintro e w2 ⟨v2, rfl, hT2, hg2⟩; exact ⟨v2, rfl, hg2, RdT.since hu hT2⟩)
      · intro A u hu hpu hsz hout hdeps
        have f54 : (fun v u => RdT u (fun g => u7.heap.size ≤ g) tt v) (A.eval (.tmp 54)) u := by have h := depL hdeps 8 (by kernel_rfl) 54 (by kernel_rfl); exact h
        obtain ⟨za, zn, zc, ya, yn, yc, e54⟩ := RdT_six f54; rw [e54] at f54
        refine ifw_none rfl ?_
        exact shown_slice6 (.tmp 54) rfl _ _ _ _ _ _ e54 (fun w' h hg => ⟨u.heap.size, _, rfl, h, f54.on (Stays.none hg)⟩)
      · intro A u8 listed hh hall
        have hA := hh.frame
        have HU := hid hh.grown
        obtain ⟨x46, hx46⟩ : ∃ x, A.eval (.tmp 46) = x := ⟨_, rfl⟩
        have f46 : (fun v _ => v = (Value.pointer (some ⟨b5, 5, none⟩))) x46 u8 := by rw [← hx46]; exact hh.got 0 _ 46 rfl rfl (hall 0 (by decide))
        obtain ⟨x47, hx47⟩ : ∃ x, A.eval (.tmp 47) = x := ⟨_, rfl⟩
        have f47 : (fun v _ => v = (Value.slice ia' i ic')) x47 u8 := by rw [← hx47]; exact hh.got 1 _ 47 rfl rfl (hall 1 (by decide))
        obtain ⟨x48, hx48⟩ : ∃ x, A.eval (.tmp 48) = x := ⟨_, rfl⟩
        have f48 : (fun v _ => v = (Value.pointer (some ⟨b2, 5, none⟩))) x48 u8 := by rw [← hx48]; exact hh.got 2 _ 48 rfl rfl (hall 2 (by decide))
        obtain ⟨x49, hx49⟩ : ∃ x, A.eval (.tmp 49) = x := ⟨_, rfl⟩
        have f49 : (fun v _ => v = (Value.slice (some ⟨gi, oi, none⟩) m ic)) x49 u8 := by rw [← hx49]; exact hh.got 3 _ 49 rfl rfl (hall 3 (by decide))
        obtain ⟨x50, hx50⟩ : ∃ x, A.eval (.tmp 50) = x := ⟨_, rfl⟩
        have f50 : (fun v _ => v = (Value.int .i64 (i : Nat))) x50 u8 := by rw [← hx50]; exact hh.got 4 _ 50 rfl rfl (hall 4 (by decide))
        obtain ⟨x51, hx51⟩ : ∃ x, A.eval (.tmp 51) = x := ⟨_, rfl⟩
        have f51 : (fun v _ => v = (Value.pointer (some ⟨gi, oi + i * 6, none⟩))) x51 u8 := by rw [← hx51]; exact hh.got 5 _ 51 rfl rfl (hall 5 (by decide))
        obtain ⟨x52, hx52⟩ : ∃ x, A.eval (.tmp 52) = x := ⟨_, rfl⟩
        have f52 : (fun v _ => v = (Value.agg #[Value.int .i64 k', Value.bool f', Value.int .i64 n', Value.string x', Value.slice pa pn pc, Value.slice qa qn qc])) x52 u8 := by rw [← hx52]; exact hh.got 6 _ 52 rfl rfl (hall 6 (by decide))
        obtain ⟨x53, hx53⟩ : ∃ x, A.eval (.tmp 53) = x := ⟨_, rfl⟩
        have f53 : (fun v _ => v = (Value.int .i64 (n : Nat))) x53 u8 := by rw [← hx53]; exact hh.got 7 _ 53 rfl rfl (hall 7 (by decide))
        obtain ⟨x54, hx54⟩ : ∃ x, A.eval (.tmp 54) = x := ⟨_, rfl⟩
        have f54 : (fun v u => RdT u (fun g => u7.heap.size ≤ g) tt v) x54 u8 := by rw [← hx54]; exact hh.got 8 _ 54 rfl rfl (hall 8 (by decide))
        obtain ⟨x55, hx55⟩ : ∃ x, A.eval (.tmp 55) = x := ⟨_, rfl⟩
        have f55 : (fun v u => ∃ bb xs6, v = Value.slice (some ⟨bb, 0, none⟩) 1 1 ∧ Blk u bb xs6 25 ∧ RdT u (fun g => u7.heap.size ≤ g) tt (.agg xs6.toArray)) x55 u8 := by rw [← hx55]; exact hh.got 9 _ 55 rfl rfl (hall 9 (by decide))
        obtain ⟨x56, hx56⟩ : ∃ x, A.eval (.tmp 56) = x := ⟨_, rfl⟩
        obtain ⟨x57, hx57⟩ : ∃ x, A.eval (.tmp 57) = x := ⟨_, rfl⟩
        dsimp only [wrote, List.foldl] at hA
        rw [hx46, hx47, hx48, hx49, hx50, hx51, hx52, hx53, hx54, hx55, hx56, hx57] at hA
        clear hh hall hx46 hx47 hx48 hx49 hx50 hx51 hx52 hx53 hx54 hx55 hx56 hx57
        replace f46 := (f46 : x46 = (.pointer (some ⟨b5, 5, none⟩)))
        subst f46
        replace f47 := (f47 : x47 = (.slice ia' i ic'))
        subst f47
        replace f48 := (f48 : x48 = (.pointer (some ⟨b2, 5, none⟩)))
        subst f48
        replace f49 := (f49 : x49 = (.slice (some ⟨gi, oi, none⟩) m ic))
        subst f49
        replace f50 := (f50 : x50 = (.int .i64 (i : Nat)))
        subst f50
        replace f51 := (f51 : x51 = (.pointer (some ⟨gi, oi + i * 6, none⟩)))
        subst f51
        replace f52 := (f52 : x52 = (.agg #[.int .i64 k', .bool f', .int .i64 n', .string x', .slice pa pn pc, .slice qa qn qc]))
        subst f52
        replace f53 := (f53 : x53 = (.int .i64 (n : Nat)))
        subst f53
        obtain ⟨za, zn, zc, ya, yn, yc, e54⟩ := RdT_six f54; rw [e54] at f54
        subst e54
        obtain ⟨b9, xs6, e55, hb9, hr9⟩ := f55
        subst e55
        subst hA
        show wpList _ _ _ [_, _, _] _ _
        simp only [Act.put, List.setIfInBounds_toArray, List.set_cons_succ, List.set_cons_zero]
        obtain ⟨ya, yn, yc, za, zn, zc, e9⟩ := RdT_six hr9
        have e9' : xs6 = [.int .i64 tt.kind, .bool tt.flag, .int .i64 tt.n, .string tt.text, .slice ya yn yc, .slice za zn zc] := by injection e9 with e9; exact congrArg Array.toList e9
        subst e9'
        have HB9 := hid hb9
        have HR9 := hid hr9
        clear hb9 hr9 e9 f54
        at_builtin
        refine wpList_append_lies _ rfl _ _ 23 rfl (b5 + 1) 25 i26 _ 6 88 Tryz.underlying23 hi26 hz26 hs26 hb26 rfl (by decide) (.slice ia' i ic') i xs rfl (own_keep HXs.out.1 HU.out) ⟨b9, 0, none⟩ 1 1 [.int .i64 tt.kind, .bool tt.flag, .int .i64 tt.n, .string tt.text, .slice ya yn yc, .slice za zn zc] rfl rfl HB9.out.news (one6 _ _ _ _ _ _ _ _ _ _) (by decide) (by unfold maxLen; omega) (by omega) (by have := HOb.out; have := HU.out.size; omega) u8.heap.size rfl ?_
        intro g4 cap4 w4 ho4 hg4 hat4 hlt4
        have HO4 := hid ho4
        have HG4 := hid hg4
        have HA4 := hid hat4
        have x4 : Blk w4 b5 [.int .i64 K, .bool f, .int .i64 N, .string X, .slice ka' 0 kc', .slice ia' i ic'] 25 := (HS.out.x5.keep HU.out).on hg4 (fun e => by have := (HXs.out.1.lt b5 e).1; omega)
        have k4 := x4.cell 5
        have f4 := x4.frozen 5
        clear ho4 hg4 hat4 hlt4 x4
        have HTS : Hid (TS w (w4.setCell ⟨b5, 5, none⟩ (.slice (some ⟨g4, 0, none⟩) (i + 1) cap4)) b2 b4 b5 (b5 + 1) [.int .i64 K, .bool f, .int .i64 N, .string X, .slice ka kn kc, .slice (some ⟨gi, oi, none⟩) m ic] K f N X KS L 0 (i + 1) (.slice ka' 0 kc') (.slice (some ⟨g4, 0, none⟩) (i + 1) cap4)) := hid (HS.out.itemX HU.out HR9.out HG4.out HXs.out HO4.out HA4.out HLi.out)
        go_wp2_with fail
        go_roundw
        case rel => exact ⟨i + 1, 0, _, _, _, _, by go_num, by omega, HJn, HTS⟩
        case measure => simp [intOf]; omega

    · as_aux_lemma =>
      have hlt' : ¬ (i : Int) < (m : Int) := by omega
      have HE1 : Hid (i = L.length) := hid (by rw [HLl.out]; omega)
      have HE2 : Hid (j = KS.length) := hid (by
        rw [HJ.out]
        by_cases q : K = 6
        · rw [if_pos q, HKl.out q]; omega
        · rw [if_neg q, HKn.out q]; rfl)
      have HRd : Hid (RdT u5 (fun g => b5 + 1 ≤ g) (.mk K f N X KS L) (.agg #[.int .i64 K, .bool f, .int .i64 N, .string X, .slice ka' j kc', .slice ia' i ic'])) := hid (TS.rd (by have q := HS.out; rw [HE1.out, HE2.out] at q ⊢; exact q))
      have HX5 := hid HS.out.x5
      have HX4 := hid HS.out.x4
      have HOb := hid HS.out.o
      have HGw := hid HS.out.g
      clear HS HE1 HE2
      go_wp2_with (first
        | ((with_reducible refine wpList_store_all (by with_unfolding_all rfl) 25 _ _ (by with_unfolding_all rfl) b4 Z6 [.int .i64 K, .bool f, .int .i64 N, .string X, .slice ka' j kc', .slice ia' i ic'] 25 (by with_unfolding_all rfl) (by with_unfolding_all rfl) HX4.out (by with_unfolding_all rfl) (by with_unfolding_all exact Tryz.size25) (six_one _ _ _ _ _ _ _ _ _ _) ?_); intro w9 B9 g9 s9; have HB9 := hid B9; have HG9 := hid g9; clear B9 g9 s9)
        | (with_reducible refine wpList_load_part (by with_unfolding_all rfl) 25 _ (by with_unfolding_all rfl) b5 0 [.int .i64 K, .bool f, .int .i64 N, .string X, .slice ka' j kc', .slice ia' i ic'] _ (by with_unfolding_all rfl) HX5.out.whole Tryz.underlying25 (by with_unfolding_all rfl) (by with_unfolding_all exact Tryz.size25) ?_))
      refine bodyPost_ret (results_blk rfl _ b4 25 [.int .i64 K, .bool f, .int .i64 N, .string X, .slice ka' j kc', .slice ia' i ic'] _ rfl HB9.out Tryz.underlying25 rfl Tryz.size25) rfl ?_
      have hob := HOb.out
      refine ⟨_, rfl, ?_, HGw.out.andThen HG9.out (fun x hx => .inl (by injection hx with hx; omega))⟩
      exact RdT.kept (F := fun g => b5 + 1 ≤ g) (Stays.grown HG9.out (fun g hg e => by injection e with e; omega)) (fun g hg _ => by have := HW.out; omega) _ HRd.out
end Go.Proofs.YtihbpkebknifdaaGreatDoor
