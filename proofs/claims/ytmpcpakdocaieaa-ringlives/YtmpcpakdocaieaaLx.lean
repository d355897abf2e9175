/- The walk of RingLives. -/
import Derived.Test.YtmpcpakdocaieaaFateD

import Derived.Deep.Cut
namespace Go.Proofs.Ytmpcpakdocaieaa
open Go Go.RowKit
open Go.RowKit (wrap32 wrap64)

theorem OutF.lit {C g : Nat} {w : World} {f : Ft} (hf : f.sec.length = 32) (h : Blk w g (f.cells 1) 96) (hC : C ≤ g) : OutF C w (.slice (some ⟨g, 0, none⟩) 1 1) [f] := by
  refine ⟨fun x hx => by rw [List.mem_singleton.1 hx]; exact hf, ?_, .inr ⟨g, 1, (f.cells 1).toArray, rfl, hC, h, Nat.le_refl _, by unfold maxLen; simp, ?_, ?_⟩⟩
  · simp [fcs, Ft.cells_length hf]
  · simp [Ft.cells_length hf]
  · rw [List.take_of_length_le (by rw [Ft.cells_length hf]; exact Nat.le_refl _)]
    simp [fcs]
theorem life_sec {u : World} {b : Nat} {sec : List UInt8} {ta : Option Addr} {tn tc : Nat} (h : Blk u b (lifeC sec ta tn tc) 94) : u.rangeAt b 0 (Lib.byteCells sec) := h.range [] (Lib.byteCells sec) [.slice ta tn tc] 0 rfl rfl
theorem life_32 {u : World} {b : Nat} {sec : List UInt8} {ta : Option Addr} {tn tc : Nat} (hs : sec.length = 32) (h : Blk u b (lifeC sec ta tn tc) 94) : u.cell? ⟨b, 32, none⟩ = some (.slice ta tn tc) := by
  rw [h.cell]
  unfold lifeC
  rw [List.getElem?_append_right (by rw [byteCells_length, hs]; exact Nat.le_refl _), byteCells_length, hs]
  rfl
theorem stands_out {C : Nat} (u : World) (v fv : Value) (L : List Ky) (X : Nat) (FS : List Ft) (hK : OutK C u v L) (hL : Lv L X FS) (hX : X ≤ 1000) (hF : OutF C u fv FS) : Calls Try.prog 27 #[.agg #[v, .int .u64 X], fv] u fun e w' => e = .returned (.bool true) ∧ u.grownBy w' none := by
  have h0 : 0 < FS.length := by obtain ⟨gs, g, e, _⟩ := hL.last; rw [e]; simp
  obtain ⟨g, c, rfl, hgC, hgl, hrg⟩ := hF.open h0
  exact stands_any u v _ L X FS g 0 c hK.rd hL hX hF.1 (fun u' hu' j hj => by rw [Nat.zero_add]; exact range_at hu' hgl (by simp) (hrg j hj))
theorem idx92 (b o n c i : Nat) (h : i < n) (u : World) : (Instr.indexAt 92 (.slice (some ⟨b, o, none⟩) n c) (.int .i64 (i : Nat))).run Try.prog u = .ok (.pointer (some ⟨b, o + i * 35, none⟩)) u := by
  have h' : (i : Int) < (n : Int) := by omega
  go_simp
theorem Tn.sec_at {t : Tn} {u : World} {b o : Nat} (h : u.rangeAt b o t.cells) : u.rangeAt b (o + 1) (Lib.byteCells t.sec) := by
  intro j v hv
  have h1 : t.cells[j + 1]? = some v := by
    unfold Tn.cells
    rw [List.getElem?_cons_succ, List.getElem?_append_left (List.getElem?_eq_some_iff.1 hv).1]
    exact hv
  have := h (j + 1) v h1
  rw [show o + 1 + j = o + (j + 1) by omega]
  exact this
theorem idx97z (b n c i : Nat) (h : i < n) (u : World) : (Instr.indexAt 97 (.slice (some ⟨b, 0, none⟩) n c) (.int .i64 (i : Nat))).run Try.prog u = .ok (.pointer (some ⟨b, i * 35, none⟩)) u := by
  have := idx97 b 0 n c i h u
  rw [Nat.zero_add] at this
  exact this
theorem gtr_i64 (a b : Int) {x y : Operand} (u : World) : (do eqGuard .gtr 2 x y (.int .i64 a) (.int .i64 b); binOp .gtr 2 (.int .i64 a) (.int .i64 b) : Sem Value).run Try.prog u = .ok (.bool (decide (b < a))) u := by
  go_simp
theorem leq_i64 (a b : Int) {x y : Operand} (u : World) : (do eqGuard .leq 2 x y (.int .i64 a) (.int .i64 b); binOp .leq 2 (.int .i64 a) (.int .i64 b) : Sem Value).run Try.prog u = .ok (.bool (decide (a ≤ b))) u := by
  go_simp
theorem prune_at {fs : List Ft} {j : Nat} {f : Ft} {now : Int} (h : fs[j]? = some f) : ((fs.take j).map (Ft.prune now) ++ fs.drop j)[j]? = some f := by
  have hlt := (List.getElem?_eq_some_iff.1 h).1
  have hl : ((fs.take j).map (Ft.prune now)).length = j := by rw [List.length_map, List.length_take]; omega
  rw [List.getElem?_append_right (by omega), hl, Nat.sub_self, List.getElem?_drop, Nat.add_zero]
  exact h
theorem prune_step {fs : List Ft} {j : Nat} {f : Ft} {now : Int} (h : fs[j]? = some f) : ((fs.take j).map (Ft.prune now) ++ fs.drop j).set j (Ft.prune now f) = (fs.take (j + 1)).map (Ft.prune now) ++ fs.drop (j + 1) := by
  obtain ⟨hlt, rfl⟩ := List.getElem?_eq_some_iff.1 h
  have hl : ((fs.take j).map (Ft.prune now)).length = j := by rw [List.length_map, List.length_take]; omega
  rw [List.set_append_right _ _ (by omega), hl, Nat.sub_self, List.drop_eq_getElem_cons hlt, List.set_cons_zero, List.take_succ_eq_append_getElem hlt, List.map_append, List.append_assoc]
  rfl
theorem OutF.c33 {B g c : Nat} {w : World} {gs : List Ft} {f : Ft} (h : OutF B w (.slice (some ⟨g, 0, none⟩) (gs.length + 1) c) (gs ++ [f])) : w.cell? ⟨g, gs.length * 35 + 33, none⟩ = some (.int .i64 f.til) ∧ w.frozen? ⟨g, gs.length * 35 + 33, none⟩ = false := by
  have hl : (gs ++ [f]).length = gs.length + 1 := by simp
  obtain ⟨g', c', e, _, _, hr⟩ := h.open (by omega)
  injection e with e1 e2 e3
  injection e1 with e1
  injection e1 with e1
  subst e1
  have h1 := hr gs.length (by omega)
  rw [show (gs ++ [f])[gs.length]'(by omega) = f by simp] at h1
  have hs : f.sec.length = 32 := h.1 f (by simp)
  obtain ⟨cs, hb, _⟩ := h.blk rfl
  exact ⟨h1 33 _ (Ft.c33 hs), hb.frozen _⟩
theorem OutF.c34 {B g c : Nat} {w : World} {fs : List Ft} (h : OutF B w (.slice (some ⟨g, 0, none⟩) fs.length c) fs) {j : Nat} {f : Ft} (hj : fs[j]? = some f) : w.cell? ⟨g, j * 35 + 34, none⟩ = some (.bool f.gone) ∧ w.cell? ⟨g, j * 35 + 33, none⟩ = some (.int .i64 f.til) ∧ w.frozen? ⟨g, j * 35 + 34, none⟩ = false := by
  obtain ⟨hlt, hjf⟩ := List.getElem?_eq_some_iff.1 hj
  obtain ⟨g', c', e, _, _, hr⟩ := h.open (by omega)
  injection e with e1 e2 e3
  injection e1 with e1
  injection e1 with e1
  subst e1
  have h1 := hr j hlt
  rw [hjf] at h1
  have hs : f.sec.length = 32 := h.1 f (by rw [← hjf]; exact List.getElem_mem hlt)
  obtain ⟨cs, hb, _⟩ := h.blk rfl
  exact ⟨h1 34 _ (Ft.c34 hs), h1 33 _ (Ft.c33 hs), hb.frozen _⟩
set_option maxRecDepth 100000 in
set_option maxHeartbeats 40000000 in
theorem lives_walk (w : World) (sec : List UInt8) (ta : Option Addr) (tb to tn tc : Nat) (T : Nat → Tn) (hs : sec.length = 32) (htn : tn ≤ 140737488355328) (hT : RowsT w ta tb to tn T) :
    Calls Try.prog 5 #[.agg (lifeC sec ta tn tc).toArray] w fun e w' => e = .returned (.bool true) ∧ w.grownBy w' none := by
 have HWk : Hid (∀ u : World, Calls Try.prog 26 #[] u fun e w' => e = .returned (.bool true) ∧ u.grownBy w' none) := fun u => wakes_any u
 have HT : Hid (∀ u, w.grownBy u none → RowsT u ta tb to tn T) := fun u hu => hT.on hu
 have HLL : Hid ((lifeC sec ta tn tc).length = 33) := hid (life_len hs ta tn tc)
 have HSl := hid hs
 obtain ⟨P, HP⟩ : ∃ x, Hid (lifeC sec ta tn tc = x) := ⟨_, hid rfl⟩
 obtain ⟨S0, HS0⟩ : ∃ x, Hid (Lib.byteCells sec = x) := ⟨_, hid rfl⟩
 have HS0l : Hid (S0.length = 32) := hid (by rw [← HS0.out, byteCells_length]; exact hs)
 have HPs : Hid (∀ (u : World) (b : Nat), Blk u b P 94 → u.rangeAt b 0 S0 ∧ u.cell? ⟨b, 32, none⟩ = some (.slice ta tn tc)) := hid (fun u b h => by
  rw [← HP.out] at h
  rw [← HS0.out]
  exact ⟨life_sec h, life_32 HSl.out h⟩)
 have HFi : Hid (∀ u : World, Calls Try.prog 10 #[.agg S0.toArray] u fun e w' => ∃ a c, e = .returned (.agg #[.slice a 1 c, .int .u64 2]) ∧ OutK u.heap.size w' (.slice a 1 c) [⟨1, sec, 0⟩] ∧ u.grownBy w' none) := hid (fun u => by rw [← HS0.out]; exact first_any u sec HSl.out)
 have HBu : Hid (Try.prog.built 96 [(0, .int .u64 1), (1, .agg S0.toArray)] = some ((Ft.mk sec 0 false).cells 1).toArray) := hid (by rw [← HS0.out]; exact built_fate 1 sec HSl.out)
 rw [HP.out] at HLL ⊢
 clear hT hs HP
 go_enter Try.func5, Try.ntmps5
 go_upto_region 3 with (first
  | ((with_reducible refine wpList_box_row (by with_unfolding_all rfl) 94 _ (by with_unfolding_all rfl) P (by with_unfolding_all rfl) ?_); intro w1 B1 s1 g1; have HB1 := hid B1; have HG1 := hid g1; clear B1 g1 s1; obtain ⟨hps, y32⟩ := HPs.out _ _ HB1.out; replace hps := hid hps)
  | (with_reducible refine wpList_load_part (by with_unfolding_all rfl) 70 _ (by with_unfolding_all rfl) w.heap.size 0 S0 _ (by with_unfolding_all rfl) hps.out Try.underlying70 (by with_unfolding_all rfl) (by rw [HS0l.out]; exact Try.size70) ?_)
  | (go_at_call 10; (with_reducible refine (HFi.out _).mono ?_); rintro e w2 ⟨a, c, rfl, hO2, hg2⟩; have HO2 := hid hO2; have HG2 := hid (gtrans HG1.out hg2); have HB2 := hid (HB1.out.keep hg2); have HZ2 := hid hg2.size; clear hO2 hg2)
  | ((with_reducible refine wpList_alloc_row (by with_unfolding_all rfl) 69 (by with_unfolding_all rfl) [.slice none 0 0, .int .u64 0] Try.zero69 ?_); intro w3 B3 s3 g3; have HB3 := hid B3; have HG3 := hid (gtrans HG2.out g3); have HO3 := hid (HO2.out.keep g3); have HP3 := hid (HB2.out.keep g3); clear B3 g3 s3)
  | ((with_reducible refine wpList_store_all (by with_unfolding_all rfl) 69 _ _ (by with_unfolding_all rfl) _ [.slice none 0 0, .int .u64 0] [.slice a 1 c, .int .u64 2] 69 (by with_unfolding_all rfl) (by with_unfolding_all rfl) HB3.out (by with_unfolding_all rfl) (by with_unfolding_all exact Try.size69) (ring_one _ _ _ _) ?_); intro w4 B4 g4 s4; have HB4 := hid B4; have HG4 := hid (HG3.out.andThen g4 (fun j hj => .inl (by injection hj with hj; have := HG2.out.size; omega))); have HO4 := hid (HO3.out.off g4 HB3.out (by decide)); have HP4 := hid (HP3.out.on g4 (fun e => HB3.out.ne HP3.out (by decide) (Option.some.inj e))); clear B4 g4 s4))
 obtain ⟨b1, hb1⟩ : ∃ x, w.heap.size = x := ⟨_, rfl⟩
 obtain ⟨p4, hp4⟩ : ∃ x, w2.heap.size = x := ⟨_, rfl⟩
 rw [hb1] at HP4 ⊢
 rw [hp4] at HB4 ⊢
 have HN : Hid (w.heap.size ≤ p4) := hid (by rw [← hp4]; exact HG2.out.size)
 have HO4' := hid (HO4.out.below (C := w.heap.size) HG1.out.size)
 clear hb1 hp4 HB1 HB2 HB3 HP3 HO2 HO3 HO4 HG1 HG2 HG3 HZ2 hps y32 HFi
 obtain ⟨hps, y32⟩ := HPs.out _ _ HP4.out
 replace hps := hid hps
 go_upto_region 4 with (first
  | (with_reducible refine wpList_load_part (by with_unfolding_all rfl) 70 _ (by with_unfolding_all rfl) b1 0 S0 _ (by with_unfolding_all rfl) hps.out Try.underlying70 (by with_unfolding_all rfl) (by rw [HS0l.out]; exact Try.size70) ?_)
  | (with_reducible refine wpList_build_ofW (by with_unfolding_all rfl) 96 _ (by with_unfolding_all rfl) [(0, .int .u64 1), (1, .agg S0.toArray)] (by with_unfolding_all rfl) ((Ft.mk sec 0 false).cells 1) HBu.out ?_)
  | ((with_reducible refine wpList_slice_fate (by with_unfolding_all rfl) _ (by with_unfolding_all rfl) 1 (Ft.mk sec 0 false) HSl.out (by with_unfolding_all rfl) ?_); intro w5 B5 s5 g5; have HF5 := hid (OutF.lit (C := w.heap.size) HSl.out B5 HG4.out.size); have HG5 := hid (gtrans HG4.out g5); have HO5 := hid (HO4'.out.keep g5); have HB5 := hid (HB4.out.keep g5); clear B5 g5 s5))
 have HLv0 : Hid (Lv [⟨1, sec, 0⟩] 2 [⟨sec, 0, false⟩]) := hid (Lv.first sec)
 clear HP4 HB4 HO4' HG4 hps y32 HPs HBu HS0 HS0l HLL
 go_wp2_with fail
 go_loopw [5, 6] (fun fv iv wr => ∃ (i : Nat) (l : List Ky) (nx : Nat) (fs : List Ft) (a : Option Addr) (n c : Nat), iv = .int .i64 i ∧ i ≤ 200 ∧ Hid (l.length = n) ∧ Hid (Blk wr p4 [.slice a n c, .int .u64 nx] 69) ∧ Hid (OutK w.heap.size wr (.slice a n c) l) ∧ Hid (Lv l nx fs) ∧ Hid (OutF w.heap.size wr fv fs) ∧ Hid (nx ≤ i + 2) ∧ Hid (w.grownBy wr none)) (fun _ iv _ => 200 - (intOf iv).toNat)
 case atStart => exact ⟨0, _, 2, _, a, 1, c, rfl, by omega, hid rfl, HB5, HO5, HLv0, HF5, hid (by omega), HG5⟩
 case round =>
  clear HB5 HO5 HLv0 HF5 HG5
  obtain ⟨i, l, nx, fs, a, n, c, rfl, hi, HLn, HB, HK, HLv, HF, HNx, HG⟩ := hrel
  have HF0 : Hid (0 < fs.length) := hid (by obtain ⟨gs, g, e, _⟩ := HLv.out.last; rw [e]; simp)
  obtain ⟨g, fc, hve, hgC, hgl, hrg⟩ := HF.out.open HF0.out
  obtain ⟨m, hm⟩ : ∃ x, fs.length = x := ⟨_, rfl⟩
  rw [hm] at hve
  rw [hve] at HF ⊢
  have HM := hid hm
  have hm2 : m ≤ 202 := by have := HLv.out.nx_eq; have := HNx.out; omega
  have hm1 : 1 ≤ m := by have := HF0.out; omega
  have HRg : Hid (∀ u, wr.grownBy u none → ∀ j (hj : j < fs.length), u.rangeAt g (j * 35) (fs[j].cells (1 + j))) := hid (fun u hu j hj => range_at hu hgl (by simp) (hrg j hj))
  have HGl := hid hgl
  clear hve hm hrg hgl hgC
  have HStd : Hid (∀ u, wr.grownBy u none → Calls Try.prog 27 #[.agg #[.slice a n c, .int .u64 nx], .slice (some ⟨g, 0, none⟩) m fc] u fun e w' => e = .returned (.bool true) ∧ u.grownBy w' none) := fun u hu => by
   have h := stands_any u (.slice a n c) _ l nx fs g 0 fc (HK.out.keep hu).rd HLv.out (by have := HNx.out; omega) HF.out.1 (fun u' hu' j hj => by rw [Nat.zero_add]; exact HRg.out u' (gtrans hu hu') j hj)
   rw [HM.out] at h
   exact h
  by_cases hlt : i < tn ∧ i < 200
  ·
   obtain ⟨hlt1, hlt2⟩ := hlt
   have i1 : (i : Int) < (tn : Int) := by omega
   have i2 : (i : Int) < 200 := by omega
   clear HStd
   obtain ⟨cn, HCn⟩ : ∃ f : Nat → Nat, Hid (∀ i, (fs.take i).countP (fun f => !f.gone) = f i) := ⟨_, hid (fun _ => rfl)⟩
   have HCs : Hid (∀ (i : Nat) (hi : i < fs.length), cn (i + 1) = cn i + (if fs[i].gone = true then 0 else 1)) := hid (fun i hi => by
    rw [← HCn.out, ← HCn.out, List.take_succ_eq_append_getElem hi, List.countP_append]
    congr 1
    cases h : fs[i].gone <;> simp [h])
   have HCe : Hid (cn m = fs.countP (fun f => !f.gone)) := hid (by rw [← HCn.out, ← HM.out, List.take_length])
   have HC0 : Hid (cn 0 = 0) := hid (by rw [← HCn.out]; rfl)
   have HCle : Hid (∀ i, cn i ≤ 999) := hid (fun i => by
    rw [← HCn.out]
    refine Nat.le_trans List.countP_le_length ?_
    rw [List.length_take]
    have := HM.out
    omega)
   clear HCn
   go_wp2_with fail
   go_loopw [7, 8] (fun cv kv w6 => ∃ k : Nat, kv = .int .i64 k ∧ cv = .int .i64 (cn k : Nat) ∧ k ≤ m ∧ Hid (wr.grownBy w6 none)) (fun _ kv _ => m - (intOf kv).toNat)
   case atStart => exact ⟨0, rfl, by rw [HC0.out]; rfl, Nat.zero_le _, hid (grefl _ _)⟩
   case round =>
    obtain ⟨k, rfl, rfl, hkm, HG6⟩ := hrel
    by_cases hkl : k < m
    ·
     have hkl' : (k : Int) < (m : Int) := by omega
     have hil : k < fs.length := by rw [HM.out]; exact hkl
     have hy := HRg.out _ HG6.out k hil 34 _ (Ft.c34 (HF.out.1 _ (List.getElem_mem hil)))
     have hcs := HCs.out k hil
     have hcl := HCle.out k
     obtain ⟨gn, HGn⟩ : ∃ x, Hid (fs[k].gone = x) := ⟨_, hid rfl⟩
     rw [HGn.out] at hy hcs
     obtain ⟨q, HQ⟩ : ∃ x, Hid (cn k = x) := ⟨_, hid rfl⟩
     rw [HQ.out] at hcs hcl ⊢
     have HCs2 := hid hcs
     clear hcs
     cases gn with
     | true =>
      go_wp2_with fail
      go_roundw
      case rel => exact ⟨k + 1, by go_num, by rw [HCs2.out]; rfl, by omega, HG6⟩
      case measure => simp [intOf]; omega
     | false =>
      go_wp2_with fail
      go_roundw
      case rel => exact ⟨k + 1, by go_num, by rw [HCs2.out]; go_num, by omega, HG6⟩
      case measure => simp [intOf]; omega
    ·
     have hkl' : ¬ (k : Int) < (m : Int) := by omega
     obtain rfl : k = m := by omega
     have hcl := HCle.out k
     have HQ : Hid (fs.countP (fun f => !f.gone) = cn k) := hid HCe.out.symm
     obtain ⟨q, hq⟩ : ∃ x, cn k = x := ⟨_, rfl⟩
     rw [hq] at HQ hcl ⊢
     have HG7 := hid (gtrans HG.out HG6.out)
     obtain ⟨rfl, htb⟩ := (HT.out _ HG7.out).1 (by omega)
     have HTc : Hid (∀ u, w.grownBy u none → u.cell? ⟨tb, to + i * 35, none⟩ = some (.int .i64 (T i).act) ∧ u.cell? ⟨tb, to + i * 35 + 33, none⟩ = some (.int .i64 (T i).at_) ∧ u.cell? ⟨tb, to + i * 35 + 34, none⟩ = some (.int .u64 (T i).kid) ∧ u.rangeAt tb (to + i * 35 + 1) (Lib.byteCells (T i).sec)) := hid (fun u hu => by
      obtain ⟨hr, hok⟩ := (HT.out u hu).2 i hlt1
      exact ⟨hr 0 _ rfl, hr 33 _ (Tn.c33 hok.1), hr 34 _ (Tn.c34 hok.1), Tn.sec_at hr⟩)
     have HOk := hid ((HT.out _ HG7.out).2 i hlt1).2
     obtain ⟨⟨act, S, At, kid⟩, HTi⟩ : ∃ x, Hid (T i = x) := ⟨_, hid rfl⟩
     rw [HTi.out] at HTc HOk
     have HB6 := hid (HB.out.keep HG6.out)
     have HK6 := hid (HK.out.keep HG6.out)
     have HF6 := hid (HF.out.keep HG6.out)
     clear HB HK HF hq HCe HC0 HCle HCs htb HG HTi HT
     obtain ⟨y0, y33, y34, hrs⟩ := HTc.out _ HG7.out
     replace hrs := hid hrs
     clear hrs
     by_cases h2 : act = 2
     ·
      subst h2
      go_wp2_with fail
      obtain ⟨E, HE⟩ : ∃ x, Hid (disE l nx kid = x) := ⟨_, hid rfl⟩
      obtain ⟨LX, HLX⟩ : ∃ x, Hid ((disR l nx kid S).1 = x) := ⟨_, hid rfl⟩
      obtain ⟨NX, HNX⟩ : ∃ x, Hid ((disR l nx kid S).2 = x) := ⟨_, hid rfl⟩
      obtain ⟨NL, HNL⟩ : ∃ x, Hid (LX.length = x) := ⟨_, hid rfl⟩
      obtain ⟨ts, HTS⟩ : ∃ x, Hid (Lib.byteCells S = x) := ⟨_, hid rfl⟩
      have HTL : Hid (ts.length = 32) := hid (by rw [← HTS.out, byteCells_length]; exact HOk.out.1)
      have HL1 : Hid (l.length ≤ 1099511627776) := hid (by have := (goodL_pos (isRing_good HLv.out.ring).1).2; omega)
      have HRo : Hid (∀ u, wr.grownBy u none → Calls Try.prog 16 #[Value.agg #[.slice a n c, .int .u64 nx], .int .u64 kid, .agg ts.toArray] u fun e w' => ∃ v, e = .returned v ∧ u.grownBy w' none ∧ ∃ aa cc, v = Value.tuple #[Value.agg #[Value.slice aa NL cc, Value.int .u64 (NX : Nat)], Value.int .i64 E] ∧ OutK w.heap.size w' (Value.slice aa NL cc) LX) := fun u hu => by
       have h := distrust_any u _ _ l nx kid S (HK6.out.keep hu).rd HL1.out HOk.out.1
       rw [HE.out, HLX.out, HNX.out, HNL.out, HTS.out] at h
       refine h.mono ?_
       rintro e w' ⟨aa, cc, he, ho, hg⟩
       exact ⟨_, he, hg, aa, cc, rfl, ho.below (gtrans HG7.out hu).size⟩
      have HTw := hid (fun u (hu : wr.grownBy u none) => HTc.out u (gtrans HG7.out hu))
      simp only [HTS.out] at HTw
      obtain ⟨HH, HHs⟩ : ∃ x, Hid (wr.heap.size = x) := ⟨_, hid rfl⟩
      clear y0 y33 y34

      have HNu : Hid (∀ u : World, Calls Try.prog 22 #[.int .i64 E] u fun r w' => r = .returned (.int .i64 E) ∧ w' = u) := fun u => num_any E u
      refine wp_region_late (by kernel_rfl) [fun v _ => v = (Value.agg [Value.slice a n c, Value.int .u64 nx].toArray), fun v _ => v = (Value.slice (some ⟨tb, to, none⟩) tn tc), fun v _ => v = (Value.int .i64 (i : Nat)), fun v _ => v = (Value.pointer (some ⟨tb, to + i * 35, none⟩)), fun v _ => v = (Value.pointer (some ⟨tb, to + i * 35 + 34, none⟩)), fun v _ => v = (Value.int .u64 (kid : Nat)), fun v _ => v = (Value.slice (some ⟨tb, to, none⟩) tn tc), fun v _ => v = (Value.int .i64 (i : Nat)), fun v _ => v = (Value.pointer (some ⟨tb, to + i * 35, none⟩)), fun v _ => v = (Value.pointer (some ⟨tb, to + i * 35 + 1, none⟩)), fun v _ => v = (Value.agg ts.toArray), fun v u => ∃ aa cc, v = Value.tuple #[Value.agg #[Value.slice aa NL cc, Value.int .u64 (NX : Nat)], Value.int .i64 E] ∧ OutK w.heap.size u (Value.slice aa NL cc) LX, fun v u => ∃ aa cc, v = Value.tuple #[Value.agg #[Value.slice aa NL cc, Value.int .u64 (NX : Nat)], Value.int .i64 E] ∧ OutK w.heap.size u (Value.slice aa NL cc) LX, fun v u => ∃ aa cc, v = Value.agg #[Value.slice aa NL cc, Value.int .u64 (NX : Nat)] ∧ OutK w.heap.size u (Value.slice aa NL cc) LX, fun v _ => v = (Value.int .i64 E), fun v u => ∃ bb, v = Value.pointer (some ⟨bb, 0, none⟩) ∧ Blk u bb [Value.slice none 0 0, Value.int .u64 0] 69 ∧ HH ≤ bb] (none) (fun _ => none) 16 14 (by kernel_rfl) (by kernel_rfl) (by kernel_rfl) (by kernel_rfl) (by kernel_rfl) (by decide) (by decide) _ _ rfl rfl noRow_one (fun _ => .inl rfl) ⟨fun i v u u' hki h hg => h, fun i v u u' hki h hg => h, fun i v u u' hki h hg => h, fun i v u u' hki h hg => h, fun i v u u' hki h hg => h, fun i v u u' hki h hg => h, fun i v u u' hki h hg => h, fun i v u u' hki h hg => h, fun i v u u' hki h hg => h, fun i v u u' hki h hg => h, fun i v u u' hki h hg => h, fun i v u u' hki h hg => (by obtain ⟨aa, cc, e, ho⟩ := h; exact ⟨aa, cc, e, ho.keep hg⟩), fun i v u u' hki h hg => (by obtain ⟨aa, cc, e, ho⟩ := h; exact ⟨aa, cc, e, ho.keep hg⟩), fun i v u u' hki h hg => (by obtain ⟨aa, cc, e, ho⟩ := h; exact ⟨aa, cc, e, ho.keep hg⟩), fun i v u u' hki h hg => h, fun i v u u' hki h hg => (by obtain ⟨bb, e, hb, hl⟩ := h; exact ⟨bb, e, hb.keep hg, hl⟩), trivial⟩ ⟨?_, ?_, ?_, ?_, ?_, ?_, ?_, ?_, ?_, ?_, ?_, ?_, ?_, ?_, ?_, ?_, trivial⟩ ?_ ?_
      ·
       intro A u hu hpu hsz hout hdeps
       have e4 : A.eval (.tmp 4) = (.pointer (some ⟨p4, 0, none⟩)) := (hout 4 (by kernel_rfl)).trans rfl
       refine ifw_none rfl ?_
       with_reducible refine shown_q (Value.agg [Value.slice a n c, Value.int .u64 nx].toArray) ?qq_2d_0 (fun _ _ => ?qr_2d_0)
       case qr_2d_0 => exact (rfl : (Value.agg [Value.slice a n c, Value.int .u64 nx].toArray) = (Value.agg [Value.slice a n c, Value.int .u64 nx].toArray))
       with_reducible refine quietAt_load 69 (.tmp 4) ?h0_2d_0 p4 0 [Value.slice a n c, Value.int .u64 nx] (.struct (Try.prog.fieldsOf 69)) ?h1_2d_0 ?h2_2d_0 ?h3_2d_0 ?h4_2d_0 ?h5_2d_0
       case h0_2d_0 => rfl
       case h1_2d_0 => exact e4
       case h2_2d_0 => exact (HB6.out.keep hu).whole
       case h3_2d_0 => exact Try.under69
       case h4_2d_0 => rfl
       case h5_2d_0 => exact Try.size69
      ·
       intro A u hu hpu hsz hout hdeps
       have e3 : A.eval (.tmp 3) = (.slice (some ⟨tb, to, none⟩) tn tc) := (hout 3 (by kernel_rfl)).trans rfl
       refine ifw_none rfl ?_
       with_reducible refine shown_q (Value.slice (some ⟨tb, to, none⟩) tn tc) ?qq_2d_1 (fun _ _ => ?qr_2d_1)
       case qr_2d_1 => exact (rfl : (Value.slice (some ⟨tb, to, none⟩) tn tc) = (Value.slice (some ⟨tb, to, none⟩) tn tc))
       with_reducible refine quietAt_mv (.tmp 3) (Value.slice (some ⟨tb, to, none⟩) tn tc) ?h0_2d_1 ?h1_2d_1
       case h0_2d_1 => rfl
       case h1_2d_1 => exact e3
      ·
       intro A u hu hpu hsz hout hdeps
       have e6 : A.eval (.tmp 6) = (.int .i64 (i : Nat)) := (hout 6 (by kernel_rfl)).trans rfl
       refine ifw_none rfl ?_
       with_reducible refine shown_q (Value.int .i64 (i : Nat)) ?qq_2d_2 (fun _ _ => ?qr_2d_2)
       case qr_2d_2 => exact (rfl : (Value.int .i64 (i : Nat)) = (Value.int .i64 (i : Nat)))
       with_reducible refine quietAt_mv (.tmp 6) (Value.int .i64 (i : Nat)) ?h0_2d_2 ?h1_2d_2
       case h0_2d_2 => rfl
       case h1_2d_2 => exact e6
      ·
       intro A u hu hpu hsz hout hdeps
       have e58 : A.eval (.tmp 58) = (.slice (some ⟨tb, to, none⟩) tn tc) := by have h := depL hdeps 1 (by kernel_rfl) 58 (by kernel_rfl); exact h
       have e59 : A.eval (.tmp 59) = (.int .i64 (i : Nat)) := by have h := depL hdeps 2 (by kernel_rfl) 59 (by kernel_rfl); exact h
       refine ifw_none rfl ?_
       with_reducible refine shown_q (Value.pointer (some ⟨tb, to + i * 35, none⟩)) ?qq_2d_3 (fun _ _ => ?qr_2d_3)
       case qr_2d_3 => exact (rfl : (Value.pointer (some ⟨tb, to + i * 35, none⟩)) = (Value.pointer (some ⟨tb, to + i * 35, none⟩)))
       with_reducible refine quietAt_idx 92 (.tmp 58) (.tmp 59) (Value.slice (some ⟨tb, to, none⟩) tn tc) (Value.int .i64 (i : Nat)) (Value.pointer (some ⟨tb, to + i * 35, none⟩)) ?h0_2d_3 ?h1_2d_3 ?h2_2d_3 ?h3_2d_3
       case h0_2d_3 => rfl
       case h1_2d_3 => exact e58
       case h2_2d_3 => exact e59
       case h3_2d_3 => exact idx92 tb to tn tc i hlt1 u
      ·
       intro A u hu hpu hsz hout hdeps
       have e60 : A.eval (.tmp 60) = (.pointer (some ⟨tb, to + i * 35, none⟩)) := by have h := depL hdeps 3 (by kernel_rfl) 60 (by kernel_rfl); exact h
       refine ifw_none rfl ?_
       with_reducible refine shown_q (Value.pointer (some ⟨tb, to + i * 35 + 34, none⟩)) ?qq_2d_4 (fun _ _ => ?qr_2d_4)
       case qr_2d_4 => exact (rfl : (Value.pointer (some ⟨tb, to + i * 35 + 34, none⟩)) = (Value.pointer (some ⟨tb, to + i * 35 + 34, none⟩)))
       with_reducible refine quietAt_field 99 (.tmp 60) 3 ?h0_2d_4 ⟨tb, to + i * 35, none⟩ ⟨tb, to + i * 35 + 34, none⟩ ?h1_2d_4 ?h2_2d_4
       case h0_2d_4 => rfl
       case h1_2d_4 => exact e60
       case h2_2d_4 => kernel_rfl
      ·
       intro A u hu hpu hsz hout hdeps
       have e61 : A.eval (.tmp 61) = (.pointer (some ⟨tb, to + i * 35 + 34, none⟩)) := by have h := depL hdeps 4 (by kernel_rfl) 61 (by kernel_rfl); exact h
       refine ifw_none rfl ?_
       with_reducible refine shown_q (Value.int .u64 (kid : Nat)) ?qq_2d_5 (fun _ _ => ?qr_2d_5)
       case qr_2d_5 => exact (rfl : (Value.int .u64 (kid : Nat)) = (Value.int .u64 (kid : Nat)))
       with_reducible refine quietAt_ld 67 (.tmp 61) (Value.pointer (some ⟨tb, to + i * 35 + 34, none⟩)) (Value.int .u64 (kid : Nat)) ?h0_2d_5 ?h1_2d_5 ?h2_2d_5
       case h0_2d_5 => rfl
       case h1_2d_5 => exact e61
       case h2_2d_5 => exact ld67 tb (to + i * 35 + 34) kid u (HTw.out u hu).2.2.1
      ·
       intro A u hu hpu hsz hout hdeps
       have e3 : A.eval (.tmp 3) = (.slice (some ⟨tb, to, none⟩) tn tc) := (hout 3 (by kernel_rfl)).trans rfl
       refine ifw_none rfl ?_
       with_reducible refine shown_q (Value.slice (some ⟨tb, to, none⟩) tn tc) ?qq_2d_6 (fun _ _ => ?qr_2d_6)
       case qr_2d_6 => exact (rfl : (Value.slice (some ⟨tb, to, none⟩) tn tc) = (Value.slice (some ⟨tb, to, none⟩) tn tc))
       with_reducible refine quietAt_mv (.tmp 3) (Value.slice (some ⟨tb, to, none⟩) tn tc) ?h0_2d_6 ?h1_2d_6
       case h0_2d_6 => rfl
       case h1_2d_6 => exact e3
      ·
       intro A u hu hpu hsz hout hdeps
       have e6 : A.eval (.tmp 6) = (.int .i64 (i : Nat)) := (hout 6 (by kernel_rfl)).trans rfl
       refine ifw_none rfl ?_
       with_reducible refine shown_q (Value.int .i64 (i : Nat)) ?qq_2d_7 (fun _ _ => ?qr_2d_7)
       case qr_2d_7 => exact (rfl : (Value.int .i64 (i : Nat)) = (Value.int .i64 (i : Nat)))
       with_reducible refine quietAt_mv (.tmp 6) (Value.int .i64 (i : Nat)) ?h0_2d_7 ?h1_2d_7
       case h0_2d_7 => rfl
       case h1_2d_7 => exact e6
      ·
       intro A u hu hpu hsz hout hdeps
       have e63 : A.eval (.tmp 63) = (.slice (some ⟨tb, to, none⟩) tn tc) := by have h := depL hdeps 6 (by kernel_rfl) 63 (by kernel_rfl); exact h
       have e64 : A.eval (.tmp 64) = (.int .i64 (i : Nat)) := by have h := depL hdeps 7 (by kernel_rfl) 64 (by kernel_rfl); exact h
       refine ifw_none rfl ?_
       with_reducible refine shown_q (Value.pointer (some ⟨tb, to + i * 35, none⟩)) ?qq_2d_8 (fun _ _ => ?qr_2d_8)
       case qr_2d_8 => exact (rfl : (Value.pointer (some ⟨tb, to + i * 35, none⟩)) = (Value.pointer (some ⟨tb, to + i * 35, none⟩)))
       with_reducible refine quietAt_idx 92 (.tmp 63) (.tmp 64) (Value.slice (some ⟨tb, to, none⟩) tn tc) (Value.int .i64 (i : Nat)) (Value.pointer (some ⟨tb, to + i * 35, none⟩)) ?h0_2d_8 ?h1_2d_8 ?h2_2d_8 ?h3_2d_8
       case h0_2d_8 => rfl
       case h1_2d_8 => exact e63
       case h2_2d_8 => exact e64
       case h3_2d_8 => exact idx92 tb to tn tc i hlt1 u
      ·
       intro A u hu hpu hsz hout hdeps
       have e65 : A.eval (.tmp 65) = (.pointer (some ⟨tb, to + i * 35, none⟩)) := by have h := depL hdeps 8 (by kernel_rfl) 65 (by kernel_rfl); exact h
       refine ifw_none rfl ?_
       with_reducible refine shown_q (Value.pointer (some ⟨tb, to + i * 35 + 1, none⟩)) ?qq_2d_9 (fun _ _ => ?qr_2d_9)
       case qr_2d_9 => exact (rfl : (Value.pointer (some ⟨tb, to + i * 35 + 1, none⟩)) = (Value.pointer (some ⟨tb, to + i * 35 + 1, none⟩)))
       with_reducible refine quietAt_field 99 (.tmp 65) 1 ?h0_2d_9 ⟨tb, to + i * 35, none⟩ ⟨tb, to + i * 35 + 1, none⟩ ?h1_2d_9 ?h2_2d_9
       case h0_2d_9 => rfl
       case h1_2d_9 => exact e65
       case h2_2d_9 => kernel_rfl
      ·
       intro A u hu hpu hsz hout hdeps
       have e66 : A.eval (.tmp 66) = (.pointer (some ⟨tb, to + i * 35 + 1, none⟩)) := by have h := depL hdeps 9 (by kernel_rfl) 66 (by kernel_rfl); exact h
       refine ifw_none rfl ?_
       with_reducible refine shown_q (Value.agg ts.toArray) ?qq_2d_10 (fun _ _ => ?qr_2d_10)
       case qr_2d_10 => exact (rfl : (Value.agg ts.toArray) = (Value.agg ts.toArray))
       with_reducible refine quietAt_load 70 (.tmp 66) ?h0_2d_10 tb (to + i * 35 + 1) ts (.array 32 5) ?h1_2d_10 ?h2_2d_10 ?h3_2d_10 ?h4_2d_10 ?h5_2d_10
       case h0_2d_10 => rfl
       case h1_2d_10 => exact e66
       case h2_2d_10 => exact (HTw.out u hu).2.2.2
       case h3_2d_10 => exact Try.underlying70
       case h4_2d_10 => rfl
       case h5_2d_10 => exact (by rw [HTL.out]; exact Try.size70)
      ·
       intro A u hu hpu hsz hout hdeps
       have e57 : A.eval (.tmp 57) = (.agg [.slice a n c, .int .u64 nx].toArray) := by have h := depL hdeps 0 (by kernel_rfl) 57 (by kernel_rfl); exact h
       have e62 : A.eval (.tmp 62) = (.int .u64 (kid : Nat)) := by have h := depL hdeps 5 (by kernel_rfl) 62 (by kernel_rfl); exact h
       have e67 : A.eval (.tmp 67) = (.agg ts.toArray) := by have h := depL hdeps 10 (by kernel_rfl) 67 (by kernel_rfl); exact h
       refine ifw_none rfl ?_
       with_reducible refine shown_call 16 Try.f16 ?h0_2d_11 ?h1_2d_11 ?h2_2d_11 #[.tmp 57, .tmp 62, .tmp 67] #[69, 67, 70] ?h3_2d_11 #[(Value.agg [Value.slice a n c, Value.int .u64 nx].toArray), (Value.int .u64 (kid : Nat)), (Value.agg ts.toArray)] ?h4_2d_11 ?h5_2d_11
       case h0_2d_11 => exact Try.func16
       case h1_2d_11 => kernel_rfl
       case h2_2d_11 => kernel_rfl
       case h3_2d_11 => rfl
       case h4_2d_11 => exact map3 _ _ _ _ _ _ _ e57 e62 e67
       case h5_2d_11 => exact HRo.out u hu
      ·
       intro A u hu hpu hsz hout hdeps
       have f68 : (fun v u => ∃ aa cc, v = Value.tuple #[Value.agg #[Value.slice aa NL cc, Value.int .u64 (NX : Nat)], Value.int .i64 E] ∧ OutK w.heap.size u (Value.slice aa NL cc) LX) (A.eval (.tmp 68)) u := by have h := depL hdeps 11 (by kernel_rfl) 68 (by kernel_rfl); exact h
       obtain ⟨a3, c3, e68, o3⟩ := f68
       refine ifw_none rfl ?_
       exact shown_q _ (quietAt_mv (.tmp 68) _ rfl e68) (fun u' hg => ⟨a3, c3, rfl, o3.keep hg⟩)
      ·
       intro A u hu hpu hsz hout hdeps
       have f56 : (fun v u => ∃ aa cc, v = Value.tuple #[Value.agg #[Value.slice aa NL cc, Value.int .u64 (NX : Nat)], Value.int .i64 E] ∧ OutK w.heap.size u (Value.slice aa NL cc) LX) (A.eval (.tmp 56)) u := by have h := depL hdeps 12 (by kernel_rfl) 56 (by kernel_rfl); exact h
       obtain ⟨a3, c3, e56, o3⟩ := f56
       refine ifw_none rfl ?_
       exact shown_q _ (quietAt_ex (.tmp 56) 0 rfl _ _ e56 rfl) (fun u' hg => ⟨a3, c3, rfl, o3.keep hg⟩)
      ·
       intro A u hu hpu hsz hout hdeps
       have f56 : (fun v u => ∃ aa cc, v = Value.tuple #[Value.agg #[Value.slice aa NL cc, Value.int .u64 (NX : Nat)], Value.int .i64 E] ∧ OutK w.heap.size u (Value.slice aa NL cc) LX) (A.eval (.tmp 56)) u := by have h := depL hdeps 12 (by kernel_rfl) 56 (by kernel_rfl); exact h
       obtain ⟨a3, c3, e56, o3⟩ := f56
       refine ifw_none rfl ?_
       with_reducible refine shown_q (Value.int .i64 E) ?qq_2d_14 (fun _ _ => ?qr_2d_14)
       case qr_2d_14 => exact (rfl : (Value.int .i64 E) = (Value.int .i64 E))
       with_reducible refine quietAt_ex (.tmp 56) 1 ?h0_2d_14 #[Value.agg #[Value.slice a3 NL c3, Value.int .u64 (NX : Nat)], Value.int .i64 E] (Value.int .i64 E) ?h1_2d_14 ?h2_2d_14
       case h0_2d_14 => rfl
       case h1_2d_14 => exact e56
       case h2_2d_14 => rfl
      ·
       intro A u hu hpu hsz hout hdeps
       refine ifw_none rfl ?_
       exact shown_alloc 69 rfl [.slice none 0 0, .int .u64 0] Try.zero69 (fun w' h _ => ⟨u.heap.size, rfl, h, by have := hu.size; have := HHs.out; omega⟩)
      ·
       intro A u7 listed hh hall
       have hA := hh.frame
       have HU := hid hh.grown
       obtain ⟨x57, hx57⟩ : ∃ x, A.eval (.tmp 57) = x := ⟨_, rfl⟩
       have f57 : (fun v _ => v = (Value.agg [Value.slice a n c, Value.int .u64 nx].toArray)) x57 u7 := by rw [← hx57]; exact hh.got 0 _ 57 rfl rfl (hall 0 (by decide))
       obtain ⟨x58, hx58⟩ : ∃ x, A.eval (.tmp 58) = x := ⟨_, rfl⟩
       have f58 : (fun v _ => v = (Value.slice (some ⟨tb, to, none⟩) tn tc)) x58 u7 := by rw [← hx58]; exact hh.got 1 _ 58 rfl rfl (hall 1 (by decide))
       obtain ⟨x59, hx59⟩ : ∃ x, A.eval (.tmp 59) = x := ⟨_, rfl⟩
       have f59 : (fun v _ => v = (Value.int .i64 (i : Nat))) x59 u7 := by rw [← hx59]; exact hh.got 2 _ 59 rfl rfl (hall 2 (by decide))
       obtain ⟨x60, hx60⟩ : ∃ x, A.eval (.tmp 60) = x := ⟨_, rfl⟩
       have f60 : (fun v _ => v = (Value.pointer (some ⟨tb, to + i * 35, none⟩))) x60 u7 := by rw [← hx60]; exact hh.got 3 _ 60 rfl rfl (hall 3 (by decide))
       obtain ⟨x61, hx61⟩ : ∃ x, A.eval (.tmp 61) = x := ⟨_, rfl⟩
       have f61 : (fun v _ => v = (Value.pointer (some ⟨tb, to + i * 35 + 34, none⟩))) x61 u7 := by rw [← hx61]; exact hh.got 4 _ 61 rfl rfl (hall 4 (by decide))
       obtain ⟨x62, hx62⟩ : ∃ x, A.eval (.tmp 62) = x := ⟨_, rfl⟩
       have f62 : (fun v _ => v = (Value.int .u64 (kid : Nat))) x62 u7 := by rw [← hx62]; exact hh.got 5 _ 62 rfl rfl (hall 5 (by decide))
       obtain ⟨x63, hx63⟩ : ∃ x, A.eval (.tmp 63) = x := ⟨_, rfl⟩
       have f63 : (fun v _ => v = (Value.slice (some ⟨tb, to, none⟩) tn tc)) x63 u7 := by rw [← hx63]; exact hh.got 6 _ 63 rfl rfl (hall 6 (by decide))
       obtain ⟨x64, hx64⟩ : ∃ x, A.eval (.tmp 64) = x := ⟨_, rfl⟩
       have f64 : (fun v _ => v = (Value.int .i64 (i : Nat))) x64 u7 := by rw [← hx64]; exact hh.got 7 _ 64 rfl rfl (hall 7 (by decide))
       obtain ⟨x65, hx65⟩ : ∃ x, A.eval (.tmp 65) = x := ⟨_, rfl⟩
       have f65 : (fun v _ => v = (Value.pointer (some ⟨tb, to + i * 35, none⟩))) x65 u7 := by rw [← hx65]; exact hh.got 8 _ 65 rfl rfl (hall 8 (by decide))
       obtain ⟨x66, hx66⟩ : ∃ x, A.eval (.tmp 66) = x := ⟨_, rfl⟩
       have f66 : (fun v _ => v = (Value.pointer (some ⟨tb, to + i * 35 + 1, none⟩))) x66 u7 := by rw [← hx66]; exact hh.got 9 _ 66 rfl rfl (hall 9 (by decide))
       obtain ⟨x67, hx67⟩ : ∃ x, A.eval (.tmp 67) = x := ⟨_, rfl⟩
       have f67 : (fun v _ => v = (Value.agg ts.toArray)) x67 u7 := by rw [← hx67]; exact hh.got 10 _ 67 rfl rfl (hall 10 (by decide))
       obtain ⟨x68, hx68⟩ : ∃ x, A.eval (.tmp 68) = x := ⟨_, rfl⟩
       have f68 : (fun v u => ∃ aa cc, v = Value.tuple #[Value.agg #[Value.slice aa NL cc, Value.int .u64 (NX : Nat)], Value.int .i64 E] ∧ OutK w.heap.size u (Value.slice aa NL cc) LX) x68 u7 := by rw [← hx68]; exact hh.got 11 _ 68 rfl rfl (hall 11 (by decide))
       obtain ⟨x56, hx56⟩ : ∃ x, A.eval (.tmp 56) = x := ⟨_, rfl⟩
       have f56 : (fun v u => ∃ aa cc, v = Value.tuple #[Value.agg #[Value.slice aa NL cc, Value.int .u64 (NX : Nat)], Value.int .i64 E] ∧ OutK w.heap.size u (Value.slice aa NL cc) LX) x56 u7 := by rw [← hx56]; exact hh.got 12 _ 56 rfl rfl (hall 12 (by decide))
       obtain ⟨x69, hx69⟩ : ∃ x, A.eval (.tmp 69) = x := ⟨_, rfl⟩
       have f69 : (fun v u => ∃ aa cc, v = Value.agg #[Value.slice aa NL cc, Value.int .u64 (NX : Nat)] ∧ OutK w.heap.size u (Value.slice aa NL cc) LX) x69 u7 := by rw [← hx69]; exact hh.got 13 _ 69 rfl rfl (hall 13 (by decide))
       obtain ⟨x70, hx70⟩ : ∃ x, A.eval (.tmp 70) = x := ⟨_, rfl⟩
       have f70 : (fun v _ => v = (Value.int .i64 E)) x70 u7 := by rw [← hx70]; exact hh.got 14 _ 70 rfl rfl (hall 14 (by decide))
       obtain ⟨x9, hx9⟩ : ∃ x, A.eval (.tmp 9) = x := ⟨_, rfl⟩
       have f9 : (fun v u => ∃ bb, v = Value.pointer (some ⟨bb, 0, none⟩) ∧ Blk u bb [Value.slice none 0 0, Value.int .u64 0] 69 ∧ HH ≤ bb) x9 u7 := by rw [← hx9]; exact hh.got 15 _ 9 rfl rfl (hall 15 (by decide))
       obtain ⟨x10, hx10⟩ : ∃ x, A.eval (.tmp 10) = x := ⟨_, rfl⟩
       dsimp only [wrote, List.foldl] at hA
       rw [hx57, hx58, hx59, hx60, hx61, hx62, hx63, hx64, hx65, hx66, hx67, hx68, hx56, hx69, hx70, hx9, hx10] at hA
       clear hh hall hx57 hx58 hx59 hx60 hx61 hx62 hx63 hx64 hx65 hx66 hx67 hx68 hx56 hx69 hx70 hx9 hx10
       replace f57 := (f57 : x57 = (.agg [.slice a n c, .int .u64 nx].toArray))
       subst f57
       replace f58 := (f58 : x58 = (.slice (some ⟨tb, to, none⟩) tn tc))
       subst f58
       replace f59 := (f59 : x59 = (.int .i64 (i : Nat)))
       subst f59
       replace f60 := (f60 : x60 = (.pointer (some ⟨tb, to + i * 35, none⟩)))
       subst f60
       replace f61 := (f61 : x61 = (.pointer (some ⟨tb, to + i * 35 + 34, none⟩)))
       subst f61
       replace f62 := (f62 : x62 = (.int .u64 (kid : Nat)))
       subst f62
       replace f63 := (f63 : x63 = (.slice (some ⟨tb, to, none⟩) tn tc))
       subst f63
       replace f64 := (f64 : x64 = (.int .i64 (i : Nat)))
       subst f64
       replace f65 := (f65 : x65 = (.pointer (some ⟨tb, to + i * 35, none⟩)))
       subst f65
       replace f66 := (f66 : x66 = (.pointer (some ⟨tb, to + i * 35 + 1, none⟩)))
       subst f66
       replace f67 := (f67 : x67 = (.agg ts.toArray))
       subst f67
       obtain ⟨a3, c3, e68, o3⟩ := f68
       subst e68
       obtain ⟨a3, c3, e56, o3⟩ := f56
       subst e56
       obtain ⟨a3, c3, e69, o3⟩ := f69
       subst e69
       replace f70 := (f70 : x70 = (.int .i64 E))
       subst f70
       obtain ⟨b7, e9, hb7b, hb7l⟩ := f9
       subst e9
       subst hA
       show wpList _ _ _ [_, _] _ _
       simp only [Act.put, List.setIfInBounds_toArray, List.set_cons_succ, List.set_cons_zero]
       by_cases hex : ∃ j f, fs[j]? = some f ∧ f.gone = false ∧ kid = j + 1
       ·
        as_aux_lemma =>
        obtain ⟨j, f, hj, hgn, hkid⟩ := hex
        have hjk : j < k := by rw [← HM.out]; exact (List.getElem?_eq_some_iff.1 hj).1
        obtain rfl : E = 0 := by rw [← HE.out, hkid]; exact (HLv.out.distrust (by have := HNx.out; omega) hj hgn S).1
        have HJ := hid hj
        have HGn := hid hgn
        have HLd : Hid (Lv LX NX (if j + 1 = fs.length then fs.set j ⟨f.sec, f.til, true⟩ ++ [⟨S, 0, false⟩] else fs.set j ⟨f.sec, f.til, true⟩)) := hid (by
         have h := (HLv.out.distrust (by have := HNx.out; omega) hj hgn S).2
         have e1 := HLX.out
         have e2 := HNX.out
         rw [hkid] at e1 e2
         rw [e1, e2] at h
         exact h)
        have hm9 : (kid : Int) % 1000 = (j : Int) + 1 := by omega
        have hm8 : (kid : Int).tmod 1000 = (j : Int) + 1 := by rw [Int.tmod_eq_emod_of_nonneg (by omega)]; exact hm9
        have hk9 : (kid : Int) < 1000 := by omega
        have hj0 : (0 : Int) ≤ (j : Int) := by omega
        have hj1 : (j : Int) < (k : Int) := by omega
        clear hj hgn hkid
        go_upto_region 15 with (first
         | ((with_reducible refine wpList_store_all (by with_unfolding_all rfl) 69 _ _ (by with_unfolding_all rfl) _ [.slice none 0 0, .int .u64 0] [.slice a3 NL c3, .int .u64 NX] 69 (by with_unfolding_all rfl) (by with_unfolding_all rfl) hb7b (by with_unfolding_all rfl) (by with_unfolding_all exact Try.size69) (ring_one _ _ _ _) ?_); intro w30 B30 g30 s30; have HB30 := hid B30; have HG30 := hid g30; have HS30 := hid s30; clear B30 g30 s30; have HGq := hid ((gtrans HG7.out HU.out).andThen HG30.out (fun j hj => .inl (by injection hj with hj; have := HHs.out; have := HG7.out.size; omega))); have HPq := hid ((HB6.out.keep HU.out).on HG30.out (by have := HHs.out; have := HB6.out.lt; simp; omega)); have HKq := hid ((HK6.out.keep HU.out).off HG30.out hb7b (by decide)); have HFq := hid ((HF6.out.keep HU.out).off HG30.out hb7b (by decide)); have HXq := hid (o3.off HG30.out hb7b (by decide)); have y33 := (HTc.out _ HGq.out).2.1; have y34 := (HTc.out _ HGq.out).2.2.1; have yb := HB30.out.cell 0; clear HG30 HS30 HU hb7b o3))

        obtain ⟨y5, y6, z5⟩ := OutF.c34 (fs := fs) (c := fc) (by rw [HM.out]; exact HFq.out) HJ.out
        rw [HGn.out] at y5
        obtain ⟨cs5, hk5, hC5⟩ := HFq.out.blk (g := g) rfl
        have HK5 := hid hk5
        have HC5 := hid hC5
        clear hk5 hC5
        go_upto_region 21 with (first
         | (go_at_call 22; (with_reducible refine (HNu.out _).mono ?_); rintro e w9 ⟨rfl, hw9⟩; have hw9' := hw9.symm; clear hw9; subst hw9'))
        obtain ⟨w35, hw35⟩ : ∃ x, w30.setCell ⟨g, j * 35 + 34, none⟩ (.bool true) = x := ⟨_, rfl⟩
        rw [hw35]
        have HG35 : Hid (w30.grownBy w35 (some g)) := hid (by rw [← hw35]; exact gset _ _ _)
        have HF35 : Hid (OutF w.heap.size w35 (.slice (some ⟨g, 0, none⟩) k fc) (fs.set j ⟨f.sec, f.til, true⟩)) := hid (by
         have h := OutF.gone (fs := fs) (c := fc) (by rw [HM.out]; exact HFq.out) j f true HJ.out
         rw [HM.out] at h
         rw [← hw35]
         exact h)
        have HX35 := hid (HXq.out.off HG35.out HK5.out (by decide))
        have HP35 := hid (HPq.out.on HG35.out (fun e => HK5.out.ne HPq.out (by decide) (Option.some.inj e)))
        have HB35 := hid (HB30.out.on HG35.out (fun e => HK5.out.ne HB30.out (by decide) (Option.some.inj e)))
        have HGw := hid (HGq.out.andThen HG35.out (fun j hj => .inl (by injection hj with hj; have := HC5.out; omega)))
        have HS32 : Hid (S.length = 32) := hid HOk.out.1
        clear y5 y6 z5 hw35 HG35 HK5 HC5 HB30 HPq HKq HXq HFq HGq yb y33 y34
        obtain ⟨y0, y33, y34, hrs⟩ := HTc.out _ HGw.out
        clear hrs
        by_cases hl : j + 1 = k
        ·
         subst hl
         have HLv2 : Hid (Lv LX NX (fs.set j ⟨f.sec, f.til, true⟩ ++ [(⟨S, 0, false⟩ : Ft)])) := hid (by
          have h := HLd.out
          rw [if_pos HM.out.symm] at h
          exact h)
         have HNX2 : Hid (NX ≤ i + 1 + 2) := hid (by
          have h1 := HLv.out.nx_eq
          have h2 := HLv2.out.nx_eq
          have := HNx.out
          simp only [List.length_append, List.length_cons, List.length_nil, List.length_set] at h1 h2
          omega)
         have HBu2 : Hid (Try.prog.built 96 [(0, .int .u64 ((j : Int) + 1 + 1)), (1, .agg ts.toArray)] = some ((Ft.mk S 0 false).cells (1 + (fs.set j ⟨f.sec, f.til, true⟩).length)).toArray) := hid (by
          rw [← HTS.out, List.length_set, HM.out, show (j : Int) + 1 + 1 = ((1 + (j + 1) : Nat) : Int) by omega]
          exact built_fate _ S HS32.out)
         have hr70 := hid (show w35.rangeAt tb (to + i * 35 + 1) ts by rw [← HTS.out]; exact (HTc.out _ HGw.out).2.2.2)
         go_upto_region 23 with (first
          | (with_reducible refine wpList_load_part (by with_unfolding_all rfl) 70 _ (by with_unfolding_all rfl) tb (to + i * 35 + 1) ts _ (by with_unfolding_all rfl) hr70.out Try.underlying70 (by with_unfolding_all rfl) (by rw [HTL.out]; exact Try.size70) ?_)
          | (with_reducible refine wpList_build_ofW (by with_unfolding_all rfl) 96 _ (by with_unfolding_all rfl) [(0, .int .u64 ((j : Int) + 1 + 1)), (1, .agg ts.toArray)] (by with_unfolding_all rfl) ((Ft.mk S 0 false).cells (1 + (fs.set j ⟨f.sec, f.til, true⟩).length)) HBu2.out ?_)
          | ((with_reducible refine wpList_slice_fate (by with_unfolding_all rfl) _ (by with_unfolding_all rfl) _ (Ft.mk S 0 false) HS32.out (by with_unfolding_all rfl) ?_); intro w36 B36 s36 g36; have HF36 := hid (HF35.out.keep g36); have HX36 := hid (HX35.out.keep g36); have HP36 := hid (HP35.out.keep g36); have HB36 := hid (HB35.out.keep g36); have HL36 := hid B36; have HG36 := hid (gtrans HGw.out g36); have HZ36 := hid (HF36.out.blk (g := g) rfl); clear B36 g36 s36)
          | (at_builtin; refine wpList_append_fate rfl _ _ rfl w.heap.size w35.heap.size (fs.set j ⟨f.sec, f.til, true⟩) (Ft.mk S 0 false) HS32.out HF36.out rfl HL36.out (by rw [List.length_set, HM.out]; omega) HG36.out.size ?_; intro v37 w37 hO37 hg37; replace hg37 : w36.grownBy w37 (some g) := hg37; obtain ⟨cs6, hk6, hC6⟩ := HZ36.out; have HF37 := hid hO37; have HX37 := hid (HX36.out.off hg37 hk6 (by decide)); have HP37 := hid (HP36.out.on hg37 (fun e => hk6.ne HP36.out (by decide) (Option.some.inj e))); have HB37 := hid (HB36.out.on hg37 (fun e => hk6.ne HB36.out (by decide) (Option.some.inj e))); have HG37 := hid (HG36.out.andThen hg37 (fun j hj => .inl (by injection hj with hj; omega))); clear hO37 hg37 hk6 hC6 cs6))
         clear HF36 HX36 HP36 HB36 HL36 HG36 HZ36 HF35 HX35 HP35 HB35 HGw hr70 HBu2
         go_upto_region 38 with (first
          | (with_reducible refine wpList_load_part (by with_unfolding_all rfl) 69 _ (by with_unfolding_all rfl) b7 0 [.slice a3 NL c3, .int .u64 NX] _ (by with_unfolding_all rfl) HB37.out.whole Try.underlying69 (by with_unfolding_all rfl) (by with_unfolding_all exact Try.size69) ?_)
          | ((with_reducible refine wpList_store_all (by with_unfolding_all rfl) 69 _ _ (by with_unfolding_all rfl) p4 [.slice a n c, .int .u64 nx] [.slice a3 NL c3, .int .u64 NX] 69 (by with_unfolding_all rfl) (by with_unfolding_all rfl) HP37.out (by with_unfolding_all rfl) (by with_unfolding_all exact Try.size69) (ring_one _ _ _ _) ?_); intro w38 B38 g38 s38; have HP38 := hid B38; have HX38 := hid (HX37.out.off g38 HP37.out (by decide)); have HF38 := hid (HF37.out.off g38 HP37.out (by decide)); have HG38 := hid (HG37.out.andThen g38 (fun j hj => .inl (by injection hj with hj; have := HN.out; omega))); clear B38 g38 s38))
         go_wp2_with (first
          | (with_reducible refine wpList_load_part (by with_unfolding_all rfl) 69 _ (by with_unfolding_all rfl) p4 0 [.slice a3 NL c3, .int .u64 NX] _ (by with_unfolding_all rfl) HP38.out.whole Try.underlying69 (by with_unfolding_all rfl) (by with_unfolding_all exact Try.size69) ?_)
          | (go_at_call 27; (with_reducible refine (stands_out (C := w.heap.size) _ _ _ LX NX (fs.set j ⟨f.sec, f.til, true⟩ ++ [(⟨S, 0, false⟩ : Ft)]) HX38.out HLv2.out (by have := HNX2.out; omega) HF38.out).mono ?_); rintro e q1 ⟨rfl, hgE⟩; have HGE := hid hgE; clear hgE))
         go_roundw
         case rel => exact ⟨i + 1, LX, NX, (fs.set j ⟨f.sec, f.til, true⟩ ++ [(⟨S, 0, false⟩ : Ft)]), a3, NL, c3, by go_num, by omega, HNL, hid (HP38.out.keep HGE.out), hid (HX38.out.keep HGE.out), HLv2, hid (HF38.out.keep HGE.out), hid (by have := HNX2.out; omega), hid (gtrans HG38.out HGE.out)⟩
         case measure => simp [intOf]; omega

        ·
         have hl1 : ¬ (j : Int) = (k : Int) - 1 := by omega
         have hl2 : ((j : Int) == (k : Int) - 1) = false := beq_eq_false_iff_ne.2 hl1
         have HLv2 : Hid (Lv LX NX (fs.set j ⟨f.sec, f.til, true⟩)) := hid (by
          have h := HLd.out
          rw [if_neg (by rw [HM.out]; exact hl)] at h
          exact h)
         have HNX2 : Hid (NX ≤ i + 1 + 2) := hid (by
          have h1 := HLv.out.nx_eq
          have h2 := HLv2.out.nx_eq
          have := HNx.out
          simp only [List.length_set] at h1 h2
          omega)
         go_upto_region 38 with (first
          | (with_reducible refine wpList_load_part (by with_unfolding_all rfl) 69 _ (by with_unfolding_all rfl) b7 0 [.slice a3 NL c3, .int .u64 NX] _ (by with_unfolding_all rfl) HB35.out.whole Try.underlying69 (by with_unfolding_all rfl) (by with_unfolding_all exact Try.size69) ?_)
          | ((with_reducible refine wpList_store_all (by with_unfolding_all rfl) 69 _ _ (by with_unfolding_all rfl) p4 [.slice a n c, .int .u64 nx] [.slice a3 NL c3, .int .u64 NX] 69 (by with_unfolding_all rfl) (by with_unfolding_all rfl) HP35.out (by with_unfolding_all rfl) (by with_unfolding_all exact Try.size69) (ring_one _ _ _ _) ?_); intro w38 B38 g38 s38; have HP38 := hid B38; have HX38 := hid (HX35.out.off g38 HP35.out (by decide)); have HF38 := hid (HF35.out.off g38 HP35.out (by decide)); have HG38 := hid (HGw.out.andThen g38 (fun j hj => .inl (by injection hj with hj; have := HN.out; omega))); clear B38 g38 s38))
         go_wp2_with (first
          | (with_reducible refine wpList_load_part (by with_unfolding_all rfl) 69 _ (by with_unfolding_all rfl) p4 0 [.slice a3 NL c3, .int .u64 NX] _ (by with_unfolding_all rfl) HP38.out.whole Try.underlying69 (by with_unfolding_all rfl) (by with_unfolding_all exact Try.size69) ?_)
          | (go_at_call 27; (with_reducible refine (stands_out (C := w.heap.size) _ _ _ LX NX (fs.set j ⟨f.sec, f.til, true⟩) HX38.out HLv2.out (by have := HNX2.out; omega) HF38.out).mono ?_); rintro e q1 ⟨rfl, hgE⟩; have HGE := hid hgE; clear hgE))
         go_roundw
         case rel => exact ⟨i + 1, LX, NX, (fs.set j ⟨f.sec, f.til, true⟩), a3, NL, c3, by go_num, by omega, HNL, hid (HP38.out.keep HGE.out), hid (HX38.out.keep HGE.out), HLv2, hid (HF38.out.keep HGE.out), hid (by have := HNX2.out; omega), hid (gtrans HG38.out HGE.out)⟩
         case measure => simp [intOf]; omega
       ·
        as_aux_lemma =>
        have hno : ∀ j f, fs[j]? = some f → f.gone = false → kid ≠ j + 1 := fun j f h1 h2 h3 => hex ⟨j, f, h1, h2, h3⟩
        obtain rfl : E = 53 := by rw [← HE.out]; exact (HLv.out.disE_no hno S).1
        obtain rfl : NL = 0 := by rw [← HNL.out, ← HLX.out, (HLv.out.disE_no hno S).2]; rfl
        obtain ⟨km, hkm, hkl⟩ : ∃ km : Nat, (kid : Int) % 1000 = (km : Int) ∧ km < 1000 := ⟨kid % 1000, by omega, by omega⟩
        have hkt : (kid : Int).tmod 1000 = (km : Int) := by rw [Int.tmod_eq_emod_of_nonneg (by omega)]; exact hkm
        have HW4 : Hid ((¬ (kid : Int) < 1000) ∨ ((kid : Int) < 1000 ∧ km = 0) ∨ ((kid : Int) < 1000 ∧ ∃ j, km = j + 1 ∧ k ≤ j) ∨ ((kid : Int) < 1000 ∧ ∃ j f, km = j + 1 ∧ j < k ∧ fs[j]? = some f ∧ f.gone = true)) := hid (by
         by_cases h1 : (kid : Int) < 1000
         ·
          have h2 : km = kid := by omega
          cases km with
          | zero => exact .inr (.inl ⟨h1, rfl⟩)
          | succ j =>
           by_cases h3 : j < k
           ·
            have h4 : j < fs.length := by rw [HM.out]; exact h3
            refine .inr (.inr (.inr ⟨h1, j, fs[j], rfl, h3, List.getElem?_eq_getElem h4, ?_⟩))
            cases h5 : fs[j].gone with
            | true => rfl
            | false => exact absurd h2.symm (hno j fs[j] (List.getElem?_eq_getElem h4) h5)
           ·
            exact .inr (.inr (.inl ⟨h1, j, rfl, by omega⟩))
         ·
          exact .inl h1)
        clear hex hno
        go_upto_region 15 with (first
         | ((with_reducible refine wpList_store_all (by with_unfolding_all rfl) 69 _ _ (by with_unfolding_all rfl) _ [.slice none 0 0, .int .u64 0] [.slice a3 0 c3, .int .u64 NX] 69 (by with_unfolding_all rfl) (by with_unfolding_all rfl) hb7b (by with_unfolding_all rfl) (by with_unfolding_all exact Try.size69) (ring_one _ _ _ _) ?_); intro w30 B30 g30 s30; have HB30 := hid B30; have HG30 := hid g30; have HS30 := hid s30; clear B30 g30 s30; have HGq := hid ((gtrans HG7.out HU.out).andThen HG30.out (fun j hj => .inl (by injection hj with hj; have := HHs.out; have := HG7.out.size; omega))); have HPq := hid ((HB6.out.keep HU.out).on HG30.out (by have := HHs.out; have := HB6.out.lt; simp; omega)); have HKq := hid ((HK6.out.keep HU.out).off HG30.out hb7b (by decide)); have HFq := hid ((HF6.out.keep HU.out).off HG30.out hb7b (by decide)); have HXq := hid (o3.off HG30.out hb7b (by decide)); have y33 := (HTc.out _ HGq.out).2.1; have y34 := (HTc.out _ HGq.out).2.2.1; have yb := HB30.out.cell 0; clear HG30 HS30 HU hb7b o3))

        rcases HW4.out with h1 | ⟨h1, h2⟩ | ⟨h1, j, h2, h3⟩ | ⟨h1, j, f, h2, h3, h4, h5⟩
        ·
         as_aux_lemma =>
         go_wp2_with (first
          | (go_at_call 22; (with_reducible refine (HNu.out _).mono ?_); rintro e w9 ⟨rfl, hw9⟩; have hw9' := hw9.symm; clear hw9; subst hw9')
          | (with_reducible refine wpList_load_part (by with_unfolding_all rfl) 69 _ (by with_unfolding_all rfl) p4 0 [.slice a n c, .int .u64 nx] _ (by with_unfolding_all rfl) HPq.out.whole Try.underlying69 (by with_unfolding_all rfl) (by with_unfolding_all exact Try.size69) ?_)
          | (go_at_call 27; (with_reducible refine (stands_out (C := w.heap.size) _ _ _ l nx fs HKq.out HLv.out (by have := HNx.out; omega) HFq.out).mono ?_); rintro e w31 ⟨rfl, hg31⟩; have HG31 := hid hg31; clear hg31))
         go_roundw
         case rel => exact ⟨i + 1, l, nx, fs, a, n, c, by go_num, by omega, HLn, hid (HPq.out.keep HG31.out), hid (HKq.out.keep HG31.out), HLv, hid (HFq.out.keep HG31.out), hid (by have := HNx.out; omega), hid (gtrans HGq.out HG31.out)⟩
         case measure => simp [intOf]; omega
        ·
         as_aux_lemma =>
         subst h2
         have h2' : ¬ (0 : Int) ≤ -1 := by omega
         go_wp2_with (first
          | (go_at_call 22; (with_reducible refine (HNu.out _).mono ?_); rintro e w9 ⟨rfl, hw9⟩; have hw9' := hw9.symm; clear hw9; subst hw9')
          | (with_reducible refine wpList_load_part (by with_unfolding_all rfl) 69 _ (by with_unfolding_all rfl) p4 0 [.slice a n c, .int .u64 nx] _ (by with_unfolding_all rfl) HPq.out.whole Try.underlying69 (by with_unfolding_all rfl) (by with_unfolding_all exact Try.size69) ?_)
          | (go_at_call 27; (with_reducible refine (stands_out (C := w.heap.size) _ _ _ l nx fs HKq.out HLv.out (by have := HNx.out; omega) HFq.out).mono ?_); rintro e w31 ⟨rfl, hg31⟩; have HG31 := hid hg31; clear hg31))
         go_roundw
         case rel => exact ⟨i + 1, l, nx, fs, a, n, c, by go_num, by omega, HLn, hid (HPq.out.keep HG31.out), hid (HKq.out.keep HG31.out), HLv, hid (HFq.out.keep HG31.out), hid (by have := HNx.out; omega), hid (gtrans HGq.out HG31.out)⟩
         case measure => simp [intOf]; omega
        ·
         as_aux_lemma =>
         subst h2
         have h3' : ¬ (j : Int) < (k : Int) := by omega
         go_wp2_with (first
          | (go_at_call 22; (with_reducible refine (HNu.out _).mono ?_); rintro e w9 ⟨rfl, hw9⟩; have hw9' := hw9.symm; clear hw9; subst hw9')
          | (with_reducible refine wpList_load_part (by with_unfolding_all rfl) 69 _ (by with_unfolding_all rfl) p4 0 [.slice a n c, .int .u64 nx] _ (by with_unfolding_all rfl) HPq.out.whole Try.underlying69 (by with_unfolding_all rfl) (by with_unfolding_all exact Try.size69) ?_)
          | (go_at_call 27; (with_reducible refine (stands_out (C := w.heap.size) _ _ _ l nx fs HKq.out HLv.out (by have := HNx.out; omega) HFq.out).mono ?_); rintro e w31 ⟨rfl, hg31⟩; have HG31 := hid hg31; clear hg31))
         go_roundw
         case rel => exact ⟨i + 1, l, nx, fs, a, n, c, by go_num, by omega, HLn, hid (HPq.out.keep HG31.out), hid (HKq.out.keep HG31.out), HLv, hid (HFq.out.keep HG31.out), hid (by have := HNx.out; omega), hid (gtrans HGq.out HG31.out)⟩
         case measure => simp [intOf]; omega
        ·
         as_aux_lemma =>
         subst h2
         have h3' : (j : Int) < (k : Int) := by omega
         obtain ⟨y5, y6, z5⟩ := OutF.c34 (fs := fs) (c := fc) (by rw [HM.out]; exact HFq.out) h4
         rw [h5] at y5
         clear h4 h5
         go_wp2_with (first
          | (go_at_call 22; (with_reducible refine (HNu.out _).mono ?_); rintro e w9 ⟨rfl, hw9⟩; have hw9' := hw9.symm; clear hw9; subst hw9')
          | (with_reducible refine wpList_load_part (by with_unfolding_all rfl) 69 _ (by with_unfolding_all rfl) p4 0 [.slice a n c, .int .u64 nx] _ (by with_unfolding_all rfl) HPq.out.whole Try.underlying69 (by with_unfolding_all rfl) (by with_unfolding_all exact Try.size69) ?_)
          | (go_at_call 27; (with_reducible refine (stands_out (C := w.heap.size) _ _ _ l nx fs HKq.out HLv.out (by have := HNx.out; omega) HFq.out).mono ?_); rintro e w31 ⟨rfl, hg31⟩; have HG31 := hid hg31; clear hg31))
         go_roundw
         case rel => exact ⟨i + 1, l, nx, fs, a, n, c, by go_num, by omega, HLn, hid (HPq.out.keep HG31.out), hid (HKq.out.keep HG31.out), HLv, hid (HFq.out.keep HG31.out), hid (by have := HNx.out; omega), hid (gtrans HGq.out HG31.out)⟩
         case measure => simp [intOf]; omega
      ·
       intro A u7 listed hh hall hzz hnn
       have hA := hh.frame
       have HU := hid hh.grown
       obtain ⟨x57, hx57⟩ : ∃ x, A.eval (.tmp 57) = x := ⟨_, rfl⟩
       have f57 : (fun v _ => v = (Value.agg [Value.slice a n c, Value.int .u64 nx].toArray)) x57 u7 := by rw [← hx57]; exact hh.got 0 _ 57 rfl rfl (hall 0 (by decide) (by decide))
       obtain ⟨x58, hx58⟩ : ∃ x, A.eval (.tmp 58) = x := ⟨_, rfl⟩
       have f58 : (fun v _ => v = (Value.slice (some ⟨tb, to, none⟩) tn tc)) x58 u7 := by rw [← hx58]; exact hh.got 1 _ 58 rfl rfl (hall 1 (by decide) (by decide))
       obtain ⟨x59, hx59⟩ : ∃ x, A.eval (.tmp 59) = x := ⟨_, rfl⟩
       have f59 : (fun v _ => v = (Value.int .i64 (i : Nat))) x59 u7 := by rw [← hx59]; exact hh.got 2 _ 59 rfl rfl (hall 2 (by decide) (by decide))
       obtain ⟨x60, hx60⟩ : ∃ x, A.eval (.tmp 60) = x := ⟨_, rfl⟩
       have f60 : (fun v _ => v = (Value.pointer (some ⟨tb, to + i * 35, none⟩))) x60 u7 := by rw [← hx60]; exact hh.got 3 _ 60 rfl rfl (hall 3 (by decide) (by decide))
       obtain ⟨x61, hx61⟩ : ∃ x, A.eval (.tmp 61) = x := ⟨_, rfl⟩
       have f61 : (fun v _ => v = (Value.pointer (some ⟨tb, to + i * 35 + 34, none⟩))) x61 u7 := by rw [← hx61]; exact hh.got 4 _ 61 rfl rfl (hall 4 (by decide) (by decide))
       obtain ⟨x62, hx62⟩ : ∃ x, A.eval (.tmp 62) = x := ⟨_, rfl⟩
       have f62 : (fun v _ => v = (Value.int .u64 (kid : Nat))) x62 u7 := by rw [← hx62]; exact hh.got 5 _ 62 rfl rfl (hall 5 (by decide) (by decide))
       obtain ⟨x63, hx63⟩ : ∃ x, A.eval (.tmp 63) = x := ⟨_, rfl⟩
       have f63 : (fun v _ => v = (Value.slice (some ⟨tb, to, none⟩) tn tc)) x63 u7 := by rw [← hx63]; exact hh.got 6 _ 63 rfl rfl (hall 6 (by decide) (by decide))
       obtain ⟨x64, hx64⟩ : ∃ x, A.eval (.tmp 64) = x := ⟨_, rfl⟩
       have f64 : (fun v _ => v = (Value.int .i64 (i : Nat))) x64 u7 := by rw [← hx64]; exact hh.got 7 _ 64 rfl rfl (hall 7 (by decide) (by decide))
       obtain ⟨x65, hx65⟩ : ∃ x, A.eval (.tmp 65) = x := ⟨_, rfl⟩
       have f65 : (fun v _ => v = (Value.pointer (some ⟨tb, to + i * 35, none⟩))) x65 u7 := by rw [← hx65]; exact hh.got 8 _ 65 rfl rfl (hall 8 (by decide) (by decide))
       obtain ⟨x66, hx66⟩ : ∃ x, A.eval (.tmp 66) = x := ⟨_, rfl⟩
       have f66 : (fun v _ => v = (Value.pointer (some ⟨tb, to + i * 35 + 1, none⟩))) x66 u7 := by rw [← hx66]; exact hh.got 9 _ 66 rfl rfl (hall 9 (by decide) (by decide))
       obtain ⟨x67, hx67⟩ : ∃ x, A.eval (.tmp 67) = x := ⟨_, rfl⟩
       have f67 : (fun v _ => v = (Value.agg ts.toArray)) x67 u7 := by rw [← hx67]; exact hh.got 10 _ 67 rfl rfl (hall 10 (by decide) (by decide))
       obtain ⟨x68, hx68⟩ : ∃ x, A.eval (.tmp 68) = x := ⟨_, rfl⟩
       have f68 : (fun v u => ∃ aa cc, v = Value.tuple #[Value.agg #[Value.slice aa NL cc, Value.int .u64 (NX : Nat)], Value.int .i64 E] ∧ OutK w.heap.size u (Value.slice aa NL cc) LX) x68 u7 := by rw [← hx68]; exact hh.got 11 _ 68 rfl rfl (hall 11 (by decide) (by decide))
       obtain ⟨x56, hx56⟩ : ∃ x, A.eval (.tmp 56) = x := ⟨_, rfl⟩
       have f56 : (fun v u => ∃ aa cc, v = Value.tuple #[Value.agg #[Value.slice aa NL cc, Value.int .u64 (NX : Nat)], Value.int .i64 E] ∧ OutK w.heap.size u (Value.slice aa NL cc) LX) x56 u7 := by rw [← hx56]; exact hh.got 12 _ 56 rfl rfl (hall 12 (by decide) (by decide))
       obtain ⟨x69, hx69⟩ : ∃ x, A.eval (.tmp 69) = x := ⟨_, rfl⟩
       have f69 : (fun v u => ∃ aa cc, v = Value.agg #[Value.slice aa NL cc, Value.int .u64 (NX : Nat)] ∧ OutK w.heap.size u (Value.slice aa NL cc) LX) x69 u7 := by rw [← hx69]; exact hh.got 13 _ 69 rfl rfl (hall 13 (by decide) (by decide))
       obtain ⟨x70, hx70⟩ : ∃ x, A.eval (.tmp 70) = x := ⟨_, rfl⟩
       obtain ⟨x9, hx9⟩ : ∃ x, A.eval (.tmp 9) = x := ⟨_, rfl⟩
       have f9 : (fun v u => ∃ bb, v = Value.pointer (some ⟨bb, 0, none⟩) ∧ Blk u bb [Value.slice none 0 0, Value.int .u64 0] 69 ∧ HH ≤ bb) x9 u7 := by rw [← hx9]; exact hh.got 15 _ 9 rfl rfl (hall 15 (by decide) (by decide))
       obtain ⟨x10, hx10⟩ : ∃ x, A.eval (.tmp 10) = x := ⟨_, rfl⟩
       dsimp only [wrote, List.foldl] at hA
       rw [hx57, hx58, hx59, hx60, hx61, hx62, hx63, hx64, hx65, hx66, hx67, hx68, hx56, hx69, hx70, hx9, hx10] at hA
       clear hzz hnn hh hall hx57 hx58 hx59 hx60 hx61 hx62 hx63 hx64 hx65 hx66 hx67 hx68 hx56 hx69 hx70 hx9 hx10
       replace f57 := (f57 : x57 = (.agg [.slice a n c, .int .u64 nx].toArray))
       subst f57
       replace f58 := (f58 : x58 = (.slice (some ⟨tb, to, none⟩) tn tc))
       subst f58
       replace f59 := (f59 : x59 = (.int .i64 (i : Nat)))
       subst f59
       replace f60 := (f60 : x60 = (.pointer (some ⟨tb, to + i * 35, none⟩)))
       subst f60
       replace f61 := (f61 : x61 = (.pointer (some ⟨tb, to + i * 35 + 34, none⟩)))
       subst f61
       replace f62 := (f62 : x62 = (.int .u64 (kid : Nat)))
       subst f62
       replace f63 := (f63 : x63 = (.slice (some ⟨tb, to, none⟩) tn tc))
       subst f63
       replace f64 := (f64 : x64 = (.int .i64 (i : Nat)))
       subst f64
       replace f65 := (f65 : x65 = (.pointer (some ⟨tb, to + i * 35, none⟩)))
       subst f65
       replace f66 := (f66 : x66 = (.pointer (some ⟨tb, to + i * 35 + 1, none⟩)))
       subst f66
       replace f67 := (f67 : x67 = (.agg ts.toArray))
       subst f67
       obtain ⟨a3, c3, e68, o3⟩ := f68
       subst e68
       obtain ⟨a3, c3, e56, o3⟩ := f56
       subst e56
       obtain ⟨a3, c3, e69, o3⟩ := f69
       subst e69
       obtain ⟨b7, e9, hb7b, hb7l⟩ := f9
       subst e9
       subst hA
       show wpList _ _ _ [_, _, _] _ _
       simp only [Act.put, List.setIfInBounds_toArray, List.set_cons_succ, List.set_cons_zero]
       by_cases hex : ∃ j f, fs[j]? = some f ∧ f.gone = false ∧ kid = j + 1
       ·
        as_aux_lemma =>
        obtain ⟨j, f, hj, hgn, hkid⟩ := hex
        have hjk : j < k := by rw [← HM.out]; exact (List.getElem?_eq_some_iff.1 hj).1
        obtain rfl : E = 0 := by rw [← HE.out, hkid]; exact (HLv.out.distrust (by have := HNx.out; omega) hj hgn S).1
        have HJ := hid hj
        have HGn := hid hgn
        have HLd : Hid (Lv LX NX (if j + 1 = fs.length then fs.set j ⟨f.sec, f.til, true⟩ ++ [⟨S, 0, false⟩] else fs.set j ⟨f.sec, f.til, true⟩)) := hid (by
         have h := (HLv.out.distrust (by have := HNx.out; omega) hj hgn S).2
         have e1 := HLX.out
         have e2 := HNX.out
         rw [hkid] at e1 e2
         rw [e1, e2] at h
         exact h)
        have hm9 : (kid : Int) % 1000 = (j : Int) + 1 := by omega
        have hm8 : (kid : Int).tmod 1000 = (j : Int) + 1 := by rw [Int.tmod_eq_emod_of_nonneg (by omega)]; exact hm9
        have hk9 : (kid : Int) < 1000 := by omega
        have hj0 : (0 : Int) ≤ (j : Int) := by omega
        have hj1 : (j : Int) < (k : Int) := by omega
        clear hj hgn hkid
        go_upto_region 15 with (first
         | ((with_reducible refine wpList_store_all (by with_unfolding_all rfl) 69 _ _ (by with_unfolding_all rfl) _ [.slice none 0 0, .int .u64 0] [.slice a3 NL c3, .int .u64 NX] 69 (by with_unfolding_all rfl) (by with_unfolding_all rfl) hb7b (by with_unfolding_all rfl) (by with_unfolding_all exact Try.size69) (ring_one _ _ _ _) ?_); intro w30 B30 g30 s30; have HB30 := hid B30; have HG30 := hid g30; have HS30 := hid s30; clear B30 g30 s30; have HGq := hid ((gtrans HG7.out HU.out).andThen HG30.out (fun j hj => .inl (by injection hj with hj; have := HHs.out; have := HG7.out.size; omega))); have HPq := hid ((HB6.out.keep HU.out).on HG30.out (by have := HHs.out; have := HB6.out.lt; simp; omega)); have HKq := hid ((HK6.out.keep HU.out).off HG30.out hb7b (by decide)); have HFq := hid ((HF6.out.keep HU.out).off HG30.out hb7b (by decide)); have HXq := hid (o3.off HG30.out hb7b (by decide)); have y33 := (HTc.out _ HGq.out).2.1; have y34 := (HTc.out _ HGq.out).2.2.1; have yb := HB30.out.cell 0; clear HG30 HS30 HU hb7b o3))

        obtain ⟨y5, y6, z5⟩ := OutF.c34 (fs := fs) (c := fc) (by rw [HM.out]; exact HFq.out) HJ.out
        rw [HGn.out] at y5
        obtain ⟨cs5, hk5, hC5⟩ := HFq.out.blk (g := g) rfl
        have HK5 := hid hk5
        have HC5 := hid hC5
        clear hk5 hC5
        go_upto_region 21 with (first
         | (go_at_call 22; (with_reducible refine (HNu.out _).mono ?_); rintro e w9 ⟨rfl, hw9⟩; have hw9' := hw9.symm; clear hw9; subst hw9'))
        obtain ⟨w35, hw35⟩ : ∃ x, w30.setCell ⟨g, j * 35 + 34, none⟩ (.bool true) = x := ⟨_, rfl⟩
        rw [hw35]
        have HG35 : Hid (w30.grownBy w35 (some g)) := hid (by rw [← hw35]; exact gset _ _ _)
        have HF35 : Hid (OutF w.heap.size w35 (.slice (some ⟨g, 0, none⟩) k fc) (fs.set j ⟨f.sec, f.til, true⟩)) := hid (by
         have h := OutF.gone (fs := fs) (c := fc) (by rw [HM.out]; exact HFq.out) j f true HJ.out
         rw [HM.out] at h
         rw [← hw35]
         exact h)
        have HX35 := hid (HXq.out.off HG35.out HK5.out (by decide))
        have HP35 := hid (HPq.out.on HG35.out (fun e => HK5.out.ne HPq.out (by decide) (Option.some.inj e)))
        have HB35 := hid (HB30.out.on HG35.out (fun e => HK5.out.ne HB30.out (by decide) (Option.some.inj e)))
        have HGw := hid (HGq.out.andThen HG35.out (fun j hj => .inl (by injection hj with hj; have := HC5.out; omega)))
        have HS32 : Hid (S.length = 32) := hid HOk.out.1
        clear y5 y6 z5 hw35 HG35 HK5 HC5 HB30 HPq HKq HXq HFq HGq yb y33 y34
        obtain ⟨y0, y33, y34, hrs⟩ := HTc.out _ HGw.out
        clear hrs
        by_cases hl : j + 1 = k
        ·
         subst hl
         have HLv2 : Hid (Lv LX NX (fs.set j ⟨f.sec, f.til, true⟩ ++ [(⟨S, 0, false⟩ : Ft)])) := hid (by
          have h := HLd.out
          rw [if_pos HM.out.symm] at h
          exact h)
         have HNX2 : Hid (NX ≤ i + 1 + 2) := hid (by
          have h1 := HLv.out.nx_eq
          have h2 := HLv2.out.nx_eq
          have := HNx.out
          simp only [List.length_append, List.length_cons, List.length_nil, List.length_set] at h1 h2
          omega)
         have HBu2 : Hid (Try.prog.built 96 [(0, .int .u64 ((j : Int) + 1 + 1)), (1, .agg ts.toArray)] = some ((Ft.mk S 0 false).cells (1 + (fs.set j ⟨f.sec, f.til, true⟩).length)).toArray) := hid (by
          rw [← HTS.out, List.length_set, HM.out, show (j : Int) + 1 + 1 = ((1 + (j + 1) : Nat) : Int) by omega]
          exact built_fate _ S HS32.out)
         have hr70 := hid (show w35.rangeAt tb (to + i * 35 + 1) ts by rw [← HTS.out]; exact (HTc.out _ HGw.out).2.2.2)
         go_upto_region 23 with (first
          | (with_reducible refine wpList_load_part (by with_unfolding_all rfl) 70 _ (by with_unfolding_all rfl) tb (to + i * 35 + 1) ts _ (by with_unfolding_all rfl) hr70.out Try.underlying70 (by with_unfolding_all rfl) (by rw [HTL.out]; exact Try.size70) ?_)
          | (with_reducible refine wpList_build_ofW (by with_unfolding_all rfl) 96 _ (by with_unfolding_all rfl) [(0, .int .u64 ((j : Int) + 1 + 1)), (1, .agg ts.toArray)] (by with_unfolding_all rfl) ((Ft.mk S 0 false).cells (1 + (fs.set j ⟨f.sec, f.til, true⟩).length)) HBu2.out ?_)
          | ((with_reducible refine wpList_slice_fate (by with_unfolding_all rfl) _ (by with_unfolding_all rfl) _ (Ft.mk S 0 false) HS32.out (by with_unfolding_all rfl) ?_); intro w36 B36 s36 g36; have HF36 := hid (HF35.out.keep g36); have HX36 := hid (HX35.out.keep g36); have HP36 := hid (HP35.out.keep g36); have HB36 := hid (HB35.out.keep g36); have HL36 := hid B36; have HG36 := hid (gtrans HGw.out g36); have HZ36 := hid (HF36.out.blk (g := g) rfl); clear B36 g36 s36)
          | (at_builtin; refine wpList_append_fate rfl _ _ rfl w.heap.size w35.heap.size (fs.set j ⟨f.sec, f.til, true⟩) (Ft.mk S 0 false) HS32.out HF36.out rfl HL36.out (by rw [List.length_set, HM.out]; omega) HG36.out.size ?_; intro v37 w37 hO37 hg37; replace hg37 : w36.grownBy w37 (some g) := hg37; obtain ⟨cs6, hk6, hC6⟩ := HZ36.out; have HF37 := hid hO37; have HX37 := hid (HX36.out.off hg37 hk6 (by decide)); have HP37 := hid (HP36.out.on hg37 (fun e => hk6.ne HP36.out (by decide) (Option.some.inj e))); have HB37 := hid (HB36.out.on hg37 (fun e => hk6.ne HB36.out (by decide) (Option.some.inj e))); have HG37 := hid (HG36.out.andThen hg37 (fun j hj => .inl (by injection hj with hj; omega))); clear hO37 hg37 hk6 hC6 cs6))
         clear HF36 HX36 HP36 HB36 HL36 HG36 HZ36 HF35 HX35 HP35 HB35 HGw hr70 HBu2
         go_upto_region 38 with (first
          | (with_reducible refine wpList_load_part (by with_unfolding_all rfl) 69 _ (by with_unfolding_all rfl) b7 0 [.slice a3 NL c3, .int .u64 NX] _ (by with_unfolding_all rfl) HB37.out.whole Try.underlying69 (by with_unfolding_all rfl) (by with_unfolding_all exact Try.size69) ?_)
          | ((with_reducible refine wpList_store_all (by with_unfolding_all rfl) 69 _ _ (by with_unfolding_all rfl) p4 [.slice a n c, .int .u64 nx] [.slice a3 NL c3, .int .u64 NX] 69 (by with_unfolding_all rfl) (by with_unfolding_all rfl) HP37.out (by with_unfolding_all rfl) (by with_unfolding_all exact Try.size69) (ring_one _ _ _ _) ?_); intro w38 B38 g38 s38; have HP38 := hid B38; have HX38 := hid (HX37.out.off g38 HP37.out (by decide)); have HF38 := hid (HF37.out.off g38 HP37.out (by decide)); have HG38 := hid (HG37.out.andThen g38 (fun j hj => .inl (by injection hj with hj; have := HN.out; omega))); clear B38 g38 s38))
         go_wp2_with (first
          | (with_reducible refine wpList_load_part (by with_unfolding_all rfl) 69 _ (by with_unfolding_all rfl) p4 0 [.slice a3 NL c3, .int .u64 NX] _ (by with_unfolding_all rfl) HP38.out.whole Try.underlying69 (by with_unfolding_all rfl) (by with_unfolding_all exact Try.size69) ?_)
          | (go_at_call 27; (with_reducible refine (stands_out (C := w.heap.size) _ _ _ LX NX (fs.set j ⟨f.sec, f.til, true⟩ ++ [(⟨S, 0, false⟩ : Ft)]) HX38.out HLv2.out (by have := HNX2.out; omega) HF38.out).mono ?_); rintro e q1 ⟨rfl, hgE⟩; have HGE := hid hgE; clear hgE))
         go_roundw
         case rel => exact ⟨i + 1, LX, NX, (fs.set j ⟨f.sec, f.til, true⟩ ++ [(⟨S, 0, false⟩ : Ft)]), a3, NL, c3, by go_num, by omega, HNL, hid (HP38.out.keep HGE.out), hid (HX38.out.keep HGE.out), HLv2, hid (HF38.out.keep HGE.out), hid (by have := HNX2.out; omega), hid (gtrans HG38.out HGE.out)⟩
         case measure => simp [intOf]; omega

        ·
         have hl1 : ¬ (j : Int) = (k : Int) - 1 := by omega
         have hl2 : ((j : Int) == (k : Int) - 1) = false := beq_eq_false_iff_ne.2 hl1
         have HLv2 : Hid (Lv LX NX (fs.set j ⟨f.sec, f.til, true⟩)) := hid (by
          have h := HLd.out
          rw [if_neg (by rw [HM.out]; exact hl)] at h
          exact h)
         have HNX2 : Hid (NX ≤ i + 1 + 2) := hid (by
          have h1 := HLv.out.nx_eq
          have h2 := HLv2.out.nx_eq
          have := HNx.out
          simp only [List.length_set] at h1 h2
          omega)
         go_upto_region 38 with (first
          | (with_reducible refine wpList_load_part (by with_unfolding_all rfl) 69 _ (by with_unfolding_all rfl) b7 0 [.slice a3 NL c3, .int .u64 NX] _ (by with_unfolding_all rfl) HB35.out.whole Try.underlying69 (by with_unfolding_all rfl) (by with_unfolding_all exact Try.size69) ?_)
          | ((with_reducible refine wpList_store_all (by with_unfolding_all rfl) 69 _ _ (by with_unfolding_all rfl) p4 [.slice a n c, .int .u64 nx] [.slice a3 NL c3, .int .u64 NX] 69 (by with_unfolding_all rfl) (by with_unfolding_all rfl) HP35.out (by with_unfolding_all rfl) (by with_unfolding_all exact Try.size69) (ring_one _ _ _ _) ?_); intro w38 B38 g38 s38; have HP38 := hid B38; have HX38 := hid (HX35.out.off g38 HP35.out (by decide)); have HF38 := hid (HF35.out.off g38 HP35.out (by decide)); have HG38 := hid (HGw.out.andThen g38 (fun j hj => .inl (by injection hj with hj; have := HN.out; omega))); clear B38 g38 s38))
         go_wp2_with (first
          | (with_reducible refine wpList_load_part (by with_unfolding_all rfl) 69 _ (by with_unfolding_all rfl) p4 0 [.slice a3 NL c3, .int .u64 NX] _ (by with_unfolding_all rfl) HP38.out.whole Try.underlying69 (by with_unfolding_all rfl) (by with_unfolding_all exact Try.size69) ?_)
          | (go_at_call 27; (with_reducible refine (stands_out (C := w.heap.size) _ _ _ LX NX (fs.set j ⟨f.sec, f.til, true⟩) HX38.out HLv2.out (by have := HNX2.out; omega) HF38.out).mono ?_); rintro e q1 ⟨rfl, hgE⟩; have HGE := hid hgE; clear hgE))
         go_roundw
         case rel => exact ⟨i + 1, LX, NX, (fs.set j ⟨f.sec, f.til, true⟩), a3, NL, c3, by go_num, by omega, HNL, hid (HP38.out.keep HGE.out), hid (HX38.out.keep HGE.out), HLv2, hid (HF38.out.keep HGE.out), hid (by have := HNX2.out; omega), hid (gtrans HG38.out HGE.out)⟩
         case measure => simp [intOf]; omega
       ·
        as_aux_lemma =>
        have hno : ∀ j f, fs[j]? = some f → f.gone = false → kid ≠ j + 1 := fun j f h1 h2 h3 => hex ⟨j, f, h1, h2, h3⟩
        obtain rfl : E = 53 := by rw [← HE.out]; exact (HLv.out.disE_no hno S).1
        obtain rfl : NL = 0 := by rw [← HNL.out, ← HLX.out, (HLv.out.disE_no hno S).2]; rfl
        obtain ⟨km, hkm, hkl⟩ : ∃ km : Nat, (kid : Int) % 1000 = (km : Int) ∧ km < 1000 := ⟨kid % 1000, by omega, by omega⟩
        have hkt : (kid : Int).tmod 1000 = (km : Int) := by rw [Int.tmod_eq_emod_of_nonneg (by omega)]; exact hkm
        have HW4 : Hid ((¬ (kid : Int) < 1000) ∨ ((kid : Int) < 1000 ∧ km = 0) ∨ ((kid : Int) < 1000 ∧ ∃ j, km = j + 1 ∧ k ≤ j) ∨ ((kid : Int) < 1000 ∧ ∃ j f, km = j + 1 ∧ j < k ∧ fs[j]? = some f ∧ f.gone = true)) := hid (by
         by_cases h1 : (kid : Int) < 1000
         ·
          have h2 : km = kid := by omega
          cases km with
          | zero => exact .inr (.inl ⟨h1, rfl⟩)
          | succ j =>
           by_cases h3 : j < k
           ·
            have h4 : j < fs.length := by rw [HM.out]; exact h3
            refine .inr (.inr (.inr ⟨h1, j, fs[j], rfl, h3, List.getElem?_eq_getElem h4, ?_⟩))
            cases h5 : fs[j].gone with
            | true => rfl
            | false => exact absurd h2.symm (hno j fs[j] (List.getElem?_eq_getElem h4) h5)
           ·
            exact .inr (.inr (.inl ⟨h1, j, rfl, by omega⟩))
         ·
          exact .inl h1)
        clear hex hno
        go_upto_region 15 with (first
         | ((with_reducible refine wpList_store_all (by with_unfolding_all rfl) 69 _ _ (by with_unfolding_all rfl) _ [.slice none 0 0, .int .u64 0] [.slice a3 0 c3, .int .u64 NX] 69 (by with_unfolding_all rfl) (by with_unfolding_all rfl) hb7b (by with_unfolding_all rfl) (by with_unfolding_all exact Try.size69) (ring_one _ _ _ _) ?_); intro w30 B30 g30 s30; have HB30 := hid B30; have HG30 := hid g30; have HS30 := hid s30; clear B30 g30 s30; have HGq := hid ((gtrans HG7.out HU.out).andThen HG30.out (fun j hj => .inl (by injection hj with hj; have := HHs.out; have := HG7.out.size; omega))); have HPq := hid ((HB6.out.keep HU.out).on HG30.out (by have := HHs.out; have := HB6.out.lt; simp; omega)); have HKq := hid ((HK6.out.keep HU.out).off HG30.out hb7b (by decide)); have HFq := hid ((HF6.out.keep HU.out).off HG30.out hb7b (by decide)); have HXq := hid (o3.off HG30.out hb7b (by decide)); have y33 := (HTc.out _ HGq.out).2.1; have y34 := (HTc.out _ HGq.out).2.2.1; have yb := HB30.out.cell 0; clear HG30 HS30 HU hb7b o3))

        rcases HW4.out with h1 | ⟨h1, h2⟩ | ⟨h1, j, h2, h3⟩ | ⟨h1, j, f, h2, h3, h4, h5⟩
        ·
         as_aux_lemma =>
         go_wp2_with (first
          | (go_at_call 22; (with_reducible refine (HNu.out _).mono ?_); rintro e w9 ⟨rfl, hw9⟩; have hw9' := hw9.symm; clear hw9; subst hw9')
          | (with_reducible refine wpList_load_part (by with_unfolding_all rfl) 69 _ (by with_unfolding_all rfl) p4 0 [.slice a n c, .int .u64 nx] _ (by with_unfolding_all rfl) HPq.out.whole Try.underlying69 (by with_unfolding_all rfl) (by with_unfolding_all exact Try.size69) ?_)
          | (go_at_call 27; (with_reducible refine (stands_out (C := w.heap.size) _ _ _ l nx fs HKq.out HLv.out (by have := HNx.out; omega) HFq.out).mono ?_); rintro e w31 ⟨rfl, hg31⟩; have HG31 := hid hg31; clear hg31))
         go_roundw
         case rel => exact ⟨i + 1, l, nx, fs, a, n, c, by go_num, by omega, HLn, hid (HPq.out.keep HG31.out), hid (HKq.out.keep HG31.out), HLv, hid (HFq.out.keep HG31.out), hid (by have := HNx.out; omega), hid (gtrans HGq.out HG31.out)⟩
         case measure => simp [intOf]; omega
        ·
         as_aux_lemma =>
         subst h2
         have h2' : ¬ (0 : Int) ≤ -1 := by omega
         go_wp2_with (first
          | (go_at_call 22; (with_reducible refine (HNu.out _).mono ?_); rintro e w9 ⟨rfl, hw9⟩; have hw9' := hw9.symm; clear hw9; subst hw9')
          | (with_reducible refine wpList_load_part (by with_unfolding_all rfl) 69 _ (by with_unfolding_all rfl) p4 0 [.slice a n c, .int .u64 nx] _ (by with_unfolding_all rfl) HPq.out.whole Try.underlying69 (by with_unfolding_all rfl) (by with_unfolding_all exact Try.size69) ?_)
          | (go_at_call 27; (with_reducible refine (stands_out (C := w.heap.size) _ _ _ l nx fs HKq.out HLv.out (by have := HNx.out; omega) HFq.out).mono ?_); rintro e w31 ⟨rfl, hg31⟩; have HG31 := hid hg31; clear hg31))
         go_roundw
         case rel => exact ⟨i + 1, l, nx, fs, a, n, c, by go_num, by omega, HLn, hid (HPq.out.keep HG31.out), hid (HKq.out.keep HG31.out), HLv, hid (HFq.out.keep HG31.out), hid (by have := HNx.out; omega), hid (gtrans HGq.out HG31.out)⟩
         case measure => simp [intOf]; omega
        ·
         as_aux_lemma =>
         subst h2
         have h3' : ¬ (j : Int) < (k : Int) := by omega
         go_wp2_with (first
          | (go_at_call 22; (with_reducible refine (HNu.out _).mono ?_); rintro e w9 ⟨rfl, hw9⟩; have hw9' := hw9.symm; clear hw9; subst hw9')
          | (with_reducible refine wpList_load_part (by with_unfolding_all rfl) 69 _ (by with_unfolding_all rfl) p4 0 [.slice a n c, .int .u64 nx] _ (by with_unfolding_all rfl) HPq.out.whole Try.underlying69 (by with_unfolding_all rfl) (by with_unfolding_all exact Try.size69) ?_)
          | (go_at_call 27; (with_reducible refine (stands_out (C := w.heap.size) _ _ _ l nx fs HKq.out HLv.out (by have := HNx.out; omega) HFq.out).mono ?_); rintro e w31 ⟨rfl, hg31⟩; have HG31 := hid hg31; clear hg31))
         go_roundw
         case rel => exact ⟨i + 1, l, nx, fs, a, n, c, by go_num, by omega, HLn, hid (HPq.out.keep HG31.out), hid (HKq.out.keep HG31.out), HLv, hid (HFq.out.keep HG31.out), hid (by have := HNx.out; omega), hid (gtrans HGq.out HG31.out)⟩
         case measure => simp [intOf]; omega
        ·
         as_aux_lemma =>
         subst h2
         have h3' : (j : Int) < (k : Int) := by omega
         obtain ⟨y5, y6, z5⟩ := OutF.c34 (fs := fs) (c := fc) (by rw [HM.out]; exact HFq.out) h4
         rw [h5] at y5
         clear h4 h5
         go_wp2_with (first
          | (go_at_call 22; (with_reducible refine (HNu.out _).mono ?_); rintro e w9 ⟨rfl, hw9⟩; have hw9' := hw9.symm; clear hw9; subst hw9')
          | (with_reducible refine wpList_load_part (by with_unfolding_all rfl) 69 _ (by with_unfolding_all rfl) p4 0 [.slice a n c, .int .u64 nx] _ (by with_unfolding_all rfl) HPq.out.whole Try.underlying69 (by with_unfolding_all rfl) (by with_unfolding_all exact Try.size69) ?_)
          | (go_at_call 27; (with_reducible refine (stands_out (C := w.heap.size) _ _ _ l nx fs HKq.out HLv.out (by have := HNx.out; omega) HFq.out).mono ?_); rintro e w31 ⟨rfl, hg31⟩; have HG31 := hid hg31; clear hg31))
         go_roundw
         case rel => exact ⟨i + 1, l, nx, fs, a, n, c, by go_num, by omega, HLn, hid (HPq.out.keep HG31.out), hid (HKq.out.keep HG31.out), HLv, hid (HFq.out.keep HG31.out), hid (by have := HNx.out; omega), hid (gtrans HGq.out HG31.out)⟩
         case measure => simp [intOf]; omega
     ·
      have h2' : (act == 2) = false := by simp [h2]
      by_cases h1 : act = 1
      ·
       subst h1
       go_wp2_with fail
       obtain ⟨LX, HLX⟩ : ∃ x, Hid ((prn l nx At).1 = x) := ⟨_, hid rfl⟩
       obtain ⟨NX, HNX⟩ : ∃ x, Hid ((prn l nx At).2 = x) := ⟨_, hid rfl⟩
       obtain ⟨NL, HNL⟩ : ∃ x, Hid (LX.length = x) := ⟨_, hid rfl⟩
       have HL1 : Hid (l.length ≤ 1099511627776) := hid (by have := (goodL_pos (isRing_good HLv.out.ring).1).2; omega)
       have HRo : Hid (∀ u, wr.grownBy u none → Calls Try.prog 14 #[Value.agg #[.slice a n c, .int .u64 nx], .int .i64 At] u fun e w' => ∃ v, e = .returned v ∧ u.grownBy w' none ∧ ∃ aa cc, v = Value.agg #[Value.slice aa NL cc, Value.int .u64 (NX : Nat)] ∧ OutK w.heap.size w' (Value.slice aa NL cc) LX) := fun u hu => by
        have h := prune_any u _ _ l nx At (HK6.out.keep hu).rd HL1.out
        rw [HLX.out, HNX.out, HNL.out] at h
        refine h.mono ?_
        rintro e w' ⟨aa, cc, he, ho, hg⟩
        exact ⟨_, he, hg, aa, cc, rfl, ho.below (gtrans HG7.out hu).size⟩
       have HTw := hid (fun u (hu : wr.grownBy u none) => HTc.out u (gtrans HG7.out hu))
       have HLv2 : Hid (Lv LX NX (fs.map (Ft.prune At))) := hid (by
        have h := HLv.out.prune At
        rw [HLX.out, HNX.out] at h
        exact h)
       have HNX2 : Hid (NX ≤ i + 1 + 2) := hid (by
        have h1 := HLv.out.nx_eq
        have h2 := HLv2.out.nx_eq
        have := HNx.out
        simp only [List.length_map] at h1 h2
        omega)
       clear y0 y33 y34
       as_aux_lemma =>
       refine wp_region_list (by kernel_rfl) [fun v _ => v = (Value.agg [Value.slice a n c, Value.int .u64 nx].toArray), fun v _ => v = (Value.slice (some ⟨tb, to, none⟩) tn tc), fun v _ => v = (Value.int .i64 (i : Nat)), fun v _ => v = (Value.pointer (some ⟨tb, to + i * 35, none⟩)), fun v _ => v = (Value.pointer (some ⟨tb, to + i * 35 + 33, none⟩)), fun v _ => v = (Value.int .i64 At), fun v u => ∃ aa cc, v = Value.agg #[Value.slice aa NL cc, Value.int .u64 (NX : Nat)] ∧ OutK w.heap.size u (Value.slice aa NL cc) LX] (none) (fun _ => none) 7 (by kernel_rfl) (by kernel_rfl) (by kernel_rfl) (by kernel_rfl) (by decide) noRow_one (fun _ => .inl rfl) ⟨fun i v u u' hki h hg => h, fun i v u u' hki h hg => h, fun i v u u' hki h hg => h, fun i v u u' hki h hg => h, fun i v u u' hki h hg => h, fun i v u u' hki h hg => h, fun i v u u' hki h hg => (by obtain ⟨aa, cc, e, ho⟩ := h; exact ⟨aa, cc, e, ho.keep hg⟩), trivial⟩ ⟨?_, ?_, ?_, ?_, ?_, ?_, ?_, trivial⟩ ?_
       ·
        intro A u hu hpu hsz hout hdeps
        have e4 : A.eval (.tmp 4) = (.pointer (some ⟨p4, 0, none⟩)) := (hout 4 (by kernel_rfl)).trans rfl
        refine ifw_none rfl ?_
        with_reducible refine shown_q (Value.agg [Value.slice a n c, Value.int .u64 nx].toArray) ?qq_3p_0 (fun _ _ => ?qr_3p_0)
        case qr_3p_0 => exact (rfl : (Value.agg [Value.slice a n c, Value.int .u64 nx].toArray) = (Value.agg [Value.slice a n c, Value.int .u64 nx].toArray))
        with_reducible refine quietAt_load 69 (.tmp 4) ?h0_3p_0 p4 0 [Value.slice a n c, Value.int .u64 nx] (.struct (Try.prog.fieldsOf 69)) ?h1_3p_0 ?h2_3p_0 ?h3_3p_0 ?h4_3p_0 ?h5_3p_0
        case h0_3p_0 => rfl
        case h1_3p_0 => exact e4
        case h2_3p_0 => exact (HB6.out.keep hu).whole
        case h3_3p_0 => exact Try.under69
        case h4_3p_0 => rfl
        case h5_3p_0 => exact Try.size69
       ·
        intro A u hu hpu hsz hout hdeps
        have e3 : A.eval (.tmp 3) = (.slice (some ⟨tb, to, none⟩) tn tc) := (hout 3 (by kernel_rfl)).trans rfl
        refine ifw_none rfl ?_
        with_reducible refine shown_q (Value.slice (some ⟨tb, to, none⟩) tn tc) ?qq_3p_1 (fun _ _ => ?qr_3p_1)
        case qr_3p_1 => exact (rfl : (Value.slice (some ⟨tb, to, none⟩) tn tc) = (Value.slice (some ⟨tb, to, none⟩) tn tc))
        with_reducible refine quietAt_mv (.tmp 3) (Value.slice (some ⟨tb, to, none⟩) tn tc) ?h0_3p_1 ?h1_3p_1
        case h0_3p_1 => rfl
        case h1_3p_1 => exact e3
       ·
        intro A u hu hpu hsz hout hdeps
        have e6 : A.eval (.tmp 6) = (.int .i64 (i : Nat)) := (hout 6 (by kernel_rfl)).trans rfl
        refine ifw_none rfl ?_
        with_reducible refine shown_q (Value.int .i64 (i : Nat)) ?qq_3p_2 (fun _ _ => ?qr_3p_2)
        case qr_3p_2 => exact (rfl : (Value.int .i64 (i : Nat)) = (Value.int .i64 (i : Nat)))
        with_reducible refine quietAt_mv (.tmp 6) (Value.int .i64 (i : Nat)) ?h0_3p_2 ?h1_3p_2
        case h0_3p_2 => rfl
        case h1_3p_2 => exact e6
       ·
        intro A u hu hpu hsz hout hdeps
        have e154 : A.eval (.tmp 154) = (.slice (some ⟨tb, to, none⟩) tn tc) := by have h := depL hdeps 1 (by kernel_rfl) 154 (by kernel_rfl); exact h
        have e155 : A.eval (.tmp 155) = (.int .i64 (i : Nat)) := by have h := depL hdeps 2 (by kernel_rfl) 155 (by kernel_rfl); exact h
        refine ifw_none rfl ?_
        with_reducible refine shown_q (Value.pointer (some ⟨tb, to + i * 35, none⟩)) ?qq_3p_3 (fun _ _ => ?qr_3p_3)
        case qr_3p_3 => exact (rfl : (Value.pointer (some ⟨tb, to + i * 35, none⟩)) = (Value.pointer (some ⟨tb, to + i * 35, none⟩)))
        with_reducible refine quietAt_idx 92 (.tmp 154) (.tmp 155) (Value.slice (some ⟨tb, to, none⟩) tn tc) (Value.int .i64 (i : Nat)) (Value.pointer (some ⟨tb, to + i * 35, none⟩)) ?h0_3p_3 ?h1_3p_3 ?h2_3p_3 ?h3_3p_3
        case h0_3p_3 => rfl
        case h1_3p_3 => exact e154
        case h2_3p_3 => exact e155
        case h3_3p_3 => exact idx92 tb to tn tc i hlt1 u
       ·
        intro A u hu hpu hsz hout hdeps
        have e156 : A.eval (.tmp 156) = (.pointer (some ⟨tb, to + i * 35, none⟩)) := by have h := depL hdeps 3 (by kernel_rfl) 156 (by kernel_rfl); exact h
        refine ifw_none rfl ?_
        with_reducible refine shown_q (Value.pointer (some ⟨tb, to + i * 35 + 33, none⟩)) ?qq_3p_4 (fun _ _ => ?qr_3p_4)
        case qr_3p_4 => exact (rfl : (Value.pointer (some ⟨tb, to + i * 35 + 33, none⟩)) = (Value.pointer (some ⟨tb, to + i * 35 + 33, none⟩)))
        with_reducible refine quietAt_field 99 (.tmp 156) 2 ?h0_3p_4 ⟨tb, to + i * 35, none⟩ ⟨tb, to + i * 35 + 33, none⟩ ?h1_3p_4 ?h2_3p_4
        case h0_3p_4 => rfl
        case h1_3p_4 => exact e156
        case h2_3p_4 => kernel_rfl
       ·
        intro A u hu hpu hsz hout hdeps
        have e157 : A.eval (.tmp 157) = (.pointer (some ⟨tb, to + i * 35 + 33, none⟩)) := by have h := depL hdeps 4 (by kernel_rfl) 157 (by kernel_rfl); exact h
        refine ifw_none rfl ?_
        with_reducible refine shown_q (Value.int .i64 At) ?qq_3p_5 (fun _ _ => ?qr_3p_5)
        case qr_3p_5 => exact (rfl : (Value.int .i64 At) = (Value.int .i64 At))
        with_reducible refine quietAt_ld 2 (.tmp 157) (Value.pointer (some ⟨tb, to + i * 35 + 33, none⟩)) (Value.int .i64 At) ?h0_3p_5 ?h1_3p_5 ?h2_3p_5
        case h0_3p_5 => rfl
        case h1_3p_5 => exact e157
        case h2_3p_5 => exact ld2 tb (to + i * 35 + 33) At u (HTw.out u hu).2.1
       ·
        intro A u hu hpu hsz hout hdeps
        have e153 : A.eval (.tmp 153) = (.agg [.slice a n c, .int .u64 nx].toArray) := by have h := depL hdeps 0 (by kernel_rfl) 153 (by kernel_rfl); exact h
        have e158 : A.eval (.tmp 158) = (.int .i64 At) := by have h := depL hdeps 5 (by kernel_rfl) 158 (by kernel_rfl); exact h
        refine ifw_none rfl ?_
        with_reducible refine shown_call 14 Try.f14 ?h0_3p_6 ?h1_3p_6 ?h2_3p_6 #[.tmp 153, .tmp 158] #[69, 2] ?h3_3p_6 #[(Value.agg [Value.slice a n c, Value.int .u64 nx].toArray), (Value.int .i64 At)] ?h4_3p_6 ?h5_3p_6
        case h0_3p_6 => exact Try.func14
        case h1_3p_6 => kernel_rfl
        case h2_3p_6 => kernel_rfl
        case h3_3p_6 => rfl
        case h4_3p_6 => exact map2 _ _ _ _ _ e153 e158
        case h5_3p_6 => exact HRo.out u hu
       ·
        intro A u7 listed hh hall
        have hA := hh.frame
        have HU := hid hh.grown
        obtain ⟨x153, hx153⟩ : ∃ x, A.eval (.tmp 153) = x := ⟨_, rfl⟩
        have f153 : (fun v _ => v = (Value.agg [Value.slice a n c, Value.int .u64 nx].toArray)) x153 u7 := by rw [← hx153]; exact hh.got 0 _ 153 rfl rfl (hall 0 (by decide))
        obtain ⟨x154, hx154⟩ : ∃ x, A.eval (.tmp 154) = x := ⟨_, rfl⟩
        have f154 : (fun v _ => v = (Value.slice (some ⟨tb, to, none⟩) tn tc)) x154 u7 := by rw [← hx154]; exact hh.got 1 _ 154 rfl rfl (hall 1 (by decide))
        obtain ⟨x155, hx155⟩ : ∃ x, A.eval (.tmp 155) = x := ⟨_, rfl⟩
        have f155 : (fun v _ => v = (Value.int .i64 (i : Nat))) x155 u7 := by rw [← hx155]; exact hh.got 2 _ 155 rfl rfl (hall 2 (by decide))
        obtain ⟨x156, hx156⟩ : ∃ x, A.eval (.tmp 156) = x := ⟨_, rfl⟩
        have f156 : (fun v _ => v = (Value.pointer (some ⟨tb, to + i * 35, none⟩))) x156 u7 := by rw [← hx156]; exact hh.got 3 _ 156 rfl rfl (hall 3 (by decide))
        obtain ⟨x157, hx157⟩ : ∃ x, A.eval (.tmp 157) = x := ⟨_, rfl⟩
        have f157 : (fun v _ => v = (Value.pointer (some ⟨tb, to + i * 35 + 33, none⟩))) x157 u7 := by rw [← hx157]; exact hh.got 4 _ 157 rfl rfl (hall 4 (by decide))
        obtain ⟨x158, hx158⟩ : ∃ x, A.eval (.tmp 158) = x := ⟨_, rfl⟩
        have f158 : (fun v _ => v = (Value.int .i64 At)) x158 u7 := by rw [← hx158]; exact hh.got 5 _ 158 rfl rfl (hall 5 (by decide))
        obtain ⟨x159, hx159⟩ : ∃ x, A.eval (.tmp 159) = x := ⟨_, rfl⟩
        have f159 : (fun v u => ∃ aa cc, v = Value.agg #[Value.slice aa NL cc, Value.int .u64 (NX : Nat)] ∧ OutK w.heap.size u (Value.slice aa NL cc) LX) x159 u7 := by rw [← hx159]; exact hh.got 6 _ 159 rfl rfl (hall 6 (by decide))
        dsimp only [wrote, List.foldl] at hA
        rw [hx153, hx154, hx155, hx156, hx157, hx158, hx159] at hA
        clear hh hall hx153 hx154 hx155 hx156 hx157 hx158 hx159
        replace f153 := (f153 : x153 = (.agg [.slice a n c, .int .u64 nx].toArray))
        subst f153
        replace f154 := (f154 : x154 = (.slice (some ⟨tb, to, none⟩) tn tc))
        subst f154
        replace f155 := (f155 : x155 = (.int .i64 (i : Nat)))
        subst f155
        replace f156 := (f156 : x156 = (.pointer (some ⟨tb, to + i * 35, none⟩)))
        subst f156
        replace f157 := (f157 : x157 = (.pointer (some ⟨tb, to + i * 35 + 33, none⟩)))
        subst f157
        replace f158 := (f158 : x158 = (.int .i64 At))
        subst f158
        obtain ⟨a3, c3, e159, o3⟩ := f159
        subst e159
        subst hA
        show wpList _ _ _ [_] _ _
        simp only [Act.put, List.setIfInBounds_toArray, List.set_cons_succ, List.set_cons_zero]
        go_upto_region 26 with (first
         | ((with_reducible refine wpList_store_all (by with_unfolding_all rfl) 69 _ _ (by with_unfolding_all rfl) p4 [.slice a n c, .int .u64 nx] [.slice a3 NL c3, .int .u64 NX] 69 (by with_unfolding_all rfl) (by with_unfolding_all rfl) (HB6.out.keep HU.out) (by with_unfolding_all rfl) (by with_unfolding_all exact Try.size69) (ring_one _ _ _ _) ?_); intro w25 B25 g25 s25; have HP25 := hid B25; have HX25 := hid (o3.off g25 (HB6.out.keep HU.out) (by decide)); have HF25 := hid ((HF6.out.keep HU.out).off g25 (HB6.out.keep HU.out) (by decide)); have HG25 := hid ((gtrans HG7.out HU.out).andThen g25 (fun j hj => .inl (by injection hj with hj; have := HN.out; omega))); clear B25 g25 s25))
        clear HU o3 HB6 HK6 HF6 HG7 HTw HRo
        go_wp2_with fail
        go_loopw [13] (fun kv wr => ∃ j : Nat, kv = .int .i64 j ∧ j ≤ k ∧ Hid (OutF w.heap.size wr (.slice (some ⟨g, 0, none⟩) k fc) ((fs.take j).map (Ft.prune At) ++ fs.drop j)) ∧ Hid (Blk wr p4 [.slice a3 NL c3, .int .u64 NX] 69) ∧ Hid (OutK w.heap.size wr (.slice a3 NL c3) LX) ∧ Hid (w.grownBy wr none)) (fun kv _ => k - (intOf kv).toNat)
        case atStart => exact ⟨0, rfl, Nat.zero_le _, HF25, HP25, HX25, HG25⟩
        case round =>
         clear HF25 HP25 HX25 HG25
         obtain ⟨j, rfl, hjk', HFr, HPr, HXr, HGr⟩ := hrel
         by_cases hjk : j < k
         ·
          have hjk1 : (j : Int) < (k : Int) := by omega
          obtain ⟨f, hfj⟩ : ∃ f, fs[j]? = some f := ⟨_, List.getElem?_eq_getElem (by rw [HM.out]; exact hjk)⟩
          have HFj := hid hfj
          have HPj : Hid (((fs.take j).map (Ft.prune At) ++ fs.drop j)[j]? = some f) := hid (prune_at hfj)
          have HPl : Hid (((fs.take j).map (Ft.prune At) ++ fs.drop j).length = k) := hid (by rw [List.length_append, List.length_map, List.length_take, List.length_drop, HM.out]; omega)
          obtain ⟨til, htil⟩ : ∃ x, f.til = x := ⟨_, rfl⟩
          obtain ⟨gn, hgn⟩ : ∃ x, f.gone = x := ⟨_, rfl⟩
          have HC := hid (fun u (hu : wr.grownBy u none) => OutF.c34 (c := fc) (by rw [HPl.out]; exact HFr.out.keep hu) HPj.out)
          rw [htil, hgn] at HC
          have H34 := hid (fun u (hu : wr.grownBy u none) => (HC.out u hu).1)
          have H33 := hid (fun u (hu : wr.grownBy u none) => (HC.out u hu).2.1)
          have H33t := hid (fun u (hu : wr.grownBy u none) => (HTc.out u (gtrans HGr.out hu)).2.1)
          have HPg : Hid ((f.gone || (decide (0 < f.til) && decide (f.til ≤ At))) = (gn || (decide (0 < til) && decide (til ≤ At)))) := hid (by rw [htil, hgn])
          clear hfj htil hgn
          obtain ⟨y34, y33, z34⟩ := HC.out wr (grefl _ _)
          clear HC
          go_upto_region 29 with fail
          clear y33
          have y9 := fun u (hu : wr.grownBy u none) => (H34.out u hu)
          have z9 := fun u (hu : wr.grownBy u none) => ((HFr.out.keep hu).blk (g := g) rfl)
          replace y9 := hid y9
          replace z9 := hid z9
          clear y34 z34
          cases gn with
          | true => as_aux_lemma =>
           rw [Bool.true_or] at HPg
           refine wp_region_list (by kernel_rfl) [fun v _ => v = (Value.slice (some ⟨g, 0, none⟩) k fc), fun v _ => v = (Value.int .i64 (j : Nat)), fun v _ => v = (Value.slice (some ⟨g, 0, none⟩) k fc), fun v _ => v = (Value.int .i64 (j : Nat)), fun v _ => v = (Value.pointer (some ⟨g, j * 35, none⟩)), fun v _ => v = (Value.pointer (some ⟨g, j * 35 + 34, none⟩)), fun v _ => v = (Value.bool true), fun v _ => v = (Value.bool true), fun v _ => v = undef, fun v _ => v = undef, fun v _ => v = undef, fun v _ => v = undef, fun v _ => v = undef, fun v _ => v = undef, fun v _ => v = undef, fun v _ => v = undef, fun v _ => v = undef, fun v _ => v = undef, fun v _ => v = undef, fun v _ => v = undef, fun v _ => v = undef, fun v _ => v = undef, fun v _ => v = undef, fun v _ => v = undef, fun v _ => v = undef, fun v _ => v = undef, fun v _ => v = undef, fun v _ => v = (Value.bool true), fun v _ => v = (Value.pointer (some ⟨g, j * 35, none⟩)), fun v _ => v = (Value.pointer (some ⟨g, j * 35 + 34, none⟩))] (none) (fun _ => none) 30 (by kernel_rfl) (by kernel_rfl) (by kernel_rfl) (by kernel_rfl) (by decide) noRow_one (fun _ => .inl rfl) ⟨fun i v u u' hki h hg => h, fun i v u u' hki h hg => h, fun i v u u' hki h hg => h, fun i v u u' hki h hg => h, fun i v u u' hki h hg => h, fun i v u u' hki h hg => h, fun i v u u' hki h hg => h, fun i v u u' hki h hg => h, fun i v u u' hki h hg => h, fun i v u u' hki h hg => h, fun i v u u' hki h hg => h, fun i v u u' hki h hg => h, fun i v u u' hki h hg => h, fun i v u u' hki h hg => h, fun i v u u' hki h hg => h, fun i v u u' hki h hg => h, fun i v u u' hki h hg => h, fun i v u u' hki h hg => h, fun i v u u' hki h hg => h, fun i v u u' hki h hg => h, fun i v u u' hki h hg => h, fun i v u u' hki h hg => h, fun i v u u' hki h hg => h, fun i v u u' hki h hg => h, fun i v u u' hki h hg => h, fun i v u u' hki h hg => h, fun i v u u' hki h hg => h, fun i v u u' hki h hg => h, fun i v u u' hki h hg => h, fun i v u u' hki h hg => h, trivial⟩ ⟨?_, ?_, ?_, ?_, ?_, ?_, ?_, ?_, ?_, ?_, ?_, ?_, ?_, ?_, ?_, ?_, ?_, ?_, ?_, ?_, ?_, ?_, ?_, ?_, ?_, ?_, ?_, ?_, ?_, ?_, trivial⟩ ?_
           ·
            intro A u hu hpu hsz hout hdeps
            have e5 : A.eval (.tmp 5) = (.slice (some ⟨g, 0, none⟩) k fc) := (hout 5 (by kernel_rfl)).trans rfl
            refine ifw_none rfl ?_
            with_reducible refine shown_q (Value.slice (some ⟨g, 0, none⟩) k fc) ?qq_4a1_0 (fun _ _ => ?qr_4a1_0)
            case qr_4a1_0 => exact (rfl : (Value.slice (some ⟨g, 0, none⟩) k fc) = (Value.slice (some ⟨g, 0, none⟩) k fc))
            with_reducible refine quietAt_mv (.tmp 5) (Value.slice (some ⟨g, 0, none⟩) k fc) ?h0_4a1_0 ?h1_4a1_0
            case h0_4a1_0 => rfl
            case h1_4a1_0 => exact e5
           ·
            intro A u hu hpu hsz hout hdeps
            have e13 : A.eval (.tmp 13) = (.int .i64 (j : Nat)) := (hout 13 (by kernel_rfl)).trans rfl
            refine ifw_none rfl ?_
            with_reducible refine shown_q (Value.int .i64 (j : Nat)) ?qq_4a1_1 (fun _ _ => ?qr_4a1_1)
            case qr_4a1_1 => exact (rfl : (Value.int .i64 (j : Nat)) = (Value.int .i64 (j : Nat)))
            with_reducible refine quietAt_mv (.tmp 13) (Value.int .i64 (j : Nat)) ?h0_4a1_1 ?h1_4a1_1
            case h0_4a1_1 => rfl
            case h1_4a1_1 => exact e13
           ·
            intro A u hu hpu hsz hout hdeps
            have e5 : A.eval (.tmp 5) = (.slice (some ⟨g, 0, none⟩) k fc) := (hout 5 (by kernel_rfl)).trans rfl
            refine ifw_none rfl ?_
            with_reducible refine shown_q (Value.slice (some ⟨g, 0, none⟩) k fc) ?qq_4a1_2 (fun _ _ => ?qr_4a1_2)
            case qr_4a1_2 => exact (rfl : (Value.slice (some ⟨g, 0, none⟩) k fc) = (Value.slice (some ⟨g, 0, none⟩) k fc))
            with_reducible refine quietAt_mv (.tmp 5) (Value.slice (some ⟨g, 0, none⟩) k fc) ?h0_4a1_2 ?h1_4a1_2
            case h0_4a1_2 => rfl
            case h1_4a1_2 => exact e5
           ·
            intro A u hu hpu hsz hout hdeps
            have e13 : A.eval (.tmp 13) = (.int .i64 (j : Nat)) := (hout 13 (by kernel_rfl)).trans rfl
            refine ifw_none rfl ?_
            with_reducible refine shown_q (Value.int .i64 (j : Nat)) ?qq_4a1_3 (fun _ _ => ?qr_4a1_3)
            case qr_4a1_3 => exact (rfl : (Value.int .i64 (j : Nat)) = (Value.int .i64 (j : Nat)))
            with_reducible refine quietAt_mv (.tmp 13) (Value.int .i64 (j : Nat)) ?h0_4a1_3 ?h1_4a1_3
            case h0_4a1_3 => rfl
            case h1_4a1_3 => exact e13
           ·
            intro A u hu hpu hsz hout hdeps
            have e168 : A.eval (.tmp 168) = (.slice (some ⟨g, 0, none⟩) k fc) := by have h := depL hdeps 2 (by kernel_rfl) 168 (by kernel_rfl); exact h
            have e169 : A.eval (.tmp 169) = (.int .i64 (j : Nat)) := by have h := depL hdeps 3 (by kernel_rfl) 169 (by kernel_rfl); exact h
            refine ifw_none rfl ?_
            with_reducible refine shown_q (Value.pointer (some ⟨g, j * 35, none⟩)) ?qq_4a1_4 (fun _ _ => ?qr_4a1_4)
            case qr_4a1_4 => exact (rfl : (Value.pointer (some ⟨g, j * 35, none⟩)) = (Value.pointer (some ⟨g, j * 35, none⟩)))
            with_reducible refine quietAt_idx 97 (.tmp 168) (.tmp 169) (Value.slice (some ⟨g, 0, none⟩) k fc) (Value.int .i64 (j : Nat)) (Value.pointer (some ⟨g, j * 35, none⟩)) ?h0_4a1_4 ?h1_4a1_4 ?h2_4a1_4 ?h3_4a1_4
            case h0_4a1_4 => rfl
            case h1_4a1_4 => exact e168
            case h2_4a1_4 => exact e169
            case h3_4a1_4 => exact idx97z g k fc j hjk u
           ·
            intro A u hu hpu hsz hout hdeps
            have e170 : A.eval (.tmp 170) = (.pointer (some ⟨g, j * 35, none⟩)) := by have h := depL hdeps 4 (by kernel_rfl) 170 (by kernel_rfl); exact h
            refine ifw_none rfl ?_
            with_reducible refine shown_q (Value.pointer (some ⟨g, j * 35 + 34, none⟩)) ?qq_4a1_5 (fun _ _ => ?qr_4a1_5)
            case qr_4a1_5 => exact (rfl : (Value.pointer (some ⟨g, j * 35 + 34, none⟩)) = (Value.pointer (some ⟨g, j * 35 + 34, none⟩)))
            with_reducible refine quietAt_field 96 (.tmp 170) 3 ?h0_4a1_5 ⟨g, j * 35, none⟩ ⟨g, j * 35 + 34, none⟩ ?h1_4a1_5 ?h2_4a1_5
            case h0_4a1_5 => rfl
            case h1_4a1_5 => exact e170
            case h2_4a1_5 => first | kernel_rfl | rfl
           ·
            intro A u hu hpu hsz hout hdeps
            have e171 : A.eval (.tmp 171) = (.pointer (some ⟨g, j * 35 + 34, none⟩)) := by have h := depL hdeps 5 (by kernel_rfl) 171 (by kernel_rfl); exact h
            refine ifw_none rfl ?_
            with_reducible refine shown_q (Value.bool true) ?qq_4a1_6 (fun _ _ => ?qr_4a1_6)
            case qr_4a1_6 => exact (rfl : (Value.bool true) = (Value.bool true))
            with_reducible refine quietAt_ld 4 (.tmp 171) (Value.pointer (some ⟨g, j * 35 + 34, none⟩)) (Value.bool true) ?h0_4a1_6 ?h1_4a1_6 ?h2_4a1_6
            case h0_4a1_6 => rfl
            case h1_4a1_6 => exact e171
            case h2_4a1_6 => exact ld4 g (j * 35 + 34) true u (H34.out u hu)
           ·
            intro A u hu hpu hsz hout hdeps
            have e172 : A.eval (.tmp 172) = (.bool true) := by have h := depL hdeps 6 (by kernel_rfl) 172 (by kernel_rfl); exact h
            refine ifw_none rfl ?_
            with_reducible refine shown_q (Value.bool true) ?qq_4a1_7 (fun _ _ => ?qr_4a1_7)
            case qr_4a1_7 => exact (rfl : (Value.bool true) = (Value.bool true))
            with_reducible refine quietAt_mv (.tmp 172) (Value.bool true) ?h0_4a1_7 ?h1_4a1_7
            case h0_4a1_7 => rfl
            case h1_4a1_7 => exact e172
           ·
            intro A u hu hpu hsz hout hdeps
            have e173 : A.eval (.tmp 173) = (.bool true) := by have h := depL hdeps 7 (by kernel_rfl) 173 (by kernel_rfl); exact h
            refine ifw_pass 7 false true 173 rfl rfl e173 (by decide) ?_
            exact rfl
           ·
            intro A u hu hpu hsz hout hdeps
            have e173 : A.eval (.tmp 173) = (.bool true) := by have h := depL hdeps 7 (by kernel_rfl) 173 (by kernel_rfl); exact h
            refine ifw_pass 7 false true 173 rfl rfl e173 (by decide) ?_
            exact rfl
           ·
            intro A u hu hpu hsz hout hdeps
            have e173 : A.eval (.tmp 173) = (.bool true) := by have h := depL hdeps 7 (by kernel_rfl) 173 (by kernel_rfl); exact h
            refine ifw_pass 7 false true 173 rfl rfl e173 (by decide) ?_
            exact rfl
           ·
            intro A u hu hpu hsz hout hdeps
            have e173 : A.eval (.tmp 173) = (.bool true) := by have h := depL hdeps 7 (by kernel_rfl) 173 (by kernel_rfl); exact h
            refine ifw_pass 7 false true 173 rfl rfl e173 (by decide) ?_
            exact rfl
           ·
            intro A u hu hpu hsz hout hdeps
            have e173 : A.eval (.tmp 173) = (.bool true) := by have h := depL hdeps 7 (by kernel_rfl) 173 (by kernel_rfl); exact h
            refine ifw_pass 7 false true 173 rfl rfl e173 (by decide) ?_
            exact rfl
           ·
            intro A u hu hpu hsz hout hdeps
            have e173 : A.eval (.tmp 173) = (.bool true) := by have h := depL hdeps 7 (by kernel_rfl) 173 (by kernel_rfl); exact h
            refine ifw_pass 7 false true 173 rfl rfl e173 (by decide) ?_
            exact rfl
           ·
            intro A u hu hpu hsz hout hdeps
            have e173 : A.eval (.tmp 173) = (.bool true) := by have h := depL hdeps 7 (by kernel_rfl) 173 (by kernel_rfl); exact h
            refine ifw_pass 7 false true 173 rfl rfl e173 (by decide) ?_
            exact rfl
           ·
            intro A u hu hpu hsz hout hdeps
            have e180 : A.eval (.tmp 180) = undef := by have h := depL hdeps 14 (by kernel_rfl) 180 (by kernel_rfl); exact h
            refine ifw_undef 14 true 180 rfl rfl e180 ?_
            exact rfl
           ·
            intro A u hu hpu hsz hout hdeps
            have e180 : A.eval (.tmp 180) = undef := by have h := depL hdeps 14 (by kernel_rfl) 180 (by kernel_rfl); exact h
            refine ifw_undef 14 true 180 rfl rfl e180 ?_
            exact rfl
           ·
            intro A u hu hpu hsz hout hdeps
            have e180 : A.eval (.tmp 180) = undef := by have h := depL hdeps 14 (by kernel_rfl) 180 (by kernel_rfl); exact h
            refine ifw_undef 14 true 180 rfl rfl e180 ?_
            exact rfl
           ·
            intro A u hu hpu hsz hout hdeps
            have e180 : A.eval (.tmp 180) = undef := by have h := depL hdeps 14 (by kernel_rfl) 180 (by kernel_rfl); exact h
            refine ifw_undef 14 true 180 rfl rfl e180 ?_
            exact rfl
           ·
            intro A u hu hpu hsz hout hdeps
            have e180 : A.eval (.tmp 180) = undef := by have h := depL hdeps 14 (by kernel_rfl) 180 (by kernel_rfl); exact h
            refine ifw_undef 14 true 180 rfl rfl e180 ?_
            exact rfl
           ·
            intro A u hu hpu hsz hout hdeps
            have e180 : A.eval (.tmp 180) = undef := by have h := depL hdeps 14 (by kernel_rfl) 180 (by kernel_rfl); exact h
            refine ifw_undef 14 true 180 rfl rfl e180 ?_
            exact rfl
           ·
            intro A u hu hpu hsz hout hdeps
            have e180 : A.eval (.tmp 180) = undef := by have h := depL hdeps 14 (by kernel_rfl) 180 (by kernel_rfl); exact h
            refine ifw_undef 14 true 180 rfl rfl e180 ?_
            exact rfl
           ·
            intro A u hu hpu hsz hout hdeps
            have e180 : A.eval (.tmp 180) = undef := by have h := depL hdeps 14 (by kernel_rfl) 180 (by kernel_rfl); exact h
            refine ifw_undef 14 true 180 rfl rfl e180 ?_
            exact rfl
           ·
            intro A u hu hpu hsz hout hdeps
            have e180 : A.eval (.tmp 180) = undef := by have h := depL hdeps 14 (by kernel_rfl) 180 (by kernel_rfl); exact h
            refine ifw_undef 14 true 180 rfl rfl e180 ?_
            exact rfl
           ·
            intro A u hu hpu hsz hout hdeps
            have e180 : A.eval (.tmp 180) = undef := by have h := depL hdeps 14 (by kernel_rfl) 180 (by kernel_rfl); exact h
            refine ifw_undef 14 true 180 rfl rfl e180 ?_
            exact rfl
           ·
            intro A u hu hpu hsz hout hdeps
            have e180 : A.eval (.tmp 180) = undef := by have h := depL hdeps 14 (by kernel_rfl) 180 (by kernel_rfl); exact h
            refine ifw_undef 14 true 180 rfl rfl e180 ?_
            exact rfl
           ·
            intro A u hu hpu hsz hout hdeps
            have e173 : A.eval (.tmp 173) = (.bool true) := by have h := depL hdeps 7 (by kernel_rfl) 173 (by kernel_rfl); exact h
            refine ifw_pass 7 false true 173 rfl rfl e173 (by decide) ?_
            exact rfl
           ·
            intro A u hu hpu hsz hout hdeps
            have e173 : A.eval (.tmp 173) = (.bool true) := by have h := depL hdeps 7 (by kernel_rfl) 173 (by kernel_rfl); exact h
            refine ifw_none rfl ?_
            with_reducible refine shown_q (Value.bool true) ?qq_4a1_27 (fun _ _ => ?qr_4a1_27)
            case qr_4a1_27 => exact (rfl : (Value.bool true) = (Value.bool true))
            with_reducible refine quietAt_pick (.tmp 173) (.const (.bool true)) (.tmp 192) true (Value.bool true) ?h0_4a1_27 ?h1_4a1_27 ?h2_4a1_27
            case h0_4a1_27 => rfl
            case h1_4a1_27 => exact e173
            case h2_4a1_27 => rw [if_pos rfl]; exact rfl
           ·
            intro A u hu hpu hsz hout hdeps
            have e166 : A.eval (.tmp 166) = (.slice (some ⟨g, 0, none⟩) k fc) := by have h := depL hdeps 0 (by kernel_rfl) 166 (by kernel_rfl); exact h
            have e167 : A.eval (.tmp 167) = (.int .i64 (j : Nat)) := by have h := depL hdeps 1 (by kernel_rfl) 167 (by kernel_rfl); exact h
            refine ifw_none rfl ?_
            with_reducible refine shown_q (Value.pointer (some ⟨g, j * 35, none⟩)) ?qq_4a1_28 (fun _ _ => ?qr_4a1_28)
            case qr_4a1_28 => exact (rfl : (Value.pointer (some ⟨g, j * 35, none⟩)) = (Value.pointer (some ⟨g, j * 35, none⟩)))
            with_reducible refine quietAt_idx 97 (.tmp 166) (.tmp 167) (Value.slice (some ⟨g, 0, none⟩) k fc) (Value.int .i64 (j : Nat)) (Value.pointer (some ⟨g, j * 35, none⟩)) ?h0_4a1_28 ?h1_4a1_28 ?h2_4a1_28 ?h3_4a1_28
            case h0_4a1_28 => rfl
            case h1_4a1_28 => exact e166
            case h2_4a1_28 => exact e167
            case h3_4a1_28 => exact idx97z g k fc j hjk u
           ·
            intro A u hu hpu hsz hout hdeps
            have e194 : A.eval (.tmp 194) = (.pointer (some ⟨g, j * 35, none⟩)) := by have h := depL hdeps 28 (by kernel_rfl) 194 (by kernel_rfl); exact h
            refine ifw_none rfl ?_
            with_reducible refine shown_q (Value.pointer (some ⟨g, j * 35 + 34, none⟩)) ?qq_4a1_29 (fun _ _ => ?qr_4a1_29)
            case qr_4a1_29 => exact (rfl : (Value.pointer (some ⟨g, j * 35 + 34, none⟩)) = (Value.pointer (some ⟨g, j * 35 + 34, none⟩)))
            with_reducible refine quietAt_field 96 (.tmp 194) 3 ?h0_4a1_29 ⟨g, j * 35, none⟩ ⟨g, j * 35 + 34, none⟩ ?h1_4a1_29 ?h2_4a1_29
            case h0_4a1_29 => rfl
            case h1_4a1_29 => exact e194
            case h2_4a1_29 => first | kernel_rfl | rfl
           ·
            intro A u8 listed hh hall
            have hA := hh.frame
            have HU := hid hh.grown
            obtain ⟨x166, hx166⟩ : ∃ x, A.eval (.tmp 166) = x := ⟨_, rfl⟩
            have f166 : (fun v _ => v = (Value.slice (some ⟨g, 0, none⟩) k fc)) x166 u8 := by rw [← hx166]; exact hh.got 0 _ 166 rfl rfl (hall 0 (by decide))
            obtain ⟨x167, hx167⟩ : ∃ x, A.eval (.tmp 167) = x := ⟨_, rfl⟩
            have f167 : (fun v _ => v = (Value.int .i64 (j : Nat))) x167 u8 := by rw [← hx167]; exact hh.got 1 _ 167 rfl rfl (hall 1 (by decide))
            obtain ⟨x168, hx168⟩ : ∃ x, A.eval (.tmp 168) = x := ⟨_, rfl⟩
            have f168 : (fun v _ => v = (Value.slice (some ⟨g, 0, none⟩) k fc)) x168 u8 := by rw [← hx168]; exact hh.got 2 _ 168 rfl rfl (hall 2 (by decide))
            obtain ⟨x169, hx169⟩ : ∃ x, A.eval (.tmp 169) = x := ⟨_, rfl⟩
            have f169 : (fun v _ => v = (Value.int .i64 (j : Nat))) x169 u8 := by rw [← hx169]; exact hh.got 3 _ 169 rfl rfl (hall 3 (by decide))
            obtain ⟨x170, hx170⟩ : ∃ x, A.eval (.tmp 170) = x := ⟨_, rfl⟩
            have f170 : (fun v _ => v = (Value.pointer (some ⟨g, j * 35, none⟩))) x170 u8 := by rw [← hx170]; exact hh.got 4 _ 170 rfl rfl (hall 4 (by decide))
            obtain ⟨x171, hx171⟩ : ∃ x, A.eval (.tmp 171) = x := ⟨_, rfl⟩
            have f171 : (fun v _ => v = (Value.pointer (some ⟨g, j * 35 + 34, none⟩))) x171 u8 := by rw [← hx171]; exact hh.got 5 _ 171 rfl rfl (hall 5 (by decide))
            obtain ⟨x172, hx172⟩ : ∃ x, A.eval (.tmp 172) = x := ⟨_, rfl⟩
            have f172 : (fun v _ => v = (Value.bool true)) x172 u8 := by rw [← hx172]; exact hh.got 6 _ 172 rfl rfl (hall 6 (by decide))
            obtain ⟨x173, hx173⟩ : ∃ x, A.eval (.tmp 173) = x := ⟨_, rfl⟩
            have f173 : (fun v _ => v = (Value.bool true)) x173 u8 := by rw [← hx173]; exact hh.got 7 _ 173 rfl rfl (hall 7 (by decide))
            obtain ⟨x174, hx174⟩ : ∃ x, A.eval (.tmp 174) = x := ⟨_, rfl⟩
            have f174 : (fun v _ => v = undef) x174 u8 := by rw [← hx174]; exact hh.got 8 _ 174 rfl rfl (hall 8 (by decide))
            obtain ⟨x175, hx175⟩ : ∃ x, A.eval (.tmp 175) = x := ⟨_, rfl⟩
            have f175 : (fun v _ => v = undef) x175 u8 := by rw [← hx175]; exact hh.got 9 _ 175 rfl rfl (hall 9 (by decide))
            obtain ⟨x176, hx176⟩ : ∃ x, A.eval (.tmp 176) = x := ⟨_, rfl⟩
            have f176 : (fun v _ => v = undef) x176 u8 := by rw [← hx176]; exact hh.got 10 _ 176 rfl rfl (hall 10 (by decide))
            obtain ⟨x177, hx177⟩ : ∃ x, A.eval (.tmp 177) = x := ⟨_, rfl⟩
            have f177 : (fun v _ => v = undef) x177 u8 := by rw [← hx177]; exact hh.got 11 _ 177 rfl rfl (hall 11 (by decide))
            obtain ⟨x178, hx178⟩ : ∃ x, A.eval (.tmp 178) = x := ⟨_, rfl⟩
            have f178 : (fun v _ => v = undef) x178 u8 := by rw [← hx178]; exact hh.got 12 _ 178 rfl rfl (hall 12 (by decide))
            obtain ⟨x179, hx179⟩ : ∃ x, A.eval (.tmp 179) = x := ⟨_, rfl⟩
            have f179 : (fun v _ => v = undef) x179 u8 := by rw [← hx179]; exact hh.got 13 _ 179 rfl rfl (hall 13 (by decide))
            obtain ⟨x180, hx180⟩ : ∃ x, A.eval (.tmp 180) = x := ⟨_, rfl⟩
            have f180 : (fun v _ => v = undef) x180 u8 := by rw [← hx180]; exact hh.got 14 _ 180 rfl rfl (hall 14 (by decide))
            obtain ⟨x181, hx181⟩ : ∃ x, A.eval (.tmp 181) = x := ⟨_, rfl⟩
            have f181 : (fun v _ => v = undef) x181 u8 := by rw [← hx181]; exact hh.got 15 _ 181 rfl rfl (hall 15 (by decide))
            obtain ⟨x182, hx182⟩ : ∃ x, A.eval (.tmp 182) = x := ⟨_, rfl⟩
            have f182 : (fun v _ => v = undef) x182 u8 := by rw [← hx182]; exact hh.got 16 _ 182 rfl rfl (hall 16 (by decide))
            obtain ⟨x183, hx183⟩ : ∃ x, A.eval (.tmp 183) = x := ⟨_, rfl⟩
            have f183 : (fun v _ => v = undef) x183 u8 := by rw [← hx183]; exact hh.got 17 _ 183 rfl rfl (hall 17 (by decide))
            obtain ⟨x184, hx184⟩ : ∃ x, A.eval (.tmp 184) = x := ⟨_, rfl⟩
            have f184 : (fun v _ => v = undef) x184 u8 := by rw [← hx184]; exact hh.got 18 _ 184 rfl rfl (hall 18 (by decide))
            obtain ⟨x185, hx185⟩ : ∃ x, A.eval (.tmp 185) = x := ⟨_, rfl⟩
            have f185 : (fun v _ => v = undef) x185 u8 := by rw [← hx185]; exact hh.got 19 _ 185 rfl rfl (hall 19 (by decide))
            obtain ⟨x186, hx186⟩ : ∃ x, A.eval (.tmp 186) = x := ⟨_, rfl⟩
            have f186 : (fun v _ => v = undef) x186 u8 := by rw [← hx186]; exact hh.got 20 _ 186 rfl rfl (hall 20 (by decide))
            obtain ⟨x187, hx187⟩ : ∃ x, A.eval (.tmp 187) = x := ⟨_, rfl⟩
            have f187 : (fun v _ => v = undef) x187 u8 := by rw [← hx187]; exact hh.got 21 _ 187 rfl rfl (hall 21 (by decide))
            obtain ⟨x188, hx188⟩ : ∃ x, A.eval (.tmp 188) = x := ⟨_, rfl⟩
            have f188 : (fun v _ => v = undef) x188 u8 := by rw [← hx188]; exact hh.got 22 _ 188 rfl rfl (hall 22 (by decide))
            obtain ⟨x189, hx189⟩ : ∃ x, A.eval (.tmp 189) = x := ⟨_, rfl⟩
            have f189 : (fun v _ => v = undef) x189 u8 := by rw [← hx189]; exact hh.got 23 _ 189 rfl rfl (hall 23 (by decide))
            obtain ⟨x190, hx190⟩ : ∃ x, A.eval (.tmp 190) = x := ⟨_, rfl⟩
            have f190 : (fun v _ => v = undef) x190 u8 := by rw [← hx190]; exact hh.got 24 _ 190 rfl rfl (hall 24 (by decide))
            obtain ⟨x191, hx191⟩ : ∃ x, A.eval (.tmp 191) = x := ⟨_, rfl⟩
            have f191 : (fun v _ => v = undef) x191 u8 := by rw [← hx191]; exact hh.got 25 _ 191 rfl rfl (hall 25 (by decide))
            obtain ⟨x192, hx192⟩ : ∃ x, A.eval (.tmp 192) = x := ⟨_, rfl⟩
            have f192 : (fun v _ => v = undef) x192 u8 := by rw [← hx192]; exact hh.got 26 _ 192 rfl rfl (hall 26 (by decide))
            obtain ⟨x193, hx193⟩ : ∃ x, A.eval (.tmp 193) = x := ⟨_, rfl⟩
            have f193 : (fun v _ => v = (Value.bool true)) x193 u8 := by rw [← hx193]; exact hh.got 27 _ 193 rfl rfl (hall 27 (by decide))
            obtain ⟨x194, hx194⟩ : ∃ x, A.eval (.tmp 194) = x := ⟨_, rfl⟩
            have f194 : (fun v _ => v = (Value.pointer (some ⟨g, j * 35, none⟩))) x194 u8 := by rw [← hx194]; exact hh.got 28 _ 194 rfl rfl (hall 28 (by decide))
            obtain ⟨x195, hx195⟩ : ∃ x, A.eval (.tmp 195) = x := ⟨_, rfl⟩
            have f195 : (fun v _ => v = (Value.pointer (some ⟨g, j * 35 + 34, none⟩))) x195 u8 := by rw [← hx195]; exact hh.got 29 _ 195 rfl rfl (hall 29 (by decide))
            dsimp only [wrote, List.foldl] at hA
            rw [hx166, hx167, hx168, hx169, hx170, hx171, hx172, hx173, hx174, hx175, hx176, hx177, hx178, hx179, hx180, hx181, hx182, hx183, hx184, hx185, hx186, hx187, hx188, hx189, hx190, hx191, hx192, hx193, hx194, hx195] at hA
            clear hh hall hx166 hx167 hx168 hx169 hx170 hx171 hx172 hx173 hx174 hx175 hx176 hx177 hx178 hx179 hx180 hx181 hx182 hx183 hx184 hx185 hx186 hx187 hx188 hx189 hx190 hx191 hx192 hx193 hx194 hx195
            replace f166 := (f166 : x166 = (.slice (some ⟨g, 0, none⟩) k fc))
            subst f166
            replace f167 := (f167 : x167 = (.int .i64 (j : Nat)))
            subst f167
            replace f168 := (f168 : x168 = (.slice (some ⟨g, 0, none⟩) k fc))
            subst f168
            replace f169 := (f169 : x169 = (.int .i64 (j : Nat)))
            subst f169
            replace f170 := (f170 : x170 = (.pointer (some ⟨g, j * 35, none⟩)))
            subst f170
            replace f171 := (f171 : x171 = (.pointer (some ⟨g, j * 35 + 34, none⟩)))
            subst f171
            replace f172 := (f172 : x172 = (.bool true))
            subst f172
            replace f173 := (f173 : x173 = (.bool true))
            subst f173
            replace f174 := (f174 : x174 = undef)
            subst f174
            replace f175 := (f175 : x175 = undef)
            subst f175
            replace f176 := (f176 : x176 = undef)
            subst f176
            replace f177 := (f177 : x177 = undef)
            subst f177
            replace f178 := (f178 : x178 = undef)
            subst f178
            replace f179 := (f179 : x179 = undef)
            subst f179
            replace f180 := (f180 : x180 = undef)
            subst f180
            replace f181 := (f181 : x181 = undef)
            subst f181
            replace f182 := (f182 : x182 = undef)
            subst f182
            replace f183 := (f183 : x183 = undef)
            subst f183
            replace f184 := (f184 : x184 = undef)
            subst f184
            replace f185 := (f185 : x185 = undef)
            subst f185
            replace f186 := (f186 : x186 = undef)
            subst f186
            replace f187 := (f187 : x187 = undef)
            subst f187
            replace f188 := (f188 : x188 = undef)
            subst f188
            replace f189 := (f189 : x189 = undef)
            subst f189
            replace f190 := (f190 : x190 = undef)
            subst f190
            replace f191 := (f191 : x191 = undef)
            subst f191
            replace f192 := (f192 : x192 = undef)
            subst f192
            replace f193 := (f193 : x193 = (.bool true))
            subst f193
            replace f194 := (f194 : x194 = (.pointer (some ⟨g, j * 35, none⟩)))
            subst f194
            replace f195 := (f195 : x195 = (.pointer (some ⟨g, j * 35 + 34, none⟩)))
            subst f195
            subst hA
            show wpList _ _ _ [_] _ _
            simp only [Act.put, List.setIfInBounds_toArray, List.set_cons_succ, List.set_cons_zero]
            have hy9 := H34.out u8 HU.out
            obtain ⟨cs8, hb8, _⟩ := z9.out u8 HU.out
            have hz9 := hb8.frozen (j * 35 + 34)
            clear hb8
            go_upto_region 28 with fail
            obtain ⟨w29, hw29⟩ : ∃ x, u8.setCell ⟨g, j * 35 + 34, none⟩ (.bool true) = x := ⟨_, rfl⟩
            rw [hw29]
            have HG29 : Hid (u8.grownBy w29 (some g)) := hid (by rw [← hw29]; exact gset _ _ _)
            have HFu := hid (HFr.out.keep HU.out)
            have HF29 : Hid (OutF w.heap.size w29 (.slice (some ⟨g, 0, none⟩) k fc) ((fs.take (j + 1)).map (Ft.prune At) ++ fs.drop (j + 1))) := hid (by
             have h := OutF.gone (fs := (fs.take j).map (Ft.prune At) ++ fs.drop j) (c := fc) (by rw [HPl.out]; exact HFu.out) j f true HPj.out
             rw [HPl.out, hw29, show (⟨f.sec, f.til, true⟩ : Ft) = Ft.prune At f by unfold Ft.prune; rw [HPg.out], prune_step HFj.out] at h
             exact h)
            obtain ⟨cs9, hk9, hC9⟩ := HFu.out.blk (g := g) rfl
            have HX29 := hid ((HXr.out.keep HU.out).off HG29.out hk9 (by decide))
            have HP29 := hid ((HPr.out.keep HU.out).on HG29.out (fun e => hk9.ne (HPr.out.keep HU.out) (by decide) (Option.some.inj e)))
            have HGq9 := hid ((gtrans HGr.out HU.out).andThen HG29.out (fun j hj => .inl (by injection hj with hj; omega)))
            clear hk9 hC9 cs9 hw29 hy9 hz9
            go_wp2_with fail
            go_roundw
            case rel => exact ⟨j + 1, by go_num, by omega, HF29, HP29, HX29, HGq9⟩
            case measure => simp [intOf]; omega
          | false =>
           rw [Bool.false_or] at HPg
           by_cases hp : 0 < til
           ·
            have hpos : decide ((0 : Int) < til) = true := decide_eq_true hp
            rw [hpos, Bool.true_and] at HPg
            by_cases hl : til ≤ At
            ·
             as_aux_lemma =>
             have hle : decide (til ≤ At) = true := decide_eq_true hl
             rw [hle] at HPg
             refine wp_region_list (by kernel_rfl) [fun v _ => v = (Value.slice (some ⟨g, 0, none⟩) k fc), fun v _ => v = (Value.int .i64 (j : Nat)), fun v _ => v = (Value.slice (some ⟨g, 0, none⟩) k fc), fun v _ => v = (Value.int .i64 (j : Nat)), fun v _ => v = (Value.pointer (some ⟨g, j * 35, none⟩)), fun v _ => v = (Value.pointer (some ⟨g, j * 35 + 34, none⟩)), fun v _ => v = (Value.bool false), fun v _ => v = (Value.bool false), fun v _ => v = (Value.slice (some ⟨g, 0, none⟩) k fc), fun v _ => v = (Value.int .i64 (j : Nat)), fun v _ => v = (Value.pointer (some ⟨g, j * 35, none⟩)), fun v _ => v = (Value.pointer (some ⟨g, j * 35 + 33, none⟩)), fun v _ => v = (Value.int .i64 til), fun v _ => v = (Value.bool true), fun v _ => v = (Value.bool true), fun v _ => v = (Value.slice (some ⟨g, 0, none⟩) k fc), fun v _ => v = (Value.int .i64 (j : Nat)), fun v _ => v = (Value.pointer (some ⟨g, j * 35, none⟩)), fun v _ => v = (Value.pointer (some ⟨g, j * 35 + 33, none⟩)), fun v _ => v = (Value.int .i64 til), fun v _ => v = (Value.slice (some ⟨tb, to, none⟩) tn tc), fun v _ => v = (Value.int .i64 (i : Nat)), fun v _ => v = (Value.pointer (some ⟨tb, to + i * 35, none⟩)), fun v _ => v = (Value.pointer (some ⟨tb, to + i * 35 + 33, none⟩)), fun v _ => v = (Value.int .i64 At), fun v _ => v = (Value.bool true), fun v _ => v = (Value.bool true), fun v _ => v = (Value.bool true), fun v _ => v = (Value.pointer (some ⟨g, j * 35, none⟩)), fun v _ => v = (Value.pointer (some ⟨g, j * 35 + 34, none⟩))] (none) (fun _ => none) 30 (by kernel_rfl) (by kernel_rfl) (by kernel_rfl) (by kernel_rfl) (by decide) noRow_one (fun _ => .inl rfl) ⟨fun i v u u' hki h hg => h, fun i v u u' hki h hg => h, fun i v u u' hki h hg => h, fun i v u u' hki h hg => h, fun i v u u' hki h hg => h, fun i v u u' hki h hg => h, fun i v u u' hki h hg => h, fun i v u u' hki h hg => h, fun i v u u' hki h hg => h, fun i v u u' hki h hg => h, fun i v u u' hki h hg => h, fun i v u u' hki h hg => h, fun i v u u' hki h hg => h, fun i v u u' hki h hg => h, fun i v u u' hki h hg => h, fun i v u u' hki h hg => h, fun i v u u' hki h hg => h, fun i v u u' hki h hg => h, fun i v u u' hki h hg => h, fun i v u u' hki h hg => h, fun i v u u' hki h hg => h, fun i v u u' hki h hg => h, fun i v u u' hki h hg => h, fun i v u u' hki h hg => h, fun i v u u' hki h hg => h, fun i v u u' hki h hg => h, fun i v u u' hki h hg => h, fun i v u u' hki h hg => h, fun i v u u' hki h hg => h, fun i v u u' hki h hg => h, trivial⟩ ⟨?_, ?_, ?_, ?_, ?_, ?_, ?_, ?_, ?_, ?_, ?_, ?_, ?_, ?_, ?_, ?_, ?_, ?_, ?_, ?_, ?_, ?_, ?_, ?_, ?_, ?_, ?_, ?_, ?_, ?_, trivial⟩ ?_
             ·
              intro A u hu hpu hsz hout hdeps
              have e5 : A.eval (.tmp 5) = (.slice (some ⟨g, 0, none⟩) k fc) := (hout 5 (by kernel_rfl)).trans rfl
              refine ifw_none rfl ?_
              with_reducible refine shown_q (Value.slice (some ⟨g, 0, none⟩) k fc) ?qq_6a3_0 (fun _ _ => ?qr_6a3_0)
              case qr_6a3_0 => exact (rfl : (Value.slice (some ⟨g, 0, none⟩) k fc) = (Value.slice (some ⟨g, 0, none⟩) k fc))
              with_reducible refine quietAt_mv (.tmp 5) (Value.slice (some ⟨g, 0, none⟩) k fc) ?h0_6a3_0 ?h1_6a3_0
              case h0_6a3_0 => rfl
              case h1_6a3_0 => exact e5
             ·
              intro A u hu hpu hsz hout hdeps
              have e13 : A.eval (.tmp 13) = (.int .i64 (j : Nat)) := (hout 13 (by kernel_rfl)).trans rfl
              refine ifw_none rfl ?_
              with_reducible refine shown_q (Value.int .i64 (j : Nat)) ?qq_6a3_1 (fun _ _ => ?qr_6a3_1)
              case qr_6a3_1 => exact (rfl : (Value.int .i64 (j : Nat)) = (Value.int .i64 (j : Nat)))
              with_reducible refine quietAt_mv (.tmp 13) (Value.int .i64 (j : Nat)) ?h0_6a3_1 ?h1_6a3_1
              case h0_6a3_1 => rfl
              case h1_6a3_1 => exact e13
             ·
              intro A u hu hpu hsz hout hdeps
              have e5 : A.eval (.tmp 5) = (.slice (some ⟨g, 0, none⟩) k fc) := (hout 5 (by kernel_rfl)).trans rfl
              refine ifw_none rfl ?_
              with_reducible refine shown_q (Value.slice (some ⟨g, 0, none⟩) k fc) ?qq_6a3_2 (fun _ _ => ?qr_6a3_2)
              case qr_6a3_2 => exact (rfl : (Value.slice (some ⟨g, 0, none⟩) k fc) = (Value.slice (some ⟨g, 0, none⟩) k fc))
              with_reducible refine quietAt_mv (.tmp 5) (Value.slice (some ⟨g, 0, none⟩) k fc) ?h0_6a3_2 ?h1_6a3_2
              case h0_6a3_2 => rfl
              case h1_6a3_2 => exact e5
             ·
              intro A u hu hpu hsz hout hdeps
              have e13 : A.eval (.tmp 13) = (.int .i64 (j : Nat)) := (hout 13 (by kernel_rfl)).trans rfl
              refine ifw_none rfl ?_
              with_reducible refine shown_q (Value.int .i64 (j : Nat)) ?qq_6a3_3 (fun _ _ => ?qr_6a3_3)
              case qr_6a3_3 => exact (rfl : (Value.int .i64 (j : Nat)) = (Value.int .i64 (j : Nat)))
              with_reducible refine quietAt_mv (.tmp 13) (Value.int .i64 (j : Nat)) ?h0_6a3_3 ?h1_6a3_3
              case h0_6a3_3 => rfl
              case h1_6a3_3 => exact e13
             ·
              intro A u hu hpu hsz hout hdeps
              have e168 : A.eval (.tmp 168) = (.slice (some ⟨g, 0, none⟩) k fc) := by have h := depL hdeps 2 (by kernel_rfl) 168 (by kernel_rfl); exact h
              have e169 : A.eval (.tmp 169) = (.int .i64 (j : Nat)) := by have h := depL hdeps 3 (by kernel_rfl) 169 (by kernel_rfl); exact h
              refine ifw_none rfl ?_
              with_reducible refine shown_q (Value.pointer (some ⟨g, j * 35, none⟩)) ?qq_6a3_4 (fun _ _ => ?qr_6a3_4)
              case qr_6a3_4 => exact (rfl : (Value.pointer (some ⟨g, j * 35, none⟩)) = (Value.pointer (some ⟨g, j * 35, none⟩)))
              with_reducible refine quietAt_idx 97 (.tmp 168) (.tmp 169) (Value.slice (some ⟨g, 0, none⟩) k fc) (Value.int .i64 (j : Nat)) (Value.pointer (some ⟨g, j * 35, none⟩)) ?h0_6a3_4 ?h1_6a3_4 ?h2_6a3_4 ?h3_6a3_4
              case h0_6a3_4 => rfl
              case h1_6a3_4 => exact e168
              case h2_6a3_4 => exact e169
              case h3_6a3_4 => exact idx97z g k fc j hjk u
             ·
              intro A u hu hpu hsz hout hdeps
              have e170 : A.eval (.tmp 170) = (.pointer (some ⟨g, j * 35, none⟩)) := by have h := depL hdeps 4 (by kernel_rfl) 170 (by kernel_rfl); exact h
              refine ifw_none rfl ?_
              with_reducible refine shown_q (Value.pointer (some ⟨g, j * 35 + 34, none⟩)) ?qq_6a3_5 (fun _ _ => ?qr_6a3_5)
              case qr_6a3_5 => exact (rfl : (Value.pointer (some ⟨g, j * 35 + 34, none⟩)) = (Value.pointer (some ⟨g, j * 35 + 34, none⟩)))
              with_reducible refine quietAt_field 96 (.tmp 170) 3 ?h0_6a3_5 ⟨g, j * 35, none⟩ ⟨g, j * 35 + 34, none⟩ ?h1_6a3_5 ?h2_6a3_5
              case h0_6a3_5 => rfl
              case h1_6a3_5 => exact e170
              case h2_6a3_5 => first | kernel_rfl | rfl
             ·
              intro A u hu hpu hsz hout hdeps
              have e171 : A.eval (.tmp 171) = (.pointer (some ⟨g, j * 35 + 34, none⟩)) := by have h := depL hdeps 5 (by kernel_rfl) 171 (by kernel_rfl); exact h
              refine ifw_none rfl ?_
              with_reducible refine shown_q (Value.bool false) ?qq_6a3_6 (fun _ _ => ?qr_6a3_6)
              case qr_6a3_6 => exact (rfl : (Value.bool false) = (Value.bool false))
              with_reducible refine quietAt_ld 4 (.tmp 171) (Value.pointer (some ⟨g, j * 35 + 34, none⟩)) (Value.bool false) ?h0_6a3_6 ?h1_6a3_6 ?h2_6a3_6
              case h0_6a3_6 => rfl
              case h1_6a3_6 => exact e171
              case h2_6a3_6 => exact ld4 g (j * 35 + 34) false u (H34.out u hu)
             ·
              intro A u hu hpu hsz hout hdeps
              have e172 : A.eval (.tmp 172) = (.bool false) := by have h := depL hdeps 6 (by kernel_rfl) 172 (by kernel_rfl); exact h
              refine ifw_none rfl ?_
              with_reducible refine shown_q (Value.bool false) ?qq_6a3_7 (fun _ _ => ?qr_6a3_7)
              case qr_6a3_7 => exact (rfl : (Value.bool false) = (Value.bool false))
              with_reducible refine quietAt_mv (.tmp 172) (Value.bool false) ?h0_6a3_7 ?h1_6a3_7
              case h0_6a3_7 => rfl
              case h1_6a3_7 => exact e172
             ·
              intro A u hu hpu hsz hout hdeps
              have e173 : A.eval (.tmp 173) = (.bool false) := by have h := depL hdeps 7 (by kernel_rfl) 173 (by kernel_rfl); exact h
              have e5 : A.eval (.tmp 5) = (.slice (some ⟨g, 0, none⟩) k fc) := (hout 5 (by kernel_rfl)).trans rfl
              refine ifw_want 7 false 173 rfl rfl e173 ?_
              with_reducible refine shown_q (Value.slice (some ⟨g, 0, none⟩) k fc) ?qq_6a3_8 (fun _ _ => ?qr_6a3_8)
              case qr_6a3_8 => exact (rfl : (Value.slice (some ⟨g, 0, none⟩) k fc) = (Value.slice (some ⟨g, 0, none⟩) k fc))
              with_reducible refine quietAt_mv (.tmp 5) (Value.slice (some ⟨g, 0, none⟩) k fc) ?h0_6a3_8 ?h1_6a3_8
              case h0_6a3_8 => rfl
              case h1_6a3_8 => exact e5
             ·
              intro A u hu hpu hsz hout hdeps
              have e173 : A.eval (.tmp 173) = (.bool false) := by have h := depL hdeps 7 (by kernel_rfl) 173 (by kernel_rfl); exact h
              have e13 : A.eval (.tmp 13) = (.int .i64 (j : Nat)) := (hout 13 (by kernel_rfl)).trans rfl
              refine ifw_want 7 false 173 rfl rfl e173 ?_
              with_reducible refine shown_q (Value.int .i64 (j : Nat)) ?qq_6a3_9 (fun _ _ => ?qr_6a3_9)
              case qr_6a3_9 => exact (rfl : (Value.int .i64 (j : Nat)) = (Value.int .i64 (j : Nat)))
              with_reducible refine quietAt_mv (.tmp 13) (Value.int .i64 (j : Nat)) ?h0_6a3_9 ?h1_6a3_9
              case h0_6a3_9 => rfl
              case h1_6a3_9 => exact e13
             ·
              intro A u hu hpu hsz hout hdeps
              have e173 : A.eval (.tmp 173) = (.bool false) := by have h := depL hdeps 7 (by kernel_rfl) 173 (by kernel_rfl); exact h
              have e174 : A.eval (.tmp 174) = (.slice (some ⟨g, 0, none⟩) k fc) := by have h := depL hdeps 8 (by kernel_rfl) 174 (by kernel_rfl); exact h
              have e175 : A.eval (.tmp 175) = (.int .i64 (j : Nat)) := by have h := depL hdeps 9 (by kernel_rfl) 175 (by kernel_rfl); exact h
              refine ifw_want 7 false 173 rfl rfl e173 ?_
              with_reducible refine shown_q (Value.pointer (some ⟨g, j * 35, none⟩)) ?qq_6a3_10 (fun _ _ => ?qr_6a3_10)
              case qr_6a3_10 => exact (rfl : (Value.pointer (some ⟨g, j * 35, none⟩)) = (Value.pointer (some ⟨g, j * 35, none⟩)))
              with_reducible refine quietAt_idx 97 (.tmp 174) (.tmp 175) (Value.slice (some ⟨g, 0, none⟩) k fc) (Value.int .i64 (j : Nat)) (Value.pointer (some ⟨g, j * 35, none⟩)) ?h0_6a3_10 ?h1_6a3_10 ?h2_6a3_10 ?h3_6a3_10
              case h0_6a3_10 => rfl
              case h1_6a3_10 => exact e174
              case h2_6a3_10 => exact e175
              case h3_6a3_10 => exact idx97z g k fc j hjk u
             ·
              intro A u hu hpu hsz hout hdeps
              have e173 : A.eval (.tmp 173) = (.bool false) := by have h := depL hdeps 7 (by kernel_rfl) 173 (by kernel_rfl); exact h
              have e176 : A.eval (.tmp 176) = (.pointer (some ⟨g, j * 35, none⟩)) := by have h := depL hdeps 10 (by kernel_rfl) 176 (by kernel_rfl); exact h
              refine ifw_want 7 false 173 rfl rfl e173 ?_
              with_reducible refine shown_q (Value.pointer (some ⟨g, j * 35 + 33, none⟩)) ?qq_6a3_11 (fun _ _ => ?qr_6a3_11)
              case qr_6a3_11 => exact (rfl : (Value.pointer (some ⟨g, j * 35 + 33, none⟩)) = (Value.pointer (some ⟨g, j * 35 + 33, none⟩)))
              with_reducible refine quietAt_field 96 (.tmp 176) 2 ?h0_6a3_11 ⟨g, j * 35, none⟩ ⟨g, j * 35 + 33, none⟩ ?h1_6a3_11 ?h2_6a3_11
              case h0_6a3_11 => rfl
              case h1_6a3_11 => exact e176
              case h2_6a3_11 => first | kernel_rfl | rfl
             ·
              intro A u hu hpu hsz hout hdeps
              have e173 : A.eval (.tmp 173) = (.bool false) := by have h := depL hdeps 7 (by kernel_rfl) 173 (by kernel_rfl); exact h
              have e177 : A.eval (.tmp 177) = (.pointer (some ⟨g, j * 35 + 33, none⟩)) := by have h := depL hdeps 11 (by kernel_rfl) 177 (by kernel_rfl); exact h
              refine ifw_want 7 false 173 rfl rfl e173 ?_
              with_reducible refine shown_q (Value.int .i64 til) ?qq_6a3_12 (fun _ _ => ?qr_6a3_12)
              case qr_6a3_12 => exact (rfl : (Value.int .i64 til) = (Value.int .i64 til))
              with_reducible refine quietAt_ld 2 (.tmp 177) (Value.pointer (some ⟨g, j * 35 + 33, none⟩)) (Value.int .i64 til) ?h0_6a3_12 ?h1_6a3_12 ?h2_6a3_12
              case h0_6a3_12 => rfl
              case h1_6a3_12 => exact e177
              case h2_6a3_12 => exact ld2 g (j * 35 + 33) til u (H33.out u hu)
             ·
              intro A u hu hpu hsz hout hdeps
              have e173 : A.eval (.tmp 173) = (.bool false) := by have h := depL hdeps 7 (by kernel_rfl) 173 (by kernel_rfl); exact h
              have e178 : A.eval (.tmp 178) = (.int .i64 til) := by have h := depL hdeps 12 (by kernel_rfl) 178 (by kernel_rfl); exact h
              refine ifw_want 7 false 173 rfl rfl e173 ?_
              with_reducible refine shown_q (Value.bool true) ?qq_6a3_13 (fun _ _ => ?qr_6a3_13)
              case qr_6a3_13 => exact (rfl : (Value.bool true) = (Value.bool true))
              with_reducible refine quietAt_bin .gtr 2 (.tmp 178) (.const (.int .i64 0)) 2 (Value.int .i64 til) (Value.int .i64 0) (Value.bool true) ?h0_6a3_13 ?h1_6a3_13 ?h2_6a3_13 ?h3_6a3_13
              case h0_6a3_13 => rfl
              case h1_6a3_13 => exact e178
              case h2_6a3_13 => exact rfl
              case h3_6a3_13 => exact (gtr_i64 til 0 u).trans (by rw [hpos])
             ·
              intro A u hu hpu hsz hout hdeps
              have e173 : A.eval (.tmp 173) = (.bool false) := by have h := depL hdeps 7 (by kernel_rfl) 173 (by kernel_rfl); exact h
              have e179 : A.eval (.tmp 179) = (.bool true) := by have h := depL hdeps 13 (by kernel_rfl) 179 (by kernel_rfl); exact h
              refine ifw_want 7 false 173 rfl rfl e173 ?_
              with_reducible refine shown_q (Value.bool true) ?qq_6a3_14 (fun _ _ => ?qr_6a3_14)
              case qr_6a3_14 => exact (rfl : (Value.bool true) = (Value.bool true))
              with_reducible refine quietAt_mv (.tmp 179) (Value.bool true) ?h0_6a3_14 ?h1_6a3_14
              case h0_6a3_14 => rfl
              case h1_6a3_14 => exact e179
             ·
              intro A u hu hpu hsz hout hdeps
              have e180 : A.eval (.tmp 180) = (.bool true) := by have h := depL hdeps 14 (by kernel_rfl) 180 (by kernel_rfl); exact h
              have e5 : A.eval (.tmp 5) = (.slice (some ⟨g, 0, none⟩) k fc) := (hout 5 (by kernel_rfl)).trans rfl
              refine ifw_want 14 true 180 rfl rfl e180 ?_
              with_reducible refine shown_q (Value.slice (some ⟨g, 0, none⟩) k fc) ?qq_6a3_15 (fun _ _ => ?qr_6a3_15)
              case qr_6a3_15 => exact (rfl : (Value.slice (some ⟨g, 0, none⟩) k fc) = (Value.slice (some ⟨g, 0, none⟩) k fc))
              with_reducible refine quietAt_mv (.tmp 5) (Value.slice (some ⟨g, 0, none⟩) k fc) ?h0_6a3_15 ?h1_6a3_15
              case h0_6a3_15 => rfl
              case h1_6a3_15 => exact e5
             ·
              intro A u hu hpu hsz hout hdeps
              have e180 : A.eval (.tmp 180) = (.bool true) := by have h := depL hdeps 14 (by kernel_rfl) 180 (by kernel_rfl); exact h
              have e13 : A.eval (.tmp 13) = (.int .i64 (j : Nat)) := (hout 13 (by kernel_rfl)).trans rfl
              refine ifw_want 14 true 180 rfl rfl e180 ?_
              with_reducible refine shown_q (Value.int .i64 (j : Nat)) ?qq_6a3_16 (fun _ _ => ?qr_6a3_16)
              case qr_6a3_16 => exact (rfl : (Value.int .i64 (j : Nat)) = (Value.int .i64 (j : Nat)))
              with_reducible refine quietAt_mv (.tmp 13) (Value.int .i64 (j : Nat)) ?h0_6a3_16 ?h1_6a3_16
              case h0_6a3_16 => rfl
              case h1_6a3_16 => exact e13
             ·
              intro A u hu hpu hsz hout hdeps
              have e180 : A.eval (.tmp 180) = (.bool true) := by have h := depL hdeps 14 (by kernel_rfl) 180 (by kernel_rfl); exact h
              have e181 : A.eval (.tmp 181) = (.slice (some ⟨g, 0, none⟩) k fc) := by have h := depL hdeps 15 (by kernel_rfl) 181 (by kernel_rfl); exact h
              have e182 : A.eval (.tmp 182) = (.int .i64 (j : Nat)) := by have h := depL hdeps 16 (by kernel_rfl) 182 (by kernel_rfl); exact h
              refine ifw_want 14 true 180 rfl rfl e180 ?_
              with_reducible refine shown_q (Value.pointer (some ⟨g, j * 35, none⟩)) ?qq_6a3_17 (fun _ _ => ?qr_6a3_17)
              case qr_6a3_17 => exact (rfl : (Value.pointer (some ⟨g, j * 35, none⟩)) = (Value.pointer (some ⟨g, j * 35, none⟩)))
              with_reducible refine quietAt_idx 97 (.tmp 181) (.tmp 182) (Value.slice (some ⟨g, 0, none⟩) k fc) (Value.int .i64 (j : Nat)) (Value.pointer (some ⟨g, j * 35, none⟩)) ?h0_6a3_17 ?h1_6a3_17 ?h2_6a3_17 ?h3_6a3_17
              case h0_6a3_17 => rfl
              case h1_6a3_17 => exact e181
              case h2_6a3_17 => exact e182
              case h3_6a3_17 => exact idx97z g k fc j hjk u
             ·
              intro A u hu hpu hsz hout hdeps
              have e180 : A.eval (.tmp 180) = (.bool true) := by have h := depL hdeps 14 (by kernel_rfl) 180 (by kernel_rfl); exact h
              have e183 : A.eval (.tmp 183) = (.pointer (some ⟨g, j * 35, none⟩)) := by have h := depL hdeps 17 (by kernel_rfl) 183 (by kernel_rfl); exact h
              refine ifw_want 14 true 180 rfl rfl e180 ?_
              with_reducible refine shown_q (Value.pointer (some ⟨g, j * 35 + 33, none⟩)) ?qq_6a3_18 (fun _ _ => ?qr_6a3_18)
              case qr_6a3_18 => exact (rfl : (Value.pointer (some ⟨g, j * 35 + 33, none⟩)) = (Value.pointer (some ⟨g, j * 35 + 33, none⟩)))
              with_reducible refine quietAt_field 96 (.tmp 183) 2 ?h0_6a3_18 ⟨g, j * 35, none⟩ ⟨g, j * 35 + 33, none⟩ ?h1_6a3_18 ?h2_6a3_18
              case h0_6a3_18 => rfl
              case h1_6a3_18 => exact e183
              case h2_6a3_18 => first | kernel_rfl | rfl
             ·
              intro A u hu hpu hsz hout hdeps
              have e180 : A.eval (.tmp 180) = (.bool true) := by have h := depL hdeps 14 (by kernel_rfl) 180 (by kernel_rfl); exact h
              have e184 : A.eval (.tmp 184) = (.pointer (some ⟨g, j * 35 + 33, none⟩)) := by have h := depL hdeps 18 (by kernel_rfl) 184 (by kernel_rfl); exact h
              refine ifw_want 14 true 180 rfl rfl e180 ?_
              with_reducible refine shown_q (Value.int .i64 til) ?qq_6a3_19 (fun _ _ => ?qr_6a3_19)
              case qr_6a3_19 => exact (rfl : (Value.int .i64 til) = (Value.int .i64 til))
              with_reducible refine quietAt_ld 2 (.tmp 184) (Value.pointer (some ⟨g, j * 35 + 33, none⟩)) (Value.int .i64 til) ?h0_6a3_19 ?h1_6a3_19 ?h2_6a3_19
              case h0_6a3_19 => rfl
              case h1_6a3_19 => exact e184
              case h2_6a3_19 => exact ld2 g (j * 35 + 33) til u (H33.out u hu)
             ·
              intro A u hu hpu hsz hout hdeps
              have e180 : A.eval (.tmp 180) = (.bool true) := by have h := depL hdeps 14 (by kernel_rfl) 180 (by kernel_rfl); exact h
              have e3 : A.eval (.tmp 3) = (.slice (some ⟨tb, to, none⟩) tn tc) := (hout 3 (by kernel_rfl)).trans rfl
              refine ifw_want 14 true 180 rfl rfl e180 ?_
              with_reducible refine shown_q (Value.slice (some ⟨tb, to, none⟩) tn tc) ?qq_6a3_20 (fun _ _ => ?qr_6a3_20)
              case qr_6a3_20 => exact (rfl : (Value.slice (some ⟨tb, to, none⟩) tn tc) = (Value.slice (some ⟨tb, to, none⟩) tn tc))
              with_reducible refine quietAt_mv (.tmp 3) (Value.slice (some ⟨tb, to, none⟩) tn tc) ?h0_6a3_20 ?h1_6a3_20
              case h0_6a3_20 => rfl
              case h1_6a3_20 => exact e3
             ·
              intro A u hu hpu hsz hout hdeps
              have e180 : A.eval (.tmp 180) = (.bool true) := by have h := depL hdeps 14 (by kernel_rfl) 180 (by kernel_rfl); exact h
              have e6 : A.eval (.tmp 6) = (.int .i64 (i : Nat)) := (hout 6 (by kernel_rfl)).trans rfl
              refine ifw_want 14 true 180 rfl rfl e180 ?_
              with_reducible refine shown_q (Value.int .i64 (i : Nat)) ?qq_6a3_21 (fun _ _ => ?qr_6a3_21)
              case qr_6a3_21 => exact (rfl : (Value.int .i64 (i : Nat)) = (Value.int .i64 (i : Nat)))
              with_reducible refine quietAt_mv (.tmp 6) (Value.int .i64 (i : Nat)) ?h0_6a3_21 ?h1_6a3_21
              case h0_6a3_21 => rfl
              case h1_6a3_21 => exact e6
             ·
              intro A u hu hpu hsz hout hdeps
              have e180 : A.eval (.tmp 180) = (.bool true) := by have h := depL hdeps 14 (by kernel_rfl) 180 (by kernel_rfl); exact h
              have e186 : A.eval (.tmp 186) = (.slice (some ⟨tb, to, none⟩) tn tc) := by have h := depL hdeps 20 (by kernel_rfl) 186 (by kernel_rfl); exact h
              have e187 : A.eval (.tmp 187) = (.int .i64 (i : Nat)) := by have h := depL hdeps 21 (by kernel_rfl) 187 (by kernel_rfl); exact h
              refine ifw_want 14 true 180 rfl rfl e180 ?_
              with_reducible refine shown_q (Value.pointer (some ⟨tb, to + i * 35, none⟩)) ?qq_6a3_22 (fun _ _ => ?qr_6a3_22)
              case qr_6a3_22 => exact (rfl : (Value.pointer (some ⟨tb, to + i * 35, none⟩)) = (Value.pointer (some ⟨tb, to + i * 35, none⟩)))
              with_reducible refine quietAt_idx 92 (.tmp 186) (.tmp 187) (Value.slice (some ⟨tb, to, none⟩) tn tc) (Value.int .i64 (i : Nat)) (Value.pointer (some ⟨tb, to + i * 35, none⟩)) ?h0_6a3_22 ?h1_6a3_22 ?h2_6a3_22 ?h3_6a3_22
              case h0_6a3_22 => rfl
              case h1_6a3_22 => exact e186
              case h2_6a3_22 => exact e187
              case h3_6a3_22 => exact idx92 tb to tn tc i hlt1 u
             ·
              intro A u hu hpu hsz hout hdeps
              have e180 : A.eval (.tmp 180) = (.bool true) := by have h := depL hdeps 14 (by kernel_rfl) 180 (by kernel_rfl); exact h
              have e188 : A.eval (.tmp 188) = (.pointer (some ⟨tb, to + i * 35, none⟩)) := by have h := depL hdeps 22 (by kernel_rfl) 188 (by kernel_rfl); exact h
              refine ifw_want 14 true 180 rfl rfl e180 ?_
              with_reducible refine shown_q (Value.pointer (some ⟨tb, to + i * 35 + 33, none⟩)) ?qq_6a3_23 (fun _ _ => ?qr_6a3_23)
              case qr_6a3_23 => exact (rfl : (Value.pointer (some ⟨tb, to + i * 35 + 33, none⟩)) = (Value.pointer (some ⟨tb, to + i * 35 + 33, none⟩)))
              with_reducible refine quietAt_field 99 (.tmp 188) 2 ?h0_6a3_23 ⟨tb, to + i * 35, none⟩ ⟨tb, to + i * 35 + 33, none⟩ ?h1_6a3_23 ?h2_6a3_23
              case h0_6a3_23 => rfl
              case h1_6a3_23 => exact e188
              case h2_6a3_23 => first | kernel_rfl | rfl
             ·
              intro A u hu hpu hsz hout hdeps
              have e180 : A.eval (.tmp 180) = (.bool true) := by have h := depL hdeps 14 (by kernel_rfl) 180 (by kernel_rfl); exact h
              have e189 : A.eval (.tmp 189) = (.pointer (some ⟨tb, to + i * 35 + 33, none⟩)) := by have h := depL hdeps 23 (by kernel_rfl) 189 (by kernel_rfl); exact h
              refine ifw_want 14 true 180 rfl rfl e180 ?_
              with_reducible refine shown_q (Value.int .i64 At) ?qq_6a3_24 (fun _ _ => ?qr_6a3_24)
              case qr_6a3_24 => exact (rfl : (Value.int .i64 At) = (Value.int .i64 At))
              with_reducible refine quietAt_ld 2 (.tmp 189) (Value.pointer (some ⟨tb, to + i * 35 + 33, none⟩)) (Value.int .i64 At) ?h0_6a3_24 ?h1_6a3_24 ?h2_6a3_24
              case h0_6a3_24 => rfl
              case h1_6a3_24 => exact e189
              case h2_6a3_24 => exact ld2 tb (to + i * 35 + 33) At u (H33t.out u hu)
             ·
              intro A u hu hpu hsz hout hdeps
              have e180 : A.eval (.tmp 180) = (.bool true) := by have h := depL hdeps 14 (by kernel_rfl) 180 (by kernel_rfl); exact h
              have e185 : A.eval (.tmp 185) = (.int .i64 til) := by have h := depL hdeps 19 (by kernel_rfl) 185 (by kernel_rfl); exact h
              have e190 : A.eval (.tmp 190) = (.int .i64 At) := by have h := depL hdeps 24 (by kernel_rfl) 190 (by kernel_rfl); exact h
              refine ifw_want 14 true 180 rfl rfl e180 ?_
              with_reducible refine shown_q (Value.bool true) ?qq_6a3_25 (fun _ _ => ?qr_6a3_25)
              case qr_6a3_25 => exact (rfl : (Value.bool true) = (Value.bool true))
              with_reducible refine quietAt_bin .leq 2 (.tmp 185) (.tmp 190) 2 (Value.int .i64 til) (Value.int .i64 At) (Value.bool true) ?h0_6a3_25 ?h1_6a3_25 ?h2_6a3_25 ?h3_6a3_25
              case h0_6a3_25 => rfl
              case h1_6a3_25 => exact e185
              case h2_6a3_25 => exact e190
              case h3_6a3_25 => exact (leq_i64 til At u).trans (by rw [hle])
             ·
              intro A u hu hpu hsz hout hdeps
              have e173 : A.eval (.tmp 173) = (.bool false) := by have h := depL hdeps 7 (by kernel_rfl) 173 (by kernel_rfl); exact h
              have e180 : A.eval (.tmp 180) = (.bool true) := by have h := depL hdeps 14 (by kernel_rfl) 180 (by kernel_rfl); exact h
              have e191 : A.eval (.tmp 191) = (.bool true) := by have h := depL hdeps 25 (by kernel_rfl) 191 (by kernel_rfl); exact h
              refine ifw_want 7 false 173 rfl rfl e173 ?_
              with_reducible refine shown_q (Value.bool true) ?qq_6a3_26 (fun _ _ => ?qr_6a3_26)
              case qr_6a3_26 => exact (rfl : (Value.bool true) = (Value.bool true))
              with_reducible refine quietAt_pick (.tmp 180) (.tmp 191) (.const (.bool false)) true (Value.bool true) ?h0_6a3_26 ?h1_6a3_26 ?h2_6a3_26
              case h0_6a3_26 => rfl
              case h1_6a3_26 => exact e180
              case h2_6a3_26 => rw [if_pos rfl]; exact e191
             ·
              intro A u hu hpu hsz hout hdeps
              have e173 : A.eval (.tmp 173) = (.bool false) := by have h := depL hdeps 7 (by kernel_rfl) 173 (by kernel_rfl); exact h
              have e192 : A.eval (.tmp 192) = (.bool true) := by have h := depL hdeps 26 (by kernel_rfl) 192 (by kernel_rfl); exact h
              refine ifw_none rfl ?_
              with_reducible refine shown_q (Value.bool true) ?qq_6a3_27 (fun _ _ => ?qr_6a3_27)
              case qr_6a3_27 => exact (rfl : (Value.bool true) = (Value.bool true))
              with_reducible refine quietAt_pick (.tmp 173) (.const (.bool true)) (.tmp 192) false (Value.bool true) ?h0_6a3_27 ?h1_6a3_27 ?h2_6a3_27
              case h0_6a3_27 => rfl
              case h1_6a3_27 => exact e173
              case h2_6a3_27 => rw [if_neg (by decide)]; exact e192
             ·
              intro A u hu hpu hsz hout hdeps
              have e166 : A.eval (.tmp 166) = (.slice (some ⟨g, 0, none⟩) k fc) := by have h := depL hdeps 0 (by kernel_rfl) 166 (by kernel_rfl); exact h
              have e167 : A.eval (.tmp 167) = (.int .i64 (j : Nat)) := by have h := depL hdeps 1 (by kernel_rfl) 167 (by kernel_rfl); exact h
              refine ifw_none rfl ?_
              with_reducible refine shown_q (Value.pointer (some ⟨g, j * 35, none⟩)) ?qq_6a3_28 (fun _ _ => ?qr_6a3_28)
              case qr_6a3_28 => exact (rfl : (Value.pointer (some ⟨g, j * 35, none⟩)) = (Value.pointer (some ⟨g, j * 35, none⟩)))
              with_reducible refine quietAt_idx 97 (.tmp 166) (.tmp 167) (Value.slice (some ⟨g, 0, none⟩) k fc) (Value.int .i64 (j : Nat)) (Value.pointer (some ⟨g, j * 35, none⟩)) ?h0_6a3_28 ?h1_6a3_28 ?h2_6a3_28 ?h3_6a3_28
              case h0_6a3_28 => rfl
              case h1_6a3_28 => exact e166
              case h2_6a3_28 => exact e167
              case h3_6a3_28 => exact idx97z g k fc j hjk u
             ·
              intro A u hu hpu hsz hout hdeps
              have e194 : A.eval (.tmp 194) = (.pointer (some ⟨g, j * 35, none⟩)) := by have h := depL hdeps 28 (by kernel_rfl) 194 (by kernel_rfl); exact h
              refine ifw_none rfl ?_
              with_reducible refine shown_q (Value.pointer (some ⟨g, j * 35 + 34, none⟩)) ?qq_6a3_29 (fun _ _ => ?qr_6a3_29)
              case qr_6a3_29 => exact (rfl : (Value.pointer (some ⟨g, j * 35 + 34, none⟩)) = (Value.pointer (some ⟨g, j * 35 + 34, none⟩)))
              with_reducible refine quietAt_field 96 (.tmp 194) 3 ?h0_6a3_29 ⟨g, j * 35, none⟩ ⟨g, j * 35 + 34, none⟩ ?h1_6a3_29 ?h2_6a3_29
              case h0_6a3_29 => rfl
              case h1_6a3_29 => exact e194
              case h2_6a3_29 => first | kernel_rfl | rfl
             ·
              intro A u8 listed hh hall
              have hA := hh.frame
              have HU := hid hh.grown
              obtain ⟨x166, hx166⟩ : ∃ x, A.eval (.tmp 166) = x := ⟨_, rfl⟩
              have f166 : (fun v _ => v = (Value.slice (some ⟨g, 0, none⟩) k fc)) x166 u8 := by rw [← hx166]; exact hh.got 0 _ 166 rfl rfl (hall 0 (by decide))
              obtain ⟨x167, hx167⟩ : ∃ x, A.eval (.tmp 167) = x := ⟨_, rfl⟩
              have f167 : (fun v _ => v = (Value.int .i64 (j : Nat))) x167 u8 := by rw [← hx167]; exact hh.got 1 _ 167 rfl rfl (hall 1 (by decide))
              obtain ⟨x168, hx168⟩ : ∃ x, A.eval (.tmp 168) = x := ⟨_, rfl⟩
              have f168 : (fun v _ => v = (Value.slice (some ⟨g, 0, none⟩) k fc)) x168 u8 := by rw [← hx168]; exact hh.got 2 _ 168 rfl rfl (hall 2 (by decide))
              obtain ⟨x169, hx169⟩ : ∃ x, A.eval (.tmp 169) = x := ⟨_, rfl⟩
              have f169 : (fun v _ => v = (Value.int .i64 (j : Nat))) x169 u8 := by rw [← hx169]; exact hh.got 3 _ 169 rfl rfl (hall 3 (by decide))
              obtain ⟨x170, hx170⟩ : ∃ x, A.eval (.tmp 170) = x := ⟨_, rfl⟩
              have f170 : (fun v _ => v = (Value.pointer (some ⟨g, j * 35, none⟩))) x170 u8 := by rw [← hx170]; exact hh.got 4 _ 170 rfl rfl (hall 4 (by decide))
              obtain ⟨x171, hx171⟩ : ∃ x, A.eval (.tmp 171) = x := ⟨_, rfl⟩
              have f171 : (fun v _ => v = (Value.pointer (some ⟨g, j * 35 + 34, none⟩))) x171 u8 := by rw [← hx171]; exact hh.got 5 _ 171 rfl rfl (hall 5 (by decide))
              obtain ⟨x172, hx172⟩ : ∃ x, A.eval (.tmp 172) = x := ⟨_, rfl⟩
              have f172 : (fun v _ => v = (Value.bool false)) x172 u8 := by rw [← hx172]; exact hh.got 6 _ 172 rfl rfl (hall 6 (by decide))
              obtain ⟨x173, hx173⟩ : ∃ x, A.eval (.tmp 173) = x := ⟨_, rfl⟩
              have f173 : (fun v _ => v = (Value.bool false)) x173 u8 := by rw [← hx173]; exact hh.got 7 _ 173 rfl rfl (hall 7 (by decide))
              obtain ⟨x174, hx174⟩ : ∃ x, A.eval (.tmp 174) = x := ⟨_, rfl⟩
              have f174 : (fun v _ => v = (Value.slice (some ⟨g, 0, none⟩) k fc)) x174 u8 := by rw [← hx174]; exact hh.got 8 _ 174 rfl rfl (hall 8 (by decide))
              obtain ⟨x175, hx175⟩ : ∃ x, A.eval (.tmp 175) = x := ⟨_, rfl⟩
              have f175 : (fun v _ => v = (Value.int .i64 (j : Nat))) x175 u8 := by rw [← hx175]; exact hh.got 9 _ 175 rfl rfl (hall 9 (by decide))
              obtain ⟨x176, hx176⟩ : ∃ x, A.eval (.tmp 176) = x := ⟨_, rfl⟩
              have f176 : (fun v _ => v = (Value.pointer (some ⟨g, j * 35, none⟩))) x176 u8 := by rw [← hx176]; exact hh.got 10 _ 176 rfl rfl (hall 10 (by decide))
              obtain ⟨x177, hx177⟩ : ∃ x, A.eval (.tmp 177) = x := ⟨_, rfl⟩
              have f177 : (fun v _ => v = (Value.pointer (some ⟨g, j * 35 + 33, none⟩))) x177 u8 := by rw [← hx177]; exact hh.got 11 _ 177 rfl rfl (hall 11 (by decide))
              obtain ⟨x178, hx178⟩ : ∃ x, A.eval (.tmp 178) = x := ⟨_, rfl⟩
              have f178 : (fun v _ => v = (Value.int .i64 til)) x178 u8 := by rw [← hx178]; exact hh.got 12 _ 178 rfl rfl (hall 12 (by decide))
              obtain ⟨x179, hx179⟩ : ∃ x, A.eval (.tmp 179) = x := ⟨_, rfl⟩
              have f179 : (fun v _ => v = (Value.bool true)) x179 u8 := by rw [← hx179]; exact hh.got 13 _ 179 rfl rfl (hall 13 (by decide))
              obtain ⟨x180, hx180⟩ : ∃ x, A.eval (.tmp 180) = x := ⟨_, rfl⟩
              have f180 : (fun v _ => v = (Value.bool true)) x180 u8 := by rw [← hx180]; exact hh.got 14 _ 180 rfl rfl (hall 14 (by decide))
              obtain ⟨x181, hx181⟩ : ∃ x, A.eval (.tmp 181) = x := ⟨_, rfl⟩
              have f181 : (fun v _ => v = (Value.slice (some ⟨g, 0, none⟩) k fc)) x181 u8 := by rw [← hx181]; exact hh.got 15 _ 181 rfl rfl (hall 15 (by decide))
              obtain ⟨x182, hx182⟩ : ∃ x, A.eval (.tmp 182) = x := ⟨_, rfl⟩
              have f182 : (fun v _ => v = (Value.int .i64 (j : Nat))) x182 u8 := by rw [← hx182]; exact hh.got 16 _ 182 rfl rfl (hall 16 (by decide))
              obtain ⟨x183, hx183⟩ : ∃ x, A.eval (.tmp 183) = x := ⟨_, rfl⟩
              have f183 : (fun v _ => v = (Value.pointer (some ⟨g, j * 35, none⟩))) x183 u8 := by rw [← hx183]; exact hh.got 17 _ 183 rfl rfl (hall 17 (by decide))
              obtain ⟨x184, hx184⟩ : ∃ x, A.eval (.tmp 184) = x := ⟨_, rfl⟩
              have f184 : (fun v _ => v = (Value.pointer (some ⟨g, j * 35 + 33, none⟩))) x184 u8 := by rw [← hx184]; exact hh.got 18 _ 184 rfl rfl (hall 18 (by decide))
              obtain ⟨x185, hx185⟩ : ∃ x, A.eval (.tmp 185) = x := ⟨_, rfl⟩
              have f185 : (fun v _ => v = (Value.int .i64 til)) x185 u8 := by rw [← hx185]; exact hh.got 19 _ 185 rfl rfl (hall 19 (by decide))
              obtain ⟨x186, hx186⟩ : ∃ x, A.eval (.tmp 186) = x := ⟨_, rfl⟩
              have f186 : (fun v _ => v = (Value.slice (some ⟨tb, to, none⟩) tn tc)) x186 u8 := by rw [← hx186]; exact hh.got 20 _ 186 rfl rfl (hall 20 (by decide))
              obtain ⟨x187, hx187⟩ : ∃ x, A.eval (.tmp 187) = x := ⟨_, rfl⟩
              have f187 : (fun v _ => v = (Value.int .i64 (i : Nat))) x187 u8 := by rw [← hx187]; exact hh.got 21 _ 187 rfl rfl (hall 21 (by decide))
              obtain ⟨x188, hx188⟩ : ∃ x, A.eval (.tmp 188) = x := ⟨_, rfl⟩
              have f188 : (fun v _ => v = (Value.pointer (some ⟨tb, to + i * 35, none⟩))) x188 u8 := by rw [← hx188]; exact hh.got 22 _ 188 rfl rfl (hall 22 (by decide))
              obtain ⟨x189, hx189⟩ : ∃ x, A.eval (.tmp 189) = x := ⟨_, rfl⟩
              have f189 : (fun v _ => v = (Value.pointer (some ⟨tb, to + i * 35 + 33, none⟩))) x189 u8 := by rw [← hx189]; exact hh.got 23 _ 189 rfl rfl (hall 23 (by decide))
              obtain ⟨x190, hx190⟩ : ∃ x, A.eval (.tmp 190) = x := ⟨_, rfl⟩
              have f190 : (fun v _ => v = (Value.int .i64 At)) x190 u8 := by rw [← hx190]; exact hh.got 24 _ 190 rfl rfl (hall 24 (by decide))
              obtain ⟨x191, hx191⟩ : ∃ x, A.eval (.tmp 191) = x := ⟨_, rfl⟩
              have f191 : (fun v _ => v = (Value.bool true)) x191 u8 := by rw [← hx191]; exact hh.got 25 _ 191 rfl rfl (hall 25 (by decide))
              obtain ⟨x192, hx192⟩ : ∃ x, A.eval (.tmp 192) = x := ⟨_, rfl⟩
              have f192 : (fun v _ => v = (Value.bool true)) x192 u8 := by rw [← hx192]; exact hh.got 26 _ 192 rfl rfl (hall 26 (by decide))
              obtain ⟨x193, hx193⟩ : ∃ x, A.eval (.tmp 193) = x := ⟨_, rfl⟩
              have f193 : (fun v _ => v = (Value.bool true)) x193 u8 := by rw [← hx193]; exact hh.got 27 _ 193 rfl rfl (hall 27 (by decide))
              obtain ⟨x194, hx194⟩ : ∃ x, A.eval (.tmp 194) = x := ⟨_, rfl⟩
              have f194 : (fun v _ => v = (Value.pointer (some ⟨g, j * 35, none⟩))) x194 u8 := by rw [← hx194]; exact hh.got 28 _ 194 rfl rfl (hall 28 (by decide))
              obtain ⟨x195, hx195⟩ : ∃ x, A.eval (.tmp 195) = x := ⟨_, rfl⟩
              have f195 : (fun v _ => v = (Value.pointer (some ⟨g, j * 35 + 34, none⟩))) x195 u8 := by rw [← hx195]; exact hh.got 29 _ 195 rfl rfl (hall 29 (by decide))
              dsimp only [wrote, List.foldl] at hA
              rw [hx166, hx167, hx168, hx169, hx170, hx171, hx172, hx173, hx174, hx175, hx176, hx177, hx178, hx179, hx180, hx181, hx182, hx183, hx184, hx185, hx186, hx187, hx188, hx189, hx190, hx191, hx192, hx193, hx194, hx195] at hA
              clear hh hall hx166 hx167 hx168 hx169 hx170 hx171 hx172 hx173 hx174 hx175 hx176 hx177 hx178 hx179 hx180 hx181 hx182 hx183 hx184 hx185 hx186 hx187 hx188 hx189 hx190 hx191 hx192 hx193 hx194 hx195
              replace f166 := (f166 : x166 = (.slice (some ⟨g, 0, none⟩) k fc))
              subst f166
              replace f167 := (f167 : x167 = (.int .i64 (j : Nat)))
              subst f167
              replace f168 := (f168 : x168 = (.slice (some ⟨g, 0, none⟩) k fc))
              subst f168
              replace f169 := (f169 : x169 = (.int .i64 (j : Nat)))
              subst f169
              replace f170 := (f170 : x170 = (.pointer (some ⟨g, j * 35, none⟩)))
              subst f170
              replace f171 := (f171 : x171 = (.pointer (some ⟨g, j * 35 + 34, none⟩)))
              subst f171
              replace f172 := (f172 : x172 = (.bool false))
              subst f172
              replace f173 := (f173 : x173 = (.bool false))
              subst f173
              replace f174 := (f174 : x174 = (.slice (some ⟨g, 0, none⟩) k fc))
              subst f174
              replace f175 := (f175 : x175 = (.int .i64 (j : Nat)))
              subst f175
              replace f176 := (f176 : x176 = (.pointer (some ⟨g, j * 35, none⟩)))
              subst f176
              replace f177 := (f177 : x177 = (.pointer (some ⟨g, j * 35 + 33, none⟩)))
              subst f177
              replace f178 := (f178 : x178 = (.int .i64 til))
              subst f178
              replace f179 := (f179 : x179 = (.bool true))
              subst f179
              replace f180 := (f180 : x180 = (.bool true))
              subst f180
              replace f181 := (f181 : x181 = (.slice (some ⟨g, 0, none⟩) k fc))
              subst f181
              replace f182 := (f182 : x182 = (.int .i64 (j : Nat)))
              subst f182
              replace f183 := (f183 : x183 = (.pointer (some ⟨g, j * 35, none⟩)))
              subst f183
              replace f184 := (f184 : x184 = (.pointer (some ⟨g, j * 35 + 33, none⟩)))
              subst f184
              replace f185 := (f185 : x185 = (.int .i64 til))
              subst f185
              replace f186 := (f186 : x186 = (.slice (some ⟨tb, to, none⟩) tn tc))
              subst f186
              replace f187 := (f187 : x187 = (.int .i64 (i : Nat)))
              subst f187
              replace f188 := (f188 : x188 = (.pointer (some ⟨tb, to + i * 35, none⟩)))
              subst f188
              replace f189 := (f189 : x189 = (.pointer (some ⟨tb, to + i * 35 + 33, none⟩)))
              subst f189
              replace f190 := (f190 : x190 = (.int .i64 At))
              subst f190
              replace f191 := (f191 : x191 = (.bool true))
              subst f191
              replace f192 := (f192 : x192 = (.bool true))
              subst f192
              replace f193 := (f193 : x193 = (.bool true))
              subst f193
              replace f194 := (f194 : x194 = (.pointer (some ⟨g, j * 35, none⟩)))
              subst f194
              replace f195 := (f195 : x195 = (.pointer (some ⟨g, j * 35 + 34, none⟩)))
              subst f195
              subst hA
              show wpList _ _ _ [_] _ _
              simp only [Act.put, List.setIfInBounds_toArray, List.set_cons_succ, List.set_cons_zero]
              have hy9 := H34.out u8 HU.out
              obtain ⟨cs8, hb8, _⟩ := z9.out u8 HU.out
              have hz9 := hb8.frozen (j * 35 + 34)
              clear hb8
              go_upto_region 28 with fail
              obtain ⟨w29, hw29⟩ : ∃ x, u8.setCell ⟨g, j * 35 + 34, none⟩ (.bool true) = x := ⟨_, rfl⟩
              rw [hw29]
              have HG29 : Hid (u8.grownBy w29 (some g)) := hid (by rw [← hw29]; exact gset _ _ _)
              have HFu := hid (HFr.out.keep HU.out)
              have HF29 : Hid (OutF w.heap.size w29 (.slice (some ⟨g, 0, none⟩) k fc) ((fs.take (j + 1)).map (Ft.prune At) ++ fs.drop (j + 1))) := hid (by
               have h := OutF.gone (fs := (fs.take j).map (Ft.prune At) ++ fs.drop j) (c := fc) (by rw [HPl.out]; exact HFu.out) j f true HPj.out
               rw [HPl.out, hw29, show (⟨f.sec, f.til, true⟩ : Ft) = Ft.prune At f by unfold Ft.prune; rw [HPg.out], prune_step HFj.out] at h
               exact h)
              obtain ⟨cs9, hk9, hC9⟩ := HFu.out.blk (g := g) rfl
              have HX29 := hid ((HXr.out.keep HU.out).off HG29.out hk9 (by decide))
              have HP29 := hid ((HPr.out.keep HU.out).on HG29.out (fun e => hk9.ne (HPr.out.keep HU.out) (by decide) (Option.some.inj e)))
              have HGq9 := hid ((gtrans HGr.out HU.out).andThen HG29.out (fun j hj => .inl (by injection hj with hj; omega)))
              clear hk9 hC9 cs9 hw29 hy9 hz9
              go_wp2_with fail
              go_roundw
              case rel => exact ⟨j + 1, by go_num, by omega, HF29, HP29, HX29, HGq9⟩
              case measure => simp [intOf]; omega
            ·
             as_aux_lemma =>
             have hle : decide (til ≤ At) = false := decide_eq_false hl
             rw [hle] at HPg
             refine wp_region_list (by kernel_rfl) [fun v _ => v = (Value.slice (some ⟨g, 0, none⟩) k fc), fun v _ => v = (Value.int .i64 (j : Nat)), fun v _ => v = (Value.slice (some ⟨g, 0, none⟩) k fc), fun v _ => v = (Value.int .i64 (j : Nat)), fun v _ => v = (Value.pointer (some ⟨g, j * 35, none⟩)), fun v _ => v = (Value.pointer (some ⟨g, j * 35 + 34, none⟩)), fun v _ => v = (Value.bool false), fun v _ => v = (Value.bool false), fun v _ => v = (Value.slice (some ⟨g, 0, none⟩) k fc), fun v _ => v = (Value.int .i64 (j : Nat)), fun v _ => v = (Value.pointer (some ⟨g, j * 35, none⟩)), fun v _ => v = (Value.pointer (some ⟨g, j * 35 + 33, none⟩)), fun v _ => v = (Value.int .i64 til), fun v _ => v = (Value.bool true), fun v _ => v = (Value.bool true), fun v _ => v = (Value.slice (some ⟨g, 0, none⟩) k fc), fun v _ => v = (Value.int .i64 (j : Nat)), fun v _ => v = (Value.pointer (some ⟨g, j * 35, none⟩)), fun v _ => v = (Value.pointer (some ⟨g, j * 35 + 33, none⟩)), fun v _ => v = (Value.int .i64 til), fun v _ => v = (Value.slice (some ⟨tb, to, none⟩) tn tc), fun v _ => v = (Value.int .i64 (i : Nat)), fun v _ => v = (Value.pointer (some ⟨tb, to + i * 35, none⟩)), fun v _ => v = (Value.pointer (some ⟨tb, to + i * 35 + 33, none⟩)), fun v _ => v = (Value.int .i64 At), fun v _ => v = (Value.bool false), fun v _ => v = (Value.bool false), fun v _ => v = (Value.bool false), fun v _ => v = (Value.pointer (some ⟨g, j * 35, none⟩)), fun v _ => v = (Value.pointer (some ⟨g, j * 35 + 34, none⟩))] (none) (fun _ => none) 30 (by kernel_rfl) (by kernel_rfl) (by kernel_rfl) (by kernel_rfl) (by decide) noRow_one (fun _ => .inl rfl) ⟨fun i v u u' hki h hg => h, fun i v u u' hki h hg => h, fun i v u u' hki h hg => h, fun i v u u' hki h hg => h, fun i v u u' hki h hg => h, fun i v u u' hki h hg => h, fun i v u u' hki h hg => h, fun i v u u' hki h hg => h, fun i v u u' hki h hg => h, fun i v u u' hki h hg => h, fun i v u u' hki h hg => h, fun i v u u' hki h hg => h, fun i v u u' hki h hg => h, fun i v u u' hki h hg => h, fun i v u u' hki h hg => h, fun i v u u' hki h hg => h, fun i v u u' hki h hg => h, fun i v u u' hki h hg => h, fun i v u u' hki h hg => h, fun i v u u' hki h hg => h, fun i v u u' hki h hg => h, fun i v u u' hki h hg => h, fun i v u u' hki h hg => h, fun i v u u' hki h hg => h, fun i v u u' hki h hg => h, fun i v u u' hki h hg => h, fun i v u u' hki h hg => h, fun i v u u' hki h hg => h, fun i v u u' hki h hg => h, fun i v u u' hki h hg => h, trivial⟩ ⟨?_, ?_, ?_, ?_, ?_, ?_, ?_, ?_, ?_, ?_, ?_, ?_, ?_, ?_, ?_, ?_, ?_, ?_, ?_, ?_, ?_, ?_, ?_, ?_, ?_, ?_, ?_, ?_, ?_, ?_, trivial⟩ ?_
             ·
              intro A u hu hpu hsz hout hdeps
              have e5 : A.eval (.tmp 5) = (.slice (some ⟨g, 0, none⟩) k fc) := (hout 5 (by kernel_rfl)).trans rfl
              refine ifw_none rfl ?_
              with_reducible refine shown_q (Value.slice (some ⟨g, 0, none⟩) k fc) ?qq_7a4_0 (fun _ _ => ?qr_7a4_0)
              case qr_7a4_0 => exact (rfl : (Value.slice (some ⟨g, 0, none⟩) k fc) = (Value.slice (some ⟨g, 0, none⟩) k fc))
              with_reducible refine quietAt_mv (.tmp 5) (Value.slice (some ⟨g, 0, none⟩) k fc) ?h0_7a4_0 ?h1_7a4_0
              case h0_7a4_0 => rfl
              case h1_7a4_0 => exact e5
             ·
              intro A u hu hpu hsz hout hdeps
              have e13 : A.eval (.tmp 13) = (.int .i64 (j : Nat)) := (hout 13 (by kernel_rfl)).trans rfl
              refine ifw_none rfl ?_
              with_reducible refine shown_q (Value.int .i64 (j : Nat)) ?qq_7a4_1 (fun _ _ => ?qr_7a4_1)
              case qr_7a4_1 => exact (rfl : (Value.int .i64 (j : Nat)) = (Value.int .i64 (j : Nat)))
              with_reducible refine quietAt_mv (.tmp 13) (Value.int .i64 (j : Nat)) ?h0_7a4_1 ?h1_7a4_1
              case h0_7a4_1 => rfl
              case h1_7a4_1 => exact e13
             ·
              intro A u hu hpu hsz hout hdeps
              have e5 : A.eval (.tmp 5) = (.slice (some ⟨g, 0, none⟩) k fc) := (hout 5 (by kernel_rfl)).trans rfl
              refine ifw_none rfl ?_
              with_reducible refine shown_q (Value.slice (some ⟨g, 0, none⟩) k fc) ?qq_7a4_2 (fun _ _ => ?qr_7a4_2)
              case qr_7a4_2 => exact (rfl : (Value.slice (some ⟨g, 0, none⟩) k fc) = (Value.slice (some ⟨g, 0, none⟩) k fc))
              with_reducible refine quietAt_mv (.tmp 5) (Value.slice (some ⟨g, 0, none⟩) k fc) ?h0_7a4_2 ?h1_7a4_2
              case h0_7a4_2 => rfl
              case h1_7a4_2 => exact e5
             ·
              intro A u hu hpu hsz hout hdeps
              have e13 : A.eval (.tmp 13) = (.int .i64 (j : Nat)) := (hout 13 (by kernel_rfl)).trans rfl
              refine ifw_none rfl ?_
              with_reducible refine shown_q (Value.int .i64 (j : Nat)) ?qq_7a4_3 (fun _ _ => ?qr_7a4_3)
              case qr_7a4_3 => exact (rfl : (Value.int .i64 (j : Nat)) = (Value.int .i64 (j : Nat)))
              with_reducible refine quietAt_mv (.tmp 13) (Value.int .i64 (j : Nat)) ?h0_7a4_3 ?h1_7a4_3
              case h0_7a4_3 => rfl
              case h1_7a4_3 => exact e13
             ·
              intro A u hu hpu hsz hout hdeps
              have e168 : A.eval (.tmp 168) = (.slice (some ⟨g, 0, none⟩) k fc) := by have h := depL hdeps 2 (by kernel_rfl) 168 (by kernel_rfl); exact h
              have e169 : A.eval (.tmp 169) = (.int .i64 (j : Nat)) := by have h := depL hdeps 3 (by kernel_rfl) 169 (by kernel_rfl); exact h
              refine ifw_none rfl ?_
              with_reducible refine shown_q (Value.pointer (some ⟨g, j * 35, none⟩)) ?qq_7a4_4 (fun _ _ => ?qr_7a4_4)
              case qr_7a4_4 => exact (rfl : (Value.pointer (some ⟨g, j * 35, none⟩)) = (Value.pointer (some ⟨g, j * 35, none⟩)))
              with_reducible refine quietAt_idx 97 (.tmp 168) (.tmp 169) (Value.slice (some ⟨g, 0, none⟩) k fc) (Value.int .i64 (j : Nat)) (Value.pointer (some ⟨g, j * 35, none⟩)) ?h0_7a4_4 ?h1_7a4_4 ?h2_7a4_4 ?h3_7a4_4
              case h0_7a4_4 => rfl
              case h1_7a4_4 => exact e168
              case h2_7a4_4 => exact e169
              case h3_7a4_4 => exact idx97z g k fc j hjk u
             ·
              intro A u hu hpu hsz hout hdeps
              have e170 : A.eval (.tmp 170) = (.pointer (some ⟨g, j * 35, none⟩)) := by have h := depL hdeps 4 (by kernel_rfl) 170 (by kernel_rfl); exact h
              refine ifw_none rfl ?_
              with_reducible refine shown_q (Value.pointer (some ⟨g, j * 35 + 34, none⟩)) ?qq_7a4_5 (fun _ _ => ?qr_7a4_5)
              case qr_7a4_5 => exact (rfl : (Value.pointer (some ⟨g, j * 35 + 34, none⟩)) = (Value.pointer (some ⟨g, j * 35 + 34, none⟩)))
              with_reducible refine quietAt_field 96 (.tmp 170) 3 ?h0_7a4_5 ⟨g, j * 35, none⟩ ⟨g, j * 35 + 34, none⟩ ?h1_7a4_5 ?h2_7a4_5
              case h0_7a4_5 => rfl
              case h1_7a4_5 => exact e170
              case h2_7a4_5 => first | kernel_rfl | rfl
             ·
              intro A u hu hpu hsz hout hdeps
              have e171 : A.eval (.tmp 171) = (.pointer (some ⟨g, j * 35 + 34, none⟩)) := by have h := depL hdeps 5 (by kernel_rfl) 171 (by kernel_rfl); exact h
              refine ifw_none rfl ?_
              with_reducible refine shown_q (Value.bool false) ?qq_7a4_6 (fun _ _ => ?qr_7a4_6)
              case qr_7a4_6 => exact (rfl : (Value.bool false) = (Value.bool false))
              with_reducible refine quietAt_ld 4 (.tmp 171) (Value.pointer (some ⟨g, j * 35 + 34, none⟩)) (Value.bool false) ?h0_7a4_6 ?h1_7a4_6 ?h2_7a4_6
              case h0_7a4_6 => rfl
              case h1_7a4_6 => exact e171
              case h2_7a4_6 => exact ld4 g (j * 35 + 34) false u (H34.out u hu)
             ·
              intro A u hu hpu hsz hout hdeps
              have e172 : A.eval (.tmp 172) = (.bool false) := by have h := depL hdeps 6 (by kernel_rfl) 172 (by kernel_rfl); exact h
              refine ifw_none rfl ?_
              with_reducible refine shown_q (Value.bool false) ?qq_7a4_7 (fun _ _ => ?qr_7a4_7)
              case qr_7a4_7 => exact (rfl : (Value.bool false) = (Value.bool false))
              with_reducible refine quietAt_mv (.tmp 172) (Value.bool false) ?h0_7a4_7 ?h1_7a4_7
              case h0_7a4_7 => rfl
              case h1_7a4_7 => exact e172
             ·
              intro A u hu hpu hsz hout hdeps
              have e173 : A.eval (.tmp 173) = (.bool false) := by have h := depL hdeps 7 (by kernel_rfl) 173 (by kernel_rfl); exact h
              have e5 : A.eval (.tmp 5) = (.slice (some ⟨g, 0, none⟩) k fc) := (hout 5 (by kernel_rfl)).trans rfl
              refine ifw_want 7 false 173 rfl rfl e173 ?_
              with_reducible refine shown_q (Value.slice (some ⟨g, 0, none⟩) k fc) ?qq_7a4_8 (fun _ _ => ?qr_7a4_8)
              case qr_7a4_8 => exact (rfl : (Value.slice (some ⟨g, 0, none⟩) k fc) = (Value.slice (some ⟨g, 0, none⟩) k fc))
              with_reducible refine quietAt_mv (.tmp 5) (Value.slice (some ⟨g, 0, none⟩) k fc) ?h0_7a4_8 ?h1_7a4_8
              case h0_7a4_8 => rfl
              case h1_7a4_8 => exact e5
             ·
              intro A u hu hpu hsz hout hdeps
              have e173 : A.eval (.tmp 173) = (.bool false) := by have h := depL hdeps 7 (by kernel_rfl) 173 (by kernel_rfl); exact h
              have e13 : A.eval (.tmp 13) = (.int .i64 (j : Nat)) := (hout 13 (by kernel_rfl)).trans rfl
              refine ifw_want 7 false 173 rfl rfl e173 ?_
              with_reducible refine shown_q (Value.int .i64 (j : Nat)) ?qq_7a4_9 (fun _ _ => ?qr_7a4_9)
              case qr_7a4_9 => exact (rfl : (Value.int .i64 (j : Nat)) = (Value.int .i64 (j : Nat)))
              with_reducible refine quietAt_mv (.tmp 13) (Value.int .i64 (j : Nat)) ?h0_7a4_9 ?h1_7a4_9
              case h0_7a4_9 => rfl
              case h1_7a4_9 => exact e13
             ·
              intro A u hu hpu hsz hout hdeps
              have e173 : A.eval (.tmp 173) = (.bool false) := by have h := depL hdeps 7 (by kernel_rfl) 173 (by kernel_rfl); exact h
              have e174 : A.eval (.tmp 174) = (.slice (some ⟨g, 0, none⟩) k fc) := by have h := depL hdeps 8 (by kernel_rfl) 174 (by kernel_rfl); exact h
              have e175 : A.eval (.tmp 175) = (.int .i64 (j : Nat)) := by have h := depL hdeps 9 (by kernel_rfl) 175 (by kernel_rfl); exact h
              refine ifw_want 7 false 173 rfl rfl e173 ?_
              with_reducible refine shown_q (Value.pointer (some ⟨g, j * 35, none⟩)) ?qq_7a4_10 (fun _ _ => ?qr_7a4_10)
              case qr_7a4_10 => exact (rfl : (Value.pointer (some ⟨g, j * 35, none⟩)) = (Value.pointer (some ⟨g, j * 35, none⟩)))
              with_reducible refine quietAt_idx 97 (.tmp 174) (.tmp 175) (Value.slice (some ⟨g, 0, none⟩) k fc) (Value.int .i64 (j : Nat)) (Value.pointer (some ⟨g, j * 35, none⟩)) ?h0_7a4_10 ?h1_7a4_10 ?h2_7a4_10 ?h3_7a4_10
              case h0_7a4_10 => rfl
              case h1_7a4_10 => exact e174
              case h2_7a4_10 => exact e175
              case h3_7a4_10 => exact idx97z g k fc j hjk u
             ·
              intro A u hu hpu hsz hout hdeps
              have e173 : A.eval (.tmp 173) = (.bool false) := by have h := depL hdeps 7 (by kernel_rfl) 173 (by kernel_rfl); exact h
              have e176 : A.eval (.tmp 176) = (.pointer (some ⟨g, j * 35, none⟩)) := by have h := depL hdeps 10 (by kernel_rfl) 176 (by kernel_rfl); exact h
              refine ifw_want 7 false 173 rfl rfl e173 ?_
              with_reducible refine shown_q (Value.pointer (some ⟨g, j * 35 + 33, none⟩)) ?qq_7a4_11 (fun _ _ => ?qr_7a4_11)
              case qr_7a4_11 => exact (rfl : (Value.pointer (some ⟨g, j * 35 + 33, none⟩)) = (Value.pointer (some ⟨g, j * 35 + 33, none⟩)))
              with_reducible refine quietAt_field 96 (.tmp 176) 2 ?h0_7a4_11 ⟨g, j * 35, none⟩ ⟨g, j * 35 + 33, none⟩ ?h1_7a4_11 ?h2_7a4_11
              case h0_7a4_11 => rfl
              case h1_7a4_11 => exact e176
              case h2_7a4_11 => first | kernel_rfl | rfl
             ·
              intro A u hu hpu hsz hout hdeps
              have e173 : A.eval (.tmp 173) = (.bool false) := by have h := depL hdeps 7 (by kernel_rfl) 173 (by kernel_rfl); exact h
              have e177 : A.eval (.tmp 177) = (.pointer (some ⟨g, j * 35 + 33, none⟩)) := by have h := depL hdeps 11 (by kernel_rfl) 177 (by kernel_rfl); exact h
              refine ifw_want 7 false 173 rfl rfl e173 ?_
              with_reducible refine shown_q (Value.int .i64 til) ?qq_7a4_12 (fun _ _ => ?qr_7a4_12)
              case qr_7a4_12 => exact (rfl : (Value.int .i64 til) = (Value.int .i64 til))
              with_reducible refine quietAt_ld 2 (.tmp 177) (Value.pointer (some ⟨g, j * 35 + 33, none⟩)) (Value.int .i64 til) ?h0_7a4_12 ?h1_7a4_12 ?h2_7a4_12
              case h0_7a4_12 => rfl
              case h1_7a4_12 => exact e177
              case h2_7a4_12 => exact ld2 g (j * 35 + 33) til u (H33.out u hu)
             ·
              intro A u hu hpu hsz hout hdeps
              have e173 : A.eval (.tmp 173) = (.bool false) := by have h := depL hdeps 7 (by kernel_rfl) 173 (by kernel_rfl); exact h
              have e178 : A.eval (.tmp 178) = (.int .i64 til) := by have h := depL hdeps 12 (by kernel_rfl) 178 (by kernel_rfl); exact h
              refine ifw_want 7 false 173 rfl rfl e173 ?_
              with_reducible refine shown_q (Value.bool true) ?qq_7a4_13 (fun _ _ => ?qr_7a4_13)
              case qr_7a4_13 => exact (rfl : (Value.bool true) = (Value.bool true))
              with_reducible refine quietAt_bin .gtr 2 (.tmp 178) (.const (.int .i64 0)) 2 (Value.int .i64 til) (Value.int .i64 0) (Value.bool true) ?h0_7a4_13 ?h1_7a4_13 ?h2_7a4_13 ?h3_7a4_13
              case h0_7a4_13 => rfl
              case h1_7a4_13 => exact e178
              case h2_7a4_13 => exact rfl
              case h3_7a4_13 => exact (gtr_i64 til 0 u).trans (by rw [hpos])
             ·
              intro A u hu hpu hsz hout hdeps
              have e173 : A.eval (.tmp 173) = (.bool false) := by have h := depL hdeps 7 (by kernel_rfl) 173 (by kernel_rfl); exact h
              have e179 : A.eval (.tmp 179) = (.bool true) := by have h := depL hdeps 13 (by kernel_rfl) 179 (by kernel_rfl); exact h
              refine ifw_want 7 false 173 rfl rfl e173 ?_
              with_reducible refine shown_q (Value.bool true) ?qq_7a4_14 (fun _ _ => ?qr_7a4_14)
              case qr_7a4_14 => exact (rfl : (Value.bool true) = (Value.bool true))
              with_reducible refine quietAt_mv (.tmp 179) (Value.bool true) ?h0_7a4_14 ?h1_7a4_14
              case h0_7a4_14 => rfl
              case h1_7a4_14 => exact e179
             ·
              intro A u hu hpu hsz hout hdeps
              have e180 : A.eval (.tmp 180) = (.bool true) := by have h := depL hdeps 14 (by kernel_rfl) 180 (by kernel_rfl); exact h
              have e5 : A.eval (.tmp 5) = (.slice (some ⟨g, 0, none⟩) k fc) := (hout 5 (by kernel_rfl)).trans rfl
              refine ifw_want 14 true 180 rfl rfl e180 ?_
              with_reducible refine shown_q (Value.slice (some ⟨g, 0, none⟩) k fc) ?qq_7a4_15 (fun _ _ => ?qr_7a4_15)
              case qr_7a4_15 => exact (rfl : (Value.slice (some ⟨g, 0, none⟩) k fc) = (Value.slice (some ⟨g, 0, none⟩) k fc))
              with_reducible refine quietAt_mv (.tmp 5) (Value.slice (some ⟨g, 0, none⟩) k fc) ?h0_7a4_15 ?h1_7a4_15
              case h0_7a4_15 => rfl
              case h1_7a4_15 => exact e5
             ·
              intro A u hu hpu hsz hout hdeps
              have e180 : A.eval (.tmp 180) = (.bool true) := by have h := depL hdeps 14 (by kernel_rfl) 180 (by kernel_rfl); exact h
              have e13 : A.eval (.tmp 13) = (.int .i64 (j : Nat)) := (hout 13 (by kernel_rfl)).trans rfl
              refine ifw_want 14 true 180 rfl rfl e180 ?_
              with_reducible refine shown_q (Value.int .i64 (j : Nat)) ?qq_7a4_16 (fun _ _ => ?qr_7a4_16)
              case qr_7a4_16 => exact (rfl : (Value.int .i64 (j : Nat)) = (Value.int .i64 (j : Nat)))
              with_reducible refine quietAt_mv (.tmp 13) (Value.int .i64 (j : Nat)) ?h0_7a4_16 ?h1_7a4_16
              case h0_7a4_16 => rfl
              case h1_7a4_16 => exact e13
             ·
              intro A u hu hpu hsz hout hdeps
              have e180 : A.eval (.tmp 180) = (.bool true) := by have h := depL hdeps 14 (by kernel_rfl) 180 (by kernel_rfl); exact h
              have e181 : A.eval (.tmp 181) = (.slice (some ⟨g, 0, none⟩) k fc) := by have h := depL hdeps 15 (by kernel_rfl) 181 (by kernel_rfl); exact h
              have e182 : A.eval (.tmp 182) = (.int .i64 (j : Nat)) := by have h := depL hdeps 16 (by kernel_rfl) 182 (by kernel_rfl); exact h
              refine ifw_want 14 true 180 rfl rfl e180 ?_
              with_reducible refine shown_q (Value.pointer (some ⟨g, j * 35, none⟩)) ?qq_7a4_17 (fun _ _ => ?qr_7a4_17)
              case qr_7a4_17 => exact (rfl : (Value.pointer (some ⟨g, j * 35, none⟩)) = (Value.pointer (some ⟨g, j * 35, none⟩)))
              with_reducible refine quietAt_idx 97 (.tmp 181) (.tmp 182) (Value.slice (some ⟨g, 0, none⟩) k fc) (Value.int .i64 (j : Nat)) (Value.pointer (some ⟨g, j * 35, none⟩)) ?h0_7a4_17 ?h1_7a4_17 ?h2_7a4_17 ?h3_7a4_17
              case h0_7a4_17 => rfl
              case h1_7a4_17 => exact e181
              case h2_7a4_17 => exact e182
              case h3_7a4_17 => exact idx97z g k fc j hjk u
             ·
              intro A u hu hpu hsz hout hdeps
              have e180 : A.eval (.tmp 180) = (.bool true) := by have h := depL hdeps 14 (by kernel_rfl) 180 (by kernel_rfl); exact h
              have e183 : A.eval (.tmp 183) = (.pointer (some ⟨g, j * 35, none⟩)) := by have h := depL hdeps 17 (by kernel_rfl) 183 (by kernel_rfl); exact h
              refine ifw_want 14 true 180 rfl rfl e180 ?_
              with_reducible refine shown_q (Value.pointer (some ⟨g, j * 35 + 33, none⟩)) ?qq_7a4_18 (fun _ _ => ?qr_7a4_18)
              case qr_7a4_18 => exact (rfl : (Value.pointer (some ⟨g, j * 35 + 33, none⟩)) = (Value.pointer (some ⟨g, j * 35 + 33, none⟩)))
              with_reducible refine quietAt_field 96 (.tmp 183) 2 ?h0_7a4_18 ⟨g, j * 35, none⟩ ⟨g, j * 35 + 33, none⟩ ?h1_7a4_18 ?h2_7a4_18
              case h0_7a4_18 => rfl
              case h1_7a4_18 => exact e183
              case h2_7a4_18 => first | kernel_rfl | rfl
             ·
              intro A u hu hpu hsz hout hdeps
              have e180 : A.eval (.tmp 180) = (.bool true) := by have h := depL hdeps 14 (by kernel_rfl) 180 (by kernel_rfl); exact h
              have e184 : A.eval (.tmp 184) = (.pointer (some ⟨g, j * 35 + 33, none⟩)) := by have h := depL hdeps 18 (by kernel_rfl) 184 (by kernel_rfl); exact h
              refine ifw_want 14 true 180 rfl rfl e180 ?_
              with_reducible refine shown_q (Value.int .i64 til) ?qq_7a4_19 (fun _ _ => ?qr_7a4_19)
              case qr_7a4_19 => exact (rfl : (Value.int .i64 til) = (Value.int .i64 til))
              with_reducible refine quietAt_ld 2 (.tmp 184) (Value.pointer (some ⟨g, j * 35 + 33, none⟩)) (Value.int .i64 til) ?h0_7a4_19 ?h1_7a4_19 ?h2_7a4_19
              case h0_7a4_19 => rfl
              case h1_7a4_19 => exact e184
              case h2_7a4_19 => exact ld2 g (j * 35 + 33) til u (H33.out u hu)
             ·
              intro A u hu hpu hsz hout hdeps
              have e180 : A.eval (.tmp 180) = (.bool true) := by have h := depL hdeps 14 (by kernel_rfl) 180 (by kernel_rfl); exact h
              have e3 : A.eval (.tmp 3) = (.slice (some ⟨tb, to, none⟩) tn tc) := (hout 3 (by kernel_rfl)).trans rfl
              refine ifw_want 14 true 180 rfl rfl e180 ?_
              with_reducible refine shown_q (Value.slice (some ⟨tb, to, none⟩) tn tc) ?qq_7a4_20 (fun _ _ => ?qr_7a4_20)
              case qr_7a4_20 => exact (rfl : (Value.slice (some ⟨tb, to, none⟩) tn tc) = (Value.slice (some ⟨tb, to, none⟩) tn tc))
              with_reducible refine quietAt_mv (.tmp 3) (Value.slice (some ⟨tb, to, none⟩) tn tc) ?h0_7a4_20 ?h1_7a4_20
              case h0_7a4_20 => rfl
              case h1_7a4_20 => exact e3
             ·
              intro A u hu hpu hsz hout hdeps
              have e180 : A.eval (.tmp 180) = (.bool true) := by have h := depL hdeps 14 (by kernel_rfl) 180 (by kernel_rfl); exact h
              have e6 : A.eval (.tmp 6) = (.int .i64 (i : Nat)) := (hout 6 (by kernel_rfl)).trans rfl
              refine ifw_want 14 true 180 rfl rfl e180 ?_
              with_reducible refine shown_q (Value.int .i64 (i : Nat)) ?qq_7a4_21 (fun _ _ => ?qr_7a4_21)
              case qr_7a4_21 => exact (rfl : (Value.int .i64 (i : Nat)) = (Value.int .i64 (i : Nat)))
              with_reducible refine quietAt_mv (.tmp 6) (Value.int .i64 (i : Nat)) ?h0_7a4_21 ?h1_7a4_21
              case h0_7a4_21 => rfl
              case h1_7a4_21 => exact e6
             ·
              intro A u hu hpu hsz hout hdeps
              have e180 : A.eval (.tmp 180) = (.bool true) := by have h := depL hdeps 14 (by kernel_rfl) 180 (by kernel_rfl); exact h
              have e186 : A.eval (.tmp 186) = (.slice (some ⟨tb, to, none⟩) tn tc) := by have h := depL hdeps 20 (by kernel_rfl) 186 (by kernel_rfl); exact h
              have e187 : A.eval (.tmp 187) = (.int .i64 (i : Nat)) := by have h := depL hdeps 21 (by kernel_rfl) 187 (by kernel_rfl); exact h
              refine ifw_want 14 true 180 rfl rfl e180 ?_
              with_reducible refine shown_q (Value.pointer (some ⟨tb, to + i * 35, none⟩)) ?qq_7a4_22 (fun _ _ => ?qr_7a4_22)
              case qr_7a4_22 => exact (rfl : (Value.pointer (some ⟨tb, to + i * 35, none⟩)) = (Value.pointer (some ⟨tb, to + i * 35, none⟩)))
              with_reducible refine quietAt_idx 92 (.tmp 186) (.tmp 187) (Value.slice (some ⟨tb, to, none⟩) tn tc) (Value.int .i64 (i : Nat)) (Value.pointer (some ⟨tb, to + i * 35, none⟩)) ?h0_7a4_22 ?h1_7a4_22 ?h2_7a4_22 ?h3_7a4_22
              case h0_7a4_22 => rfl
              case h1_7a4_22 => exact e186
              case h2_7a4_22 => exact e187
              case h3_7a4_22 => exact idx92 tb to tn tc i hlt1 u
             ·
              intro A u hu hpu hsz hout hdeps
              have e180 : A.eval (.tmp 180) = (.bool true) := by have h := depL hdeps 14 (by kernel_rfl) 180 (by kernel_rfl); exact h
              have e188 : A.eval (.tmp 188) = (.pointer (some ⟨tb, to + i * 35, none⟩)) := by have h := depL hdeps 22 (by kernel_rfl) 188 (by kernel_rfl); exact h
              refine ifw_want 14 true 180 rfl rfl e180 ?_
              with_reducible refine shown_q (Value.pointer (some ⟨tb, to + i * 35 + 33, none⟩)) ?qq_7a4_23 (fun _ _ => ?qr_7a4_23)
              case qr_7a4_23 => exact (rfl : (Value.pointer (some ⟨tb, to + i * 35 + 33, none⟩)) = (Value.pointer (some ⟨tb, to + i * 35 + 33, none⟩)))
              with_reducible refine quietAt_field 99 (.tmp 188) 2 ?h0_7a4_23 ⟨tb, to + i * 35, none⟩ ⟨tb, to + i * 35 + 33, none⟩ ?h1_7a4_23 ?h2_7a4_23
              case h0_7a4_23 => rfl
              case h1_7a4_23 => exact e188
              case h2_7a4_23 => first | kernel_rfl | rfl
             ·
              intro A u hu hpu hsz hout hdeps
              have e180 : A.eval (.tmp 180) = (.bool true) := by have h := depL hdeps 14 (by kernel_rfl) 180 (by kernel_rfl); exact h
              have e189 : A.eval (.tmp 189) = (.pointer (some ⟨tb, to + i * 35 + 33, none⟩)) := by have h := depL hdeps 23 (by kernel_rfl) 189 (by kernel_rfl); exact h
              refine ifw_want 14 true 180 rfl rfl e180 ?_
              with_reducible refine shown_q (Value.int .i64 At) ?qq_7a4_24 (fun _ _ => ?qr_7a4_24)
              case qr_7a4_24 => exact (rfl : (Value.int .i64 At) = (Value.int .i64 At))
              with_reducible refine quietAt_ld 2 (.tmp 189) (Value.pointer (some ⟨tb, to + i * 35 + 33, none⟩)) (Value.int .i64 At) ?h0_7a4_24 ?h1_7a4_24 ?h2_7a4_24
              case h0_7a4_24 => rfl
              case h1_7a4_24 => exact e189
              case h2_7a4_24 => exact ld2 tb (to + i * 35 + 33) At u (H33t.out u hu)
             ·
              intro A u hu hpu hsz hout hdeps
              have e180 : A.eval (.tmp 180) = (.bool true) := by have h := depL hdeps 14 (by kernel_rfl) 180 (by kernel_rfl); exact h
              have e185 : A.eval (.tmp 185) = (.int .i64 til) := by have h := depL hdeps 19 (by kernel_rfl) 185 (by kernel_rfl); exact h
              have e190 : A.eval (.tmp 190) = (.int .i64 At) := by have h := depL hdeps 24 (by kernel_rfl) 190 (by kernel_rfl); exact h
              refine ifw_want 14 true 180 rfl rfl e180 ?_
              with_reducible refine shown_q (Value.bool false) ?qq_7a4_25 (fun _ _ => ?qr_7a4_25)
              case qr_7a4_25 => exact (rfl : (Value.bool false) = (Value.bool false))
              with_reducible refine quietAt_bin .leq 2 (.tmp 185) (.tmp 190) 2 (Value.int .i64 til) (Value.int .i64 At) (Value.bool false) ?h0_7a4_25 ?h1_7a4_25 ?h2_7a4_25 ?h3_7a4_25
              case h0_7a4_25 => rfl
              case h1_7a4_25 => exact e185
              case h2_7a4_25 => exact e190
              case h3_7a4_25 => exact (leq_i64 til At u).trans (by rw [hle])
             ·
              intro A u hu hpu hsz hout hdeps
              have e173 : A.eval (.tmp 173) = (.bool false) := by have h := depL hdeps 7 (by kernel_rfl) 173 (by kernel_rfl); exact h
              have e180 : A.eval (.tmp 180) = (.bool true) := by have h := depL hdeps 14 (by kernel_rfl) 180 (by kernel_rfl); exact h
              have e191 : A.eval (.tmp 191) = (.bool false) := by have h := depL hdeps 25 (by kernel_rfl) 191 (by kernel_rfl); exact h
              refine ifw_want 7 false 173 rfl rfl e173 ?_
              with_reducible refine shown_q (Value.bool false) ?qq_7a4_26 (fun _ _ => ?qr_7a4_26)
              case qr_7a4_26 => exact (rfl : (Value.bool false) = (Value.bool false))
              with_reducible refine quietAt_pick (.tmp 180) (.tmp 191) (.const (.bool false)) true (Value.bool false) ?h0_7a4_26 ?h1_7a4_26 ?h2_7a4_26
              case h0_7a4_26 => rfl
              case h1_7a4_26 => exact e180
              case h2_7a4_26 => rw [if_pos rfl]; exact e191
             ·
              intro A u hu hpu hsz hout hdeps
              have e173 : A.eval (.tmp 173) = (.bool false) := by have h := depL hdeps 7 (by kernel_rfl) 173 (by kernel_rfl); exact h
              have e192 : A.eval (.tmp 192) = (.bool false) := by have h := depL hdeps 26 (by kernel_rfl) 192 (by kernel_rfl); exact h
              refine ifw_none rfl ?_
              with_reducible refine shown_q (Value.bool false) ?qq_7a4_27 (fun _ _ => ?qr_7a4_27)
              case qr_7a4_27 => exact (rfl : (Value.bool false) = (Value.bool false))
              with_reducible refine quietAt_pick (.tmp 173) (.const (.bool true)) (.tmp 192) false (Value.bool false) ?h0_7a4_27 ?h1_7a4_27 ?h2_7a4_27
              case h0_7a4_27 => rfl
              case h1_7a4_27 => exact e173
              case h2_7a4_27 => rw [if_neg (by decide)]; exact e192
             ·
              intro A u hu hpu hsz hout hdeps
              have e166 : A.eval (.tmp 166) = (.slice (some ⟨g, 0, none⟩) k fc) := by have h := depL hdeps 0 (by kernel_rfl) 166 (by kernel_rfl); exact h
              have e167 : A.eval (.tmp 167) = (.int .i64 (j : Nat)) := by have h := depL hdeps 1 (by kernel_rfl) 167 (by kernel_rfl); exact h
              refine ifw_none rfl ?_
              with_reducible refine shown_q (Value.pointer (some ⟨g, j * 35, none⟩)) ?qq_7a4_28 (fun _ _ => ?qr_7a4_28)
              case qr_7a4_28 => exact (rfl : (Value.pointer (some ⟨g, j * 35, none⟩)) = (Value.pointer (some ⟨g, j * 35, none⟩)))
              with_reducible refine quietAt_idx 97 (.tmp 166) (.tmp 167) (Value.slice (some ⟨g, 0, none⟩) k fc) (Value.int .i64 (j : Nat)) (Value.pointer (some ⟨g, j * 35, none⟩)) ?h0_7a4_28 ?h1_7a4_28 ?h2_7a4_28 ?h3_7a4_28
              case h0_7a4_28 => rfl
              case h1_7a4_28 => exact e166
              case h2_7a4_28 => exact e167
              case h3_7a4_28 => exact idx97z g k fc j hjk u
             ·
              intro A u hu hpu hsz hout hdeps
              have e194 : A.eval (.tmp 194) = (.pointer (some ⟨g, j * 35, none⟩)) := by have h := depL hdeps 28 (by kernel_rfl) 194 (by kernel_rfl); exact h
              refine ifw_none rfl ?_
              with_reducible refine shown_q (Value.pointer (some ⟨g, j * 35 + 34, none⟩)) ?qq_7a4_29 (fun _ _ => ?qr_7a4_29)
              case qr_7a4_29 => exact (rfl : (Value.pointer (some ⟨g, j * 35 + 34, none⟩)) = (Value.pointer (some ⟨g, j * 35 + 34, none⟩)))
              with_reducible refine quietAt_field 96 (.tmp 194) 3 ?h0_7a4_29 ⟨g, j * 35, none⟩ ⟨g, j * 35 + 34, none⟩ ?h1_7a4_29 ?h2_7a4_29
              case h0_7a4_29 => rfl
              case h1_7a4_29 => exact e194
              case h2_7a4_29 => first | kernel_rfl | rfl
             ·
              intro A u8 listed hh hall
              have hA := hh.frame
              have HU := hid hh.grown
              obtain ⟨x166, hx166⟩ : ∃ x, A.eval (.tmp 166) = x := ⟨_, rfl⟩
              have f166 : (fun v _ => v = (Value.slice (some ⟨g, 0, none⟩) k fc)) x166 u8 := by rw [← hx166]; exact hh.got 0 _ 166 rfl rfl (hall 0 (by decide))
              obtain ⟨x167, hx167⟩ : ∃ x, A.eval (.tmp 167) = x := ⟨_, rfl⟩
              have f167 : (fun v _ => v = (Value.int .i64 (j : Nat))) x167 u8 := by rw [← hx167]; exact hh.got 1 _ 167 rfl rfl (hall 1 (by decide))
              obtain ⟨x168, hx168⟩ : ∃ x, A.eval (.tmp 168) = x := ⟨_, rfl⟩
              have f168 : (fun v _ => v = (Value.slice (some ⟨g, 0, none⟩) k fc)) x168 u8 := by rw [← hx168]; exact hh.got 2 _ 168 rfl rfl (hall 2 (by decide))
              obtain ⟨x169, hx169⟩ : ∃ x, A.eval (.tmp 169) = x := ⟨_, rfl⟩
              have f169 : (fun v _ => v = (Value.int .i64 (j : Nat))) x169 u8 := by rw [← hx169]; exact hh.got 3 _ 169 rfl rfl (hall 3 (by decide))
              obtain ⟨x170, hx170⟩ : ∃ x, A.eval (.tmp 170) = x := ⟨_, rfl⟩
              have f170 : (fun v _ => v = (Value.pointer (some ⟨g, j * 35, none⟩))) x170 u8 := by rw [← hx170]; exact hh.got 4 _ 170 rfl rfl (hall 4 (by decide))
              obtain ⟨x171, hx171⟩ : ∃ x, A.eval (.tmp 171) = x := ⟨_, rfl⟩
              have f171 : (fun v _ => v = (Value.pointer (some ⟨g, j * 35 + 34, none⟩))) x171 u8 := by rw [← hx171]; exact hh.got 5 _ 171 rfl rfl (hall 5 (by decide))
              obtain ⟨x172, hx172⟩ : ∃ x, A.eval (.tmp 172) = x := ⟨_, rfl⟩
              have f172 : (fun v _ => v = (Value.bool false)) x172 u8 := by rw [← hx172]; exact hh.got 6 _ 172 rfl rfl (hall 6 (by decide))
              obtain ⟨x173, hx173⟩ : ∃ x, A.eval (.tmp 173) = x := ⟨_, rfl⟩
              have f173 : (fun v _ => v = (Value.bool false)) x173 u8 := by rw [← hx173]; exact hh.got 7 _ 173 rfl rfl (hall 7 (by decide))
              obtain ⟨x174, hx174⟩ : ∃ x, A.eval (.tmp 174) = x := ⟨_, rfl⟩
              have f174 : (fun v _ => v = (Value.slice (some ⟨g, 0, none⟩) k fc)) x174 u8 := by rw [← hx174]; exact hh.got 8 _ 174 rfl rfl (hall 8 (by decide))
              obtain ⟨x175, hx175⟩ : ∃ x, A.eval (.tmp 175) = x := ⟨_, rfl⟩
              have f175 : (fun v _ => v = (Value.int .i64 (j : Nat))) x175 u8 := by rw [← hx175]; exact hh.got 9 _ 175 rfl rfl (hall 9 (by decide))
              obtain ⟨x176, hx176⟩ : ∃ x, A.eval (.tmp 176) = x := ⟨_, rfl⟩
              have f176 : (fun v _ => v = (Value.pointer (some ⟨g, j * 35, none⟩))) x176 u8 := by rw [← hx176]; exact hh.got 10 _ 176 rfl rfl (hall 10 (by decide))
              obtain ⟨x177, hx177⟩ : ∃ x, A.eval (.tmp 177) = x := ⟨_, rfl⟩
              have f177 : (fun v _ => v = (Value.pointer (some ⟨g, j * 35 + 33, none⟩))) x177 u8 := by rw [← hx177]; exact hh.got 11 _ 177 rfl rfl (hall 11 (by decide))
              obtain ⟨x178, hx178⟩ : ∃ x, A.eval (.tmp 178) = x := ⟨_, rfl⟩
              have f178 : (fun v _ => v = (Value.int .i64 til)) x178 u8 := by rw [← hx178]; exact hh.got 12 _ 178 rfl rfl (hall 12 (by decide))
              obtain ⟨x179, hx179⟩ : ∃ x, A.eval (.tmp 179) = x := ⟨_, rfl⟩
              have f179 : (fun v _ => v = (Value.bool true)) x179 u8 := by rw [← hx179]; exact hh.got 13 _ 179 rfl rfl (hall 13 (by decide))
              obtain ⟨x180, hx180⟩ : ∃ x, A.eval (.tmp 180) = x := ⟨_, rfl⟩
              have f180 : (fun v _ => v = (Value.bool true)) x180 u8 := by rw [← hx180]; exact hh.got 14 _ 180 rfl rfl (hall 14 (by decide))
              obtain ⟨x181, hx181⟩ : ∃ x, A.eval (.tmp 181) = x := ⟨_, rfl⟩
              have f181 : (fun v _ => v = (Value.slice (some ⟨g, 0, none⟩) k fc)) x181 u8 := by rw [← hx181]; exact hh.got 15 _ 181 rfl rfl (hall 15 (by decide))
              obtain ⟨x182, hx182⟩ : ∃ x, A.eval (.tmp 182) = x := ⟨_, rfl⟩
              have f182 : (fun v _ => v = (Value.int .i64 (j : Nat))) x182 u8 := by rw [← hx182]; exact hh.got 16 _ 182 rfl rfl (hall 16 (by decide))
              obtain ⟨x183, hx183⟩ : ∃ x, A.eval (.tmp 183) = x := ⟨_, rfl⟩
              have f183 : (fun v _ => v = (Value.pointer (some ⟨g, j * 35, none⟩))) x183 u8 := by rw [← hx183]; exact hh.got 17 _ 183 rfl rfl (hall 17 (by decide))
              obtain ⟨x184, hx184⟩ : ∃ x, A.eval (.tmp 184) = x := ⟨_, rfl⟩
              have f184 : (fun v _ => v = (Value.pointer (some ⟨g, j * 35 + 33, none⟩))) x184 u8 := by rw [← hx184]; exact hh.got 18 _ 184 rfl rfl (hall 18 (by decide))
              obtain ⟨x185, hx185⟩ : ∃ x, A.eval (.tmp 185) = x := ⟨_, rfl⟩
              have f185 : (fun v _ => v = (Value.int .i64 til)) x185 u8 := by rw [← hx185]; exact hh.got 19 _ 185 rfl rfl (hall 19 (by decide))
              obtain ⟨x186, hx186⟩ : ∃ x, A.eval (.tmp 186) = x := ⟨_, rfl⟩
              have f186 : (fun v _ => v = (Value.slice (some ⟨tb, to, none⟩) tn tc)) x186 u8 := by rw [← hx186]; exact hh.got 20 _ 186 rfl rfl (hall 20 (by decide))
              obtain ⟨x187, hx187⟩ : ∃ x, A.eval (.tmp 187) = x := ⟨_, rfl⟩
              have f187 : (fun v _ => v = (Value.int .i64 (i : Nat))) x187 u8 := by rw [← hx187]; exact hh.got 21 _ 187 rfl rfl (hall 21 (by decide))
              obtain ⟨x188, hx188⟩ : ∃ x, A.eval (.tmp 188) = x := ⟨_, rfl⟩
              have f188 : (fun v _ => v = (Value.pointer (some ⟨tb, to + i * 35, none⟩))) x188 u8 := by rw [← hx188]; exact hh.got 22 _ 188 rfl rfl (hall 22 (by decide))
              obtain ⟨x189, hx189⟩ : ∃ x, A.eval (.tmp 189) = x := ⟨_, rfl⟩
              have f189 : (fun v _ => v = (Value.pointer (some ⟨tb, to + i * 35 + 33, none⟩))) x189 u8 := by rw [← hx189]; exact hh.got 23 _ 189 rfl rfl (hall 23 (by decide))
              obtain ⟨x190, hx190⟩ : ∃ x, A.eval (.tmp 190) = x := ⟨_, rfl⟩
              have f190 : (fun v _ => v = (Value.int .i64 At)) x190 u8 := by rw [← hx190]; exact hh.got 24 _ 190 rfl rfl (hall 24 (by decide))
              obtain ⟨x191, hx191⟩ : ∃ x, A.eval (.tmp 191) = x := ⟨_, rfl⟩
              have f191 : (fun v _ => v = (Value.bool false)) x191 u8 := by rw [← hx191]; exact hh.got 25 _ 191 rfl rfl (hall 25 (by decide))
              obtain ⟨x192, hx192⟩ : ∃ x, A.eval (.tmp 192) = x := ⟨_, rfl⟩
              have f192 : (fun v _ => v = (Value.bool false)) x192 u8 := by rw [← hx192]; exact hh.got 26 _ 192 rfl rfl (hall 26 (by decide))
              obtain ⟨x193, hx193⟩ : ∃ x, A.eval (.tmp 193) = x := ⟨_, rfl⟩
              have f193 : (fun v _ => v = (Value.bool false)) x193 u8 := by rw [← hx193]; exact hh.got 27 _ 193 rfl rfl (hall 27 (by decide))
              obtain ⟨x194, hx194⟩ : ∃ x, A.eval (.tmp 194) = x := ⟨_, rfl⟩
              have f194 : (fun v _ => v = (Value.pointer (some ⟨g, j * 35, none⟩))) x194 u8 := by rw [← hx194]; exact hh.got 28 _ 194 rfl rfl (hall 28 (by decide))
              obtain ⟨x195, hx195⟩ : ∃ x, A.eval (.tmp 195) = x := ⟨_, rfl⟩
              have f195 : (fun v _ => v = (Value.pointer (some ⟨g, j * 35 + 34, none⟩))) x195 u8 := by rw [← hx195]; exact hh.got 29 _ 195 rfl rfl (hall 29 (by decide))
              dsimp only [wrote, List.foldl] at hA
              rw [hx166, hx167, hx168, hx169, hx170, hx171, hx172, hx173, hx174, hx175, hx176, hx177, hx178, hx179, hx180, hx181, hx182, hx183, hx184, hx185, hx186, hx187, hx188, hx189, hx190, hx191, hx192, hx193, hx194, hx195] at hA
              clear hh hall hx166 hx167 hx168 hx169 hx170 hx171 hx172 hx173 hx174 hx175 hx176 hx177 hx178 hx179 hx180 hx181 hx182 hx183 hx184 hx185 hx186 hx187 hx188 hx189 hx190 hx191 hx192 hx193 hx194 hx195
              replace f166 := (f166 : x166 = (.slice (some ⟨g, 0, none⟩) k fc))
              subst f166
              replace f167 := (f167 : x167 = (.int .i64 (j : Nat)))
              subst f167
              replace f168 := (f168 : x168 = (.slice (some ⟨g, 0, none⟩) k fc))
              subst f168
              replace f169 := (f169 : x169 = (.int .i64 (j : Nat)))
              subst f169
              replace f170 := (f170 : x170 = (.pointer (some ⟨g, j * 35, none⟩)))
              subst f170
              replace f171 := (f171 : x171 = (.pointer (some ⟨g, j * 35 + 34, none⟩)))
              subst f171
              replace f172 := (f172 : x172 = (.bool false))
              subst f172
              replace f173 := (f173 : x173 = (.bool false))
              subst f173
              replace f174 := (f174 : x174 = (.slice (some ⟨g, 0, none⟩) k fc))
              subst f174
              replace f175 := (f175 : x175 = (.int .i64 (j : Nat)))
              subst f175
              replace f176 := (f176 : x176 = (.pointer (some ⟨g, j * 35, none⟩)))
              subst f176
              replace f177 := (f177 : x177 = (.pointer (some ⟨g, j * 35 + 33, none⟩)))
              subst f177
              replace f178 := (f178 : x178 = (.int .i64 til))
              subst f178
              replace f179 := (f179 : x179 = (.bool true))
              subst f179
              replace f180 := (f180 : x180 = (.bool true))
              subst f180
              replace f181 := (f181 : x181 = (.slice (some ⟨g, 0, none⟩) k fc))
              subst f181
              replace f182 := (f182 : x182 = (.int .i64 (j : Nat)))
              subst f182
              replace f183 := (f183 : x183 = (.pointer (some ⟨g, j * 35, none⟩)))
              subst f183
              replace f184 := (f184 : x184 = (.pointer (some ⟨g, j * 35 + 33, none⟩)))
              subst f184
              replace f185 := (f185 : x185 = (.int .i64 til))
              subst f185
              replace f186 := (f186 : x186 = (.slice (some ⟨tb, to, none⟩) tn tc))
              subst f186
              replace f187 := (f187 : x187 = (.int .i64 (i : Nat)))
              subst f187
              replace f188 := (f188 : x188 = (.pointer (some ⟨tb, to + i * 35, none⟩)))
              subst f188
              replace f189 := (f189 : x189 = (.pointer (some ⟨tb, to + i * 35 + 33, none⟩)))
              subst f189
              replace f190 := (f190 : x190 = (.int .i64 At))
              subst f190
              replace f191 := (f191 : x191 = (.bool false))
              subst f191
              replace f192 := (f192 : x192 = (.bool false))
              subst f192
              replace f193 := (f193 : x193 = (.bool false))
              subst f193
              replace f194 := (f194 : x194 = (.pointer (some ⟨g, j * 35, none⟩)))
              subst f194
              replace f195 := (f195 : x195 = (.pointer (some ⟨g, j * 35 + 34, none⟩)))
              subst f195
              subst hA
              show wpList _ _ _ [_] _ _
              simp only [Act.put, List.setIfInBounds_toArray, List.set_cons_succ, List.set_cons_zero]
              have hy9 := H34.out u8 HU.out
              obtain ⟨cs8, hb8, _⟩ := z9.out u8 HU.out
              have hz9 := hb8.frozen (j * 35 + 34)
              clear hb8
              go_upto_region 28 with fail
              obtain ⟨w29, hw29⟩ : ∃ x, u8.setCell ⟨g, j * 35 + 34, none⟩ (.bool false) = x := ⟨_, rfl⟩
              rw [hw29]
              have HG29 : Hid (u8.grownBy w29 (some g)) := hid (by rw [← hw29]; exact gset _ _ _)
              have HFu := hid (HFr.out.keep HU.out)
              have HF29 : Hid (OutF w.heap.size w29 (.slice (some ⟨g, 0, none⟩) k fc) ((fs.take (j + 1)).map (Ft.prune At) ++ fs.drop (j + 1))) := hid (by
               have h := OutF.gone (fs := (fs.take j).map (Ft.prune At) ++ fs.drop j) (c := fc) (by rw [HPl.out]; exact HFu.out) j f false HPj.out
               rw [HPl.out, hw29, show (⟨f.sec, f.til, false⟩ : Ft) = Ft.prune At f by unfold Ft.prune; rw [HPg.out], prune_step HFj.out] at h
               exact h)
              obtain ⟨cs9, hk9, hC9⟩ := HFu.out.blk (g := g) rfl
              have HX29 := hid ((HXr.out.keep HU.out).off HG29.out hk9 (by decide))
              have HP29 := hid ((HPr.out.keep HU.out).on HG29.out (fun e => hk9.ne (HPr.out.keep HU.out) (by decide) (Option.some.inj e)))
              have HGq9 := hid ((gtrans HGr.out HU.out).andThen HG29.out (fun j hj => .inl (by injection hj with hj; omega)))
              clear hk9 hC9 cs9 hw29 hy9 hz9
              go_wp2_with fail
              go_roundw
              case rel => exact ⟨j + 1, by go_num, by omega, HF29, HP29, HX29, HGq9⟩
              case measure => simp [intOf]; omega
           ·
            as_aux_lemma =>
            have hpos : decide ((0 : Int) < til) = false := decide_eq_false hp
            rw [hpos, Bool.false_and] at HPg
            refine wp_region_list (by kernel_rfl) [fun v _ => v = (Value.slice (some ⟨g, 0, none⟩) k fc), fun v _ => v = (Value.int .i64 (j : Nat)), fun v _ => v = (Value.slice (some ⟨g, 0, none⟩) k fc), fun v _ => v = (Value.int .i64 (j : Nat)), fun v _ => v = (Value.pointer (some ⟨g, j * 35, none⟩)), fun v _ => v = (Value.pointer (some ⟨g, j * 35 + 34, none⟩)), fun v _ => v = (Value.bool false), fun v _ => v = (Value.bool false), fun v _ => v = (Value.slice (some ⟨g, 0, none⟩) k fc), fun v _ => v = (Value.int .i64 (j : Nat)), fun v _ => v = (Value.pointer (some ⟨g, j * 35, none⟩)), fun v _ => v = (Value.pointer (some ⟨g, j * 35 + 33, none⟩)), fun v _ => v = (Value.int .i64 til), fun v _ => v = (Value.bool false), fun v _ => v = (Value.bool false), fun v _ => v = undef, fun v _ => v = undef, fun v _ => v = undef, fun v _ => v = undef, fun v _ => v = undef, fun v _ => v = undef, fun v _ => v = undef, fun v _ => v = undef, fun v _ => v = undef, fun v _ => v = undef, fun v _ => v = undef, fun v _ => v = (Value.bool false), fun v _ => v = (Value.bool false), fun v _ => v = (Value.pointer (some ⟨g, j * 35, none⟩)), fun v _ => v = (Value.pointer (some ⟨g, j * 35 + 34, none⟩))] (none) (fun _ => none) 30 (by kernel_rfl) (by kernel_rfl) (by kernel_rfl) (by kernel_rfl) (by decide) noRow_one (fun _ => .inl rfl) ⟨fun i v u u' hki h hg => h, fun i v u u' hki h hg => h, fun i v u u' hki h hg => h, fun i v u u' hki h hg => h, fun i v u u' hki h hg => h, fun i v u u' hki h hg => h, fun i v u u' hki h hg => h, fun i v u u' hki h hg => h, fun i v u u' hki h hg => h, fun i v u u' hki h hg => h, fun i v u u' hki h hg => h, fun i v u u' hki h hg => h, fun i v u u' hki h hg => h, fun i v u u' hki h hg => h, fun i v u u' hki h hg => h, fun i v u u' hki h hg => h, fun i v u u' hki h hg => h, fun i v u u' hki h hg => h, fun i v u u' hki h hg => h, fun i v u u' hki h hg => h, fun i v u u' hki h hg => h, fun i v u u' hki h hg => h, fun i v u u' hki h hg => h, fun i v u u' hki h hg => h, fun i v u u' hki h hg => h, fun i v u u' hki h hg => h, fun i v u u' hki h hg => h, fun i v u u' hki h hg => h, fun i v u u' hki h hg => h, fun i v u u' hki h hg => h, trivial⟩ ⟨?_, ?_, ?_, ?_, ?_, ?_, ?_, ?_, ?_, ?_, ?_, ?_, ?_, ?_, ?_, ?_, ?_, ?_, ?_, ?_, ?_, ?_, ?_, ?_, ?_, ?_, ?_, ?_, ?_, ?_, trivial⟩ ?_
            ·
             intro A u hu hpu hsz hout hdeps
             have e5 : A.eval (.tmp 5) = (.slice (some ⟨g, 0, none⟩) k fc) := (hout 5 (by kernel_rfl)).trans rfl
             refine ifw_none rfl ?_
             with_reducible refine shown_q (Value.slice (some ⟨g, 0, none⟩) k fc) ?qq_5a2_0 (fun _ _ => ?qr_5a2_0)
             case qr_5a2_0 => exact (rfl : (Value.slice (some ⟨g, 0, none⟩) k fc) = (Value.slice (some ⟨g, 0, none⟩) k fc))
             with_reducible refine quietAt_mv (.tmp 5) (Value.slice (some ⟨g, 0, none⟩) k fc) ?h0_5a2_0 ?h1_5a2_0
             case h0_5a2_0 => rfl
             case h1_5a2_0 => exact e5
            ·
             intro A u hu hpu hsz hout hdeps
             have e13 : A.eval (.tmp 13) = (.int .i64 (j : Nat)) := (hout 13 (by kernel_rfl)).trans rfl
             refine ifw_none rfl ?_
             with_reducible refine shown_q (Value.int .i64 (j : Nat)) ?qq_5a2_1 (fun _ _ => ?qr_5a2_1)
             case qr_5a2_1 => exact (rfl : (Value.int .i64 (j : Nat)) = (Value.int .i64 (j : Nat)))
             with_reducible refine quietAt_mv (.tmp 13) (Value.int .i64 (j : Nat)) ?h0_5a2_1 ?h1_5a2_1
             case h0_5a2_1 => rfl
             case h1_5a2_1 => exact e13
            ·
             intro A u hu hpu hsz hout hdeps
             have e5 : A.eval (.tmp 5) = (.slice (some ⟨g, 0, none⟩) k fc) := (hout 5 (by kernel_rfl)).trans rfl
             refine ifw_none rfl ?_
             with_reducible refine shown_q (Value.slice (some ⟨g, 0, none⟩) k fc) ?qq_5a2_2 (fun _ _ => ?qr_5a2_2)
             case qr_5a2_2 => exact (rfl : (Value.slice (some ⟨g, 0, none⟩) k fc) = (Value.slice (some ⟨g, 0, none⟩) k fc))
             with_reducible refine quietAt_mv (.tmp 5) (Value.slice (some ⟨g, 0, none⟩) k fc) ?h0_5a2_2 ?h1_5a2_2
             case h0_5a2_2 => rfl
             case h1_5a2_2 => exact e5
            ·
             intro A u hu hpu hsz hout hdeps
             have e13 : A.eval (.tmp 13) = (.int .i64 (j : Nat)) := (hout 13 (by kernel_rfl)).trans rfl
             refine ifw_none rfl ?_
             with_reducible refine shown_q (Value.int .i64 (j : Nat)) ?qq_5a2_3 (fun _ _ => ?qr_5a2_3)
             case qr_5a2_3 => exact (rfl : (Value.int .i64 (j : Nat)) = (Value.int .i64 (j : Nat)))
             with_reducible refine quietAt_mv (.tmp 13) (Value.int .i64 (j : Nat)) ?h0_5a2_3 ?h1_5a2_3
             case h0_5a2_3 => rfl
             case h1_5a2_3 => exact e13
            ·
             intro A u hu hpu hsz hout hdeps
             have e168 : A.eval (.tmp 168) = (.slice (some ⟨g, 0, none⟩) k fc) := by have h := depL hdeps 2 (by kernel_rfl) 168 (by kernel_rfl); exact h
             have e169 : A.eval (.tmp 169) = (.int .i64 (j : Nat)) := by have h := depL hdeps 3 (by kernel_rfl) 169 (by kernel_rfl); exact h
             refine ifw_none rfl ?_
             with_reducible refine shown_q (Value.pointer (some ⟨g, j * 35, none⟩)) ?qq_5a2_4 (fun _ _ => ?qr_5a2_4)
             case qr_5a2_4 => exact (rfl : (Value.pointer (some ⟨g, j * 35, none⟩)) = (Value.pointer (some ⟨g, j * 35, none⟩)))
             with_reducible refine quietAt_idx 97 (.tmp 168) (.tmp 169) (Value.slice (some ⟨g, 0, none⟩) k fc) (Value.int .i64 (j : Nat)) (Value.pointer (some ⟨g, j * 35, none⟩)) ?h0_5a2_4 ?h1_5a2_4 ?h2_5a2_4 ?h3_5a2_4
             case h0_5a2_4 => rfl
             case h1_5a2_4 => exact e168
             case h2_5a2_4 => exact e169
             case h3_5a2_4 => exact idx97z g k fc j hjk u
            ·
             intro A u hu hpu hsz hout hdeps
             have e170 : A.eval (.tmp 170) = (.pointer (some ⟨g, j * 35, none⟩)) := by have h := depL hdeps 4 (by kernel_rfl) 170 (by kernel_rfl); exact h
             refine ifw_none rfl ?_
             with_reducible refine shown_q (Value.pointer (some ⟨g, j * 35 + 34, none⟩)) ?qq_5a2_5 (fun _ _ => ?qr_5a2_5)
             case qr_5a2_5 => exact (rfl : (Value.pointer (some ⟨g, j * 35 + 34, none⟩)) = (Value.pointer (some ⟨g, j * 35 + 34, none⟩)))
             with_reducible refine quietAt_field 96 (.tmp 170) 3 ?h0_5a2_5 ⟨g, j * 35, none⟩ ⟨g, j * 35 + 34, none⟩ ?h1_5a2_5 ?h2_5a2_5
             case h0_5a2_5 => rfl
             case h1_5a2_5 => exact e170
             case h2_5a2_5 => first | kernel_rfl | rfl
            ·
             intro A u hu hpu hsz hout hdeps
             have e171 : A.eval (.tmp 171) = (.pointer (some ⟨g, j * 35 + 34, none⟩)) := by have h := depL hdeps 5 (by kernel_rfl) 171 (by kernel_rfl); exact h
             refine ifw_none rfl ?_
             with_reducible refine shown_q (Value.bool false) ?qq_5a2_6 (fun _ _ => ?qr_5a2_6)
             case qr_5a2_6 => exact (rfl : (Value.bool false) = (Value.bool false))
             with_reducible refine quietAt_ld 4 (.tmp 171) (Value.pointer (some ⟨g, j * 35 + 34, none⟩)) (Value.bool false) ?h0_5a2_6 ?h1_5a2_6 ?h2_5a2_6
             case h0_5a2_6 => rfl
             case h1_5a2_6 => exact e171
             case h2_5a2_6 => exact ld4 g (j * 35 + 34) false u (H34.out u hu)
            ·
             intro A u hu hpu hsz hout hdeps
             have e172 : A.eval (.tmp 172) = (.bool false) := by have h := depL hdeps 6 (by kernel_rfl) 172 (by kernel_rfl); exact h
             refine ifw_none rfl ?_
             with_reducible refine shown_q (Value.bool false) ?qq_5a2_7 (fun _ _ => ?qr_5a2_7)
             case qr_5a2_7 => exact (rfl : (Value.bool false) = (Value.bool false))
             with_reducible refine quietAt_mv (.tmp 172) (Value.bool false) ?h0_5a2_7 ?h1_5a2_7
             case h0_5a2_7 => rfl
             case h1_5a2_7 => exact e172
            ·
             intro A u hu hpu hsz hout hdeps
             have e173 : A.eval (.tmp 173) = (.bool false) := by have h := depL hdeps 7 (by kernel_rfl) 173 (by kernel_rfl); exact h
             have e5 : A.eval (.tmp 5) = (.slice (some ⟨g, 0, none⟩) k fc) := (hout 5 (by kernel_rfl)).trans rfl
             refine ifw_want 7 false 173 rfl rfl e173 ?_
             with_reducible refine shown_q (Value.slice (some ⟨g, 0, none⟩) k fc) ?qq_5a2_8 (fun _ _ => ?qr_5a2_8)
             case qr_5a2_8 => exact (rfl : (Value.slice (some ⟨g, 0, none⟩) k fc) = (Value.slice (some ⟨g, 0, none⟩) k fc))
             with_reducible refine quietAt_mv (.tmp 5) (Value.slice (some ⟨g, 0, none⟩) k fc) ?h0_5a2_8 ?h1_5a2_8
             case h0_5a2_8 => rfl
             case h1_5a2_8 => exact e5
            ·
             intro A u hu hpu hsz hout hdeps
             have e173 : A.eval (.tmp 173) = (.bool false) := by have h := depL hdeps 7 (by kernel_rfl) 173 (by kernel_rfl); exact h
             have e13 : A.eval (.tmp 13) = (.int .i64 (j : Nat)) := (hout 13 (by kernel_rfl)).trans rfl
             refine ifw_want 7 false 173 rfl rfl e173 ?_
             with_reducible refine shown_q (Value.int .i64 (j : Nat)) ?qq_5a2_9 (fun _ _ => ?qr_5a2_9)
             case qr_5a2_9 => exact (rfl : (Value.int .i64 (j : Nat)) = (Value.int .i64 (j : Nat)))
             with_reducible refine quietAt_mv (.tmp 13) (Value.int .i64 (j : Nat)) ?h0_5a2_9 ?h1_5a2_9
             case h0_5a2_9 => rfl
             case h1_5a2_9 => exact e13
            ·
             intro A u hu hpu hsz hout hdeps
             have e173 : A.eval (.tmp 173) = (.bool false) := by have h := depL hdeps 7 (by kernel_rfl) 173 (by kernel_rfl); exact h
             have e174 : A.eval (.tmp 174) = (.slice (some ⟨g, 0, none⟩) k fc) := by have h := depL hdeps 8 (by kernel_rfl) 174 (by kernel_rfl); exact h
             have e175 : A.eval (.tmp 175) = (.int .i64 (j : Nat)) := by have h := depL hdeps 9 (by kernel_rfl) 175 (by kernel_rfl); exact h
             refine ifw_want 7 false 173 rfl rfl e173 ?_
             with_reducible refine shown_q (Value.pointer (some ⟨g, j * 35, none⟩)) ?qq_5a2_10 (fun _ _ => ?qr_5a2_10)
             case qr_5a2_10 => exact (rfl : (Value.pointer (some ⟨g, j * 35, none⟩)) = (Value.pointer (some ⟨g, j * 35, none⟩)))
             with_reducible refine quietAt_idx 97 (.tmp 174) (.tmp 175) (Value.slice (some ⟨g, 0, none⟩) k fc) (Value.int .i64 (j : Nat)) (Value.pointer (some ⟨g, j * 35, none⟩)) ?h0_5a2_10 ?h1_5a2_10 ?h2_5a2_10 ?h3_5a2_10
             case h0_5a2_10 => rfl
             case h1_5a2_10 => exact e174
             case h2_5a2_10 => exact e175
             case h3_5a2_10 => exact idx97z g k fc j hjk u
            ·
             intro A u hu hpu hsz hout hdeps
             have e173 : A.eval (.tmp 173) = (.bool false) := by have h := depL hdeps 7 (by kernel_rfl) 173 (by kernel_rfl); exact h
             have e176 : A.eval (.tmp 176) = (.pointer (some ⟨g, j * 35, none⟩)) := by have h := depL hdeps 10 (by kernel_rfl) 176 (by kernel_rfl); exact h
             refine ifw_want 7 false 173 rfl rfl e173 ?_
             with_reducible refine shown_q (Value.pointer (some ⟨g, j * 35 + 33, none⟩)) ?qq_5a2_11 (fun _ _ => ?qr_5a2_11)
             case qr_5a2_11 => exact (rfl : (Value.pointer (some ⟨g, j * 35 + 33, none⟩)) = (Value.pointer (some ⟨g, j * 35 + 33, none⟩)))
             with_reducible refine quietAt_field 96 (.tmp 176) 2 ?h0_5a2_11 ⟨g, j * 35, none⟩ ⟨g, j * 35 + 33, none⟩ ?h1_5a2_11 ?h2_5a2_11
             case h0_5a2_11 => rfl
             case h1_5a2_11 => exact e176
             case h2_5a2_11 => first | kernel_rfl | rfl
            ·
             intro A u hu hpu hsz hout hdeps
             have e173 : A.eval (.tmp 173) = (.bool false) := by have h := depL hdeps 7 (by kernel_rfl) 173 (by kernel_rfl); exact h
             have e177 : A.eval (.tmp 177) = (.pointer (some ⟨g, j * 35 + 33, none⟩)) := by have h := depL hdeps 11 (by kernel_rfl) 177 (by kernel_rfl); exact h
             refine ifw_want 7 false 173 rfl rfl e173 ?_
             with_reducible refine shown_q (Value.int .i64 til) ?qq_5a2_12 (fun _ _ => ?qr_5a2_12)
             case qr_5a2_12 => exact (rfl : (Value.int .i64 til) = (Value.int .i64 til))
             with_reducible refine quietAt_ld 2 (.tmp 177) (Value.pointer (some ⟨g, j * 35 + 33, none⟩)) (Value.int .i64 til) ?h0_5a2_12 ?h1_5a2_12 ?h2_5a2_12
             case h0_5a2_12 => rfl
             case h1_5a2_12 => exact e177
             case h2_5a2_12 => exact ld2 g (j * 35 + 33) til u (H33.out u hu)
            ·
             intro A u hu hpu hsz hout hdeps
             have e173 : A.eval (.tmp 173) = (.bool false) := by have h := depL hdeps 7 (by kernel_rfl) 173 (by kernel_rfl); exact h
             have e178 : A.eval (.tmp 178) = (.int .i64 til) := by have h := depL hdeps 12 (by kernel_rfl) 178 (by kernel_rfl); exact h
             refine ifw_want 7 false 173 rfl rfl e173 ?_
             with_reducible refine shown_q (Value.bool false) ?qq_5a2_13 (fun _ _ => ?qr_5a2_13)
             case qr_5a2_13 => exact (rfl : (Value.bool false) = (Value.bool false))
             with_reducible refine quietAt_bin .gtr 2 (.tmp 178) (.const (.int .i64 0)) 2 (Value.int .i64 til) (Value.int .i64 0) (Value.bool false) ?h0_5a2_13 ?h1_5a2_13 ?h2_5a2_13 ?h3_5a2_13
             case h0_5a2_13 => rfl
             case h1_5a2_13 => exact e178
             case h2_5a2_13 => exact rfl
             case h3_5a2_13 => exact (gtr_i64 til 0 u).trans (by rw [hpos])
            ·
             intro A u hu hpu hsz hout hdeps
             have e173 : A.eval (.tmp 173) = (.bool false) := by have h := depL hdeps 7 (by kernel_rfl) 173 (by kernel_rfl); exact h
             have e179 : A.eval (.tmp 179) = (.bool false) := by have h := depL hdeps 13 (by kernel_rfl) 179 (by kernel_rfl); exact h
             refine ifw_want 7 false 173 rfl rfl e173 ?_
             with_reducible refine shown_q (Value.bool false) ?qq_5a2_14 (fun _ _ => ?qr_5a2_14)
             case qr_5a2_14 => exact (rfl : (Value.bool false) = (Value.bool false))
             with_reducible refine quietAt_mv (.tmp 179) (Value.bool false) ?h0_5a2_14 ?h1_5a2_14
             case h0_5a2_14 => rfl
             case h1_5a2_14 => exact e179
            ·
             intro A u hu hpu hsz hout hdeps
             have e180 : A.eval (.tmp 180) = (.bool false) := by have h := depL hdeps 14 (by kernel_rfl) 180 (by kernel_rfl); exact h
             refine ifw_pass 14 true false 180 rfl rfl e180 (by decide) ?_
             exact rfl
            ·
             intro A u hu hpu hsz hout hdeps
             have e180 : A.eval (.tmp 180) = (.bool false) := by have h := depL hdeps 14 (by kernel_rfl) 180 (by kernel_rfl); exact h
             refine ifw_pass 14 true false 180 rfl rfl e180 (by decide) ?_
             exact rfl
            ·
             intro A u hu hpu hsz hout hdeps
             have e180 : A.eval (.tmp 180) = (.bool false) := by have h := depL hdeps 14 (by kernel_rfl) 180 (by kernel_rfl); exact h
             refine ifw_pass 14 true false 180 rfl rfl e180 (by decide) ?_
             exact rfl
            ·
             intro A u hu hpu hsz hout hdeps
             have e180 : A.eval (.tmp 180) = (.bool false) := by have h := depL hdeps 14 (by kernel_rfl) 180 (by kernel_rfl); exact h
             refine ifw_pass 14 true false 180 rfl rfl e180 (by decide) ?_
             exact rfl
            ·
             intro A u hu hpu hsz hout hdeps
             have e180 : A.eval (.tmp 180) = (.bool false) := by have h := depL hdeps 14 (by kernel_rfl) 180 (by kernel_rfl); exact h
             refine ifw_pass 14 true false 180 rfl rfl e180 (by decide) ?_
             exact rfl
            ·
             intro A u hu hpu hsz hout hdeps
             have e180 : A.eval (.tmp 180) = (.bool false) := by have h := depL hdeps 14 (by kernel_rfl) 180 (by kernel_rfl); exact h
             refine ifw_pass 14 true false 180 rfl rfl e180 (by decide) ?_
             exact rfl
            ·
             intro A u hu hpu hsz hout hdeps
             have e180 : A.eval (.tmp 180) = (.bool false) := by have h := depL hdeps 14 (by kernel_rfl) 180 (by kernel_rfl); exact h
             refine ifw_pass 14 true false 180 rfl rfl e180 (by decide) ?_
             exact rfl
            ·
             intro A u hu hpu hsz hout hdeps
             have e180 : A.eval (.tmp 180) = (.bool false) := by have h := depL hdeps 14 (by kernel_rfl) 180 (by kernel_rfl); exact h
             refine ifw_pass 14 true false 180 rfl rfl e180 (by decide) ?_
             exact rfl
            ·
             intro A u hu hpu hsz hout hdeps
             have e180 : A.eval (.tmp 180) = (.bool false) := by have h := depL hdeps 14 (by kernel_rfl) 180 (by kernel_rfl); exact h
             refine ifw_pass 14 true false 180 rfl rfl e180 (by decide) ?_
             exact rfl
            ·
             intro A u hu hpu hsz hout hdeps
             have e180 : A.eval (.tmp 180) = (.bool false) := by have h := depL hdeps 14 (by kernel_rfl) 180 (by kernel_rfl); exact h
             refine ifw_pass 14 true false 180 rfl rfl e180 (by decide) ?_
             exact rfl
            ·
             intro A u hu hpu hsz hout hdeps
             have e180 : A.eval (.tmp 180) = (.bool false) := by have h := depL hdeps 14 (by kernel_rfl) 180 (by kernel_rfl); exact h
             refine ifw_pass 14 true false 180 rfl rfl e180 (by decide) ?_
             exact rfl
            ·
             intro A u hu hpu hsz hout hdeps
             have e173 : A.eval (.tmp 173) = (.bool false) := by have h := depL hdeps 7 (by kernel_rfl) 173 (by kernel_rfl); exact h
             have e180 : A.eval (.tmp 180) = (.bool false) := by have h := depL hdeps 14 (by kernel_rfl) 180 (by kernel_rfl); exact h
             refine ifw_want 7 false 173 rfl rfl e173 ?_
             with_reducible refine shown_q (Value.bool false) ?qq_5a2_26 (fun _ _ => ?qr_5a2_26)
             case qr_5a2_26 => exact (rfl : (Value.bool false) = (Value.bool false))
             with_reducible refine quietAt_pick (.tmp 180) (.tmp 191) (.const (.bool false)) false (Value.bool false) ?h0_5a2_26 ?h1_5a2_26 ?h2_5a2_26
             case h0_5a2_26 => rfl
             case h1_5a2_26 => exact e180
             case h2_5a2_26 => rw [if_neg (by decide)]; exact rfl
            ·
             intro A u hu hpu hsz hout hdeps
             have e173 : A.eval (.tmp 173) = (.bool false) := by have h := depL hdeps 7 (by kernel_rfl) 173 (by kernel_rfl); exact h
             have e192 : A.eval (.tmp 192) = (.bool false) := by have h := depL hdeps 26 (by kernel_rfl) 192 (by kernel_rfl); exact h
             refine ifw_none rfl ?_
             with_reducible refine shown_q (Value.bool false) ?qq_5a2_27 (fun _ _ => ?qr_5a2_27)
             case qr_5a2_27 => exact (rfl : (Value.bool false) = (Value.bool false))
             with_reducible refine quietAt_pick (.tmp 173) (.const (.bool true)) (.tmp 192) false (Value.bool false) ?h0_5a2_27 ?h1_5a2_27 ?h2_5a2_27
             case h0_5a2_27 => rfl
             case h1_5a2_27 => exact e173
             case h2_5a2_27 => rw [if_neg (by decide)]; exact e192
            ·
             intro A u hu hpu hsz hout hdeps
             have e166 : A.eval (.tmp 166) = (.slice (some ⟨g, 0, none⟩) k fc) := by have h := depL hdeps 0 (by kernel_rfl) 166 (by kernel_rfl); exact h
             have e167 : A.eval (.tmp 167) = (.int .i64 (j : Nat)) := by have h := depL hdeps 1 (by kernel_rfl) 167 (by kernel_rfl); exact h
             refine ifw_none rfl ?_
             with_reducible refine shown_q (Value.pointer (some ⟨g, j * 35, none⟩)) ?qq_5a2_28 (fun _ _ => ?qr_5a2_28)
             case qr_5a2_28 => exact (rfl : (Value.pointer (some ⟨g, j * 35, none⟩)) = (Value.pointer (some ⟨g, j * 35, none⟩)))
             with_reducible refine quietAt_idx 97 (.tmp 166) (.tmp 167) (Value.slice (some ⟨g, 0, none⟩) k fc) (Value.int .i64 (j : Nat)) (Value.pointer (some ⟨g, j * 35, none⟩)) ?h0_5a2_28 ?h1_5a2_28 ?h2_5a2_28 ?h3_5a2_28
             case h0_5a2_28 => rfl
             case h1_5a2_28 => exact e166
             case h2_5a2_28 => exact e167
             case h3_5a2_28 => exact idx97z g k fc j hjk u
            ·
             intro A u hu hpu hsz hout hdeps
             have e194 : A.eval (.tmp 194) = (.pointer (some ⟨g, j * 35, none⟩)) := by have h := depL hdeps 28 (by kernel_rfl) 194 (by kernel_rfl); exact h
             refine ifw_none rfl ?_
             with_reducible refine shown_q (Value.pointer (some ⟨g, j * 35 + 34, none⟩)) ?qq_5a2_29 (fun _ _ => ?qr_5a2_29)
             case qr_5a2_29 => exact (rfl : (Value.pointer (some ⟨g, j * 35 + 34, none⟩)) = (Value.pointer (some ⟨g, j * 35 + 34, none⟩)))
             with_reducible refine quietAt_field 96 (.tmp 194) 3 ?h0_5a2_29 ⟨g, j * 35, none⟩ ⟨g, j * 35 + 34, none⟩ ?h1_5a2_29 ?h2_5a2_29
             case h0_5a2_29 => rfl
             case h1_5a2_29 => exact e194
             case h2_5a2_29 => first | kernel_rfl | rfl
            ·
             intro A u8 listed hh hall
             have hA := hh.frame
             have HU := hid hh.grown
             obtain ⟨x166, hx166⟩ : ∃ x, A.eval (.tmp 166) = x := ⟨_, rfl⟩
             have f166 : (fun v _ => v = (Value.slice (some ⟨g, 0, none⟩) k fc)) x166 u8 := by rw [← hx166]; exact hh.got 0 _ 166 rfl rfl (hall 0 (by decide))
             obtain ⟨x167, hx167⟩ : ∃ x, A.eval (.tmp 167) = x := ⟨_, rfl⟩
             have f167 : (fun v _ => v = (Value.int .i64 (j : Nat))) x167 u8 := by rw [← hx167]; exact hh.got 1 _ 167 rfl rfl (hall 1 (by decide))
             obtain ⟨x168, hx168⟩ : ∃ x, A.eval (.tmp 168) = x := ⟨_, rfl⟩
             have f168 : (fun v _ => v = (Value.slice (some ⟨g, 0, none⟩) k fc)) x168 u8 := by rw [← hx168]; exact hh.got 2 _ 168 rfl rfl (hall 2 (by decide))
             obtain ⟨x169, hx169⟩ : ∃ x, A.eval (.tmp 169) = x := ⟨_, rfl⟩
             have f169 : (fun v _ => v = (Value.int .i64 (j : Nat))) x169 u8 := by rw [← hx169]; exact hh.got 3 _ 169 rfl rfl (hall 3 (by decide))
             obtain ⟨x170, hx170⟩ : ∃ x, A.eval (.tmp 170) = x := ⟨_, rfl⟩
             have f170 : (fun v _ => v = (Value.pointer (some ⟨g, j * 35, none⟩))) x170 u8 := by rw [← hx170]; exact hh.got 4 _ 170 rfl rfl (hall 4 (by decide))
             obtain ⟨x171, hx171⟩ : ∃ x, A.eval (.tmp 171) = x := ⟨_, rfl⟩
             have f171 : (fun v _ => v = (Value.pointer (some ⟨g, j * 35 + 34, none⟩))) x171 u8 := by rw [← hx171]; exact hh.got 5 _ 171 rfl rfl (hall 5 (by decide))
             obtain ⟨x172, hx172⟩ : ∃ x, A.eval (.tmp 172) = x := ⟨_, rfl⟩
             have f172 : (fun v _ => v = (Value.bool false)) x172 u8 := by rw [← hx172]; exact hh.got 6 _ 172 rfl rfl (hall 6 (by decide))
             obtain ⟨x173, hx173⟩ : ∃ x, A.eval (.tmp 173) = x := ⟨_, rfl⟩
             have f173 : (fun v _ => v = (Value.bool false)) x173 u8 := by rw [← hx173]; exact hh.got 7 _ 173 rfl rfl (hall 7 (by decide))
             obtain ⟨x174, hx174⟩ : ∃ x, A.eval (.tmp 174) = x := ⟨_, rfl⟩
             have f174 : (fun v _ => v = (Value.slice (some ⟨g, 0, none⟩) k fc)) x174 u8 := by rw [← hx174]; exact hh.got 8 _ 174 rfl rfl (hall 8 (by decide))
             obtain ⟨x175, hx175⟩ : ∃ x, A.eval (.tmp 175) = x := ⟨_, rfl⟩
             have f175 : (fun v _ => v = (Value.int .i64 (j : Nat))) x175 u8 := by rw [← hx175]; exact hh.got 9 _ 175 rfl rfl (hall 9 (by decide))
             obtain ⟨x176, hx176⟩ : ∃ x, A.eval (.tmp 176) = x := ⟨_, rfl⟩
             have f176 : (fun v _ => v = (Value.pointer (some ⟨g, j * 35, none⟩))) x176 u8 := by rw [← hx176]; exact hh.got 10 _ 176 rfl rfl (hall 10 (by decide))
             obtain ⟨x177, hx177⟩ : ∃ x, A.eval (.tmp 177) = x := ⟨_, rfl⟩
             have f177 : (fun v _ => v = (Value.pointer (some ⟨g, j * 35 + 33, none⟩))) x177 u8 := by rw [← hx177]; exact hh.got 11 _ 177 rfl rfl (hall 11 (by decide))
             obtain ⟨x178, hx178⟩ : ∃ x, A.eval (.tmp 178) = x := ⟨_, rfl⟩
             have f178 : (fun v _ => v = (Value.int .i64 til)) x178 u8 := by rw [← hx178]; exact hh.got 12 _ 178 rfl rfl (hall 12 (by decide))
             obtain ⟨x179, hx179⟩ : ∃ x, A.eval (.tmp 179) = x := ⟨_, rfl⟩
             have f179 : (fun v _ => v = (Value.bool false)) x179 u8 := by rw [← hx179]; exact hh.got 13 _ 179 rfl rfl (hall 13 (by decide))
             obtain ⟨x180, hx180⟩ : ∃ x, A.eval (.tmp 180) = x := ⟨_, rfl⟩
             have f180 : (fun v _ => v = (Value.bool false)) x180 u8 := by rw [← hx180]; exact hh.got 14 _ 180 rfl rfl (hall 14 (by decide))
             obtain ⟨x181, hx181⟩ : ∃ x, A.eval (.tmp 181) = x := ⟨_, rfl⟩
             have f181 : (fun v _ => v = undef) x181 u8 := by rw [← hx181]; exact hh.got 15 _ 181 rfl rfl (hall 15 (by decide))
             obtain ⟨x182, hx182⟩ : ∃ x, A.eval (.tmp 182) = x := ⟨_, rfl⟩
             have f182 : (fun v _ => v = undef) x182 u8 := by rw [← hx182]; exact hh.got 16 _ 182 rfl rfl (hall 16 (by decide))
             obtain ⟨x183, hx183⟩ : ∃ x, A.eval (.tmp 183) = x := ⟨_, rfl⟩
             have f183 : (fun v _ => v = undef) x183 u8 := by rw [← hx183]; exact hh.got 17 _ 183 rfl rfl (hall 17 (by decide))
             obtain ⟨x184, hx184⟩ : ∃ x, A.eval (.tmp 184) = x := ⟨_, rfl⟩
             have f184 : (fun v _ => v = undef) x184 u8 := by rw [← hx184]; exact hh.got 18 _ 184 rfl rfl (hall 18 (by decide))
             obtain ⟨x185, hx185⟩ : ∃ x, A.eval (.tmp 185) = x := ⟨_, rfl⟩
             have f185 : (fun v _ => v = undef) x185 u8 := by rw [← hx185]; exact hh.got 19 _ 185 rfl rfl (hall 19 (by decide))
             obtain ⟨x186, hx186⟩ : ∃ x, A.eval (.tmp 186) = x := ⟨_, rfl⟩
             have f186 : (fun v _ => v = undef) x186 u8 := by rw [← hx186]; exact hh.got 20 _ 186 rfl rfl (hall 20 (by decide))
             obtain ⟨x187, hx187⟩ : ∃ x, A.eval (.tmp 187) = x := ⟨_, rfl⟩
             have f187 : (fun v _ => v = undef) x187 u8 := by rw [← hx187]; exact hh.got 21 _ 187 rfl rfl (hall 21 (by decide))
             obtain ⟨x188, hx188⟩ : ∃ x, A.eval (.tmp 188) = x := ⟨_, rfl⟩
             have f188 : (fun v _ => v = undef) x188 u8 := by rw [← hx188]; exact hh.got 22 _ 188 rfl rfl (hall 22 (by decide))
             obtain ⟨x189, hx189⟩ : ∃ x, A.eval (.tmp 189) = x := ⟨_, rfl⟩
             have f189 : (fun v _ => v = undef) x189 u8 := by rw [← hx189]; exact hh.got 23 _ 189 rfl rfl (hall 23 (by decide))
             obtain ⟨x190, hx190⟩ : ∃ x, A.eval (.tmp 190) = x := ⟨_, rfl⟩
             have f190 : (fun v _ => v = undef) x190 u8 := by rw [← hx190]; exact hh.got 24 _ 190 rfl rfl (hall 24 (by decide))
             obtain ⟨x191, hx191⟩ : ∃ x, A.eval (.tmp 191) = x := ⟨_, rfl⟩
             have f191 : (fun v _ => v = undef) x191 u8 := by rw [← hx191]; exact hh.got 25 _ 191 rfl rfl (hall 25 (by decide))
             obtain ⟨x192, hx192⟩ : ∃ x, A.eval (.tmp 192) = x := ⟨_, rfl⟩
             have f192 : (fun v _ => v = (Value.bool false)) x192 u8 := by rw [← hx192]; exact hh.got 26 _ 192 rfl rfl (hall 26 (by decide))
             obtain ⟨x193, hx193⟩ : ∃ x, A.eval (.tmp 193) = x := ⟨_, rfl⟩
             have f193 : (fun v _ => v = (Value.bool false)) x193 u8 := by rw [← hx193]; exact hh.got 27 _ 193 rfl rfl (hall 27 (by decide))
             obtain ⟨x194, hx194⟩ : ∃ x, A.eval (.tmp 194) = x := ⟨_, rfl⟩
             have f194 : (fun v _ => v = (Value.pointer (some ⟨g, j * 35, none⟩))) x194 u8 := by rw [← hx194]; exact hh.got 28 _ 194 rfl rfl (hall 28 (by decide))
             obtain ⟨x195, hx195⟩ : ∃ x, A.eval (.tmp 195) = x := ⟨_, rfl⟩
             have f195 : (fun v _ => v = (Value.pointer (some ⟨g, j * 35 + 34, none⟩))) x195 u8 := by rw [← hx195]; exact hh.got 29 _ 195 rfl rfl (hall 29 (by decide))
             dsimp only [wrote, List.foldl] at hA
             rw [hx166, hx167, hx168, hx169, hx170, hx171, hx172, hx173, hx174, hx175, hx176, hx177, hx178, hx179, hx180, hx181, hx182, hx183, hx184, hx185, hx186, hx187, hx188, hx189, hx190, hx191, hx192, hx193, hx194, hx195] at hA
             clear hh hall hx166 hx167 hx168 hx169 hx170 hx171 hx172 hx173 hx174 hx175 hx176 hx177 hx178 hx179 hx180 hx181 hx182 hx183 hx184 hx185 hx186 hx187 hx188 hx189 hx190 hx191 hx192 hx193 hx194 hx195
             replace f166 := (f166 : x166 = (.slice (some ⟨g, 0, none⟩) k fc))
             subst f166
             replace f167 := (f167 : x167 = (.int .i64 (j : Nat)))
             subst f167
             replace f168 := (f168 : x168 = (.slice (some ⟨g, 0, none⟩) k fc))
             subst f168
             replace f169 := (f169 : x169 = (.int .i64 (j : Nat)))
             subst f169
             replace f170 := (f170 : x170 = (.pointer (some ⟨g, j * 35, none⟩)))
             subst f170
             replace f171 := (f171 : x171 = (.pointer (some ⟨g, j * 35 + 34, none⟩)))
             subst f171
             replace f172 := (f172 : x172 = (.bool false))
             subst f172
             replace f173 := (f173 : x173 = (.bool false))
             subst f173
             replace f174 := (f174 : x174 = (.slice (some ⟨g, 0, none⟩) k fc))
             subst f174
             replace f175 := (f175 : x175 = (.int .i64 (j : Nat)))
             subst f175
             replace f176 := (f176 : x176 = (.pointer (some ⟨g, j * 35, none⟩)))
             subst f176
             replace f177 := (f177 : x177 = (.pointer (some ⟨g, j * 35 + 33, none⟩)))
             subst f177
             replace f178 := (f178 : x178 = (.int .i64 til))
             subst f178
             replace f179 := (f179 : x179 = (.bool false))
             subst f179
             replace f180 := (f180 : x180 = (.bool false))
             subst f180
             replace f181 := (f181 : x181 = undef)
             subst f181
             replace f182 := (f182 : x182 = undef)
             subst f182
             replace f183 := (f183 : x183 = undef)
             subst f183
             replace f184 := (f184 : x184 = undef)
             subst f184
             replace f185 := (f185 : x185 = undef)
             subst f185
             replace f186 := (f186 : x186 = undef)
             subst f186
             replace f187 := (f187 : x187 = undef)
             subst f187
             replace f188 := (f188 : x188 = undef)
             subst f188
             replace f189 := (f189 : x189 = undef)
             subst f189
             replace f190 := (f190 : x190 = undef)
             subst f190
             replace f191 := (f191 : x191 = undef)
             subst f191
             replace f192 := (f192 : x192 = (.bool false))
             subst f192
             replace f193 := (f193 : x193 = (.bool false))
             subst f193
             replace f194 := (f194 : x194 = (.pointer (some ⟨g, j * 35, none⟩)))
             subst f194
             replace f195 := (f195 : x195 = (.pointer (some ⟨g, j * 35 + 34, none⟩)))
             subst f195
             subst hA
             show wpList _ _ _ [_] _ _
             simp only [Act.put, List.setIfInBounds_toArray, List.set_cons_succ, List.set_cons_zero]
             have hy9 := H34.out u8 HU.out
             obtain ⟨cs8, hb8, _⟩ := z9.out u8 HU.out
             have hz9 := hb8.frozen (j * 35 + 34)
             clear hb8
             go_upto_region 28 with fail
             obtain ⟨w29, hw29⟩ : ∃ x, u8.setCell ⟨g, j * 35 + 34, none⟩ (.bool false) = x := ⟨_, rfl⟩
             rw [hw29]
             have HG29 : Hid (u8.grownBy w29 (some g)) := hid (by rw [← hw29]; exact gset _ _ _)
             have HFu := hid (HFr.out.keep HU.out)
             have HF29 : Hid (OutF w.heap.size w29 (.slice (some ⟨g, 0, none⟩) k fc) ((fs.take (j + 1)).map (Ft.prune At) ++ fs.drop (j + 1))) := hid (by
              have h := OutF.gone (fs := (fs.take j).map (Ft.prune At) ++ fs.drop j) (c := fc) (by rw [HPl.out]; exact HFu.out) j f false HPj.out
              rw [HPl.out, hw29, show (⟨f.sec, f.til, false⟩ : Ft) = Ft.prune At f by unfold Ft.prune; rw [HPg.out], prune_step HFj.out] at h
              exact h)
             obtain ⟨cs9, hk9, hC9⟩ := HFu.out.blk (g := g) rfl
             have HX29 := hid ((HXr.out.keep HU.out).off HG29.out hk9 (by decide))
             have HP29 := hid ((HPr.out.keep HU.out).on HG29.out (fun e => hk9.ne (HPr.out.keep HU.out) (by decide) (Option.some.inj e)))
             have HGq9 := hid ((gtrans HGr.out HU.out).andThen HG29.out (fun j hj => .inl (by injection hj with hj; omega)))
             clear hk9 hC9 cs9 hw29 hy9 hz9
             go_wp2_with fail
             go_roundw
             case rel => exact ⟨j + 1, by go_num, by omega, HF29, HP29, HX29, HGq9⟩
             case measure => simp [intOf]; omega
         ·
          as_aux_lemma =>
          obtain rfl : j = k := by omega
          have hfe : (fs.take j).map (Ft.prune At) ++ fs.drop j = fs.map (Ft.prune At) := by rw [List.take_of_length_le (by rw [HM.out]; exact Nat.le_refl _), List.drop_of_length_le (by rw [HM.out]; exact Nat.le_refl _), List.append_nil]
          rw [hfe] at HFr
          have hjk1 : ¬ (j : Int) < (j : Int) := by omega
          clear hfe
          go_wp2_with (first
           | (with_reducible refine wpList_load_part (by with_unfolding_all rfl) 69 _ (by with_unfolding_all rfl) p4 0 [.slice a3 NL c3, .int .u64 NX] _ (by with_unfolding_all rfl) HPr.out.whole Try.underlying69 (by with_unfolding_all rfl) (by with_unfolding_all exact Try.size69) ?_)
           | (go_at_call 27; (with_reducible refine (stands_out (C := w.heap.size) _ _ _ LX NX (fs.map (Ft.prune At)) HXr.out HLv2.out (by have := HNX2.out; omega) HFr.out).mono ?_); rintro e q1 ⟨rfl, hgE⟩; have HGE := hid hgE; clear hgE))
          go_roundw
          case rel => exact ⟨i + 1, LX, NX, (fs.map (Ft.prune At)), a3, NL, c3, by go_num, by omega, HNL, hid (HPr.out.keep HGE.out), hid (HXr.out.keep HGE.out), HLv2, hid (HFr.out.keep HGE.out), hid (by have := HNX2.out; omega), hid (gtrans HGr.out HGE.out)⟩
          case measure => simp [intOf]; omega
      ·
       have h1' : (act == 1) = false := by simp [h1]
       go_wp2_with fail
       obtain ⟨E, HE⟩ : ∃ x, Hid (rotE l nx At = x) := ⟨_, hid rfl⟩
       obtain ⟨LX, HLX⟩ : ∃ x, Hid ((rotR l nx S At).1 = x) := ⟨_, hid rfl⟩
       obtain ⟨NX, HNX⟩ : ∃ x, Hid ((rotR l nx S At).2 = x) := ⟨_, hid rfl⟩
       obtain ⟨NL, HNL⟩ : ∃ x, Hid (LX.length = x) := ⟨_, hid rfl⟩
       obtain ⟨ts, HTS⟩ : ∃ x, Hid (Lib.byteCells S = x) := ⟨_, hid rfl⟩
       have HTL : Hid (ts.length = 32) := hid (by rw [← HTS.out, byteCells_length]; exact HOk.out.1)
       have HL1 : Hid (l.length ≤ 1099511627776) := hid (by have := (goodL_pos (isRing_good HLv.out.ring).1).2; omega)
       have HRo : Hid (∀ u, wr.grownBy u none → Calls Try.prog 12 #[Value.agg #[.slice a n c, .int .u64 nx], .agg ts.toArray, .int .i64 At] u fun e w' => ∃ v, e = .returned v ∧ u.grownBy w' none ∧ ∃ aa cc, v = Value.tuple #[Value.agg #[Value.slice aa NL cc, Value.int .u64 (NX : Nat)], Value.int .i64 E] ∧ OutK w.heap.size w' (Value.slice aa NL cc) LX) := fun u hu => by
        have h := rotate_any u _ _ l nx S At (HK6.out.keep hu).rd HL1.out HOk.out.1 HOk.out.2
        rw [HE.out, HLX.out, HNX.out, HNL.out, HTS.out] at h
        refine h.mono ?_
        rintro e w' ⟨aa, cc, he, ho, hg⟩
        exact ⟨_, he, hg, aa, cc, rfl, ho.below (gtrans HG7.out hu).size⟩
       have HTw := hid (fun u (hu : wr.grownBy u none) => HTc.out u (gtrans HG7.out hu))
       simp only [HTS.out] at HTw
       obtain ⟨HH, HHs⟩ : ∃ x, Hid (wr.heap.size = x) := ⟨_, hid rfl⟩
       clear y0 y33 y34

       have HNu : Hid (∀ u : World, Calls Try.prog 22 #[.int .i64 E] u fun r w' => r = .returned (.int .i64 E) ∧ w' = u) := fun u => num_any E u
       have HEi : Hid (E = 0 ↔ (0 < At ∧ q < 8)) := hid (by rw [← HE.out, ← HQ.out]; exact HLv.out.rotE (by have := HNx.out; omega) At)
       have HN0 : Hid (E ≠ 0 → NL = 0) := hid (fun h => by
        rw [← HNL.out, ← HLX.out]
        unfold rotR
        rw [if_neg (by rw [HE.out]; exact h)]
        rfl)
       refine wp_region_late (by kernel_rfl) [fun v _ => v = (Value.agg [Value.slice a n c, Value.int .u64 nx].toArray), fun v _ => v = (Value.slice (some ⟨tb, to, none⟩) tn tc), fun v _ => v = (Value.int .i64 (i : Nat)), fun v _ => v = (Value.pointer (some ⟨tb, to + i * 35, none⟩)), fun v _ => v = (Value.pointer (some ⟨tb, to + i * 35 + 1, none⟩)), fun v _ => v = (Value.agg ts.toArray), fun v _ => v = (Value.slice (some ⟨tb, to, none⟩) tn tc), fun v _ => v = (Value.int .i64 (i : Nat)), fun v _ => v = (Value.pointer (some ⟨tb, to + i * 35, none⟩)), fun v _ => v = (Value.pointer (some ⟨tb, to + i * 35 + 33, none⟩)), fun v _ => v = (Value.int .i64 At), fun v u => ∃ aa cc, v = Value.tuple #[Value.agg #[Value.slice aa NL cc, Value.int .u64 (NX : Nat)], Value.int .i64 E] ∧ OutK w.heap.size u (Value.slice aa NL cc) LX, fun v u => ∃ aa cc, v = Value.tuple #[Value.agg #[Value.slice aa NL cc, Value.int .u64 (NX : Nat)], Value.int .i64 E] ∧ OutK w.heap.size u (Value.slice aa NL cc) LX, fun v u => ∃ aa cc, v = Value.agg #[Value.slice aa NL cc, Value.int .u64 (NX : Nat)] ∧ OutK w.heap.size u (Value.slice aa NL cc) LX, fun v _ => v = (Value.int .i64 E), fun v u => ∃ bb, v = Value.pointer (some ⟨bb, 0, none⟩) ∧ Blk u bb [Value.slice none 0 0, Value.int .u64 0] 69 ∧ HH ≤ bb] (none) (fun _ => none) 16 14 (by kernel_rfl) (by kernel_rfl) (by kernel_rfl) (by kernel_rfl) (by kernel_rfl) (by decide) (by decide) _ _ rfl rfl noRow_one (fun _ => .inl rfl) ⟨fun i v u u' hki h hg => h, fun i v u u' hki h hg => h, fun i v u u' hki h hg => h, fun i v u u' hki h hg => h, fun i v u u' hki h hg => h, fun i v u u' hki h hg => h, fun i v u u' hki h hg => h, fun i v u u' hki h hg => h, fun i v u u' hki h hg => h, fun i v u u' hki h hg => h, fun i v u u' hki h hg => h, fun i v u u' hki h hg => (by obtain ⟨aa, cc, e, ho⟩ := h; exact ⟨aa, cc, e, ho.keep hg⟩), fun i v u u' hki h hg => (by obtain ⟨aa, cc, e, ho⟩ := h; exact ⟨aa, cc, e, ho.keep hg⟩), fun i v u u' hki h hg => (by obtain ⟨aa, cc, e, ho⟩ := h; exact ⟨aa, cc, e, ho.keep hg⟩), fun i v u u' hki h hg => h, fun i v u u' hki h hg => (by obtain ⟨bb, e, hb, hl⟩ := h; exact ⟨bb, e, hb.keep hg, hl⟩), trivial⟩ ⟨?_, ?_, ?_, ?_, ?_, ?_, ?_, ?_, ?_, ?_, ?_, ?_, ?_, ?_, ?_, ?_, trivial⟩ ?_ ?_
       ·
        intro A u hu hpu hsz hout hdeps
        have e4 : A.eval (.tmp 4) = (.pointer (some ⟨p4, 0, none⟩)) := (hout 4 (by kernel_rfl)).trans rfl
        refine ifw_none rfl ?_
        with_reducible refine shown_q (Value.agg [Value.slice a n c, Value.int .u64 nx].toArray) ?qq_1r_0 (fun _ _ => ?qr_1r_0)
        case qr_1r_0 => exact (rfl : (Value.agg [Value.slice a n c, Value.int .u64 nx].toArray) = (Value.agg [Value.slice a n c, Value.int .u64 nx].toArray))
        with_reducible refine quietAt_load 69 (.tmp 4) ?h0_1r_0 p4 0 [Value.slice a n c, Value.int .u64 nx] (.struct (Try.prog.fieldsOf 69)) ?h1_1r_0 ?h2_1r_0 ?h3_1r_0 ?h4_1r_0 ?h5_1r_0
        case h0_1r_0 => rfl
        case h1_1r_0 => exact e4
        case h2_1r_0 => exact (HB6.out.keep hu).whole
        case h3_1r_0 => exact Try.under69
        case h4_1r_0 => rfl
        case h5_1r_0 => exact Try.size69
       ·
        intro A u hu hpu hsz hout hdeps
        have e3 : A.eval (.tmp 3) = (.slice (some ⟨tb, to, none⟩) tn tc) := (hout 3 (by kernel_rfl)).trans rfl
        refine ifw_none rfl ?_
        with_reducible refine shown_q (Value.slice (some ⟨tb, to, none⟩) tn tc) ?qq_1r_1 (fun _ _ => ?qr_1r_1)
        case qr_1r_1 => exact (rfl : (Value.slice (some ⟨tb, to, none⟩) tn tc) = (Value.slice (some ⟨tb, to, none⟩) tn tc))
        with_reducible refine quietAt_mv (.tmp 3) (Value.slice (some ⟨tb, to, none⟩) tn tc) ?h0_1r_1 ?h1_1r_1
        case h0_1r_1 => rfl
        case h1_1r_1 => exact e3
       ·
        intro A u hu hpu hsz hout hdeps
        have e6 : A.eval (.tmp 6) = (.int .i64 (i : Nat)) := (hout 6 (by kernel_rfl)).trans rfl
        refine ifw_none rfl ?_
        with_reducible refine shown_q (Value.int .i64 (i : Nat)) ?qq_1r_2 (fun _ _ => ?qr_1r_2)
        case qr_1r_2 => exact (rfl : (Value.int .i64 (i : Nat)) = (Value.int .i64 (i : Nat)))
        with_reducible refine quietAt_mv (.tmp 6) (Value.int .i64 (i : Nat)) ?h0_1r_2 ?h1_1r_2
        case h0_1r_2 => rfl
        case h1_1r_2 => exact e6
       ·
        intro A u hu hpu hsz hout hdeps
        have e198 : A.eval (.tmp 198) = (.slice (some ⟨tb, to, none⟩) tn tc) := by have h := depL hdeps 1 (by kernel_rfl) 198 (by kernel_rfl); exact h
        have e199 : A.eval (.tmp 199) = (.int .i64 (i : Nat)) := by have h := depL hdeps 2 (by kernel_rfl) 199 (by kernel_rfl); exact h
        refine ifw_none rfl ?_
        with_reducible refine shown_q (Value.pointer (some ⟨tb, to + i * 35, none⟩)) ?qq_1r_3 (fun _ _ => ?qr_1r_3)
        case qr_1r_3 => exact (rfl : (Value.pointer (some ⟨tb, to + i * 35, none⟩)) = (Value.pointer (some ⟨tb, to + i * 35, none⟩)))
        with_reducible refine quietAt_idx 92 (.tmp 198) (.tmp 199) (Value.slice (some ⟨tb, to, none⟩) tn tc) (Value.int .i64 (i : Nat)) (Value.pointer (some ⟨tb, to + i * 35, none⟩)) ?h0_1r_3 ?h1_1r_3 ?h2_1r_3 ?h3_1r_3
        case h0_1r_3 => rfl
        case h1_1r_3 => exact e198
        case h2_1r_3 => exact e199
        case h3_1r_3 => exact idx92 tb to tn tc i hlt1 u
       ·
        intro A u hu hpu hsz hout hdeps
        have e200 : A.eval (.tmp 200) = (.pointer (some ⟨tb, to + i * 35, none⟩)) := by have h := depL hdeps 3 (by kernel_rfl) 200 (by kernel_rfl); exact h
        refine ifw_none rfl ?_
        with_reducible refine shown_q (Value.pointer (some ⟨tb, to + i * 35 + 1, none⟩)) ?qq_1r_4 (fun _ _ => ?qr_1r_4)
        case qr_1r_4 => exact (rfl : (Value.pointer (some ⟨tb, to + i * 35 + 1, none⟩)) = (Value.pointer (some ⟨tb, to + i * 35 + 1, none⟩)))
        with_reducible refine quietAt_field 99 (.tmp 200) 1 ?h0_1r_4 ⟨tb, to + i * 35, none⟩ ⟨tb, to + i * 35 + 1, none⟩ ?h1_1r_4 ?h2_1r_4
        case h0_1r_4 => rfl
        case h1_1r_4 => exact e200
        case h2_1r_4 => kernel_rfl
       ·
        intro A u hu hpu hsz hout hdeps
        have e201 : A.eval (.tmp 201) = (.pointer (some ⟨tb, to + i * 35 + 1, none⟩)) := by have h := depL hdeps 4 (by kernel_rfl) 201 (by kernel_rfl); exact h
        refine ifw_none rfl ?_
        with_reducible refine shown_q (Value.agg ts.toArray) ?qq_1r_5 (fun _ _ => ?qr_1r_5)
        case qr_1r_5 => exact (rfl : (Value.agg ts.toArray) = (Value.agg ts.toArray))
        with_reducible refine quietAt_load 70 (.tmp 201) ?h0_1r_5 tb (to + i * 35 + 1) ts (.array 32 5) ?h1_1r_5 ?h2_1r_5 ?h3_1r_5 ?h4_1r_5 ?h5_1r_5
        case h0_1r_5 => rfl
        case h1_1r_5 => exact e201
        case h2_1r_5 => exact (HTw.out u hu).2.2.2
        case h3_1r_5 => exact Try.underlying70
        case h4_1r_5 => rfl
        case h5_1r_5 => exact (by rw [HTL.out]; exact Try.size70)
       ·
        intro A u hu hpu hsz hout hdeps
        have e3 : A.eval (.tmp 3) = (.slice (some ⟨tb, to, none⟩) tn tc) := (hout 3 (by kernel_rfl)).trans rfl
        refine ifw_none rfl ?_
        with_reducible refine shown_q (Value.slice (some ⟨tb, to, none⟩) tn tc) ?qq_1r_6 (fun _ _ => ?qr_1r_6)
        case qr_1r_6 => exact (rfl : (Value.slice (some ⟨tb, to, none⟩) tn tc) = (Value.slice (some ⟨tb, to, none⟩) tn tc))
        with_reducible refine quietAt_mv (.tmp 3) (Value.slice (some ⟨tb, to, none⟩) tn tc) ?h0_1r_6 ?h1_1r_6
        case h0_1r_6 => rfl
        case h1_1r_6 => exact e3
       ·
        intro A u hu hpu hsz hout hdeps
        have e6 : A.eval (.tmp 6) = (.int .i64 (i : Nat)) := (hout 6 (by kernel_rfl)).trans rfl
        refine ifw_none rfl ?_
        with_reducible refine shown_q (Value.int .i64 (i : Nat)) ?qq_1r_7 (fun _ _ => ?qr_1r_7)
        case qr_1r_7 => exact (rfl : (Value.int .i64 (i : Nat)) = (Value.int .i64 (i : Nat)))
        with_reducible refine quietAt_mv (.tmp 6) (Value.int .i64 (i : Nat)) ?h0_1r_7 ?h1_1r_7
        case h0_1r_7 => rfl
        case h1_1r_7 => exact e6
       ·
        intro A u hu hpu hsz hout hdeps
        have e203 : A.eval (.tmp 203) = (.slice (some ⟨tb, to, none⟩) tn tc) := by have h := depL hdeps 6 (by kernel_rfl) 203 (by kernel_rfl); exact h
        have e204 : A.eval (.tmp 204) = (.int .i64 (i : Nat)) := by have h := depL hdeps 7 (by kernel_rfl) 204 (by kernel_rfl); exact h
        refine ifw_none rfl ?_
        with_reducible refine shown_q (Value.pointer (some ⟨tb, to + i * 35, none⟩)) ?qq_1r_8 (fun _ _ => ?qr_1r_8)
        case qr_1r_8 => exact (rfl : (Value.pointer (some ⟨tb, to + i * 35, none⟩)) = (Value.pointer (some ⟨tb, to + i * 35, none⟩)))
        with_reducible refine quietAt_idx 92 (.tmp 203) (.tmp 204) (Value.slice (some ⟨tb, to, none⟩) tn tc) (Value.int .i64 (i : Nat)) (Value.pointer (some ⟨tb, to + i * 35, none⟩)) ?h0_1r_8 ?h1_1r_8 ?h2_1r_8 ?h3_1r_8
        case h0_1r_8 => rfl
        case h1_1r_8 => exact e203
        case h2_1r_8 => exact e204
        case h3_1r_8 => exact idx92 tb to tn tc i hlt1 u
       ·
        intro A u hu hpu hsz hout hdeps
        have e205 : A.eval (.tmp 205) = (.pointer (some ⟨tb, to + i * 35, none⟩)) := by have h := depL hdeps 8 (by kernel_rfl) 205 (by kernel_rfl); exact h
        refine ifw_none rfl ?_
        with_reducible refine shown_q (Value.pointer (some ⟨tb, to + i * 35 + 33, none⟩)) ?qq_1r_9 (fun _ _ => ?qr_1r_9)
        case qr_1r_9 => exact (rfl : (Value.pointer (some ⟨tb, to + i * 35 + 33, none⟩)) = (Value.pointer (some ⟨tb, to + i * 35 + 33, none⟩)))
        with_reducible refine quietAt_field 99 (.tmp 205) 2 ?h0_1r_9 ⟨tb, to + i * 35, none⟩ ⟨tb, to + i * 35 + 33, none⟩ ?h1_1r_9 ?h2_1r_9
        case h0_1r_9 => rfl
        case h1_1r_9 => exact e205
        case h2_1r_9 => kernel_rfl
       ·
        intro A u hu hpu hsz hout hdeps
        have e206 : A.eval (.tmp 206) = (.pointer (some ⟨tb, to + i * 35 + 33, none⟩)) := by have h := depL hdeps 9 (by kernel_rfl) 206 (by kernel_rfl); exact h
        refine ifw_none rfl ?_
        with_reducible refine shown_q (Value.int .i64 At) ?qq_1r_10 (fun _ _ => ?qr_1r_10)
        case qr_1r_10 => exact (rfl : (Value.int .i64 At) = (Value.int .i64 At))
        with_reducible refine quietAt_ld 2 (.tmp 206) (Value.pointer (some ⟨tb, to + i * 35 + 33, none⟩)) (Value.int .i64 At) ?h0_1r_10 ?h1_1r_10 ?h2_1r_10
        case h0_1r_10 => rfl
        case h1_1r_10 => exact e206
        case h2_1r_10 => exact ld2 tb (to + i * 35 + 33) At u (HTw.out u hu).2.1
       ·
        intro A u hu hpu hsz hout hdeps
        have e197 : A.eval (.tmp 197) = (.agg [.slice a n c, .int .u64 nx].toArray) := by have h := depL hdeps 0 (by kernel_rfl) 197 (by kernel_rfl); exact h
        have e202 : A.eval (.tmp 202) = (.agg ts.toArray) := by have h := depL hdeps 5 (by kernel_rfl) 202 (by kernel_rfl); exact h
        have e207 : A.eval (.tmp 207) = (.int .i64 At) := by have h := depL hdeps 10 (by kernel_rfl) 207 (by kernel_rfl); exact h
        refine ifw_none rfl ?_
        with_reducible refine shown_call 12 Try.f12 ?h0_1r_11 ?h1_1r_11 ?h2_1r_11 #[.tmp 197, .tmp 202, .tmp 207] #[69, 70, 2] ?h3_1r_11 #[(Value.agg [Value.slice a n c, Value.int .u64 nx].toArray), (Value.agg ts.toArray), (Value.int .i64 At)] ?h4_1r_11 ?h5_1r_11
        case h0_1r_11 => exact Try.func12
        case h1_1r_11 => kernel_rfl
        case h2_1r_11 => kernel_rfl
        case h3_1r_11 => rfl
        case h4_1r_11 => exact map3 _ _ _ _ _ _ _ e197 e202 e207
        case h5_1r_11 => exact HRo.out u hu
       ·
        intro A u hu hpu hsz hout hdeps
        have f208 : (fun v u => ∃ aa cc, v = Value.tuple #[Value.agg #[Value.slice aa NL cc, Value.int .u64 (NX : Nat)], Value.int .i64 E] ∧ OutK w.heap.size u (Value.slice aa NL cc) LX) (A.eval (.tmp 208)) u := by have h := depL hdeps 11 (by kernel_rfl) 208 (by kernel_rfl); exact h
        obtain ⟨a3, c3, e208, o3⟩ := f208
        refine ifw_none rfl ?_
        exact shown_q _ (quietAt_mv (.tmp 208) _ rfl e208) (fun u' hg => ⟨a3, c3, rfl, o3.keep hg⟩)
       ·
        intro A u hu hpu hsz hout hdeps
        have f196 : (fun v u => ∃ aa cc, v = Value.tuple #[Value.agg #[Value.slice aa NL cc, Value.int .u64 (NX : Nat)], Value.int .i64 E] ∧ OutK w.heap.size u (Value.slice aa NL cc) LX) (A.eval (.tmp 196)) u := by have h := depL hdeps 12 (by kernel_rfl) 196 (by kernel_rfl); exact h
        obtain ⟨a3, c3, e196, o3⟩ := f196
        refine ifw_none rfl ?_
        exact shown_q _ (quietAt_ex (.tmp 196) 0 rfl _ _ e196 rfl) (fun u' hg => ⟨a3, c3, rfl, o3.keep hg⟩)
       ·
        intro A u hu hpu hsz hout hdeps
        have f196 : (fun v u => ∃ aa cc, v = Value.tuple #[Value.agg #[Value.slice aa NL cc, Value.int .u64 (NX : Nat)], Value.int .i64 E] ∧ OutK w.heap.size u (Value.slice aa NL cc) LX) (A.eval (.tmp 196)) u := by have h := depL hdeps 12 (by kernel_rfl) 196 (by kernel_rfl); exact h
        obtain ⟨a3, c3, e196, o3⟩ := f196
        refine ifw_none rfl ?_
        with_reducible refine shown_q (Value.int .i64 E) ?qq_1r_14 (fun _ _ => ?qr_1r_14)
        case qr_1r_14 => exact (rfl : (Value.int .i64 E) = (Value.int .i64 E))
        with_reducible refine quietAt_ex (.tmp 196) 1 ?h0_1r_14 #[Value.agg #[Value.slice a3 NL c3, Value.int .u64 (NX : Nat)], Value.int .i64 E] (Value.int .i64 E) ?h1_1r_14 ?h2_1r_14
        case h0_1r_14 => rfl
        case h1_1r_14 => exact e196
        case h2_1r_14 => rfl
       ·
        intro A u hu hpu hsz hout hdeps
        refine ifw_none rfl ?_
        exact shown_alloc 69 rfl [.slice none 0 0, .int .u64 0] Try.zero69 (fun w' h _ => ⟨u.heap.size, rfl, h, by have := hu.size; have := HHs.out; omega⟩)
       ·
        intro A u7 listed hh hall
        have hA := hh.frame
        have HU := hid hh.grown
        obtain ⟨x197, hx197⟩ : ∃ x, A.eval (.tmp 197) = x := ⟨_, rfl⟩
        have f197 : (fun v _ => v = (Value.agg [Value.slice a n c, Value.int .u64 nx].toArray)) x197 u7 := by rw [← hx197]; exact hh.got 0 _ 197 rfl rfl (hall 0 (by decide))
        obtain ⟨x198, hx198⟩ : ∃ x, A.eval (.tmp 198) = x := ⟨_, rfl⟩
        have f198 : (fun v _ => v = (Value.slice (some ⟨tb, to, none⟩) tn tc)) x198 u7 := by rw [← hx198]; exact hh.got 1 _ 198 rfl rfl (hall 1 (by decide))
        obtain ⟨x199, hx199⟩ : ∃ x, A.eval (.tmp 199) = x := ⟨_, rfl⟩
        have f199 : (fun v _ => v = (Value.int .i64 (i : Nat))) x199 u7 := by rw [← hx199]; exact hh.got 2 _ 199 rfl rfl (hall 2 (by decide))
        obtain ⟨x200, hx200⟩ : ∃ x, A.eval (.tmp 200) = x := ⟨_, rfl⟩
        have f200 : (fun v _ => v = (Value.pointer (some ⟨tb, to + i * 35, none⟩))) x200 u7 := by rw [← hx200]; exact hh.got 3 _ 200 rfl rfl (hall 3 (by decide))
        obtain ⟨x201, hx201⟩ : ∃ x, A.eval (.tmp 201) = x := ⟨_, rfl⟩
        have f201 : (fun v _ => v = (Value.pointer (some ⟨tb, to + i * 35 + 1, none⟩))) x201 u7 := by rw [← hx201]; exact hh.got 4 _ 201 rfl rfl (hall 4 (by decide))
        obtain ⟨x202, hx202⟩ : ∃ x, A.eval (.tmp 202) = x := ⟨_, rfl⟩
        have f202 : (fun v _ => v = (Value.agg ts.toArray)) x202 u7 := by rw [← hx202]; exact hh.got 5 _ 202 rfl rfl (hall 5 (by decide))
        obtain ⟨x203, hx203⟩ : ∃ x, A.eval (.tmp 203) = x := ⟨_, rfl⟩
        have f203 : (fun v _ => v = (Value.slice (some ⟨tb, to, none⟩) tn tc)) x203 u7 := by rw [← hx203]; exact hh.got 6 _ 203 rfl rfl (hall 6 (by decide))
        obtain ⟨x204, hx204⟩ : ∃ x, A.eval (.tmp 204) = x := ⟨_, rfl⟩
        have f204 : (fun v _ => v = (Value.int .i64 (i : Nat))) x204 u7 := by rw [← hx204]; exact hh.got 7 _ 204 rfl rfl (hall 7 (by decide))
        obtain ⟨x205, hx205⟩ : ∃ x, A.eval (.tmp 205) = x := ⟨_, rfl⟩
        have f205 : (fun v _ => v = (Value.pointer (some ⟨tb, to + i * 35, none⟩))) x205 u7 := by rw [← hx205]; exact hh.got 8 _ 205 rfl rfl (hall 8 (by decide))
        obtain ⟨x206, hx206⟩ : ∃ x, A.eval (.tmp 206) = x := ⟨_, rfl⟩
        have f206 : (fun v _ => v = (Value.pointer (some ⟨tb, to + i * 35 + 33, none⟩))) x206 u7 := by rw [← hx206]; exact hh.got 9 _ 206 rfl rfl (hall 9 (by decide))
        obtain ⟨x207, hx207⟩ : ∃ x, A.eval (.tmp 207) = x := ⟨_, rfl⟩
        have f207 : (fun v _ => v = (Value.int .i64 At)) x207 u7 := by rw [← hx207]; exact hh.got 10 _ 207 rfl rfl (hall 10 (by decide))
        obtain ⟨x208, hx208⟩ : ∃ x, A.eval (.tmp 208) = x := ⟨_, rfl⟩
        have f208 : (fun v u => ∃ aa cc, v = Value.tuple #[Value.agg #[Value.slice aa NL cc, Value.int .u64 (NX : Nat)], Value.int .i64 E] ∧ OutK w.heap.size u (Value.slice aa NL cc) LX) x208 u7 := by rw [← hx208]; exact hh.got 11 _ 208 rfl rfl (hall 11 (by decide))
        obtain ⟨x196, hx196⟩ : ∃ x, A.eval (.tmp 196) = x := ⟨_, rfl⟩
        have f196 : (fun v u => ∃ aa cc, v = Value.tuple #[Value.agg #[Value.slice aa NL cc, Value.int .u64 (NX : Nat)], Value.int .i64 E] ∧ OutK w.heap.size u (Value.slice aa NL cc) LX) x196 u7 := by rw [← hx196]; exact hh.got 12 _ 196 rfl rfl (hall 12 (by decide))
        obtain ⟨x209, hx209⟩ : ∃ x, A.eval (.tmp 209) = x := ⟨_, rfl⟩
        have f209 : (fun v u => ∃ aa cc, v = Value.agg #[Value.slice aa NL cc, Value.int .u64 (NX : Nat)] ∧ OutK w.heap.size u (Value.slice aa NL cc) LX) x209 u7 := by rw [← hx209]; exact hh.got 13 _ 209 rfl rfl (hall 13 (by decide))
        obtain ⟨x210, hx210⟩ : ∃ x, A.eval (.tmp 210) = x := ⟨_, rfl⟩
        have f210 : (fun v _ => v = (Value.int .i64 E)) x210 u7 := by rw [← hx210]; exact hh.got 14 _ 210 rfl rfl (hall 14 (by decide))
        obtain ⟨x14, hx14⟩ : ∃ x, A.eval (.tmp 14) = x := ⟨_, rfl⟩
        have f14 : (fun v u => ∃ bb, v = Value.pointer (some ⟨bb, 0, none⟩) ∧ Blk u bb [Value.slice none 0 0, Value.int .u64 0] 69 ∧ HH ≤ bb) x14 u7 := by rw [← hx14]; exact hh.got 15 _ 14 rfl rfl (hall 15 (by decide))
        obtain ⟨x15, hx15⟩ : ∃ x, A.eval (.tmp 15) = x := ⟨_, rfl⟩
        dsimp only [wrote, List.foldl] at hA
        rw [hx197, hx198, hx199, hx200, hx201, hx202, hx203, hx204, hx205, hx206, hx207, hx208, hx196, hx209, hx210, hx14, hx15] at hA
        clear hh hall hx197 hx198 hx199 hx200 hx201 hx202 hx203 hx204 hx205 hx206 hx207 hx208 hx196 hx209 hx210 hx14 hx15
        replace f197 := (f197 : x197 = (.agg [.slice a n c, .int .u64 nx].toArray))
        subst f197
        replace f198 := (f198 : x198 = (.slice (some ⟨tb, to, none⟩) tn tc))
        subst f198
        replace f199 := (f199 : x199 = (.int .i64 (i : Nat)))
        subst f199
        replace f200 := (f200 : x200 = (.pointer (some ⟨tb, to + i * 35, none⟩)))
        subst f200
        replace f201 := (f201 : x201 = (.pointer (some ⟨tb, to + i * 35 + 1, none⟩)))
        subst f201
        replace f202 := (f202 : x202 = (.agg ts.toArray))
        subst f202
        replace f203 := (f203 : x203 = (.slice (some ⟨tb, to, none⟩) tn tc))
        subst f203
        replace f204 := (f204 : x204 = (.int .i64 (i : Nat)))
        subst f204
        replace f205 := (f205 : x205 = (.pointer (some ⟨tb, to + i * 35, none⟩)))
        subst f205
        replace f206 := (f206 : x206 = (.pointer (some ⟨tb, to + i * 35 + 33, none⟩)))
        subst f206
        replace f207 := (f207 : x207 = (.int .i64 At))
        subst f207
        obtain ⟨a3, c3, e208, o3⟩ := f208
        subst e208
        obtain ⟨a3, c3, e196, o3⟩ := f196
        subst e196
        obtain ⟨a3, c3, e209, o3⟩ := f209
        subst e209
        replace f210 := (f210 : x210 = (.int .i64 E))
        subst f210
        obtain ⟨b7, e14, hb7b, hb7l⟩ := f14
        subst e14
        subst hA
        show wpList _ _ _ [_, _] _ _
        simp only [Act.put, List.setIfInBounds_toArray, List.set_cons_succ, List.set_cons_zero]
        by_cases hA : 0 < At
        ·
         by_cases h8 : q < 8
         ·
          as_aux_lemma =>
          have hE : E = 0 := HEi.out.2 ⟨hA, h8⟩
          have h8' : (q : Int) < 8 := by omega
          subst hE
          obtain ⟨gs, f, hfs, hfg⟩ := HLv.out.last
          subst hfs
          obtain rfl : k = gs.length + 1 := by have := HM.out; rw [List.length_append] at this; exact this.symm
          have HFG := hid hfg
          clear hfg
          go_upto_region 35 with (first
           | ((with_reducible refine wpList_store_all (by with_unfolding_all rfl) 69 _ _ (by with_unfolding_all rfl) _ [.slice none 0 0, .int .u64 0] [.slice a3 NL c3, .int .u64 NX] 69 (by with_unfolding_all rfl) (by with_unfolding_all rfl) hb7b (by with_unfolding_all rfl) (by with_unfolding_all exact Try.size69) (ring_one _ _ _ _) ?_); intro w30 B30 g30 s30; have HB30 := hid B30; have HG30 := hid g30; have HS30 := hid s30; clear B30 g30 s30; have HGq := hid ((gtrans HG7.out HU.out).andThen HG30.out (fun j hj => .inl (by injection hj with hj; have := HHs.out; have := HG7.out.size; omega))); have HPq := hid ((HB6.out.keep HU.out).on HG30.out (by have := HHs.out; have := HB6.out.lt; simp; omega)); have HKq := hid ((HK6.out.keep HU.out).off HG30.out hb7b (by decide)); have HFq := hid ((HF6.out.keep HU.out).off HG30.out hb7b (by decide)); have HXq := hid (o3.off HG30.out hb7b (by decide)); have y33 := (HTc.out _ HGq.out).2.1; have y34 := (HTc.out _ HGq.out).2.2.1; have yb := HB30.out.cell 0; clear HG30 HS30 HU hb7b o3)
           | (go_at_call 22; (with_reducible refine (HNu.out _).mono ?_); rintro e w9 ⟨rfl, hw9⟩; have hw9' := hw9.symm; clear hw9; subst hw9'))

          obtain ⟨y5, z5⟩ := HFq.out.c33
          obtain ⟨cs5, hk5, hC5⟩ := HFq.out.blk (g := g) rfl
          have HK5 := hid hk5
          have HC5 := hid hC5
          clear hk5 hC5
          go_upto_region 36 with fail
          obtain ⟨w35, hw35⟩ : ∃ x, w30.setCell ⟨g, gs.length * 35 + 33, none⟩ (.int .i64 At) = x := ⟨_, rfl⟩
          rw [hw35]
          have HG35 : Hid (w30.grownBy w35 (some g)) := hid (by rw [← hw35]; exact gset _ _ _)
          have HF35 : Hid (OutF w.heap.size w35 (.slice (some ⟨g, 0, none⟩) (gs.length + 1) fc) (gs ++ [(⟨f.sec, At, false⟩ : Ft)])) := hid (by
           have h := OutF.til (fs := gs ++ [f]) (c := fc) (by rw [List.length_append]; exact HFq.out) gs.length f At (by simp)
           rw [HFG.out, List.set_append_right _ _ (Nat.le_refl _), Nat.sub_self, List.length_append] at h
           rw [← hw35]
           exact h)
          have HX35 := hid (HXq.out.off HG35.out HK5.out (by decide))
          have HP35 := hid (HPq.out.on HG35.out (fun e => HK5.out.ne HPq.out (by decide) (Option.some.inj e)))
          have HB35 := hid (HB30.out.on HG35.out (fun e => HK5.out.ne HB30.out (by decide) (Option.some.inj e)))
          have HGw := hid (HGq.out.andThen HG35.out (fun j hj => .inl (by injection hj with hj; have := HC5.out; omega)))
          have HLv2 : Hid (Lv LX NX ((gs ++ [(⟨f.sec, At, false⟩ : Ft)]) ++ [(⟨S, 0, false⟩ : Ft)])) := hid (by
           have h := HLv.out.rotate HFG.out (by have := HNx.out; omega) S At hA (by rw [HQ.out]; exact h8)
           rw [HLX.out, HNX.out] at h
           rw [List.append_assoc]
           exact h)
          have HNX2 : Hid (NX ≤ i + 1 + 2) := hid (by
           have h1 := HLv.out.nx_eq
           have h2 := HLv2.out.nx_eq
           have := HNx.out
           simp only [List.length_append, List.length_cons, List.length_nil] at h1 h2
           omega)
          have HS32 : Hid (S.length = 32) := hid HOk.out.1
          have HBu2 : Hid (Try.prog.built 96 [(0, .int .u64 ((gs.length : Int) + 1 + 1)), (1, .agg ts.toArray)] = some ((Ft.mk S 0 false).cells (1 + (gs ++ [(⟨f.sec, At, false⟩ : Ft)]).length)).toArray) := hid (by
           rw [← HTS.out, List.length_append, show (gs.length : Int) + 1 + 1 = ((1 + (gs.length + [(⟨f.sec, At, false⟩ : Ft)].length) : Nat) : Int) by simp; omega]
           exact built_fate _ S HS32.out)
          have hr70 := hid (show w35.rangeAt tb (to + i * 35 + 1) ts by rw [← HTS.out]; exact (HTc.out _ HGw.out).2.2.2)
          have hb3 : gs.length + 1 ≤ 202 := hm2
          have y5' := y5
          clear y5 z5 y5' hw35 HG35 HK5 HC5 HB30 HPq HKq HXq HFq HGq yb y33 y34
          obtain ⟨y0, y33, y34, hrs⟩ := HTc.out _ HGw.out
          clear hrs
          go_upto_region 37 with (first
           | (with_reducible refine wpList_load_part (by with_unfolding_all rfl) 70 _ (by with_unfolding_all rfl) tb (to + i * 35 + 1) ts _ (by with_unfolding_all rfl) hr70.out Try.underlying70 (by with_unfolding_all rfl) (by rw [HTL.out]; exact Try.size70) ?_)
           | (with_reducible refine wpList_build_ofW (by with_unfolding_all rfl) 96 _ (by with_unfolding_all rfl) [(0, .int .u64 ((gs.length : Int) + 1 + 1)), (1, .agg ts.toArray)] (by with_unfolding_all rfl) ((Ft.mk S 0 false).cells (1 + (gs ++ [(⟨f.sec, At, false⟩ : Ft)]).length)) HBu2.out ?_)
           | ((with_reducible refine wpList_slice_fate (by with_unfolding_all rfl) _ (by with_unfolding_all rfl) _ (Ft.mk S 0 false) HS32.out (by with_unfolding_all rfl) ?_); intro w36 B36 s36 g36; have HF36 := hid (HF35.out.keep g36); have HX36 := hid (HX35.out.keep g36); have HP36 := hid (HP35.out.keep g36); have HB36 := hid (HB35.out.keep g36); have HL36 := hid B36; have HG36 := hid (gtrans HGw.out g36); have HZ36 := hid (HF36.out.blk (g := g) rfl); clear B36 g36 s36)
           | (at_builtin; refine wpList_append_fate rfl _ _ rfl w.heap.size w35.heap.size (gs ++ [(⟨f.sec, At, false⟩ : Ft)]) (Ft.mk S 0 false) HS32.out HF36.out rfl HL36.out (by rw [List.length_append]; simp only [List.length_cons, List.length_nil]; omega) HG36.out.size ?_; intro v37 w37 hO37 hg37; replace hg37 : w36.grownBy w37 (some g) := hg37; obtain ⟨cs6, hk6, hC6⟩ := HZ36.out; have HF37 := hid hO37; have HX37 := hid (HX36.out.off hg37 hk6 (by decide)); have HP37 := hid (HP36.out.on hg37 (fun e => hk6.ne HP36.out (by decide) (Option.some.inj e))); have HB37 := hid (HB36.out.on hg37 (fun e => hk6.ne HB36.out (by decide) (Option.some.inj e))); have HG37 := hid (HG36.out.andThen hg37 (fun j hj => .inl (by injection hj with hj; omega))); clear hO37 hg37 hk6 hC6 cs6))
          clear HF36 HX36 HP36 HB36 HL36 HG36 HZ36 HF35 HX35 HP35 HB35 HGw hr70 HBu2
          go_upto_region 38 with (first
           | (with_reducible refine wpList_load_part (by with_unfolding_all rfl) 69 _ (by with_unfolding_all rfl) b7 0 [.slice a3 NL c3, .int .u64 NX] _ (by with_unfolding_all rfl) HB37.out.whole Try.underlying69 (by with_unfolding_all rfl) (by with_unfolding_all exact Try.size69) ?_)
           | ((with_reducible refine wpList_store_all (by with_unfolding_all rfl) 69 _ _ (by with_unfolding_all rfl) p4 [.slice a n c, .int .u64 nx] [.slice a3 NL c3, .int .u64 NX] 69 (by with_unfolding_all rfl) (by with_unfolding_all rfl) HP37.out (by with_unfolding_all rfl) (by with_unfolding_all exact Try.size69) (ring_one _ _ _ _) ?_); intro w38 B38 g38 s38; have HP38 := hid B38; have HX38 := hid (HX37.out.off g38 HP37.out (by decide)); have HF38 := hid (HF37.out.off g38 HP37.out (by decide)); have HG38 := hid (HG37.out.andThen g38 (fun j hj => .inl (by injection hj with hj; have := HN.out; omega))); clear B38 g38 s38))
          go_wp2_with (first
           | (with_reducible refine wpList_load_part (by with_unfolding_all rfl) 69 _ (by with_unfolding_all rfl) p4 0 [.slice a3 NL c3, .int .u64 NX] _ (by with_unfolding_all rfl) HP38.out.whole Try.underlying69 (by with_unfolding_all rfl) (by with_unfolding_all exact Try.size69) ?_)
           | (go_at_call 27; (with_reducible refine (stands_out (C := w.heap.size) _ _ _ LX NX ((gs ++ [(⟨f.sec, At, false⟩ : Ft)]) ++ [(⟨S, 0, false⟩ : Ft)]) HX38.out HLv2.out (by have := HNX2.out; omega) HF38.out).mono ?_); rintro e q1 ⟨rfl, hgE⟩; have HGE := hid hgE; clear hgE))
          go_roundw
          case rel => exact ⟨i + 1, LX, NX, ((gs ++ [(⟨f.sec, At, false⟩ : Ft)]) ++ [(⟨S, 0, false⟩ : Ft)]), a3, NL, c3, by go_num, by omega, HNL, hid (HP38.out.keep HGE.out), hid (HX38.out.keep HGE.out), HLv2, hid (HF38.out.keep HGE.out), hid (by have := HNX2.out; omega), hid (gtrans HG38.out HGE.out)⟩
          case measure => simp [intOf]; omega
         ·
          as_aux_lemma =>
          have hE : E ≠ 0 := fun h => h8 (HEi.out.1 h).2
          have h8' : ¬ (q : Int) < 8 := by omega
          obtain rfl := HN0.out hE
          have hE' : (E == 0) = false := beq_eq_false_iff_ne.2 hE
          go_wp2_with (first
           | ((with_reducible refine wpList_store_all (by with_unfolding_all rfl) 69 _ _ (by with_unfolding_all rfl) _ [.slice none 0 0, .int .u64 0] [.slice a3 0 c3, .int .u64 NX] 69 (by with_unfolding_all rfl) (by with_unfolding_all rfl) hb7b (by with_unfolding_all rfl) (by with_unfolding_all exact Try.size69) (ring_one _ _ _ _) ?_); intro w30 B30 g30 s30; have HB30 := hid B30; have HG30 := hid g30; have HS30 := hid s30; clear B30 g30 s30; have HGq := hid ((gtrans HG7.out HU.out).andThen HG30.out (fun j hj => .inl (by injection hj with hj; have := HHs.out; have := HG7.out.size; omega))); have HPq := hid ((HB6.out.keep HU.out).on HG30.out (by have := HHs.out; have := HB6.out.lt; simp; omega)); have HKq := hid ((HK6.out.keep HU.out).off HG30.out hb7b (by decide)); have HFq := hid ((HF6.out.keep HU.out).off HG30.out hb7b (by decide)); have HXq := hid (o3.off HG30.out hb7b (by decide)); have y33 := (HTc.out _ HGq.out).2.1; have y34 := (HTc.out _ HGq.out).2.2.1; have yb := HB30.out.cell 0; clear HG30 HS30 HU hb7b o3)
           | (go_at_call 22; (with_reducible refine (HNu.out _).mono ?_); rintro e w9 ⟨rfl, hw9⟩; have hw9' := hw9.symm; clear hw9; subst hw9')
           | (with_reducible refine wpList_load_part (by with_unfolding_all rfl) 69 _ (by with_unfolding_all rfl) p4 0 [.slice a n c, .int .u64 nx] _ (by with_unfolding_all rfl) HPq.out.whole Try.underlying69 (by with_unfolding_all rfl) (by with_unfolding_all exact Try.size69) ?_)
           | (go_at_call 27; (with_reducible refine (stands_out (C := w.heap.size) _ _ _ l nx fs HKq.out HLv.out (by have := HNx.out; omega) HFq.out).mono ?_); rintro e w31 ⟨rfl, hg31⟩; have HG31 := hid hg31; clear hg31))
          go_roundw
          case rel => exact ⟨i + 1, l, nx, fs, a, n, c, by go_num, by omega, HLn, hid (HPq.out.keep HG31.out), hid (HKq.out.keep HG31.out), HLv, hid (HFq.out.keep HG31.out), hid (by have := HNx.out; omega), hid (gtrans HGq.out HG31.out)⟩
          case measure => simp [intOf]; omega
        ·
         as_aux_lemma =>
         have hE : E ≠ 0 := fun h => hA (HEi.out.1 h).1
         obtain rfl := HN0.out hE
         have hE' : (E == 0) = false := beq_eq_false_iff_ne.2 hE
         go_wp2_with (first
          | ((with_reducible refine wpList_store_all (by with_unfolding_all rfl) 69 _ _ (by with_unfolding_all rfl) _ [.slice none 0 0, .int .u64 0] [.slice a3 0 c3, .int .u64 NX] 69 (by with_unfolding_all rfl) (by with_unfolding_all rfl) hb7b (by with_unfolding_all rfl) (by with_unfolding_all exact Try.size69) (ring_one _ _ _ _) ?_); intro w30 B30 g30 s30; have HB30 := hid B30; have HG30 := hid g30; have HS30 := hid s30; clear B30 g30 s30; have HGq := hid ((gtrans HG7.out HU.out).andThen HG30.out (fun j hj => .inl (by injection hj with hj; have := HHs.out; have := HG7.out.size; omega))); have HPq := hid ((HB6.out.keep HU.out).on HG30.out (by have := HHs.out; have := HB6.out.lt; simp; omega)); have HKq := hid ((HK6.out.keep HU.out).off HG30.out hb7b (by decide)); have HFq := hid ((HF6.out.keep HU.out).off HG30.out hb7b (by decide)); have HXq := hid (o3.off HG30.out hb7b (by decide)); have y33 := (HTc.out _ HGq.out).2.1; have y34 := (HTc.out _ HGq.out).2.2.1; have yb := HB30.out.cell 0; clear HG30 HS30 HU hb7b o3)
          | (go_at_call 22; (with_reducible refine (HNu.out _).mono ?_); rintro e w9 ⟨rfl, hw9⟩; have hw9' := hw9.symm; clear hw9; subst hw9')
          | (with_reducible refine wpList_load_part (by with_unfolding_all rfl) 69 _ (by with_unfolding_all rfl) p4 0 [.slice a n c, .int .u64 nx] _ (by with_unfolding_all rfl) HPq.out.whole Try.underlying69 (by with_unfolding_all rfl) (by with_unfolding_all exact Try.size69) ?_)
          | (go_at_call 27; (with_reducible refine (stands_out (C := w.heap.size) _ _ _ l nx fs HKq.out HLv.out (by have := HNx.out; omega) HFq.out).mono ?_); rintro e w31 ⟨rfl, hg31⟩; have HG31 := hid hg31; clear hg31))
         go_roundw
         case rel => exact ⟨i + 1, l, nx, fs, a, n, c, by go_num, by omega, HLn, hid (HPq.out.keep HG31.out), hid (HKq.out.keep HG31.out), HLv, hid (HFq.out.keep HG31.out), hid (by have := HNx.out; omega), hid (gtrans HGq.out HG31.out)⟩
         case measure => simp [intOf]; omega
       ·
        intro A u7 listed hh hall hzz hnn
        have hA := hh.frame
        have HU := hid hh.grown
        obtain ⟨x197, hx197⟩ : ∃ x, A.eval (.tmp 197) = x := ⟨_, rfl⟩
        have f197 : (fun v _ => v = (Value.agg [Value.slice a n c, Value.int .u64 nx].toArray)) x197 u7 := by rw [← hx197]; exact hh.got 0 _ 197 rfl rfl (hall 0 (by decide) (by decide))
        obtain ⟨x198, hx198⟩ : ∃ x, A.eval (.tmp 198) = x := ⟨_, rfl⟩
        have f198 : (fun v _ => v = (Value.slice (some ⟨tb, to, none⟩) tn tc)) x198 u7 := by rw [← hx198]; exact hh.got 1 _ 198 rfl rfl (hall 1 (by decide) (by decide))
        obtain ⟨x199, hx199⟩ : ∃ x, A.eval (.tmp 199) = x := ⟨_, rfl⟩
        have f199 : (fun v _ => v = (Value.int .i64 (i : Nat))) x199 u7 := by rw [← hx199]; exact hh.got 2 _ 199 rfl rfl (hall 2 (by decide) (by decide))
        obtain ⟨x200, hx200⟩ : ∃ x, A.eval (.tmp 200) = x := ⟨_, rfl⟩
        have f200 : (fun v _ => v = (Value.pointer (some ⟨tb, to + i * 35, none⟩))) x200 u7 := by rw [← hx200]; exact hh.got 3 _ 200 rfl rfl (hall 3 (by decide) (by decide))
        obtain ⟨x201, hx201⟩ : ∃ x, A.eval (.tmp 201) = x := ⟨_, rfl⟩
        have f201 : (fun v _ => v = (Value.pointer (some ⟨tb, to + i * 35 + 1, none⟩))) x201 u7 := by rw [← hx201]; exact hh.got 4 _ 201 rfl rfl (hall 4 (by decide) (by decide))
        obtain ⟨x202, hx202⟩ : ∃ x, A.eval (.tmp 202) = x := ⟨_, rfl⟩
        have f202 : (fun v _ => v = (Value.agg ts.toArray)) x202 u7 := by rw [← hx202]; exact hh.got 5 _ 202 rfl rfl (hall 5 (by decide) (by decide))
        obtain ⟨x203, hx203⟩ : ∃ x, A.eval (.tmp 203) = x := ⟨_, rfl⟩
        have f203 : (fun v _ => v = (Value.slice (some ⟨tb, to, none⟩) tn tc)) x203 u7 := by rw [← hx203]; exact hh.got 6 _ 203 rfl rfl (hall 6 (by decide) (by decide))
        obtain ⟨x204, hx204⟩ : ∃ x, A.eval (.tmp 204) = x := ⟨_, rfl⟩
        have f204 : (fun v _ => v = (Value.int .i64 (i : Nat))) x204 u7 := by rw [← hx204]; exact hh.got 7 _ 204 rfl rfl (hall 7 (by decide) (by decide))
        obtain ⟨x205, hx205⟩ : ∃ x, A.eval (.tmp 205) = x := ⟨_, rfl⟩
        have f205 : (fun v _ => v = (Value.pointer (some ⟨tb, to + i * 35, none⟩))) x205 u7 := by rw [← hx205]; exact hh.got 8 _ 205 rfl rfl (hall 8 (by decide) (by decide))
        obtain ⟨x206, hx206⟩ : ∃ x, A.eval (.tmp 206) = x := ⟨_, rfl⟩
        have f206 : (fun v _ => v = (Value.pointer (some ⟨tb, to + i * 35 + 33, none⟩))) x206 u7 := by rw [← hx206]; exact hh.got 9 _ 206 rfl rfl (hall 9 (by decide) (by decide))
        obtain ⟨x207, hx207⟩ : ∃ x, A.eval (.tmp 207) = x := ⟨_, rfl⟩
        have f207 : (fun v _ => v = (Value.int .i64 At)) x207 u7 := by rw [← hx207]; exact hh.got 10 _ 207 rfl rfl (hall 10 (by decide) (by decide))
        obtain ⟨x208, hx208⟩ : ∃ x, A.eval (.tmp 208) = x := ⟨_, rfl⟩
        have f208 : (fun v u => ∃ aa cc, v = Value.tuple #[Value.agg #[Value.slice aa NL cc, Value.int .u64 (NX : Nat)], Value.int .i64 E] ∧ OutK w.heap.size u (Value.slice aa NL cc) LX) x208 u7 := by rw [← hx208]; exact hh.got 11 _ 208 rfl rfl (hall 11 (by decide) (by decide))
        obtain ⟨x196, hx196⟩ : ∃ x, A.eval (.tmp 196) = x := ⟨_, rfl⟩
        have f196 : (fun v u => ∃ aa cc, v = Value.tuple #[Value.agg #[Value.slice aa NL cc, Value.int .u64 (NX : Nat)], Value.int .i64 E] ∧ OutK w.heap.size u (Value.slice aa NL cc) LX) x196 u7 := by rw [← hx196]; exact hh.got 12 _ 196 rfl rfl (hall 12 (by decide) (by decide))
        obtain ⟨x209, hx209⟩ : ∃ x, A.eval (.tmp 209) = x := ⟨_, rfl⟩
        have f209 : (fun v u => ∃ aa cc, v = Value.agg #[Value.slice aa NL cc, Value.int .u64 (NX : Nat)] ∧ OutK w.heap.size u (Value.slice aa NL cc) LX) x209 u7 := by rw [← hx209]; exact hh.got 13 _ 209 rfl rfl (hall 13 (by decide) (by decide))
        obtain ⟨x210, hx210⟩ : ∃ x, A.eval (.tmp 210) = x := ⟨_, rfl⟩
        obtain ⟨x14, hx14⟩ : ∃ x, A.eval (.tmp 14) = x := ⟨_, rfl⟩
        have f14 : (fun v u => ∃ bb, v = Value.pointer (some ⟨bb, 0, none⟩) ∧ Blk u bb [Value.slice none 0 0, Value.int .u64 0] 69 ∧ HH ≤ bb) x14 u7 := by rw [← hx14]; exact hh.got 15 _ 14 rfl rfl (hall 15 (by decide) (by decide))
        obtain ⟨x15, hx15⟩ : ∃ x, A.eval (.tmp 15) = x := ⟨_, rfl⟩
        dsimp only [wrote, List.foldl] at hA
        rw [hx197, hx198, hx199, hx200, hx201, hx202, hx203, hx204, hx205, hx206, hx207, hx208, hx196, hx209, hx210, hx14, hx15] at hA
        clear hzz hnn hh hall hx197 hx198 hx199 hx200 hx201 hx202 hx203 hx204 hx205 hx206 hx207 hx208 hx196 hx209 hx210 hx14 hx15
        replace f197 := (f197 : x197 = (.agg [.slice a n c, .int .u64 nx].toArray))
        subst f197
        replace f198 := (f198 : x198 = (.slice (some ⟨tb, to, none⟩) tn tc))
        subst f198
        replace f199 := (f199 : x199 = (.int .i64 (i : Nat)))
        subst f199
        replace f200 := (f200 : x200 = (.pointer (some ⟨tb, to + i * 35, none⟩)))
        subst f200
        replace f201 := (f201 : x201 = (.pointer (some ⟨tb, to + i * 35 + 1, none⟩)))
        subst f201
        replace f202 := (f202 : x202 = (.agg ts.toArray))
        subst f202
        replace f203 := (f203 : x203 = (.slice (some ⟨tb, to, none⟩) tn tc))
        subst f203
        replace f204 := (f204 : x204 = (.int .i64 (i : Nat)))
        subst f204
        replace f205 := (f205 : x205 = (.pointer (some ⟨tb, to + i * 35, none⟩)))
        subst f205
        replace f206 := (f206 : x206 = (.pointer (some ⟨tb, to + i * 35 + 33, none⟩)))
        subst f206
        replace f207 := (f207 : x207 = (.int .i64 At))
        subst f207
        obtain ⟨a3, c3, e208, o3⟩ := f208
        subst e208
        obtain ⟨a3, c3, e196, o3⟩ := f196
        subst e196
        obtain ⟨a3, c3, e209, o3⟩ := f209
        subst e209
        obtain ⟨b7, e14, hb7b, hb7l⟩ := f14
        subst e14
        subst hA
        show wpList _ _ _ [_, _, _] _ _
        simp only [Act.put, List.setIfInBounds_toArray, List.set_cons_succ, List.set_cons_zero]
        by_cases hA : 0 < At
        ·
         by_cases h8 : q < 8
         ·
          as_aux_lemma =>
          have hE : E = 0 := HEi.out.2 ⟨hA, h8⟩
          have h8' : (q : Int) < 8 := by omega
          subst hE
          obtain ⟨gs, f, hfs, hfg⟩ := HLv.out.last
          subst hfs
          obtain rfl : k = gs.length + 1 := by have := HM.out; rw [List.length_append] at this; exact this.symm
          have HFG := hid hfg
          clear hfg
          go_upto_region 35 with (first
           | ((with_reducible refine wpList_store_all (by with_unfolding_all rfl) 69 _ _ (by with_unfolding_all rfl) _ [.slice none 0 0, .int .u64 0] [.slice a3 NL c3, .int .u64 NX] 69 (by with_unfolding_all rfl) (by with_unfolding_all rfl) hb7b (by with_unfolding_all rfl) (by with_unfolding_all exact Try.size69) (ring_one _ _ _ _) ?_); intro w30 B30 g30 s30; have HB30 := hid B30; have HG30 := hid g30; have HS30 := hid s30; clear B30 g30 s30; have HGq := hid ((gtrans HG7.out HU.out).andThen HG30.out (fun j hj => .inl (by injection hj with hj; have := HHs.out; have := HG7.out.size; omega))); have HPq := hid ((HB6.out.keep HU.out).on HG30.out (by have := HHs.out; have := HB6.out.lt; simp; omega)); have HKq := hid ((HK6.out.keep HU.out).off HG30.out hb7b (by decide)); have HFq := hid ((HF6.out.keep HU.out).off HG30.out hb7b (by decide)); have HXq := hid (o3.off HG30.out hb7b (by decide)); have y33 := (HTc.out _ HGq.out).2.1; have y34 := (HTc.out _ HGq.out).2.2.1; have yb := HB30.out.cell 0; clear HG30 HS30 HU hb7b o3)
           | (go_at_call 22; (with_reducible refine (HNu.out _).mono ?_); rintro e w9 ⟨rfl, hw9⟩; have hw9' := hw9.symm; clear hw9; subst hw9'))

          obtain ⟨y5, z5⟩ := HFq.out.c33
          obtain ⟨cs5, hk5, hC5⟩ := HFq.out.blk (g := g) rfl
          have HK5 := hid hk5
          have HC5 := hid hC5
          clear hk5 hC5
          go_upto_region 36 with fail
          obtain ⟨w35, hw35⟩ : ∃ x, w30.setCell ⟨g, gs.length * 35 + 33, none⟩ (.int .i64 At) = x := ⟨_, rfl⟩
          rw [hw35]
          have HG35 : Hid (w30.grownBy w35 (some g)) := hid (by rw [← hw35]; exact gset _ _ _)
          have HF35 : Hid (OutF w.heap.size w35 (.slice (some ⟨g, 0, none⟩) (gs.length + 1) fc) (gs ++ [(⟨f.sec, At, false⟩ : Ft)])) := hid (by
           have h := OutF.til (fs := gs ++ [f]) (c := fc) (by rw [List.length_append]; exact HFq.out) gs.length f At (by simp)
           rw [HFG.out, List.set_append_right _ _ (Nat.le_refl _), Nat.sub_self, List.length_append] at h
           rw [← hw35]
           exact h)
          have HX35 := hid (HXq.out.off HG35.out HK5.out (by decide))
          have HP35 := hid (HPq.out.on HG35.out (fun e => HK5.out.ne HPq.out (by decide) (Option.some.inj e)))
          have HB35 := hid (HB30.out.on HG35.out (fun e => HK5.out.ne HB30.out (by decide) (Option.some.inj e)))
          have HGw := hid (HGq.out.andThen HG35.out (fun j hj => .inl (by injection hj with hj; have := HC5.out; omega)))
          have HLv2 : Hid (Lv LX NX ((gs ++ [(⟨f.sec, At, false⟩ : Ft)]) ++ [(⟨S, 0, false⟩ : Ft)])) := hid (by
           have h := HLv.out.rotate HFG.out (by have := HNx.out; omega) S At hA (by rw [HQ.out]; exact h8)
           rw [HLX.out, HNX.out] at h
           rw [List.append_assoc]
           exact h)
          have HNX2 : Hid (NX ≤ i + 1 + 2) := hid (by
           have h1 := HLv.out.nx_eq
           have h2 := HLv2.out.nx_eq
           have := HNx.out
           simp only [List.length_append, List.length_cons, List.length_nil] at h1 h2
           omega)
          have HS32 : Hid (S.length = 32) := hid HOk.out.1
          have HBu2 : Hid (Try.prog.built 96 [(0, .int .u64 ((gs.length : Int) + 1 + 1)), (1, .agg ts.toArray)] = some ((Ft.mk S 0 false).cells (1 + (gs ++ [(⟨f.sec, At, false⟩ : Ft)]).length)).toArray) := hid (by
           rw [← HTS.out, List.length_append, show (gs.length : Int) + 1 + 1 = ((1 + (gs.length + [(⟨f.sec, At, false⟩ : Ft)].length) : Nat) : Int) by simp; omega]
           exact built_fate _ S HS32.out)
          have hr70 := hid (show w35.rangeAt tb (to + i * 35 + 1) ts by rw [← HTS.out]; exact (HTc.out _ HGw.out).2.2.2)
          have hb3 : gs.length + 1 ≤ 202 := hm2
          have y5' := y5
          clear y5 z5 y5' hw35 HG35 HK5 HC5 HB30 HPq HKq HXq HFq HGq yb y33 y34
          obtain ⟨y0, y33, y34, hrs⟩ := HTc.out _ HGw.out
          clear hrs
          go_upto_region 37 with (first
           | (with_reducible refine wpList_load_part (by with_unfolding_all rfl) 70 _ (by with_unfolding_all rfl) tb (to + i * 35 + 1) ts _ (by with_unfolding_all rfl) hr70.out Try.underlying70 (by with_unfolding_all rfl) (by rw [HTL.out]; exact Try.size70) ?_)
           | (with_reducible refine wpList_build_ofW (by with_unfolding_all rfl) 96 _ (by with_unfolding_all rfl) [(0, .int .u64 ((gs.length : Int) + 1 + 1)), (1, .agg ts.toArray)] (by with_unfolding_all rfl) ((Ft.mk S 0 false).cells (1 + (gs ++ [(⟨f.sec, At, false⟩ : Ft)]).length)) HBu2.out ?_)
           | ((with_reducible refine wpList_slice_fate (by with_unfolding_all rfl) _ (by with_unfolding_all rfl) _ (Ft.mk S 0 false) HS32.out (by with_unfolding_all rfl) ?_); intro w36 B36 s36 g36; have HF36 := hid (HF35.out.keep g36); have HX36 := hid (HX35.out.keep g36); have HP36 := hid (HP35.out.keep g36); have HB36 := hid (HB35.out.keep g36); have HL36 := hid B36; have HG36 := hid (gtrans HGw.out g36); have HZ36 := hid (HF36.out.blk (g := g) rfl); clear B36 g36 s36)
           | (at_builtin; refine wpList_append_fate rfl _ _ rfl w.heap.size w35.heap.size (gs ++ [(⟨f.sec, At, false⟩ : Ft)]) (Ft.mk S 0 false) HS32.out HF36.out rfl HL36.out (by rw [List.length_append]; simp only [List.length_cons, List.length_nil]; omega) HG36.out.size ?_; intro v37 w37 hO37 hg37; replace hg37 : w36.grownBy w37 (some g) := hg37; obtain ⟨cs6, hk6, hC6⟩ := HZ36.out; have HF37 := hid hO37; have HX37 := hid (HX36.out.off hg37 hk6 (by decide)); have HP37 := hid (HP36.out.on hg37 (fun e => hk6.ne HP36.out (by decide) (Option.some.inj e))); have HB37 := hid (HB36.out.on hg37 (fun e => hk6.ne HB36.out (by decide) (Option.some.inj e))); have HG37 := hid (HG36.out.andThen hg37 (fun j hj => .inl (by injection hj with hj; omega))); clear hO37 hg37 hk6 hC6 cs6))
          clear HF36 HX36 HP36 HB36 HL36 HG36 HZ36 HF35 HX35 HP35 HB35 HGw hr70 HBu2
          go_upto_region 38 with (first
           | (with_reducible refine wpList_load_part (by with_unfolding_all rfl) 69 _ (by with_unfolding_all rfl) b7 0 [.slice a3 NL c3, .int .u64 NX] _ (by with_unfolding_all rfl) HB37.out.whole Try.underlying69 (by with_unfolding_all rfl) (by with_unfolding_all exact Try.size69) ?_)
           | ((with_reducible refine wpList_store_all (by with_unfolding_all rfl) 69 _ _ (by with_unfolding_all rfl) p4 [.slice a n c, .int .u64 nx] [.slice a3 NL c3, .int .u64 NX] 69 (by with_unfolding_all rfl) (by with_unfolding_all rfl) HP37.out (by with_unfolding_all rfl) (by with_unfolding_all exact Try.size69) (ring_one _ _ _ _) ?_); intro w38 B38 g38 s38; have HP38 := hid B38; have HX38 := hid (HX37.out.off g38 HP37.out (by decide)); have HF38 := hid (HF37.out.off g38 HP37.out (by decide)); have HG38 := hid (HG37.out.andThen g38 (fun j hj => .inl (by injection hj with hj; have := HN.out; omega))); clear B38 g38 s38))
          go_wp2_with (first
           | (with_reducible refine wpList_load_part (by with_unfolding_all rfl) 69 _ (by with_unfolding_all rfl) p4 0 [.slice a3 NL c3, .int .u64 NX] _ (by with_unfolding_all rfl) HP38.out.whole Try.underlying69 (by with_unfolding_all rfl) (by with_unfolding_all exact Try.size69) ?_)
           | (go_at_call 27; (with_reducible refine (stands_out (C := w.heap.size) _ _ _ LX NX ((gs ++ [(⟨f.sec, At, false⟩ : Ft)]) ++ [(⟨S, 0, false⟩ : Ft)]) HX38.out HLv2.out (by have := HNX2.out; omega) HF38.out).mono ?_); rintro e q1 ⟨rfl, hgE⟩; have HGE := hid hgE; clear hgE))
          go_roundw
          case rel => exact ⟨i + 1, LX, NX, ((gs ++ [(⟨f.sec, At, false⟩ : Ft)]) ++ [(⟨S, 0, false⟩ : Ft)]), a3, NL, c3, by go_num, by omega, HNL, hid (HP38.out.keep HGE.out), hid (HX38.out.keep HGE.out), HLv2, hid (HF38.out.keep HGE.out), hid (by have := HNX2.out; omega), hid (gtrans HG38.out HGE.out)⟩
          case measure => simp [intOf]; omega
         ·
          as_aux_lemma =>
          have hE : E ≠ 0 := fun h => h8 (HEi.out.1 h).2
          have h8' : ¬ (q : Int) < 8 := by omega
          obtain rfl := HN0.out hE
          have hE' : (E == 0) = false := beq_eq_false_iff_ne.2 hE
          go_wp2_with (first
           | ((with_reducible refine wpList_store_all (by with_unfolding_all rfl) 69 _ _ (by with_unfolding_all rfl) _ [.slice none 0 0, .int .u64 0] [.slice a3 0 c3, .int .u64 NX] 69 (by with_unfolding_all rfl) (by with_unfolding_all rfl) hb7b (by with_unfolding_all rfl) (by with_unfolding_all exact Try.size69) (ring_one _ _ _ _) ?_); intro w30 B30 g30 s30; have HB30 := hid B30; have HG30 := hid g30; have HS30 := hid s30; clear B30 g30 s30; have HGq := hid ((gtrans HG7.out HU.out).andThen HG30.out (fun j hj => .inl (by injection hj with hj; have := HHs.out; have := HG7.out.size; omega))); have HPq := hid ((HB6.out.keep HU.out).on HG30.out (by have := HHs.out; have := HB6.out.lt; simp; omega)); have HKq := hid ((HK6.out.keep HU.out).off HG30.out hb7b (by decide)); have HFq := hid ((HF6.out.keep HU.out).off HG30.out hb7b (by decide)); have HXq := hid (o3.off HG30.out hb7b (by decide)); have y33 := (HTc.out _ HGq.out).2.1; have y34 := (HTc.out _ HGq.out).2.2.1; have yb := HB30.out.cell 0; clear HG30 HS30 HU hb7b o3)
           | (go_at_call 22; (with_reducible refine (HNu.out _).mono ?_); rintro e w9 ⟨rfl, hw9⟩; have hw9' := hw9.symm; clear hw9; subst hw9')
           | (with_reducible refine wpList_load_part (by with_unfolding_all rfl) 69 _ (by with_unfolding_all rfl) p4 0 [.slice a n c, .int .u64 nx] _ (by with_unfolding_all rfl) HPq.out.whole Try.underlying69 (by with_unfolding_all rfl) (by with_unfolding_all exact Try.size69) ?_)
           | (go_at_call 27; (with_reducible refine (stands_out (C := w.heap.size) _ _ _ l nx fs HKq.out HLv.out (by have := HNx.out; omega) HFq.out).mono ?_); rintro e w31 ⟨rfl, hg31⟩; have HG31 := hid hg31; clear hg31))
          go_roundw
          case rel => exact ⟨i + 1, l, nx, fs, a, n, c, by go_num, by omega, HLn, hid (HPq.out.keep HG31.out), hid (HKq.out.keep HG31.out), HLv, hid (HFq.out.keep HG31.out), hid (by have := HNx.out; omega), hid (gtrans HGq.out HG31.out)⟩
          case measure => simp [intOf]; omega
        ·
         as_aux_lemma =>
         have hE : E ≠ 0 := fun h => hA (HEi.out.1 h).1
         obtain rfl := HN0.out hE
         have hE' : (E == 0) = false := beq_eq_false_iff_ne.2 hE
         go_wp2_with (first
          | ((with_reducible refine wpList_store_all (by with_unfolding_all rfl) 69 _ _ (by with_unfolding_all rfl) _ [.slice none 0 0, .int .u64 0] [.slice a3 0 c3, .int .u64 NX] 69 (by with_unfolding_all rfl) (by with_unfolding_all rfl) hb7b (by with_unfolding_all rfl) (by with_unfolding_all exact Try.size69) (ring_one _ _ _ _) ?_); intro w30 B30 g30 s30; have HB30 := hid B30; have HG30 := hid g30; have HS30 := hid s30; clear B30 g30 s30; have HGq := hid ((gtrans HG7.out HU.out).andThen HG30.out (fun j hj => .inl (by injection hj with hj; have := HHs.out; have := HG7.out.size; omega))); have HPq := hid ((HB6.out.keep HU.out).on HG30.out (by have := HHs.out; have := HB6.out.lt; simp; omega)); have HKq := hid ((HK6.out.keep HU.out).off HG30.out hb7b (by decide)); have HFq := hid ((HF6.out.keep HU.out).off HG30.out hb7b (by decide)); have HXq := hid (o3.off HG30.out hb7b (by decide)); have y33 := (HTc.out _ HGq.out).2.1; have y34 := (HTc.out _ HGq.out).2.2.1; have yb := HB30.out.cell 0; clear HG30 HS30 HU hb7b o3)
          | (go_at_call 22; (with_reducible refine (HNu.out _).mono ?_); rintro e w9 ⟨rfl, hw9⟩; have hw9' := hw9.symm; clear hw9; subst hw9')
          | (with_reducible refine wpList_load_part (by with_unfolding_all rfl) 69 _ (by with_unfolding_all rfl) p4 0 [.slice a n c, .int .u64 nx] _ (by with_unfolding_all rfl) HPq.out.whole Try.underlying69 (by with_unfolding_all rfl) (by with_unfolding_all exact Try.size69) ?_)
          | (go_at_call 27; (with_reducible refine (stands_out (C := w.heap.size) _ _ _ l nx fs HKq.out HLv.out (by have := HNx.out; omega) HFq.out).mono ?_); rintro e w31 ⟨rfl, hg31⟩; have HG31 := hid hg31; clear hg31))
         go_roundw
         case rel => exact ⟨i + 1, l, nx, fs, a, n, c, by go_num, by omega, HLn, hid (HPq.out.keep HG31.out), hid (HKq.out.keep HG31.out), HLv, hid (HFq.out.keep HG31.out), hid (by have := HNx.out; omega), hid (gtrans HGq.out HG31.out)⟩
         case measure => simp [intOf]; omega
  ·
   by_cases h1 : i < tn
   ·
    have i1 : (i : Int) < (tn : Int) := by omega
    have i2 : ¬ (i : Int) < 200 := by omega
    clear hlt
    go_wp2_with (first
     | (with_reducible refine wpList_load_part (by with_unfolding_all rfl) 69 _ (by with_unfolding_all rfl) p4 0 [.slice a n c, .int .u64 nx] _ (by with_unfolding_all rfl) HB.out.whole Try.underlying69 (by with_unfolding_all rfl) (by with_unfolding_all exact Try.size69) ?_)
     | (go_at_call 27; (with_reducible refine (HStd.out _ (grefl _ _)).mono ?_); rintro e q1 ⟨rfl, hg1⟩; have HQ1 := hid hg1; clear hg1)
     | (go_at_call 26; (with_reducible refine (HWk.out _).mono ?_); rintro e q2 ⟨rfl, hg2⟩; have HQ2 := hid (gtrans HQ1.out hg2); clear hg2))
    go_ret
    exact ⟨rfl, gtrans HG.out HQ2.out⟩
   ·
    have i1 : ¬ (i : Int) < (tn : Int) := by omega
    clear hlt
    go_wp2_with (first
     | (with_reducible refine wpList_load_part (by with_unfolding_all rfl) 69 _ (by with_unfolding_all rfl) p4 0 [.slice a n c, .int .u64 nx] _ (by with_unfolding_all rfl) HB.out.whole Try.underlying69 (by with_unfolding_all rfl) (by with_unfolding_all exact Try.size69) ?_)
     | (go_at_call 27; (with_reducible refine (HStd.out _ (grefl _ _)).mono ?_); rintro e q1 ⟨rfl, hg1⟩; have HQ1 := hid hg1; clear hg1)
     | (go_at_call 26; (with_reducible refine (HWk.out _).mono ?_); rintro e q2 ⟨rfl, hg2⟩; have HQ2 := hid (gtrans HQ1.out hg2); clear hg2))
    go_ret
    exact ⟨rfl, gtrans HG.out HQ2.out⟩
end Go.Proofs.Ytmpcpakdocaieaa
