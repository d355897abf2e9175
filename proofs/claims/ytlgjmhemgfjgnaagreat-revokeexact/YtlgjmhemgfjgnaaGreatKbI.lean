/- The law's book over keys: the walk of Keys. -/
import Derived.Test.YtlgjmhemgfjgnaaGreatX43
namespace Go.Proofs.YtlgjmhemgfjgnaaGreat.Bk
open Go Go.RowKit
open Go.RowKit (wrap32 wrap64)

theorem own_block {w : World} {B : Nat} {e : TypeId} {v : Value} {n b q : Nat} {xs : List Value} (h : w.ownsRow B e q v n xs) (hb : v.ownBlock = some b) : B ≤ b ∧ b < w.heap.size ∧ ∃ cs, w.heap[b]? = some (.cells cs e (0, 0)) := by
  have h1 := h.lt b hb
  refine ⟨h1.1, h1.2, ?_⟩
  rcases h.2 with ⟨rfl, _⟩ | ⟨g, cap, cur, rfl, _, hg, _⟩
  · cases hb
  · have : g = b := by simpa [Value.ownBlock] using hb
    subst this
    exact ⟨cur, hg⟩

theorem but_of {w w' : World} {b : Nat} (hg : w.grownBy w' (some b)) (hs : w'.heap.size = w.heap.size) : But w w' b :=
  ⟨hg.os, hg.tape, hg.output, hs, fun k hk => by
    by_cases h : k < w.heap.size
    · exact hg.block k h (fun e => hk (by injection e))
    · rw [Array.getElem?_eq_none (by omega), Array.getElem?_eq_none (by omega)]⟩
theorem own_setK {w w5 : World} {B b n c i : Nat} {l : List Ky} (hl : ∀ k ∈ l, k.id.length = 16) (h : w.ownsRow B 85 19 (.slice (some ⟨b, 0, none⟩) n c) n (kcs l)) {cs : List Value} (hb : Blk w b cs 85) (hi : i < n) (M : Ky) (hM : M.id.length = 16)
    (h5 : Blk w5 b (splice cs (i * 19) M.cells) 85) : w5.ownsRow B 85 19 (.slice (some ⟨b, 0, none⟩) n c) n (kcs (l.set i M)) := by
  have hln : l.length = n := by have h1 := h.1; rw [kcs_length l hl] at h1; omega
  have hl2 : ∀ k ∈ l.set i M, k.id.length = 16 := fun k hk => by
    rcases List.mem_or_eq_of_mem_set hk with h1 | h1
    · exact hl k h1
    · rw [h1]; exact hM
  refine ⟨by rw [kcs_length _ hl2, List.length_set, hln], ?_⟩
  rcases h.2 with ⟨h1, _⟩ | ⟨g, cap, cur, hv, hB, hg, hle, hm, hs, ht⟩
  · cases h1
  · simp only [Value.slice.injEq, Option.some.injEq, Addr.mk.injEq] at hv
    obtain ⟨⟨rfl, _, _⟩, _, rfl⟩ := hv
    have hcs : cs = cur.toList := (Blk.agree hb (show Blk w b cur.toList 85 by simpa [Blk] using hg)).1
    refine .inr ⟨b, c, (splice cs (i * 19) M.cells).toArray, rfl, hB, h5, hle, hm, ?_, ?_⟩
    · rw [List.size_toArray, splice_len _ _ _ (by rw [Ky.cells_length hM, hcs, Array.length_toList, hs]; omega), hcs, Array.length_toList, hs]
    · have hil : i < l.length := by omega
      have e1 : l = l.take i ++ (l[i] :: l.drop (i + 1)) := by rw [List.getElem_cons_drop, List.take_append_drop]
      have e2 : l.set i M = l.take i ++ (M :: l.drop (i + 1)) := by rw [List.set_eq_take_append_cons_drop, if_pos hil]
      have e3 : cs = kcs (l.take i) ++ ((l[i]).cells ++ (kcs (l.drop (i + 1)) ++ cs.drop (n * 19))) := by
        have h9 := List.take_append_drop (n * 19) cs
        rw [hcs] at h9 ⊢
        rw [ht] at h9
        have h10 : kcs l = kcs (l.take i) ++ ((l[i]).cells ++ kcs (l.drop (i + 1))) := by
          have h11 := congrArg kcs e1
          rw [kcs_append, kcs_cons] at h11
          exact h11
        rw [h10] at h9
        have h12 : kcs (l.take i) ++ ((l[i]).cells ++ (kcs (l.drop (i + 1)) ++ cur.toList.drop (n * 19))) = (kcs (l.take i) ++ ((l[i]).cells ++ kcs (l.drop (i + 1)))) ++ cur.toList.drop (n * 19) := by simp
        rw [h12]
        exact h9.symm
      have hA : (kcs (l.take i)).length = i * 19 := by rw [kcs_length _ (fun k hk => hl k (List.mem_of_mem_take hk)), List.length_take]; congr 1; omega
      have hC : (kcs (l.drop (i + 1))).length = (n - (i + 1)) * 19 := by rw [kcs_length _ (fun k hk => hl k (List.mem_of_mem_drop hk)), List.length_drop, hln]
      have e4 := splice_mid (kcs (l.take i)) (l[i]).cells (kcs (l.drop (i + 1)) ++ cs.drop (n * 19)) M.cells (i * 19) hA (by rw [Ky.cells_length hM, Ky.cells_length (hl _ (List.getElem_mem hil))])
      rw [← e3] at e4
      rw [List.toList_toArray, e4, e2, kcs_append, kcs_cons]
      have e5 : kcs (l.take i) ++ (M.cells ++ (kcs (l.drop (i + 1)) ++ cs.drop (n * 19))) = (kcs (l.take i) ++ (M.cells ++ kcs (l.drop (i + 1)))) ++ cs.drop (n * 19) := by simp
      rw [e5]
      apply List.take_left'
      rw [List.length_append, List.length_append, hA, hC, Ky.cells_length hM]
      omega
theorem rep_set (M : Ky) (l : List Ky) (i : Nat) (hi : i < l.length) : (List.replicate i M ++ l.drop i).set i M = List.replicate (i + 1) M ++ l.drop (i + 1) := by
  rw [List.set_append_right _ _ (by simp), List.length_replicate, Nat.sub_self, List.drop_eq_getElem_cons hi, List.set_cons_zero, List.replicate_succ', List.append_assoc, List.singleton_append]

set_option maxRecDepth 100000 in
set_option maxHeartbeats 3200000 in
theorem keys_any (w : World) (B bk A T : Nat) (v0 v1 o : Value) (D U : Int) (gs : List Value) (ms : List Nat) (l : List Ky) (h : Bst w B bk v0 v1 A T D U gs ms A gs.length) (hB : B ≤ bk) (hBw : B ≤ w.heap.size) (hlk : ∀ k ∈ l, k.id.length = 16)
    (ho : w.ownsRow B 85 19 o l.length (kcs l)) (hl : l.length ≤ 1000000) (hT : T ≤ 549755813888) (hU0 : 0 ≤ U) (hU1 : U ≤ 16777216) (hn : gs.length ≤ 1048575) (hap : ∀ (j : Nat) g', gs[j]? = some g' → Apart g' o) :
    Calls Tryz.prog 12 #[.pointer (some ⟨bk, 0, none⟩), o] w fun e w' => e = .returned (.tuple #[]) ∧ ∃ (v0' v1' : Value) (gs' : List Value) (ms' : List Nat) (U' : Int), Bst w' B bk v0' v1' A ((T + 1 : Nat) : Int) D U' gs' ms' A gs'.length ∧ 0 ≤ U' ∧ U' ≤ 16777216 ∧ ((gs' = gs ∧ U' = U) ∨ (gs' = gs ++ [o] ∧ U' = U + (8000 + 300 * (l.length : Int)))) ∧ Kept w w' B bk v0 v1 o ∧ (v0'.ownBlock = v0.ownBlock ∨ ∃ k, w.heap.size ≤ k ∧ v0'.ownBlock = some k) := by
  obtain ⟨inf28, hi58, hz580, hz581, hz582⟩ := info_parts info55
  obtain ⟨inf3, hi3, hz30, hz31, hz16⟩ := info_parts info3
  have hcT : w.cell? ⟨bk, 72, none⟩ = some (.int .i64 T) := h.cells.cell (i := 72) (by decide)
  have hfT := h.cells.frozen 72
  have hlt := h.cells.lt
  obtain ⟨ao, co, hov⟩ := own_shape' ho
  subst hov
  obtain ⟨x, hx⟩ : ∃ x : Int, (l.length : Int) = x := ⟨_, rfl⟩
  have hx0 : 0 ≤ x := by omega
  have hx1 : x ≤ 1000000 := by omega
  have HX := hid hx
  obtain ⟨t, ht⟩ : ∃ t : Int, (T : Int) = t := ⟨_, rfl⟩
  have ht0 : 0 ≤ t := by omega
  have ht1 : t ≤ 549755813888 := by omega
  have HT := hid ht
  obtain ⟨KM, HKM⟩ : ∃ KM, Hid ((kyM (T + 1)).cells = KM) := ⟨_, hid rfl⟩
  have HKL : Hid (KM.length = 19) := hid (by rw [← HKM.out]; exact Ky.cells_length rfl)
  have HK1c : Hid (∀ v ∈ KM, v.oneCell' = true) := hid (by rw [← HKM.out]; exact cells_oneM _ _ _)
  have HMk : Hid (∀ u, Calls Tryz.prog 27 #[.int .i64 (t + 1)] u fun e w' => e = .returned (.agg KM.toArray) ∧ u.grownBy w' none) := hid (fun u => by
    have h9 := kmark_any u (T + 1) (by omega)
    rw [HKM.out, show ((T + 1 : Nat) : Int) = t + 1 by omega] at h9
    exact h9)
  obtain ⟨W1, HW1⟩ : ∃ W1, Hid (w.setCell ⟨bk, 72, none⟩ (.int .i64 (t + 1)) = W1) := ⟨_, hid rfl⟩
  have hS1 : Bst W1 B bk v0 v1 A ((T + 1 : Nat) : Int) D U gs ms A gs.length := by
    have hb := But.setCell w bk 72 (.int .i64 (t + 1))
    rw [HW1.out] at hb
    refine h.but hb ?_
    have h2 := (h.cells.set 72 (.int .i64 (t + 1))).congr (fun i _ => bkF_T _ _ _ _ _ _ _ i)
    rw [HW1.out] at h2
    have e : ((T + 1 : Nat) : Int) = t + 1 := by omega
    rw [e]
    exact h2
  have hb1 : But w W1 bk := by rw [← HW1.out]; exact But.setCell _ _ _ _
  have hO1 : W1.ownsRow B 85 19 (.slice ao l.length co) l.length (kcs l) := by
    obtain ⟨cs, hcs⟩ := bkc_block h.cells
    exact own_same ho (Same.but hcs (by decide) hb1)
  have HK1 : Hid (Kept w W1 B bk v0 v1 (.slice ao l.length co)) := hid ((Kept.refl w B bk v0 v1 _).step (But.below hb1 hB) (fun b _ h2 _ _ _ => hb1.block b h2))
  have HS1 := hid hS1
  have HO1 := hid hO1
  have HAP := hid hap
  have HLK := hid hlk
  have hBw1 : B ≤ W1.heap.size := by rw [hb1.size]; exact hBw
  have HN := hid hn
  have HW2 := hid hb1.size
  clear h ho hS1 hO1 hap hb1 hlk
  go_enter Tryz.func12, Tryz.ntmps12
  go_upto_region 2 with fail
  rw [HW1.out]
  go_upto_region 3 with (first
    | (go_at_call 27; refine (HMk.out _).mono ?_; rintro e wa ⟨rfl, hga⟩; have HGa : Hid (W1.grownBy wa none) := hid hga; clear hga)
    | (with_reducible refine wpList_alloc_row (by with_unfolding_all rfl) 85 (by with_unfolding_all rfl) zky.cells zero107 ?_; intro wb Bb sb gg; have HBb := hid Bb; have HGb := hid (gtrans HGa.out gg); have HSb := hid sb; clear Bb gg sb)
    | (with_reducible refine wpList_store_all (by with_unfolding_all rfl) 85 _ _ (by with_unfolding_all rfl) _ zky.cells KM 85 (by with_unfolding_all rfl) (by with_unfolding_all rfl) HBb.out (by rw [HKL.out]; with_unfolding_all rfl) (by rw [HKL.out]; with_unfolding_all exact Tryz.size85) HK1c.out ?_; intro wc Bc gc sc; have HBX := hid Bc; have HGc := hid gc; have HSc := hid sc; clear Bc gc sc))
  obtain ⟨p5, hp5⟩ : ∃ q, wa.heap.size = q := ⟨_, rfl⟩
  rw [hp5] at HBb HBX HGc HSb
  simp only [hp5]
  have HP5 : Hid (W1.heap.size ≤ p5) := hid (by have := HGa.out.size; omega)
  clear hp5
  have HBut : Hid (But wb wc p5) := hid (but_of HGc.out HSc.out)
  have HOb := hid (own_grown HO1.out HGb.out)
  have HSc' : Hid (Bst wc B bk v0 v1 A ((T + 1 : Nat) : Int) D U gs ms A gs.length) := hid ((HS1.out.grown HGb.out).other HBb.out HBut.out (fun j g' hj e => by have h8 := HS1.out.low j g' p5 hj e; have h9 := HP5.out; omega))
  have HOc : Hid (wc.ownsRow B 85 19 (.slice ao l.length co) l.length (kcs (List.replicate 0 (kyM (T + 1)) ++ l.drop 0))) := hid (by
    have h9 : (Value.slice ao l.length co).ownBlock ≠ some p5 := fun e => by have h8 := (HO1.out.lt p5 e).2; have h9 := HP5.out; omega
    simp only [List.replicate_zero, List.nil_append, List.drop_zero]
    have hO := HOb.out
    refine ⟨hO.1, ?_⟩
    rcases hO.2 with h5 | ⟨q, cap, cur, hv, hg', hh, r⟩
    · exact Or.inl h5
    · exact Or.inr ⟨q, cap, cur, hv, hg', by rw [HBut.out.block q (fun e => h9 (by rw [hv, e]; rfl))]; exact hh, r⟩)
  have HKc : Hid (Kept w wc B bk v0 v1 (.slice ao l.length co)) := hid ⟨(HK1.out.below.trans ((gbelow HGb.out).mono hBw1)).trans (But.below HBut.out (by have := HP5.out; omega)), fun b h1 h2 h3 h4 h5 => by
    have h8 := HW2.out
    have h9 := HP5.out
    rw [HBut.out.block b (by omega), HGb.out.block b (by omega) (by simp)]
    exact HK1.out.block b h1 h2 h3 h4 h5⟩
  have HOl : Hid (∀ k, (Value.slice ao l.length co).ownBlock = some k → k < W1.heap.size) := hid (fun k hk => (HO1.out.lt k hk).2)
  clear HS1 HO1 HK1 HOb HGa HGb HGc HSb HSc HBb HBut
  go_wp2_with fail
  go_loopw [6] (fun iv wr => ∃ i : Nat, iv = .int .i64 i ∧ i ≤ 1000000 ∧ Hid (i ≤ l.length) ∧ Hid (Bst wr B bk v0 v1 A ((T + 1 : Nat) : Int) D U gs ms A gs.length) ∧ Hid (wr.ownsRow B 85 19 (.slice ao l.length co) l.length (kcs (List.replicate i (kyM (T + 1)) ++ l.drop i))) ∧ Hid (Kept w wr B bk v0 v1 (.slice ao l.length co)) ∧ Hid (Blk wr p5 KM 85)) (fun iv _ => l.length - (intOf iv).toNat)
  case atStart => exact ⟨0, rfl, by omega, hid (Nat.zero_le _), HSc', HOc, HKc, HBX⟩
  case round =>
    as_aux_lemma =>
    clear hcT hfT hlt HSc' HOc HKc HBX
    obtain ⟨i, rfl, hi, HI, HS, HO, HK, HBX⟩ := hrel
    by_cases hil : i < l.length
    · have hlt' : (i : Int) < x := by have := HX.out; omega
      have HLs : Hid (∀ k ∈ List.replicate i (kyM (T + 1)) ++ l.drop i, k.id.length = 16) := hid (fun k hk => by
        rcases List.mem_append.1 hk with h1 | h1
        · rw [List.eq_of_mem_replicate h1]; exact kyM_len _
        · exact HLK.out k (List.mem_of_mem_drop h1))
      obtain ⟨b, hao, hBb, cs, hcsB, hfit⟩ : ∃ b, ao = some ⟨b, 0, none⟩ ∧ B ≤ b ∧ ∃ cs, Blk wr b cs 85 ∧ i * 19 + 19 ≤ cs.length := by
        rcases HO.out.2 with ⟨_, h2⟩ | ⟨g, cap, cur, hv, hB', hg, hle, hm, hs, _⟩
        · omega
        · simp only [Value.slice.injEq] at hv
          refine ⟨g, hv.1, hB', cur.toList, by simpa [Blk] using hg, ?_⟩
          rw [Array.length_toList, hs]
          omega
      subst hao
      have HCB := hid hcsB
      have HFt := hid hfit
      have HBb := hid hBb
      have hix := idx57y b l.length co i hil
      obtain ⟨n, HNl⟩ : ∃ n, Hid (l.length = n) := ⟨_, hid rfl⟩
      clear hcsB hfit hBb
      go_wp2_with (first
        | (with_reducible refine wpList_load_part (by with_unfolding_all rfl) 85 _ (by with_unfolding_all rfl) p5 0 KM _ (by with_unfolding_all rfl) HBX.out.whole Tryz.underlying85 (by with_unfolding_all rfl) (by rw [HKL.out]; with_unfolding_all exact Tryz.size85) ?_)
        | (with_reducible refine wpList_store_part (by with_unfolding_all rfl) 85 _ _ (by with_unfolding_all rfl) b (i * 19) cs KM 85 (by with_unfolding_all rfl) (by with_unfolding_all rfl) HCB.out (by rw [HKL.out]; exact HFt.out) (by rw [HKL.out]; with_unfolding_all exact Tryz.size85) HK1c.out ?_; intro w5 B5 g5 s5; have HB5 := hid B5; have HBut5 := hid (but_of g5 s5); clear B5 g5 s5))
      have hnb : b ≠ p5 := fun e => by have h8 := HOl.out b rfl; have h9 := HP5.out; omega
      exact ⟨⟨i + 1, by go_num, by omega, hid (by omega), hid (HS.out.other HCB.out HBut5.out (fun j g' hg' => by
        rcases HAP.out j g' hg' with h1 | h1
        · rw [h1]; exact fun k => by cases k
        · exact h1)), hid (by rw [← rep_set (kyM (T + 1)) l i hil]; exact own_setK HLs.out HO.out HCB.out hil (kyM (T + 1)) (kyM_len _) (by rw [HKM.out]; exact HB5.out)), hid (HK.out.step (But.below HBut5.out HBb.out) (fun k _ _ _ _ h5 => HBut5.out.block k (fun e => h5 (by rw [e]; rfl)))), hid (by have h9 := HBX.out; unfold Blk at h9 ⊢; rw [HBut5.out.block p5 (Ne.symm hnb)]; exact h9)⟩, by simp [intOf]; omega⟩
    · have hge : x ≤ (i : Int) := by have := HX.out; omega
      have hil2 : i = l.length := by have := HI.out; omega
      have hO := HO.out
      rw [hil2, List.drop_length, List.append_nil] at hO
      have HO2 := hid hO
      clear hO HO
      have HTG := hid (tight_any wr bk v0 v1 A ((T + 1 : Nat) : Int) D U (8000 + 300 * x) HS.out.cells hU0 hU1 (by omega) (by omega))
      have hBr : B ≤ wr.heap.size := Nat.le_trans hBw HK.out.below.size
      go_wp2_with fail
      refine HTG.out.mono ?_
      rintro e w2 (⟨rfl, hw⟩ | ⟨rfl, hU2, hC2, hbut⟩)
      · have hw' := hw.symm
        clear hw
        subst hw'
        go_wp2
        (try simp only [Exit.inBlock, Exit.then])
        refine bodyPost_ret (results_none rfl _ _ _) rfl ?_
        exact ⟨rfl, v0, v1, gs, ms, U, HS.out, hU0, hU1, Or.inl ⟨rfl, rfl⟩, HK.out, Or.inl rfl⟩
      · have hU2' := hU2.out
        have HS2 := hid (HS.out.but hbut hC2)
        have HK2 : Hid (Kept w w2 B bk v0 v1 (.slice ao l.length co)) := hid (HK.out.step (But.below hbut hB) (fun b _ h2 _ _ _ => hbut.block b h2))
        have HO3 : Hid (w2.ownsRow B 85 19 (.slice ao l.length co) l.length (kcs (List.replicate l.length (kyM (T + 1))))) := hid (by
          obtain ⟨cs, hcs⟩ := bkc_block HS.out.cells
          exact own_same HO2.out (Same.but hcs (by decide) hbut))
        have hBr2 : B ≤ w2.heap.size := Nat.le_trans hBw HK2.out.below.size
        clear hbut hC2 HS HK HO2 HTG hU2 hBr HBX
        obtain ⟨a0, c0, hv0⟩ := own_shape' HS2.out.row0
        obtain ⟨a1, c1, hv1⟩ := own_shape' HS2.out.row1
        subst hv0
        subst hv1
        obtain ⟨n, HNN⟩ : ∃ n : Nat, Hid (gs.length = n) := ⟨_, hid rfl⟩
        have hn1 : n ≤ 1048575 := by have := HNN.out; have := HN.out; omega
        have hlt := HS2.out.cells.lt
        have hc0 : w2.cell? ⟨bk, 30, none⟩ = some (.slice a0 n c0) := by have h9 : w2.cell? ⟨bk, 30, none⟩ = _ := HS2.out.cells.cell (i := 30) (by decide); rw [h9, ← HNN.out]; rfl
        have hf0 := HS2.out.cells.frozen 30
        have hrow0 : w2.ownsRow B 57 1 (.slice a0 n c0) n gs := by have := HS2.out.row0; rw [HNN.out] at this; exact this
        go_wp2_with (at_builtin; refine wpList_append_keeps _ rfl (.tmp 40) (.tmp 42) 35 rfl B 57 inf28 (.slice none 0 0) 1 24 under31 hi58 hz580 hz581 hz582 rfl (by decide) _ n _ rfl (hrow0.alloc _) ⟨w2.heap.size, 0, none⟩ 1 [.slice ao l.length co] rfl rfl (cell_one_new w2 _ _) (one_one rfl) ?h63 ?hbytes ?hbase ?_)
        case h63 => unfold maxLen; omega
        case hbytes => omega
        case hbase => simp; omega
        intro g3 cap3 w3 hown3 hg3 hwh3 hkeep3
        have S3 : ∀ e, e ≠ 57 → Same e w2 w3 := fun e he => (Same.alloc e w2 _).trans (Same.grown (hrow0.alloc _) hg3 he)
        have hal : Below w2.heap.size w2 (w2.alloc (.cells #[.slice ao l.length co] 57)) := (Below.refl _ _).alloc (Nat.le_refl _) _
        have hb23 : Below B w2 w3 := ((Below.refl _ _).alloc hBr2 _).grown hg3 (by simp; omega) (fun j hj => (hrow0.lt j hj).1)
        have HK3 : Hid (Kept w w3 B bk (.slice a0 n c0) (.slice a1 n c1) (.slice ao l.length co)) := hid (by
          have h9 := HK2.out
          rw [HNN.out] at h9
          refine h9.step hb23 (fun b hb _ h3 _ _ => ?_)
          rw [hg3.block b (by simp; omega) (fun e => h3 e.symm), heap_alloc_old w2 _ hb])
        have C3 := hid (bkc_same HS2.out.cells (S3 50 (by decide)))
        have R3 := hid (own_same HS2.out.row1 (S3 3 (by decide)))
        have HWH : Hid (g3 = w2.heap.size + 1 ∨ (Value.slice a0 n c0).ownBlock = some g3) := hid (by
          rcases hwh3 with h1 | h1
          · exact Or.inr h1
          · exact Or.inl (by simpa using h1))
        have hf3 := C3.out.frozen 30
        have hf31 := C3.out.frozen 31
        have hc30 : w3.cell? ⟨bk, 30, none⟩ = some (.slice a0 n c0) := by have h9 : w3.cell? ⟨bk, 30, none⟩ = _ := C3.out.cell (i := 30) (by decide); rw [h9, ← HNN.out]; rfl
        have hc31 : w3.cell? ⟨bk, 31, none⟩ = some (.slice a1 n c1) := by have h9 : w3.cell? ⟨bk, 31, none⟩ = _ := C3.out.cell (i := 31) (by decide); rw [h9, ← HNN.out]; rfl
        have hlt3 := C3.out.lt
        have hBr3 : B ≤ w3.heap.size := Nat.le_trans hBr2 hb23.size
        have HOWN3 := hid hown3
        have HSZ3 : Hid (w2.heap.size ≤ w3.heap.size) := hid hb23.size
        have HS3 := hid S3
        clear hown3 hg3 hwh3 hkeep3 S3 hc0 hf0 hrow0 hal hb23
        have hrow1 : (w3.setCell ⟨bk, 30, none⟩ (.slice (some ⟨g3, 0, none⟩) (n + 1) cap3)).ownsRow B 3 1 (.slice a1 n c1) n (ci ms) := by
          obtain ⟨cs, hcs⟩ := bkc_block C3.out
          have := own_same R3.out (Same.set (i := 30) hcs (by decide) (.slice (some ⟨g3, 0, none⟩) (n + 1) cap3))
          rw [HNN.out] at this
          exact this
        go_wp2_with (at_builtin; refine wpList_append_keeps _ rfl (.tmp 50) (.tmp 52) 25 rfl B 3 inf3 (.int .i64 0) 1 8 under25 hi3 hz30 hz31 hz16 rfl (by decide) _ n _ rfl (hrow1.alloc _) ⟨(w3.setCell ⟨bk, 30, none⟩ (.slice (some ⟨g3, 0, none⟩) (n + 1) cap3)).heap.size, 0, none⟩ 1 [.int .i64 (t + 1)] ?hx1 rfl (cell_one_new _ _ _) (one_one rfl) ?h63 ?hbytes ?hbase ?_)
        case hx1 => simp [Act.eval, World.setCell]
        case h63 => unfold maxLen; omega
        case hbytes => omega
        case hbase => simp [World.setCell]; omega
        intro g5 cap5 w5 hown5 hg5 hwh5 hkeep5
        obtain ⟨W4, HW4⟩ : ∃ W4, Hid (w3.setCell ⟨bk, 30, none⟩ (.slice (some ⟨g3, 0, none⟩) (n + 1) cap3) = W4) := ⟨_, hid rfl⟩
        rw [HW4.out] at hrow1 hg5
        have S5 : ∀ e, e ≠ 3 → Same e W4 w5 := fun e he => (Same.alloc e W4 _).trans (Same.grown (hrow1.alloc _) hg5 he)
        have C4 : Bkc W4 bk (.slice (some ⟨g3, 0, none⟩) (n + 1) cap3) (.slice a1 n c1) A ((T + 1 : Nat) : Int) D (U + (8000 + 300 * x)) := by
          rw [← HW4.out]
          have h9 := (C3.out.set 30 (.slice (some ⟨g3, 0, none⟩) (n + 1) cap3)).congr (fun i _ => bkF_0 _ _ _ _ _ _ _ i)
          rw [HNN.out] at h9
          exact h9
        have C5 := hid (bkc_same C4 (S5 50 (by decide)))
        have hf5 := C5.out.frozen 31
        have hlt5 := C5.out.lt
        have hc51 : w5.cell? ⟨bk, 31, none⟩ = some (.slice a1 n c1) := C5.out.cell (i := 31) (by decide)
        have hbut34 : But w3 W4 bk := by rw [← HW4.out]; exact But.setCell _ _ _ _
        have hBr4 : B ≤ W4.heap.size := by rw [hbut34.size]; exact hBr3
        have hb45 : Below B W4 w5 := ((Below.refl _ _).alloc hBr4 _).grown hg5 (by simp; omega) (fun j hj => (hrow1.lt j hj).1)
        have HK4 := HK3.out.step (But.below hbut34 hB) (fun b _ h2 _ _ _ => hbut34.block b h2)
        have HK5 : Hid (Kept w w5 B bk (.slice a0 n c0) (.slice a1 n c1) (.slice ao l.length co)) := hid (by
          refine HK4.step hb45 (fun b hb _ _ h4 _ => ?_)
          rw [hg5.block b (by simp; omega) (fun e => h4 e.symm), heap_alloc_old W4 _ hb])
        have S4 : ∀ e, e ≠ 50 → Same e w3 W4 := fun e he => by
          obtain ⟨cs, hcs⟩ := bkc_block C3.out
          rw [← HW4.out]
          exact Same.set hcs he _
        have HS25 : Hid (∀ e, e ≠ 3 → e ≠ 57 → e ≠ 50 → Same e w2 w5) := hid (fun e h1 h2 h3 => ((HS3.out e h2).trans (S4 e h3)).trans (S5 e h1))
        have HOWN5 := hid (own_same (own_same HOWN3.out (S4 57 (by decide))) (S5 57 (by decide)))
        have HR5 := hid hown5
        have HSZ5 : Hid (w3.heap.size ≤ w5.heap.size) := hid (by rw [← hbut34.size]; exact hb45.size)
        clear hown5 hg5 hwh5 hkeep5 S5 S4 C4 hrow1 hc31 hf3 hf31 hc30 HK4 hbut34 hb45
        go_wp2
        go_end0
        obtain ⟨cs5, hcs5⟩ := bkc_block C5.out
        have S56 : ∀ e, e ≠ 50 → Same e w5 (w5.setCell ⟨bk, 31, none⟩ (.slice (some ⟨g5, 0, none⟩) (n + 1) cap5)) := fun e he => Same.set hcs5 he _
        have hbut56 : But w5 (w5.setCell ⟨bk, 31, none⟩ (.slice (some ⟨g5, 0, none⟩) (n + 1) cap5)) bk := But.setCell _ _ _ _
        have et : (Value.int .i64 (t + 1)) = Value.int .i64 ((T + 1 : Nat) : Int) := by congr 1; have := HT.out; omega
        have FIN := HS2.out.pushNew (w' := w5.setCell ⟨bk, 31, none⟩ (.slice (some ⟨g5, 0, none⟩) (n + 1) cap5)) (T' := ((T + 1 : Nat) : Int)) (U' := U + (8000 + 300 * x)) (gv := .slice ao l.length co) (m := T + 1) (n := l.length)
          ((C5.out.set 31 _).congr (fun i _ => bkF_1 _ _ _ _ _ _ _ i)) (by rw [HNN.out]; exact own_same HOWN5.out (S56 57 (by decide))) (by rw [HNN.out, ← et]; exact own_same HR5.out (S56 3 (by decide)))
          ((HS25.out 85 (by decide) (by decide) (by decide)).trans (S56 85 (by decide))) (own_same (own_same HO3.out (HS25.out 85 (by decide) (by decide) (by decide))) (S56 85 (by decide))) (by omega) (by omega) HAP.out (by have := HSZ3.out; have := HSZ5.out; simp [World.setCell]; omega)
        refine ⟨rfl, _, _, _, _, _, FIN, by omega, hU2', Or.inr ⟨rfl, ?_⟩, ?_, ?_⟩
        · have := HX.out; omega
        · have h9 := HK5.out
          rw [← HNN.out] at h9
          exact h9.step (But.below hbut56 hB) (fun b _ h2 _ _ _ => hbut56.block b h2)
        · rcases HWH.out with h1 | h1
          · exact Or.inr ⟨g3, by have := HK2.out.below.size; omega, rfl⟩
          · left
            show some g3 = _
            rw [← h1, HNN.out]
end Go.Proofs.YtlgjmhemgfjgnaaGreat.Bk
