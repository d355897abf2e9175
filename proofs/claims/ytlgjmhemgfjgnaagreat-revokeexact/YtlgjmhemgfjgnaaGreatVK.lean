/- DeleteFunc, Prune. -/
import Derived.Test.YtlgjmhemgfjgnaaGreatVJ
namespace Go.Proofs.YtlgjmhemgfjgnaaGreat
open Go Go.RowKit
open Go.RowKit (wrap32 wrap64)

set_option maxRecDepth 100000 in
/-- what a row of the call's own is. -/
theorem OutK.open {B : Nat} {w : World} {v : Value} {l : List Ky} (h : OutK B w v l) : (v = .slice none 0 0 ∧ l = []) ∨ ∃ g cap rest, v = .slice (some ⟨g, 0, none⟩) l.length cap ∧ B ≤ g ∧ l.length ≤ cap ∧ cap ≤ maxLen ∧ Blk w g (kcs l ++ rest) 85 ∧ (kcs l ++ rest).length = cap * 19 := by
  obtain ⟨ho, h1, h2⟩ := h
  rcases h2 with ⟨rfl, h0⟩ | ⟨g, cap, cur, rfl, hb, hg, hle, hm, hs, ht⟩
  · exact .inl ⟨rfl, List.eq_nil_of_length_eq_zero h0⟩
  · have e : kcs l ++ cur.toList.drop (l.length * 19) = cur.toList := by rw [← ht, List.take_append_drop]
    refine .inr ⟨g, cap, cur.toList.drop (l.length * 19), rfl, hb, hle, hm, ?_, ?_⟩
    · rw [e]; exact hg
    · rw [e, Array.length_toList]; exact hs
set_option maxRecDepth 100000 in
theorem OutK.of {B : Nat} {w : World} {g n cap : Nat} {l : List Ky} {rest : List Value} (ho : okL l) (hb : B ≤ g) (hn : l.length = n) (hle : n ≤ cap) (hm : cap ≤ maxLen) (hB : Blk w g (kcs l ++ rest) 85) (hs : (kcs l ++ rest).length = cap * 19) : OutK B w (.slice (some ⟨g, 0, none⟩) n cap) l := by
  subst hn
  refine ⟨ho, ?_, .inr ⟨g, cap, (kcs l ++ rest).toArray, rfl, hb, hB, hle, hm, by simpa using hs, ?_⟩⟩
  · exact kcs_length l ho.len
  · show (kcs l ++ rest).take (l.length * 19) = kcs l
    rw [← kcs_length l ho.len, List.take_left]
set_option maxRecDepth 100000 in
set_option maxHeartbeats 1600000 in
theorem delete_any (w : World) (B : Nat) (v : Value) (l : List Ky) (p : Nat) (now : Int) (hv : OutK B w v l) (hl : l.length ≤ 1099511627776) (hp : w.cell? ⟨p, 0, none⟩ = some (.int .i64 now)) (hpv : v.ownBlock ≠ some p) :
    Calls Tryz.prog 40 #[v, .func (.func 41) #[] #[.pointer (some ⟨p, 0, none⟩)]] w fun e w' => ∃ v', e = .returned v' ∧ OutK B w' v' (l.filter (fun r => decide (now < r.ex))) ∧ w.grownBy w' v.ownBlock := by
  obtain ⟨m, hm, hj, hi, hfm⟩ := first_bad l now
  have HIx : Hid (∀ u, w.grownBy u none → Calls Tryz.prog 80 #[v, .func (.func 41) #[] #[.pointer (some ⟨p, 0, none⟩)]] u fun e w' => e = .returned (.int .i64 (if m < l.length then (m : Int) else -1)) ∧ u.grownBy w' none) := hid (fun u hu =>
    index_any u v _ l p now m (hv.keep hu).rd hl ((cell_at hu (cell_lt hp) (by simp)).trans hp) hm hj hi)
  have HV := hid hv
  by_cases hml : m < l.length
  · rw [if_pos hml] at HIx
    rcases hv.open with ⟨_, h0⟩ | ⟨g, cap, rest, rfl, hgB, hcap, hmax, hblk, hlen⟩
    · rw [h0] at hml; simp at hml
    · have hpl : p < w.heap.size := cell_lt hp
      have hpg : p ≠ g := fun e => hpv (by rw [e]; rfl)
      have HFu : Hid (∀ (u : World) (k : Ky), k.id.length = 16 → w.grownBy u (some g) → Calls Tryz.prog 41 #[.agg k.cells.toArray, .pointer (some ⟨p, 0, none⟩)] u fun e w' => e = .returned (.bool (decide (k.ex ≤ now))) ∧ u.grownBy w' none) := hid (fun u k hk hu => le_ex u k p now hk ((cell_at hu hpl (by simp; omega)).trans hp))
      obtain ⟨n, HN⟩ : ∃ n, Hid (l.length = n) := ⟨_, hid rfl⟩
      have HO := hid hv.1
      have HB0 := hid hblk
      have HLn := hid hlen
      have HB := hid hgB
      have HMx := hid hmax
      have hb8 := hi hml
      have HT0 : Hid (l.take m = (l.take (m + 1)).filter (fun r => decide (now < r.ex))) := hid (by
        rw [List.take_succ_eq_append_getElem hml, List.filter_append, ← hfm, List.filter_cons_of_neg (by simpa using hb8)]
        simp)
      rw [HN.out] at HIx hml hcap hl
      have HC : Hid (n ≤ cap ∧ (n : Int) ≤ 1099511627776) := hid ⟨hcap, by omega⟩
      have hm1 : ((m : Int) == -1) = false := beq_eq_false_iff_ne.2 (by omega)
      have hm2 : ¬ (m : Int) = -1 := by omega
      have hn9 : (n : Int) ≤ 1099511627776 := HC.out.2
      show Calls Tryz.prog 40 #[.slice (some ⟨g, 0, none⟩) l.length cap, _] w fun e w' => ∃ v', e = .returned v' ∧ OutK B w' v' (l.filter (fun r => decide (now < r.ex))) ∧ w.grownBy w' (some g)
      rw [HN.out]
      clear hv hp hpv hj hi hfm hm hblk hlen hgB hmax hb8 hpl hpg HV hl
      go_enter Tryz.func40, Tryz.ntmps40
      go_wp2_with (go_at_call 80; (with_reducible refine (HIx.out _ (grefl _ _)).mono ?_); rintro e w1 ⟨rfl, hg1⟩; have HG1 := hid (gsome hg1 (some g)); have HB1 := hid (HB0.out.keep hg1); clear hg1)
      go_loopw [5, 6] (fun iv jv wr => ∃ (i j : Nat) (mm : List Ky), iv = .int .i64 i ∧ jv = .int .i64 j ∧ i < j ∧ j ≤ n ∧ Hid (mm.length = n) ∧ Hid (okL mm) ∧ Hid (mm.take i = (l.take j).filter (fun r => decide (now < r.ex))) ∧ Hid (mm.drop j = l.drop j) ∧ Hid (Blk wr g (kcs mm ++ rest) 85) ∧ Hid (w.grownBy wr (some g))) (fun _ jv _ => n - (intOf jv).toNat)
      case atStart => exact ⟨m, m + 1, l, rfl, by go_num, by omega, by omega, HN, HO, HT0, hid rfl, HB1, HG1⟩
      case round =>
        clear HT0
        obtain ⟨i, j, mm, rfl, rfl, hij, hjn, HML, HMO, HMT, HMD, HBk, HG⟩ := hrel
        by_cases hlt : j < n
        · have hlt' : (j : Int) < (n : Int) := by omega
          have hjm : j < mm.length := by rw [HML.out]; exact hlt
          have hjl : j < l.length := by rw [HN.out]; exact hlt
          have him : i < mm.length := by rw [HML.out]; omega
          have hej : mm[j] = l[j] := by
            have := HMD.out
            rw [List.drop_eq_getElem_cons hjm, List.drop_eq_getElem_cons hjl] at this
            exact (List.cons.inj this).1
          have hdj : mm.drop (j + 1) = l.drop (j + 1) := by
            have := HMD.out
            rw [List.drop_eq_getElem_cons hjm, List.drop_eq_getElem_cons hjl] at this
            exact (List.cons.inj this).2
          have HEl := hid (HBk.out.elem HMO.out j hjm)
          have hok := HMO.out _ (List.getElem_mem hjm)
          have HFi := hid (fun u hu => HFu.out u mm[j] hok.2.1 hu)
          have HSp := hid (splice_key mm HMO.out i him rest mm[j] hok.2.1)
          have HSo := hid (okL_set HMO.out i hok)
          have HSd : Hid ((mm.set i mm[j]).drop (j + 1) = l.drop (j + 1)) := hid (by rw [List.drop_set_of_lt (by omega)]; exact hdj)
          have HSl : Hid ((mm.set i mm[j]).length = n) := hid (by rw [List.length_set]; exact HML.out)
          have HST : Hid (¬ mm[j].ex ≤ now → (mm.set i mm[j]).take (i + 1) = (l.take (j + 1)).filter (fun r => decide (now < r.ex))) := hid (fun hx => by
            rw [List.take_succ_eq_append_getElem hjl, List.filter_append, ← HMT.out, ← hej, List.filter_cons_of_pos (by simpa using hx), List.filter_nil, List.take_succ_eq_append_getElem (by rw [List.length_set]; exact him), List.getElem_set_self, List.take_set_of_le (Nat.le_refl _)])
          have HSU : Hid (mm[j].ex ≤ now → mm.take i = (l.take (j + 1)).filter (fun r => decide (now < r.ex))) := hid (fun hx => by
            rw [List.take_succ_eq_append_getElem hjl, List.filter_append, ← HMT.out, ← hej, List.filter_cons_of_neg (by simpa using hx), List.filter_nil, List.append_nil])
          have HSD2 : Hid (mm.drop (j + 1) = l.drop (j + 1)) := hid hdj
          have HFit : Hid (i * 19 + 19 ≤ (kcs mm ++ rest).length) := hid (by rw [List.length_append, kcs_length mm HMO.out.len, HML.out]; omega)
          obtain ⟨mj, hmj⟩ : ∃ x, mm[j] = x := ⟨_, rfl⟩
          rw [hmj] at HEl hok HFi HSp HSo HSd HSl HST HSU
          have HKL : Hid (mj.cells.length = 19) := hid (Ky.cells_length hok.2.1)
          have HK1 : Hid (∀ v ∈ mj.cells, v.oneCell' = true) := hid (Ky.one _)
          obtain ⟨K, HKe⟩ : ∃ x, Hid (mj.cells = x) := ⟨_, hid rfl⟩
          rw [HKe.out] at HEl HFi HSp HKL HK1
          obtain ⟨gd, HGd⟩ : ∃ x, Hid (decide (mj.ex ≤ now) = x) := ⟨_, hid rfl⟩
          rw [HGd.out] at HFi
          obtain ⟨m2, HM2⟩ : ∃ x, Hid (mm.set i mj = x) := ⟨_, hid rfl⟩
          rw [HM2.out] at HSp HSo HSd HSl HST
          have hi9 : (i : Int) < (n : Int) := by omega
          have hic : (i : Int) < (cap : Int) := by have := HC.out; omega
          have HIJ : Hid (i < j ∧ j < n) := hid ⟨hij, hlt⟩
          obtain ⟨CS, HCS⟩ : ∃ x, Hid (kcs mm ++ rest = x) := ⟨_, hid rfl⟩
          rw [HCS.out] at HBk HSp HFit
          clear hjm hjl him hej hdj hok hmj HMT HMD HKe HM2 hij hjn hlt HFu
          cases gd with
          | true =>
            as_aux_lemma =>
            have hx : mj.ex ≤ now := by have := HGd.out; simpa using this
            have HSu := hid (HSU.out hx)
            clear hx HSU HST HGd HSp HSo HSd HSl
            go_wp2_with (first
              | (with_reducible refine wpList_load_part (by with_unfolding_all rfl) 85 _ (by with_unfolding_all rfl) g (j * 19) K _ (by with_unfolding_all rfl) HEl.out Tryz.underlying85 (by with_unfolding_all rfl) (by rw [HKL.out]; exact Tryz.size85) ?_)
              | ((with_reducible refine wpList_alloc_row (by with_unfolding_all rfl) 85 (by with_unfolding_all rfl) zky.cells Tryz.zero85 ?_); intro w3 BB ss gg; have HB3 := hid BB; have HG3 := hid gg; clear BB ss gg)
              | ((with_reducible refine wpList_store_all (by with_unfolding_all rfl) 85 _ _ (by with_unfolding_all rfl) _ zky.cells K 85 (by with_unfolding_all rfl) (by with_unfolding_all rfl) HB3.out (by rw [HKL.out]; with_unfolding_all rfl) (by rw [HKL.out]; exact Tryz.size85) HK1.out ?_); intro w4 BB gg ss; have HC4 := hid BB; have HU4 := hid (HG3.out.andThen gg (fun j hj => .inl (by injection hj with hj; omega))); clear BB gg ss)
              | (with_reducible refine wpList_load_part (by with_unfolding_all rfl) 85 _ (by with_unfolding_all rfl) wr.heap.size 0 K _ (by with_unfolding_all rfl) HC4.out.whole Tryz.underlying85 (by with_unfolding_all rfl) (by rw [HKL.out]; exact Tryz.size85) ?_)
              | (go_at_call 41; (with_reducible refine (HFi.out _ (gtrans HG.out (gsome HU4.out _))).mono ?_); rintro e w5 ⟨rfl, hg5⟩; have HG5 := hid (gtrans HU4.out hg5); clear hg5))
            go_roundw
            case rel => exact ⟨i, j + 1, mm, rfl, by go_num, by have := HIJ.out; omega, by have := HIJ.out; omega, HML, HMO, HSu, HSD2, by rw [HCS.out]; exact hid (HBk.out.keep HG5.out), hid (gtrans HG.out (gsome HG5.out _))⟩
            case measure => have := HIJ.out; simp [intOf]; omega
          | false =>
            as_aux_lemma =>
            have hx : ¬ mj.ex ≤ now := by have := HGd.out; simpa using this
            have HSt := hid (HST.out hx)
            clear hx HSU HST HGd
            go_wp2_with (first
              | (with_reducible refine wpList_load_part (by with_unfolding_all rfl) 85 _ (by with_unfolding_all rfl) g (j * 19) K _ (by with_unfolding_all rfl) HEl.out Tryz.underlying85 (by with_unfolding_all rfl) (by rw [HKL.out]; exact Tryz.size85) ?_)
              | ((with_reducible refine wpList_alloc_row (by with_unfolding_all rfl) 85 (by with_unfolding_all rfl) zky.cells Tryz.zero85 ?_); intro w3 BB ss gg; have HB3 := hid BB; have HG3 := hid gg; clear BB ss gg)
              | ((with_reducible refine wpList_store_all (by with_unfolding_all rfl) 85 _ _ (by with_unfolding_all rfl) _ zky.cells K 85 (by with_unfolding_all rfl) (by with_unfolding_all rfl) HB3.out (by rw [HKL.out]; with_unfolding_all rfl) (by rw [HKL.out]; exact Tryz.size85) HK1.out ?_); intro w4 BB gg ss; have HC4 := hid BB; have HU4 := hid (HG3.out.andThen gg (fun j hj => .inl (by injection hj with hj; omega))); clear BB gg ss)
              | (have hmark := HG5.out; clear hmark; (with_reducible refine wpList_load_part (by with_unfolding_all rfl) 85 _ (by with_unfolding_all rfl) wr.heap.size 0 K _ (by with_unfolding_all rfl) HC5.out.whole Tryz.underlying85 (by with_unfolding_all rfl) (by rw [HKL.out]; exact Tryz.size85) ?_))
              | (with_reducible refine wpList_load_part (by with_unfolding_all rfl) 85 _ (by with_unfolding_all rfl) wr.heap.size 0 K _ (by with_unfolding_all rfl) HC4.out.whole Tryz.underlying85 (by with_unfolding_all rfl) (by rw [HKL.out]; exact Tryz.size85) ?_)
              | (go_at_call 41; (with_reducible refine (HFi.out _ (gtrans HG.out (gsome HU4.out _))).mono ?_); rintro e w5 ⟨rfl, hg5⟩; have HG5 := hid (gtrans HU4.out hg5); have HC5 := hid (HC4.out.keep hg5); have HB5 := hid (HBk.out.keep HG5.out); clear hg5)
              | ((with_reducible refine wpList_store_part (by with_unfolding_all rfl) 85 _ _ (by with_unfolding_all rfl) g (i * 19) CS K 85 (by with_unfolding_all rfl) (by with_unfolding_all rfl) HB5.out (by rw [HKL.out]; exact HFit.out) (by rw [HKL.out]; exact Tryz.size85) HK1.out ?_); intro w6 BB gg ss; have HB6 := hid BB; have HG6 := hid (gtrans (gtrans HG.out (gsome HG5.out (some g))) gg); clear BB gg ss))
            go_roundw
            case rel => exact ⟨i + 1, j + 1, m2, by go_num, by go_num, by have := HIJ.out; omega, by have := HIJ.out; omega, HSl, HSo, HSt, HSd, by rw [← HSp.out]; exact HB6, HG6⟩
            case measure => have := HIJ.out; simp [intOf]; omega
        · as_aux_lemma =>
          have hge : ¬ (j : Int) < (n : Int) := by omega
          obtain rfl : j = n := by omega
          have hi9 : (i : Int) ≤ (j : Int) := by omega
          have hic : (i : Int) ≤ (cap : Int) := by have := HC.out; omega
          have HFin : Hid (mm.take i = l.filter (fun r => decide (now < r.ex))) := hid (by rw [HMT.out, List.take_of_length_le (by rw [HN.out]; exact Nat.le_refl _)])
          have him : i ≤ mm.length := by rw [HML.out]; omega
          have hkl : (kcs (mm.take i)).length = i * 19 := by rw [kcs_length _ (fun k hk => HMO.out.len k (List.mem_of_mem_take hk)), List.length_take, Nat.min_eq_left him]
          have hmml : (kcs mm ++ rest).length = cap * 19 := by
            have := HLn.out
            rw [List.length_append, kcs_length l HO.out.len, HN.out] at this
            rw [List.length_append, kcs_length mm HMO.out.len, HML.out]
            exact this
          obtain ⟨rest2, hsp, hl2⟩ : ∃ rest2, splice (kcs mm ++ rest) (i * 19) (Builtin.zeroCells zky.cells.toArray (j - i)).toList = kcs (mm.take i) ++ rest2 ∧ (kcs (mm.take i) ++ rest2).length = cap * 19 := by
            refine ⟨(Builtin.zeroCells zky.cells.toArray (j - i)).toList ++ (kcs mm ++ rest).drop (i * 19 + (Builtin.zeroCells zky.cells.toArray (j - i)).toList.length), ?_, ?_⟩
            · unfold splice
              have : (kcs mm ++ rest).take (i * 19) = kcs (mm.take i) := by
                have e : kcs mm ++ rest = kcs (mm.take i) ++ (kcs (mm.drop i) ++ rest) := by rw [← List.append_assoc, ← kcs_append, List.take_append_drop]
                rw [e, ← hkl, List.take_left]
              rw [this]
            · have h1 := (zero_cells (j - i)).1
              have h2 := HC.out.1
              rw [List.length_append, hkl, List.length_append, List.length_drop, h1, hmml]
              omega
          have HRun : Hid (∀ (u : World) (ty : TypeId), Blk u g (kcs mm ++ rest) 85 → (Builtin.clear_ #[57] ty #[.slice (some ⟨g, i * 19, none⟩) (j - i) (cap - i)]).run Tryz.prog u = .ok (.tuple #[]) (u.setRow g (kcs (mm.take i) ++ rest2).toArray)) := hid (fun u ty hb => by
            rw [← hsp]
            exact run_clear hb (by omega) (by rw [hmml]; have := HC.out.1; omega) ty)
          have HSl : Hid (∀ u, (Instr.sliceAt 57 (.slice (some ⟨g, 0, none⟩) j cap) (some (.int .i64 i)) none none).run Tryz.prog u = .ok (.slice (some ⟨g, i * 19, none⟩) (j - i) (cap - i)) u) := hid (fun u => by
            rw [run_sliceAt_slice u 57 _ _ _ _ Tryz.underlying57, run_slice_l u 57 _ j cap Tryz.underlying57 .i64 i (by omega) (by omega), szE23]
            simp only [Result.andThen_ok, Int.toNat_natCast, sliced]
            rw [if_neg (by have := HC.out.1; omega)]
            show Result.ok (Value.slice (some (Addr.add _ _)) _ _) u = _
            rw [Addr.add_lit, Nat.zero_add])
          have HSh : Hid (∀ u, (Instr.sliceAt 57 (.slice (some ⟨g, 0, none⟩) j cap) none (some (.int .i64 i)) none).run Tryz.prog u = .ok (.slice (some ⟨g, 0, none⟩) i cap) u) := hid (fun u => by
            rw [run_sliceAt_slice u 57 _ _ _ _ Tryz.underlying57, run_slice_h u 57 _ j cap Tryz.underlying57 .i64 i (by omega) (by omega), szE23]
            simp only [Result.andThen_ok, Int.toNat_natCast, sliced, Nat.sub_zero]
            split <;> rfl)
          have HEnd : Hid (∀ u, Blk u g (kcs (mm.take i) ++ rest2) 85 → OutK B u (.slice (some ⟨g, 0, none⟩) i cap) (l.filter (fun r => decide (now < r.ex)))) := hid (fun u hb => by
            rw [← HFin.out]
            exact OutK.of (fun k hk => HMO.out k (List.mem_of_mem_take hk)) HB.out (by rw [List.length_take, Nat.min_eq_left him]) (by omega) HMx.out hb hl2)
          obtain ⟨CS, HCS⟩ : ∃ x, Hid (kcs mm ++ rest = x) := ⟨_, hid rfl⟩
          rw [HCS.out] at HBk HRun
          obtain ⟨CZ, HCZ⟩ : ∃ x, Hid (kcs (mm.take i) ++ rest2 = x) := ⟨_, hid rfl⟩
          rw [HCZ.out] at HRun HEnd
          obtain ⟨W9, hW9⟩ : ∃ x, wr.setRow g CZ.toArray = x := ⟨_, rfl⟩
          have HB9 : Hid (Blk W9 g CZ 85) := hid (by rw [← hW9]; exact setRow_heap wr g _ _ 85 _ HBk.out)
          have HG9 : Hid (wr.grownBy W9 (some g)) := hid (by rw [← hW9]; exact grow_setRow _ _ _)
          have HRn : Hid (∀ ty, (Builtin.clear_ #[57] ty #[.slice (some ⟨g, i * 19, none⟩) (j - i) (cap - i)]).run Tryz.prog wr = .ok (.tuple #[]) W9) := hid (fun ty => by rw [← hW9]; exact HRun.out _ _ HBk.out)
          clear hsp hl2 hmml hkl him HRun HCS HCZ hW9 HMT HMD hij hjn hlt HFin
          go_wp2_with (with_reducible refine wpList_slice_l (by with_unfolding_all rfl) 57 _ _ (by with_unfolding_all rfl) _ _ _ (by with_unfolding_all rfl) (by with_unfolding_all rfl) (HSl.out _) ?_)
          rw [HRn.out]
          simp only [Result.andThen]
          rw [Oper.upon_value]
          go_wp2_with (with_reducible refine wpList_slice_h (by with_unfolding_all rfl) 57 _ _ (by with_unfolding_all rfl) _ _ _ (by with_unfolding_all rfl) (by with_unfolding_all rfl) (HSh.out _) ?_)
          go_ret
          exact ⟨_, rfl, HEnd.out _ HB9.out, gtrans HG.out HG9.out⟩
  · rw [if_neg hml] at HIx
    have hm' : m = l.length := by omega
    have HFl : Hid (l.filter (fun r => decide (now < r.ex)) = l) := hid (by rw [hm', List.take_length] at hfm; exact hfm.symm)
    rw [HFl.out]
    obtain ⟨a, n, c, hve⟩ : ∃ a n c, v = .slice a n c := by
      rcases hv.open with ⟨h, _⟩ | ⟨g, cap, rest, h, _⟩
      · exact ⟨_, _, _, h⟩
      · exact ⟨_, _, _, h⟩
    subst hve
    clear hv hp hpv hj hi hfm hm hml hm' hl
    go_enter Tryz.func40, Tryz.ntmps40
    go_wp2_with (go_at_call 80; go_loud ((with_reducible refine (HIx.out _ (grefl _ _)).mono ?_)); rintro e w1 ⟨rfl, hg1⟩; have HG1 := hid hg1; clear hg1)
    go_ret
    exact ⟨_, rfl, HV.out.keep HG1.out, gsome HG1.out _⟩
end Go.Proofs.YtlgjmhemgfjgnaaGreat
