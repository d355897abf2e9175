/- What the statements lend and look at: Eq, markAt, Lend, Intact. -/
import Derived.Test.YtmiojplbcjhggaaDoorWalkO
import Derived.Laws.BytesArg
import Derived.OwnWalk
namespace Go.Proofs.YtmiojplbcjhggaaDoor
open Go Go.RowKit
open Go.RowKit (wrap32 wrap64)

theorem strOfNums_list (l : List UInt8) : strOfNums (l.map fun b => (b.toNat : Int)) = ⟨l.toArray⟩ := by
  unfold strOfNums
  rw [List.map_map, show l.map ((fun n : Int => UInt8.ofNat n.toNat) ∘ fun b : UInt8 => (b.toNat : Int)) = l.map id from List.map_congr_left fun x _ => by simp, List.map_id]
theorem Rd.convert {w : World} {F : Nat → Prop} {v : Value} {l : List UInt8} (h : Rd w F v l) : (convert 23 9 v).run Tryd.prog w = .ok (.string ⟨l.toArray⟩) w := by
  obtain ⟨a, b, off, c, rfl, hc, hn, ha, hcell⟩ := h
  by_cases hl : 0 < l.length
  · rw [(ha hl).1]
    have := run_convert_bytes_arg w 23 5 Tryd.underlying23 Tryd.underlying5 b off l.length c (l.map fun b => (b.toNat : Int)) (by simp) (fun i hi => by
      simp [hcell i hi, List.getD, List.getElem?_eq_getElem hi]) 9 Tryd.underlying9
    rw [this, strOfNums_list]
  · have : l = [] := by cases l with | nil => rfl | cons _ _ => simp at hl
    subst this
    rcases a with _ | ⟨b', o', sp⟩
    · exact run_convert_bytes_nil w 23 5 Tryd.underlying23 Tryd.underlying5 0 c 9 Tryd.underlying9
    · rw [run_convert_bytes_string w 23 9 5 _ _ _ Tryd.underlying23 Tryd.underlying5 Tryd.underlying9]
      have hl := run_loadCells_list (P := Tryd.prog) w ⟨b', o', sp⟩ [] (fun j v hj => by simp at hj)
      have := run_bytesToString (P := Tryd.prog) w ⟨b', o', sp⟩ 0 c [] (by simpa using hl)
      exact this

theorem u8_neq {x y : UInt8} (h : ¬ x = y) : ¬ (x.toNat : Int) = (y.toNat : Int) := fun e => h (UInt8.toNat_inj.1 (by omega))
theorem take_step {x y : List UInt8} {i : Nat} (hl : x.length = y.length) (hi : i < x.length) (h : x.take i = y.take i) (he : x[i] = y[i]'(by omega)) : x.take (i + 1) = y.take (i + 1) := by
  rw [List.take_succ_eq_append_getElem hi, List.take_succ_eq_append_getElem (by omega), h, he]

set_option maxRecDepth 100000 in
set_option maxHeartbeats 800000 in
theorem eq_any (w : World) (va vb : Value) (F G : Nat → Prop) (x y : List UInt8) (hx : Rd w F va x) (hy : Rd w G vb y) (hxl : x.length ≤ 140737488355328) :
    Calls Tryd.prog 24 #[va, vb] w fun e w' => e = .returned (.bool (decide (x = y))) ∧ ∃ k, w' = w.drewN k := by
  obtain ⟨a, b0, off, c, rfl, _, _, ha, hca⟩ := hx
  obtain ⟨a', b0', off', c', rfl, _, _, ha', hcb⟩ := hy
  by_cases hl : x.length = y.length
  · have HL := hid hl
    have HA := hid ha
    have HA' := hid ha'
    have HCA := hid hca
    have HCB := hid hcb
    obtain ⟨n, HN⟩ : ∃ n, Hid (x.length = n) := ⟨_, hid rfl⟩
    obtain ⟨D, HD⟩ : ∃ D, Hid (decide (x = y) = D) := ⟨_, hid rfl⟩
    rw [HD.out, ← hl, HN.out]
    rw [HN.out] at hxl
    clear hl ha ha' hca hcb
    go_enter Tryd.func24, Tryd.ntmps24
    go_wp2_with fail
    go_loopw [5] (fun iv wr => ∃ i : Nat, iv = .int .i64 i ∧ i ≤ n ∧ Hid (x.take i = y.take i) ∧ ∃ k, Hid (wr = w.drewN k)) (fun iv _ => n - (intOf iv).toNat)
    case atStart => exact ⟨0, rfl, Nat.zero_le _, hid rfl, 0, hid rfl⟩
    case round =>
      obtain ⟨i, rfl, hi, HT, d, HDr⟩ := hrel
      by_cases hlt : i < n
      · have hix : i < x.length := by rw [HN.out]; exact hlt
        have hiy : i < y.length := by rw [← HL.out]; exact hix
        obtain ⟨rfl, r1, _⟩ := HA.out (by omega)
        obtain ⟨rfl, r2, _⟩ := HA'.out (by omega)
        obtain ⟨xi, HXI⟩ : ∃ z, Hid (x[i] = z) := ⟨_, hid rfl⟩
        obtain ⟨yi, HYI⟩ : ∃ z, Hid (y[i] = z) := ⟨_, hid rfl⟩
        have q1 : wr.cell? ⟨b0, off + i, none⟩ = some (.int .u8 xi.toNat) := by rw [HDr.out, ← HXI.out]; exact HCA.out i hix
        have q2 : wr.cell? ⟨b0', off' + i, none⟩ = some (.int .u8 yi.toNat) := by rw [HDr.out, ← HYI.out]; exact HCB.out i hiy
        have s1 : b0 < wr.heap.size := by rw [HDr.out]; exact r1
        have s2 : b0' < wr.heap.size := by rw [HDr.out]; exact r2
        have hlt' : (i : Int) < (n : Int) := by omega
        clear r1 r2
        by_cases he : xi = yi
        · have HTN : Hid (x.take (i + 1) = y.take (i + 1)) := hid (take_step HL.out hix HT.out (by rw [HXI.out, HYI.out]; exact he))
          subst he
          obtain ⟨z, HZ⟩ : ∃ z : Int, Hid ((xi.toNat : Int) = z) := ⟨_, hid rfl⟩
          rw [HZ.out] at q1 q2
          clear HXI HYI hix hiy
          go_wp2_with fail
          go_quiet (fail)
          rename_i nq
          go_wp2_with fail
          go_roundw
          case rel => exact ⟨i + 1, by go_num, by omega, HTN, d + nq, hid (by rw [HDr.out, World.drewN_drewN])⟩
          case measure => simp [intOf]; omega
        · have hne := u8_neq he
          have HDf : Hid (D = false) := hid (by rw [← HD.out]; exact decide_eq_false (fun e => he (by rw [← HXI.out, ← HYI.out]; simp only [e])))
          obtain ⟨z, HZ⟩ : ∃ z : Int, Hid ((xi.toNat : Int) = z) := ⟨_, hid rfl⟩
          obtain ⟨z', HZ'⟩ : ∃ z : Int, Hid ((yi.toNat : Int) = z) := ⟨_, hid rfl⟩
          rw [HZ.out] at q1 hne
          rw [HZ'.out] at q2 hne
          clear HXI HYI he hix hiy
          go_wp2_with fail
          go_quiet (fail)
          rename_i nq
          go_wp2_with fail
          go_ret
          exact ⟨by rw [HDf.out]; rfl, d + nq, by rw [HDr.out, World.drewN_drewN]⟩
      · have he : i = n := by omega
        subst he
        have HDt : Hid (D = true) := hid (by
          rw [← HD.out]
          refine decide_eq_true ?_
          have := HT.out
          rw [List.take_of_length_le (by rw [HN.out]; exact Nat.le_refl _), List.take_of_length_le (by rw [← HL.out, HN.out]; exact Nat.le_refl _)] at this
          exact this)
        go_wp2_with fail
        go_ret
        exact ⟨by rw [HDt.out]; rfl, d, HDr.out⟩
  · have hb : ¬ (x.length : Int) = (y.length : Int) := by omega
    have HDf : Hid (decide (x = y) = false) := hid (decide_eq_false (fun e => hl (by rw [e])))
    rw [HDf.out]
    obtain ⟨n, HN⟩ : ∃ n, Hid (x.length = n) := ⟨_, hid rfl⟩
    obtain ⟨m, HM⟩ : ∃ n, Hid (y.length = n) := ⟨_, hid rfl⟩
    rw [HN.out, HM.out] at hb ⊢
    clear hl ha ha' hca hcb
    go_enter Tryd.func24, Tryd.ntmps24
    go_wp2_with fail
    go_ret
    exact ⟨rfl, 0, rfl⟩

/-- append of bytes that can be read onto a row of the call's own. -/
theorem wpList_append_rdW {w : World} {ops : Array Oper} {rest : List Oper} {o : Oper} {a : Act} {Q : Exit → Act → World → Prop} (hgd : o.guard = none) (s x : Operand)
    (ho : o.op = .call { callee := .builtin .append, args := #[s, x], argTypes := #[23, 23] })
    (B : Nat) (F : Nat → Prop) (acc l : List UInt8) (hown : Out B w (a.eval s) acc) (hx : Rd w F (a.eval x) l) (hn : acc.length + l.length ≤ 140737488355328) (hB : B ≤ w.heap.size)
    (h : ∀ v' w', Out B w' v' (acc ++ l) → w.grownBy w' (a.eval s).ownBlock → (a.eval s ≠ .slice none 0 0 → v' ≠ .slice none 0 0) → wpList Tryd.prog ops Q rest (a.put o.dst v') w') : wpList Tryd.prog ops Q (o :: rest) a w := by
  obtain ⟨inf, hi, hz0, hz1, hz2⟩ := info_parts Tryd.info5
  obtain ⟨p, b, off, c, e, hc, hnn, ha, hcell⟩ := hx
  cases p with
  | none =>
    have c0 := hnn rfl
    have hl : l = [] := List.eq_nil_of_length_eq_zero (by omega)
    subst hl
    subst c0
    refine wpList_append_own_none hgd s x 23 ho B 5 inf 1 Tryd.underlying23 hi _ _ _ rfl hown e ?_
    exact h _ w (by rw [List.append_nil]; exact hown) (World.grownBy.refl _ _) (fun h => h)
  | some q =>
    refine wpList_append_own w hgd s x 23 ho B 5 inf (.int .u8 0) 1 1 Tryd.underlying23 hi hz0 hz1 hz2 rfl (by decide) _ _ _ rfl hown q l.length c (Lib.byteCells l) e (by simp [Lib.byteCells]) ?_ ?_ (by unfold maxLen; omega) (by omega) hB ?_
    · intro j u hu
      have hj : j < l.length := by have := (List.getElem?_eq_some_iff.1 hu).1; simpa [Lib.byteCells] using this
      have hq := (ha (by omega)).1
      injection hq with hq
      rw [hq, Addr.add_lit, hcell j hj, ← hu]
      simp [Lib.byteCells, List.getElem?_eq_getElem hj]
    · intro u hu
      unfold Lib.byteCells at hu
      obtain ⟨_, _, rfl⟩ := List.mem_map.1 hu
      rfl
    · intro v' w' h1 h2 h3
      exact h v' w' (Out.more h1 rfl rfl) h2 (fun hv e => hv (h3.1 e).1)
/-- append of one byte. -/
theorem wpList_append_byteW {w : World} {ops : Array Oper} {rest : List Oper} {o : Oper} {a : Act} {Q : Exit → Act → World → Prop} (hgd : o.guard = none) (s x : Operand)
    (ho : o.op = .call { callee := .builtin .append, args := #[s, x], argTypes := #[23, 23] })
    (B L : Nat) (acc : List UInt8) (c : UInt8) (hown : Out B w (a.eval s) acc) (hx : a.eval x = .slice (some ⟨L, 0, none⟩) 1 1) (hL : w.heap[L]? = some (.cells #[.int .u8 c.toNat] 5 (0, 0))) (hn : acc.length + 1 ≤ 140737488355328) (hB : B ≤ w.heap.size)
    (h : ∀ v' w', Out B w' v' (acc ++ [c]) → w.grownBy w' (a.eval s).ownBlock → wpList Tryd.prog ops Q rest (a.put o.dst v') w') : wpList Tryd.prog ops Q (o :: rest) a w := by
  refine wpList_append_rdW hgd s x ho B (fun _ => True) acc [c] hown ?_ hn hB (fun v' w' h1 h2 _ => h v' w' h1 h2)
  rw [hx]
  refine ⟨some ⟨L, 0, none⟩, L, 0, 1, rfl, Nat.le_refl _, (fun h => by cases h), fun _ => ⟨rfl, (Array.getElem?_eq_some_iff.1 hL).1, trivial⟩, fun i hi => ?_⟩
  have : i = 0 := by simp at hi; exact hi
  subst this
  simp [World.cell?, hL]
/-- Mark i behind what is lent. -/
def mkA (i : Nat) : UInt8 := UInt8.ofNat (165 - i)
set_option maxRecDepth 100000 in
theorem markAt_any (i : Nat) (w : World) (hi : i < 70) : Calls Tryd.prog 33 #[.int .i64 i] w fun e w' => e = .returned (.int .u8 (mkA i).toNat) ∧ w' = w := by
  have e : ((mkA i).toNat : Int) = 165 - (i : Int) := by
    unfold mkA
    rw [UInt8.toNat_ofNat']
    omega
  rw [e]
  clear e
  go_enter Tryd.func33, Tryd.ntmps33
  go_wp2
  go_ret
  exact ⟨rfl, rfl⟩
def mkL (n : Nat) : List UInt8 := (List.range n).map mkA
theorem mkL_length (n : Nat) : (mkL n).length = n := by simp [mkL]
theorem mkL_succ (n : Nat) : mkL (n + 1) = mkL n ++ [mkA n] := by simp [mkL, List.range_succ]
theorem lm_length (l : List UInt8) (n : Nat) : (l ++ mkL n).length = l.length + n := by rw [List.length_append, mkL_length]

/-- What is lent: the bytes, marks behind them, in a row of one's own, from block B on. -/
def Lent (B : Nat) (w : World) (v : Value) (l : List UInt8) : Prop :=
  ∃ (b c : Nat), v = .slice (some ⟨b, 0, none⟩) l.length c ∧ B ≤ b ∧ b < w.heap.size ∧ l.length + 70 ≤ c ∧ ∀ i (h : i < l.length + 70), w.cell? ⟨b, i, none⟩ = some (.int .u8 ((l ++ mkL 70)[i]'(by rw [lm_length]; exact h)).toNat)
theorem Lent.keep {B : Nat} {w w' : World} {v : Value} {l : List UInt8} (h : Lent B w v l) (hg : w.grownBy w' none) : Lent B w' v l := by
  obtain ⟨b, c, rfl, hB, hb, hc, hcell⟩ := h
  exact ⟨b, c, rfl, hB, Nat.lt_of_lt_of_le hb hg.size, hc, fun i hi => (cell_at hg hb (by simp)).trans (hcell i hi)⟩
theorem Lent.rd {B : Nat} {w : World} {v : Value} {l : List UInt8} (h : Lent B w v l) : Rd w (fun g => B ≤ g) v l := by
  obtain ⟨b, c, rfl, hB, hb, hc, hcell⟩ := h
  refine ⟨_, b, 0, c, rfl, by omega, (fun h => by cases h), fun _ => ⟨rfl, hb, hB⟩, fun i hi => ?_⟩
  rw [Nat.zero_add, hcell i (by omega), List.getElem_append_left hi]
theorem Lent.mark {B : Nat} {w : World} {v : Value} {l : List UInt8} (h : Lent B w v l) : ∃ (b c : Nat), v = .slice (some ⟨b, 0, none⟩) l.length c ∧ b < w.heap.size ∧ l.length + 70 ≤ c ∧ ∀ i, i < 70 → w.cell? ⟨b, l.length + i, none⟩ = some (.int .u8 (mkA i).toNat) := by
  obtain ⟨b, c, rfl, hB, hb, hc, hcell⟩ := h
  refine ⟨b, c, rfl, hb, hc, fun i hi => ?_⟩
  rw [hcell (l.length + i) (by omega), List.getElem_append_right (by omega)]
  simp [mkL]

set_option maxRecDepth 100000 in
set_option maxHeartbeats 1600000 in
theorem lend_any (w : World) (b : Value) (F : Nat → Prop) (l : List UInt8) (hb : Rd w F b l) (hl : l.length ≤ 140737488351232) :
    Calls Tryd.prog 10 #[b] w fun e w' => ∃ v, e = .returned v ∧ Lent w.heap.size w' v l ∧ w.grownBy w' none := by
  obtain ⟨inf, hi, hz0, hz1, hz2⟩ := info_parts Tryd.info5
  have HR := hid hb
  obtain ⟨ab, bb, offb, cbb, hbv, _⟩ := hb
  subst hbv
  obtain ⟨m, HM⟩ : ∃ m : Nat, Hid (l.length = m) := ⟨_, hid rfl⟩
  rw [HM.out] at hl HR ⊢
  go_enter Tryd.func10, Tryd.ntmps10
  go_wp2_with (at_make; refine wpList_make_own _ rfl _ _ 23 rfl w.heap.size 5 inf (.int .u8 0) 1 Tryd.underlying23 hi hz0 hz1 _ _ _ (m + 70) rfl rfl (by omega) (by rw [hz2]; omega) (by unfold maxLen; omega) (Nat.le_refl _) ?_)
  intro w1 hown1 hg1
  have HG1 := hid hg1
  have HO1 : Hid (Out w.heap.size w1 _ []) := hid hown1
  have HR1 := hid (HR.out.keep hg1)
  have hs1 := hg1.size
  clear hg1 HR hown1
  go_wp2_with (at_builtin; refine wpList_append_rdW rfl _ _ rfl w.heap.size F [] l HO1.out HR1.out (by simp; have := HM.out; omega) hs1 ?_; intro v2 w2 hO2 hg2 _)
  have HO : Hid (Out w.heap.size w2 v2 (l ++ mkL 0)) := hid (by simpa [mkL] using hO2)
  have HG : Hid (w.grownBy w2 none) := hid (HG1.out.andThen hg2 (fun j hj => .inl (HO1.out.block j hj)))
  clear hO2 hg2 HR1 HG1 HO1 hs1
  go_wp2_with fail
  go_loopw [3, 4] (fun tv iv wr => ∃ i : Nat, iv = .int .i64 i ∧ i ≤ 70 ∧ Hid (Out w.heap.size wr tv (l ++ mkL i)) ∧ Hid (w.grownBy wr none)) (fun _ iv _ => 70 - (intOf iv).toNat)
  case atStart => exact ⟨0, rfl, by omega, HO, HG⟩
  case round =>
    clear HO HG
    obtain ⟨i, rfl, hi70, HO, HG⟩ := hrel
    have HL20 := hid hl
    clear hl
    by_cases hlt : i < 70
    · have hlt' : (i : Int) < 70 := by omega
      have hat := fun w => markAt_any i w hlt
      obtain ⟨u, HU⟩ : ∃ u : UInt8, Hid (mkA i = u) := ⟨_, hid rfl⟩
      rw [HU.out] at hat
      have HAT := hid hat
      have hsz := HG.out.size
      clear hat
      go_wp2_with (first | (go_at_call 33; refine (HAT.out _).mono ?_; rintro e w' ⟨rfl, hw⟩; have hw' := hw.symm; clear hw; subst hw') | (at_builtin; refine wpList_append_byteW rfl _ _ rfl w.heap.size wr.heap.size _ u (HO.out.keep (galloc wr _ none)) rfl (litL wr _) (by rw [lm_length]; have := HM.out; have := HL20.out; omega) (by simp; omega) ?_; intro v3 w3 hO3 hg3))
      go_roundw
      case rel => exact ⟨i + 1, by go_num, by omega, hid (by rw [mkL_succ, ← List.append_assoc, HU.out]; exact hO3), hid ((gtrans HG.out (galloc wr _ none)).andThen hg3 (fun j hj => .inl (HO.out.block j hj)))⟩
      case measure => simp [intOf]; omega
    · have hge : (70 : Int) ≤ i := by omega
      have he : i = 70 := by omega
      subst he
      obtain ⟨g, cap, hv, hc, hB, hgs, hcell⟩ := HO.out.form (by rw [lm_length]; omega)
      rw [lm_length, HM.out] at hv hc
      rw [hv]
      have hcm : (m : Int) ≤ (cap : Int) := by omega
      have HF := hid hcell
      have HC := hid hc
      clear hcell hc
      go_wp2_with fail
      go_ret
      exact ⟨.slice (some ⟨g, 0, none⟩) m cap, rfl, ⟨g, cap, by rw [HM.out], hB, hgs, by rw [HM.out]; exact HC.out, fun i hi => HF.out i (by rw [lm_length]; exact hi)⟩, HG.out⟩

set_option maxRecDepth 100000 in
set_option maxHeartbeats 1600000 in
theorem intact_any (w : World) (B : Nat) (v b : Value) (F : Nat → Prop) (l : List UInt8) (hv : Lent B w v l) (hb : Rd w F b l) (hl : l.length ≤ 140737488351232) :
    Calls Tryd.prog 12 #[v, b] w fun e w' => e = .returned (.bool true) ∧ ∃ k, w' = w.drewN k := by
  have k1 := hv.rd.convert
  have k2 := hb.convert
  obtain ⟨s, HS⟩ : ∃ s, Hid ((⟨l.toArray⟩ : ByteArray) = s) := ⟨_, hid rfl⟩
  rw [HS.out] at k1 k2
  obtain ⟨bb, c, rfl, hbb, hc, hm⟩ := hv.mark
  obtain ⟨m, HM⟩ : ∃ m : Nat, Hid (l.length = m) := ⟨_, hid rfl⟩
  rw [HM.out] at hl hc hm k1 ⊢
  have HMK := hid hm
  have hc' : (m : Int) + 70 ≤ (c : Int) := by omega
  clear hm hv hb
  go_enter Tryd.func12, Tryd.ntmps12
  go_wp2
  go_loopw [6] (fun iv wr => ∃ i : Nat, iv = .int .i64 i ∧ i ≤ 70 ∧ ∃ k, Hid (wr = w.drewN k)) (fun iv _ => 70 - (intOf iv).toNat)
  case atStart => exact ⟨0, rfl, by omega, 0, hid rfl⟩
  case round =>
    as_aux_lemma =>
    obtain ⟨i, rfl, hi, d, HD⟩ := hrel
    by_cases hlt : i < 70
    · have hlt' : (i : Int) < 70 := by omega
      have q : wr.cell? ⟨bb, m + i, none⟩ = some (.int .u8 (mkA i).toNat) := by rw [HD.out]; exact HMK.out i hlt
      have hat := fun w => markAt_any i w hlt
      obtain ⟨y, HY⟩ : ∃ y : Int, Hid (((mkA i).toNat : Int) = y) := ⟨_, hid rfl⟩
      rw [HY.out] at q hat
      have HAT := hid hat
      have rb : bb < wr.heap.size := by rw [HD.out]; exact hbb
      clear hat
      go_wp2
      go_quiet ((go_at_call 33; exact Calls.quiet_of_same (HAT.out _)))
      rename_i nq
      go_wp2
      refine ⟨⟨i + 1, by go_num, by omega, d + nq, hid (by rw [HD.out, World.drewN_drewN])⟩, by simp [intOf]; omega⟩
    · have hge : (70 : Int) ≤ i := by omega
      go_wp2
      go_ret
      exact ⟨rfl, d, HD.out⟩
end Go.Proofs.YtmiojplbcjhggaaDoor
