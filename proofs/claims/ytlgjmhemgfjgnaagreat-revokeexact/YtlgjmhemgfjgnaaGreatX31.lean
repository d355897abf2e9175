/- The law's seat: Ring. -/
import Derived.Test.YtlgjmhemgfjgnaaGreatX30
import Derived.Test.YtlgjmhemgfjgnaaGreatX14
import Derived.Test.YtlgjmhemgfjgnaaGreatXG
namespace Go.Proofs.YtlgjmhemgfjgnaaGreat.Bk
open Go Go.RowKit
open Go.RowKit (wrap32 wrap64)

theorem OutK.shape {B : Nat} {w : World} {v : Value} {l : List Ky} (h : OutK B w v l) : ∃ a n c, v = .slice a n c := by
  rcases h.2.2 with ⟨rfl, _⟩ | ⟨g, cap, cur, rfl, _⟩
  · exact ⟨_, _, _, rfl⟩
  · exact ⟨_, _, _, rfl⟩
set_option maxRecDepth 100000 in
theorem step_append_keys {w : World} {ops : Array Oper} {o : Oper} {a : Act} {K : Act → World → Prop} {Q : Exit → Act → World → Prop} (hw : Region.wanted o (yielded ops a.tmps) = true) (s x : Operand)
    (ho : o.op = .call { callee := .builtin .append, args := #[s, x], argTypes := #[57, 57] })
    (B : Nat) (F : Nat → Prop) (acc l : List Ky) (vs vx : Value) (hs : a.eval s = vs) (hxe : a.eval x = vx) (hown : OutK B w vs acc) (hx : RdK w F vx l) (hn : acc.length + l.length ≤ 1099511627776) (hB : B ≤ w.heap.size)
    (h : ∀ v' w', OutK B w' v' (acc ++ l) → w.grownBy w' vs.ownBlock → (v'.ownBlock = vs.ownBlock ∨ v'.ownBlock = some w.heap.size) → K (a.put o.dst v') w') :
    if Region.wanted o (yielded ops a.tmps) = true then Oper.wp Tryz.prog o a w K Q else K (a.put o.dst undef) w := by
  rw [if_pos hw]
  have hrun : ∃ v' w', (Builtin.append_ #[57, 57] o.type #[vs, vx]).run Tryz.prog w = .ok v' w' ∧ OutK B w' v' (acc ++ l) ∧ w.grownBy w' vs.ownBlock ∧ (v'.ownBlock = vs.ownBlock ∨ v'.ownBlock = some w.heap.size) := by
    obtain ⟨inf, hi, hz0, hz1, hz2⟩ := info_parts Tryz.info85
    obtain ⟨hok, p, b, off, c, e, hc, hnn, ha, hcell⟩ := hx
    cases p with
    | none =>
      have c0 := hnn rfl
      have hl : l = [] := List.eq_nil_of_length_eq_zero (by omega)
      subst hl
      subst c0
      refine ⟨vs, w, ?_, by rw [List.append_nil]; exact hown, World.grownBy.refl _ _, .inl rfl⟩
      rw [e]
      exact run_append_owned_none (P := Tryz.prog) (w := w) B 57 o.type 85 inf 19 Tryz.underlying57 hi _ _ _ hown.2
    | some q =>
      obtain ⟨v', w', h1, h2, h3, _, h4⟩ := run_append_own_at (P := Tryz.prog) w B 57 o.type 85 inf (.agg zky.cells.toArray) 19 40 Tryz.underlying57 hi hz0 hz1 hz2 rfl (by decide) vs _ _ hown.2 q l.length c (kcs l) (by rw [kcs_length l hok.len]) (by
        intro j u hu
        have hj : j < l.length * 19 := by have := (List.getElem?_eq_some_iff.1 hu).1; rw [kcs_length l hok.len] at this; exact this
        have hq := (ha (by omega)).1
        injection hq with hq
        have hi' : j / 19 < l.length := by omega
        have hg := kcs_get l hok.len (j / 19) l[j / 19] (List.getElem?_eq_getElem hi') (j % 19) (by omega)
        rw [show j / 19 * 19 + j % 19 = j by omega, hu] at hg
        have hcl := hcell (j / 19) hi' (j % 19) u hg.symm
        rw [hq, Addr.add_lit, show off + j = off + j / 19 * 19 + j % 19 by omega]
        exact hcl) (kcs_one l) (by unfold maxLen; omega) (by omega) hB
      refine ⟨v', w', by rw [e]; exact h1, ⟨fun k hk => ?_, by rw [List.length_append, kcs_append]; exact h2⟩, h3, h4⟩
      rcases List.mem_append.1 hk with hk | hk
      · exact hown.1 k hk
      · exact hok k hk
  obtain ⟨v', w', hr, h1, h2, h3⟩ := hrun
  unfold Oper.wp execOp
  simp only [ho, resolve, invoke, builtin, Sem.run_bind, Sem.run_pure, Result.andThen_ok, List.map_toArray, List.map_cons, List.map_nil, hs, hxe, hr]
  exact h v' w' h1 h2 h3
theorem wpList_append_keysB {w : World} {ops : Array Oper} {rest : List Oper} {o : Oper} {a : Act} {Q : Exit → Act → World → Prop} (hgd : o.guard = none) (s x : Operand)
    (ho : o.op = .call { callee := .builtin .append, args := #[s, x], argTypes := #[57, 57] })
    (B : Nat) (F : Nat → Prop) (acc l : List Ky) (vs vx : Value) (hs : a.eval s = vs) (hxe : a.eval x = vx) (hown : OutK B w vs acc) (hx : RdK w F vx l) (hn : acc.length + l.length ≤ 1099511627776) (hB : B ≤ w.heap.size)
    (h : ∀ v' w', OutK B w' v' (acc ++ l) → w.grownBy w' vs.ownBlock → (v'.ownBlock = vs.ownBlock ∨ v'.ownBlock = some w.heap.size) → wpList Tryz.prog ops Q rest (a.put o.dst v') w') : wpList Tryz.prog ops Q (o :: rest) a w :=
  wpList_plain hgd fun K hK => by
    have hw : Region.wanted o (yielded ops a.tmps) = true := by simp [Region.wanted, hgd]
    have q := step_append_keys (ops := ops) (Q := Q) (K := K) hw s x ho B F acc l vs vx hs hxe hown hx hn hB (fun v' w' h1 h2 h3 => hK _ _ (h v' w' h1 h2 h3))
    rw [if_pos hw] at q
    exact q
/-- What the seat's Ring leaves as it was: all blocks but the seat and its row. -/
structure KS (w w' : World) (sb : Nat) (v : Value) : Prop where
  os : w'.os = w.os
  tape : w'.tape = w.tape
  output : w'.output = w.output
  size : w.heap.size ≤ w'.heap.size
  block : ∀ k, k < w.heap.size → k ≠ sb → v.ownBlock ≠ some k → w'.heap[k]? = w.heap[k]?
theorem OutK.cut0 {B n c : Nat} {w : World} {a : Option Addr} {l : List Ky} (h : OutK B w (.slice a n c) l) : OutK B w (.slice a 0 c) [] := by
  refine ⟨fun k hk => by simp at hk, by simp [kcs], ?_⟩
  rcases h.2.2 with ⟨h1, _⟩ | ⟨g, cap, cur, hv, hB, hg, hle, hm, hs, ht⟩
  · simp only [Value.slice.injEq] at h1
    obtain ⟨rfl, _, rfl⟩ := h1
    exact .inl ⟨rfl, rfl⟩
  · simp only [Value.slice.injEq] at hv
    obtain ⟨rfl, _, rfl⟩ := hv
    exact .inr ⟨g, c, cur, rfl, hB, hg, Nat.zero_le _, hm, hs, by simp [kcs]⟩
set_option maxRecDepth 100000 in
set_option maxHeartbeats 1600000 in
theorem seatRv_any (w : World) (B sb : Nat) (F : Nat → Prop) (cs : List Value) (va : Option Addr) (vn vc : Nat) (lk l : List Ky) (a : Option Addr) (n c : Nat) (hb : Blk w sb cs 66) (h6 : cs[6]? = some (.slice va vn vc)) (ho : OutK B w (.slice va vn vc) lk) (hB : B ≤ w.heap.size) (hr : RdK w F (.slice a n c) l) (hl : l.length ≤ 1000000) :
    Calls Tryz.prog 13 #[.pointer (some ⟨sb, 0, none⟩), .slice a n c] w fun e w' => ∃ na nn nc, e = .returned (.slice na nn nc) ∧ OutK B w' (.slice na nn nc) l ∧ Blk w' sb (cs.set 6 (.slice na nn nc)) 66 ∧ ((Value.slice na nn nc).ownBlock = (Value.slice va vn vc).ownBlock ∨ ∃ k, w.heap.size ≤ k ∧ (Value.slice na nn nc).ownBlock = some k) ∧ KS w w' sb (.slice va vn vc) := by
  have HBk := hid hb
  have HL6 : Hid (6 < cs.length) := hid (List.getElem?_eq_some_iff.1 h6).1
  have HO0 := hid (OutK.cut0 ho)
  have e0 : (Value.slice va 0 vc).ownBlock = (Value.slice va vn vc).ownBlock := by cases va <;> rfl
  have HE0 := hid e0
  have HR := hid hr
  have HBb := hid hB
  have q6 : w.cell? ⟨sb, 6, none⟩ = some (.slice va vn vc) := (hb.cell 6).trans h6
  have HNs : Hid ((Value.slice va 0 vc).ownBlock ≠ some sb) := hid (fun e => (HO0.out.ne_blk hb (by decide)) sb e rfl)
  clear hb h6 ho hB hr e0
  go_enter Tryz.func13, Tryz.ntmps13
  go_wp2_with (at_builtin; refine wpList_append_keysB rfl _ _ rfl B F [] l (.slice va 0 vc) (.slice a n c) rfl rfl HO0.out HR.out (by simp only [List.length_nil]; omega) HBb.out ?_; intro v4 w4 hO4 hg4 hat4; obtain ⟨na, nn, nc, hv4⟩ := OutK.shape hO4; subst hv4; have HO4 := hid hO4; have HG4 := hid hg4; have HA4 := hid hat4; have HB4 : Hid (Blk w4 sb cs 66) := hid (HBk.out.on hg4 HNs.out); have q64 : w4.cell? ⟨sb, 6, none⟩ = some (.slice va vn vc) := ((HB4.out).cell 6).trans (by have := HBk.out.cell 6; rw [← this]; exact q6); have qf := HB4.out.frozen 6; clear hO4 hg4 hat4 q6)
  go_ret
  have hset := HB4.out.set 6 (.slice na nn nc)
  have gs := gset w4 ⟨sb, 6, none⟩ (.slice na nn nc)
  refine ⟨na, nn, nc, rfl, ?_, hset, ?_, ⟨?_, ?_, ?_, ?_, ?_⟩⟩
  · exact HO4.out.on gs (fun k hk e => (HO4.out.ne_blk HB4.out (by decide)) k e (by injection hk with hk; exact hk.symm))
  · rcases HA4.out with h | h
    · exact .inl (h.trans HE0.out)
    · exact .inr ⟨_, Nat.le_refl _, h⟩
  · exact gs.os.trans HG4.out.os
  · exact gs.tape.trans HG4.out.tape
  · exact gs.output.trans HG4.out.output
  · exact Nat.le_trans HG4.out.size gs.size
  · intro k hk h8 h9
    have k4 : k < w4.heap.size := Nat.lt_of_lt_of_le hk HG4.out.size
    rw [gs.block k k4 (fun e => h8 (by injection e)), HG4.out.block k hk (fun e => h9 (by rw [← HE0.out]; exact e.symm))]
end Go.Proofs.YtlgjmhemgfjgnaaGreat.Bk

namespace Go.Proofs.YtlgjmhemgfjgnaaGreat
open Go Go.RowKit
open Go.RowKit (wrap32 wrap64)

set_option maxRecDepth 100000 in
set_option maxHeartbeats 1600000 in
theorem due_any (w : World) (v : Value) (F : Nat → Prop) (l : List Ky) (o : St) (hv : RdK w F v l) (hl : l.length ≤ 1000000) (ho : o.ok) :
    Calls Tryz.prog 6 #[v, .agg o.cells.toArray] w fun e w' => ∃ v', e = .returned v' ∧ OutK w.heap.size w' v' (stepL l o) ∧ w.grownBy w' none := by
  obtain ⟨hg, hid', hex, hrw⟩ := ho
  have HV := hid hv
  obtain ⟨_, a, b, off, c, rfl, hc, _, _⟩ := hv.open
  obtain ⟨n, HN⟩ : ∃ n, Hid (l.length = n) := ⟨_, hid rfl⟩
  have HC : Hid (∀ (u : World) (B : Nat), Blk u B o.cells 71 → u.cell? ⟨B, 0, none⟩ = some (.int .i64 o.dO) ∧ u.cell? ⟨B, 1, none⟩ = some (.int .u64 o.g) ∧ u.cell? ⟨B, 18, none⟩ = some (.int .i64 o.ex)) := hid (fun u B h => ⟨by rw [h.cell]; exact St.c0 _, by rw [h.cell]; exact St.c1 _, by rw [h.cell]; exact St.c18 hid'⟩)
  have HR : Hid (∀ (u : World) (B : Nat), Blk u B o.cells 71 → u.rangeAt B 2 (Lib.byteCells o.id)) := hid (fun u B h => by have := St.rid h.whole; rw [Nat.zero_add] at this; exact this)
  have HA : Hid (∀ u, w.grownBy u none → Calls Tryz.prog 21 #[.slice a n c, .int .u64 o.g, .agg (Lib.byteCells o.id).toArray, .int .i64 o.ex] u fun e w' => ∃ v', e = .returned v' ∧ OutK u.heap.size w' v' (addL l o.g o.id o.ex) ∧ u.grownBy w' none) := hid (fun u hu => by have := radd_any u _ F l o.g o.id o.ex hid' (HV.out.keep hu) hl hg hex; rw [HN.out] at this; exact this)
  have HK : Hid (∀ u, w.grownBy u none → Calls Tryz.prog 22 #[.slice a n c, .int .u64 o.g, .int .i64 o.ex] u fun e w' => ∃ v', e = .returned v' ∧ OutK u.heap.size w' v' (killL l o.g o.ex) ∧ u.grownBy w' none) := hid (fun u hu => by have := rkill_any u _ F l o.g o.ex (HV.out.keep hu) hl hg hex; rw [HN.out] at this; exact this)
  have HP : Hid (∀ u, w.grownBy u none → Calls Tryz.prog 23 #[.slice a n c, .int .i64 o.ex] u fun e w' => ∃ v', e = .returned v' ∧ OutK u.heap.size w' v' (prnL l o.ex) ∧ u.grownBy w' none) := hid (fun u hu => by have := rprune_any u _ F l o.ex (HV.out.keep hu) hl; rw [HN.out] at this; exact this)
  have HJL : Hid ((Tryz.prog.info? 69).map (·.size) = some (Lib.byteCells o.id).length) := hid (by rw [byteCells_length, hid']; exact Tryz.size69)
  have HSt : Hid (stepL l o = if o.dO = 1 then addL l o.g o.id o.ex else if o.dO = 2 then killL l o.g o.ex else prnL l o.ex) := hid rfl
  obtain ⟨K, HKe⟩ : ∃ x, Hid (o.cells = x) := ⟨_, hid rfl⟩
  obtain ⟨J, HJe⟩ : ∃ x, Hid (Lib.byteCells o.id = x) := ⟨_, hid rfl⟩
  obtain ⟨D, HD⟩ : ∃ x, Hid (o.dO = x) := ⟨_, hid rfl⟩
  obtain ⟨G, HG⟩ : ∃ x, Hid (o.g = x) := ⟨_, hid rfl⟩
  obtain ⟨E, HE⟩ : ∃ x, Hid (o.ex = x) := ⟨_, hid rfl⟩
  obtain ⟨RA, HRA⟩ : ∃ x, Hid (addL l o.g o.id o.ex = x) := ⟨_, hid rfl⟩
  obtain ⟨RK, HRK⟩ : ∃ x, Hid (killL l o.g o.ex = x) := ⟨_, hid rfl⟩
  obtain ⟨RP, HRP⟩ : ∃ x, Hid (prnL l o.ex = x) := ⟨_, hid rfl⟩
  obtain ⟨RS, HRS⟩ : ∃ x, Hid (stepL l o = x) := ⟨_, hid rfl⟩
  rw [HRA.out, HRK.out, HRP.out, HRS.out, HD.out] at HSt
  rw [HRA.out, HG.out, HJe.out, HE.out] at HA
  rw [HRK.out, HG.out, HE.out] at HK
  rw [HRP.out, HE.out] at HP
  rw [HKe.out, HD.out, HG.out, HE.out] at HC
  rw [HKe.out, HJe.out] at HR
  rw [HJe.out] at HJL
  rw [HKe.out, HN.out, HRS.out]
  clear hv hc hl hg hid' hex hrw HN HKe HJe HD HG HE HRA HRK HRP HRS HV
  have fld : ∀ (u : World), True := fun _ => trivial
  clear fld
  by_cases h1 : D = 1
  · subst h1
    have hr : RS = RA := by rw [HSt.out, if_pos rfl]
    rw [hr]
    clear HSt hr HK HP
    go_enter Tryz.func6, Tryz.ntmps6
    go_upto_region 1 with ((with_reducible refine wpList_box_row (by with_unfolding_all rfl) 71 _ (by with_unfolding_all rfl) K (by with_unfolding_all rfl) ?_); intro w1 B1 s1 g1; have HB1 := hid B1; have HG1 := hid g1; clear B1 g1 s1)
    obtain ⟨y0, y1, y18⟩ := HC.out _ _ HB1.out
    go_wp2_with (first
      | (with_reducible refine wpList_load_part (by with_unfolding_all rfl) 69 _ (by with_unfolding_all rfl) w.heap.size 2 J _ (by with_unfolding_all rfl) (HR.out _ _ HB1.out) Tryz.underlying69 (by with_unfolding_all rfl) HJL.out ?_)
      | (go_at_call 21; (with_reducible refine (HA.out _ HG1.out).mono ?_); rintro e w4 ⟨v4, rfl, ho4, hg4⟩; have HG4 := hid (gtrans HG1.out hg4); have HO4 := hid (ho4.below HG1.out.size); clear ho4 hg4))
    go_ret
    exact ⟨_, rfl, HO4.out, HG4.out⟩
  · have h1' : (D == 1) = false := beq_eq_false_iff_ne.2 h1
    by_cases h2 : D = 2
    · subst h2
      have hr : RS = RK := by rw [HSt.out, if_neg h1, if_pos rfl]
      rw [hr]
      clear HSt hr HA HP h1
      go_enter Tryz.func6, Tryz.ntmps6
      go_upto_region 1 with ((with_reducible refine wpList_box_row (by with_unfolding_all rfl) 71 _ (by with_unfolding_all rfl) K (by with_unfolding_all rfl) ?_); intro w1 B1 s1 g1; have HB1 := hid B1; have HG1 := hid g1; clear B1 g1 s1)
      obtain ⟨y0, y1, y18⟩ := HC.out _ _ HB1.out
      go_wp2_with (first
        | (with_reducible refine wpList_load_part (by with_unfolding_all rfl) 69 _ (by with_unfolding_all rfl) w.heap.size 2 J _ (by with_unfolding_all rfl) (HR.out _ _ HB1.out) Tryz.underlying69 (by with_unfolding_all rfl) HJL.out ?_)
        | (go_at_call 22; (with_reducible refine (HK.out _ HG1.out).mono ?_); rintro e w4 ⟨v4, rfl, ho4, hg4⟩; have HG4 := hid (gtrans HG1.out hg4); have HO4 := hid (ho4.below HG1.out.size); clear ho4 hg4))
      go_ret
      exact ⟨_, rfl, HO4.out, HG4.out⟩
    · have h2' : (D == 2) = false := beq_eq_false_iff_ne.2 h2
      have hr : RS = RP := by rw [HSt.out, if_neg h1, if_neg h2]
      rw [hr]
      clear HSt hr HA HK
      go_enter Tryz.func6, Tryz.ntmps6
      go_upto_region 1 with ((with_reducible refine wpList_box_row (by with_unfolding_all rfl) 71 _ (by with_unfolding_all rfl) K (by with_unfolding_all rfl) ?_); intro w1 B1 s1 g1; have HB1 := hid B1; have HG1 := hid g1; clear B1 g1 s1)
      obtain ⟨y0, y1, y18⟩ := HC.out _ _ HB1.out
      go_wp2_with (first
        | (with_reducible refine wpList_load_part (by with_unfolding_all rfl) 69 _ (by with_unfolding_all rfl) w.heap.size 2 J _ (by with_unfolding_all rfl) (HR.out _ _ HB1.out) Tryz.underlying69 (by with_unfolding_all rfl) HJL.out ?_)
        | (go_at_call 23; (with_reducible refine (HP.out _ HG1.out).mono ?_); rintro e w4 ⟨v4, rfl, ho4, hg4⟩; have HG4 := hid (gtrans HG1.out hg4); have HO4 := hid (ho4.below HG1.out.size); clear ho4 hg4))
      go_ret
      exact ⟨_, rfl, HO4.out, HG4.out⟩
end Go.Proofs.YtlgjmhemgfjgnaaGreat
