/- Parts of rows; span, placeOf, isWhole. -/
import Derived.Test.YtlgjmhemgfjgnaaGreatVC
namespace Go.Proofs.YtlgjmhemgfjgnaaGreat
open Go Go.RowKit
open Go.RowKit (wrap32 wrap64)

set_option maxRecDepth 100000 in
theorem szE23 (u : World) : (sizeOf (Tryz.prog.elem 57)).run Tryz.prog u = .ok 19 u := by kernel_rfl
set_option maxRecDepth 100000 in
/-- A part of a row that can be read. -/
theorem RdK.cutV {w : World} {F : Nat → Prop} {a : Option Addr} {n c : Nat} {l : List Ky} (h : RdK w F (.slice a n c) l) (i j m : Nat) (hij : i ≤ j) (hj : j ≤ n) (hm : j ≤ m) (hmc : m ≤ c) :
    ∃ a', sliced a i j m 19 = .slice a' (j - i) (m - i) ∧ RdK w F (.slice a' (j - i) (m - i)) ((l.drop i).take (j - i)) := by
  obtain ⟨ho, a0, b, off, c0, hv, hc, hn, ha, hcell⟩ := h
  injection hv with e1 e2 e3
  subst e1 e2 e3
  have hlen : ((l.drop i).take (j - i)).length = j - i := by rw [List.length_take, List.length_drop]; omega
  refine ⟨_, rfl, fun k hk => ho k (List.mem_of_mem_drop (List.mem_of_mem_take hk)), ?_⟩
  refine ⟨_, b, off + i * 19, m - i, by rw [hlen], by omega, ?_, ?_, ?_⟩
  · intro he
    split at he
    · have := hn he; omega
    · cases a with
      | none => have := hn rfl; omega
      | some q => cases he
  · intro hp
    rw [hlen] at hp
    obtain ⟨rfl, h2, h3⟩ := ha (by omega)
    refine ⟨?_, h2, h3⟩
    rw [if_neg (by omega)]
    show some (Addr.add _ _) = _
    rw [Addr.add_lit]
  · intro k hk
    rw [hlen] at hk
    have hg : ((l.drop i).take (j - i))[k]'(by rw [hlen]; exact hk) = l[i + k]'(by omega) := by
      rw [List.getElem_take, List.getElem_drop]
    rw [hg]
    have := hcell (i + k) (by omega)
    rw [show off + i * 19 + k * 19 = off + (i + k) * 19 by rw [Nat.add_mul]; omega]
    exact this
set_option maxRecDepth 100000 in
theorem RdK.cut {w : World} {F : Nat → Prop} {a : Option Addr} {n c : Nat} {l : List Ky} (h : RdK w F (.slice a n c) l) (i j : Nat) (hij : i ≤ j) (hj : j ≤ n) (hc : n ≤ c) :
    ∃ a', (∀ u, (Instr.sliceAt 57 (.slice a n c) (some (.int .i64 i)) (some (.int .i64 j)) none).run Tryz.prog u = .ok (.slice a' (j - i) (c - i)) u) ∧ RdK w F (.slice a' (j - i) (c - i)) ((l.drop i).take (j - i)) := by
  obtain ⟨a', e, hr⟩ := h.cutV i j c hij hj (by omega) (Nat.le_refl _)
  refine ⟨a', fun u => ?_, hr⟩
  rw [run_sliceAt_slice u 57 _ _ _ _ Tryz.underlying57, run_slice_lh u 57 a n c Tryz.underlying57 .i64 .i64 i j (by omega) (by omega) (by omega), szE23]
  simp only [Result.andThen_ok, Int.toNat_natCast, e]
set_option maxRecDepth 100000 in
theorem RdK.front {w : World} {F : Nat → Prop} {a : Option Addr} {n c : Nat} {l : List Ky} (h : RdK w F (.slice a n c) l) (j : Nat) (hj : j ≤ n) (hc : n ≤ c) :
    ∃ a', (∀ u, (Instr.sliceAt 57 (.slice a n c) none (some (.int .i64 j)) none).run Tryz.prog u = .ok (.slice a' j c) u) ∧ RdK w F (.slice a' j c) (l.take j) := by
  obtain ⟨a', e, hr⟩ := h.cutV 0 j c (Nat.zero_le _) hj (by omega) (Nat.le_refl _)
  rw [Nat.sub_zero, Nat.sub_zero] at e hr
  refine ⟨a', fun u => ?_, hr⟩
  rw [run_sliceAt_slice u 57 _ _ _ _ Tryz.underlying57, run_slice_h u 57 a n c Tryz.underlying57 .i64 j (by omega) (by omega), szE23]
  simp only [Result.andThen_ok, Int.toNat_natCast, e]
set_option maxRecDepth 100000 in
theorem RdK.tail {w : World} {F : Nat → Prop} {a : Option Addr} {n c : Nat} {l : List Ky} (h : RdK w F (.slice a n c) l) (hln : l.length = n) (i : Nat) (hi : i ≤ n) (hc : n ≤ c) :
    ∃ a', (∀ u, (Instr.sliceAt 57 (.slice a n c) (some (.int .i64 i)) none none).run Tryz.prog u = .ok (.slice a' (n - i) (c - i)) u) ∧ RdK w F (.slice a' (n - i) (c - i)) (l.drop i) := by
  obtain ⟨a', e, hr⟩ := h.cutV i n c hi (Nat.le_refl _) hc (Nat.le_refl _)
  rw [List.take_of_length_le (by rw [List.length_drop]; omega)] at hr
  refine ⟨a', fun u => ?_, hr⟩
  rw [run_sliceAt_slice u 57 _ _ _ _ Tryz.underlying57, run_slice_l u 57 a n c Tryz.underlying57 .i64 i (by omega) (by omega), szE23]
  simp only [Result.andThen_ok, Int.toNat_natCast, e]
section
variable {P : Program} {ops : Array Oper} {rest : List Oper} {o : Oper} {a : Act} {w : World} {Q : Exit → Act → World → Prop}
set_option maxRecDepth 100000 in
theorem wpList_slice_lh (hgd : o.guard = none) (t : TypeId) (x l h : Operand) (ho : o.op = .slice t x (some l) (some h) none) (vx vl vh v : Value) (hx : a.eval x = vx) (hl : a.eval l = vl) (hh : a.eval h = vh) (hr : (Instr.sliceAt t vx (some vl) (some vh) none).run P w = .ok v w)
    (k : wpList P ops Q rest (a.put o.dst v) w) : wpList P ops Q (o :: rest) a w :=
  wpList_plain hgd fun _ hK => by
    subst hx hl hh
    unfold Oper.wp execOp
    simp only [ho, Option.map_some, Option.map_none]
    rw [Sem.run_bind, hr]
    exact hK _ _ k
set_option maxRecDepth 100000 in
theorem wpList_slice_l (hgd : o.guard = none) (t : TypeId) (x l : Operand) (ho : o.op = .slice t x (some l) none none) (vx vl v : Value) (hx : a.eval x = vx) (hl : a.eval l = vl) (hr : (Instr.sliceAt t vx (some vl) none none).run P w = .ok v w)
    (k : wpList P ops Q rest (a.put o.dst v) w) : wpList P ops Q (o :: rest) a w :=
  wpList_plain hgd fun _ hK => by
    subst hx hl
    unfold Oper.wp execOp
    simp only [ho, Option.map_some, Option.map_none]
    rw [Sem.run_bind, hr]
    exact hK _ _ k
set_option maxRecDepth 100000 in
theorem wpList_slice_h (hgd : o.guard = none) (t : TypeId) (x h : Operand) (ho : o.op = .slice t x none (some h) none) (vx vh v : Value) (hx : a.eval x = vx) (hh : a.eval h = vh) (hr : (Instr.sliceAt t vx none (some vh) none).run P w = .ok v w)
    (k : wpList P ops Q rest (a.put o.dst v) w) : wpList P ops Q (o :: rest) a w :=
  wpList_plain hgd fun _ hK => by
    subst hx hh
    unfold Oper.wp execOp
    simp only [ho, Option.map_some, Option.map_none]
    rw [Sem.run_bind, hr]
    exact hK _ _ k
variable {C : World → Prop} {u : World}
set_option maxRecDepth 100000 in
theorem quietAt_slicelh (t : TypeId) (x l h : Operand) (vx vl vh v : Value) (ho : o.op = .slice t x (some l) (some h) none) (hx : a.eval x = vx) (hl : a.eval l = vl) (hh : a.eval h = vh) (hr : (Instr.sliceAt t vx (some vl) (some vh) none).run P u = .ok v u) : o.quietAt P a C u v := by
  subst hx hl hh
  unfold Oper.quietAt execOp
  simp only [ho, Option.map_some, Option.map_none]
  rw [Sem.run_bind, hr]
  exact ⟨rfl, rfl⟩
set_option maxRecDepth 100000 in
theorem quietAt_slicel (t : TypeId) (x l : Operand) (vx vl v : Value) (ho : o.op = .slice t x (some l) none none) (hx : a.eval x = vx) (hl : a.eval l = vl) (hr : (Instr.sliceAt t vx (some vl) none none).run P u = .ok v u) : o.quietAt P a C u v := by
  subst hx hl
  unfold Oper.quietAt execOp
  simp only [ho, Option.map_some, Option.map_none]
  rw [Sem.run_bind, hr]
  exact ⟨rfl, rfl⟩
set_option maxRecDepth 100000 in
theorem quietAt_sliceh (t : TypeId) (x hi : Operand) (vx vh v : Value) (ho : o.op = .slice t x none (some hi) none) (hx : a.eval x = vx) (hh : a.eval hi = vh) (hr : (Instr.sliceAt t vx none (some vh) none).run P u = .ok v u) : o.quietAt P a C u v := by
  subst hx hh
  unfold Oper.quietAt execOp
  simp only [ho, Option.map_some, Option.map_none]
  rw [Sem.run_bind, hr]
  exact ⟨rfl, rfl⟩
end

set_option maxRecDepth 100000 in
/-- where the tests part. -/
theorem at_lo {l : List Ky} (h : chk l = true) (g i : Nat) (hi : i < l.length) : decide (l[i].g < g) = decide (i < (lo l g).length) := by
  obtain ⟨_, h2⟩ := (chk_iff l).1 h
  obtain ⟨p1, p2⟩ := part (p := fun r => decide (r.g < g)) (fun x y hxy hy => by have := mf_le hxy; simp only [decide_eq_true_eq] at hy ⊢; omega) l h2
  have := part_at p1 p2 i hi
  rw [this]
  unfold lo
  rw [List.countP_eq_length_filter]
set_option maxRecDepth 100000 in
theorem at_own {l : List Ky} (h : chk l = true) (g i : Nat) (hil : i < (l.drop (lo l g).length).length) : ((l.drop (lo l g).length)[i].g == g) = decide (i < (own l g).length) := by
  have e := (chk_lo h g).2
  have : (l.drop (lo l g).length)[i] = (own l g ++ hi l g)[i]'(by rw [← e]; exact hil) := by simp only [e]
  rw [this, List.getElem_append]
  by_cases hio : i < (own l g).length
  · rw [dif_pos hio, decide_eq_true hio]
    exact (List.mem_filter.1 (List.getElem_mem hio)).2
  · rw [dif_neg hio, decide_eq_false hio]
    have hq : i - (own l g).length < (hi l g).length := by have h0 := hil; rw [e, List.length_append] at h0; omega
    have := (List.mem_filter.1 (List.getElem_mem hq)).2
    rw [beq_eq_false_iff_ne]
    intro he
    simp only [decide_eq_true_eq] at this
    omega
set_option maxRecDepth 100000 in
theorem lo_own_le {l : List Ky} (h : chk l = true) (g : Nat) : (lo l g).length + (own l g).length ≤ l.length := by
  have := congrArg List.length (chk_split h g)
  rw [List.length_append, List.length_append] at this
  omega
set_option maxRecDepth 100000 in
set_option maxHeartbeats 800000 in
theorem span_any (w : World) (v : Value) (F : Nat → Prop) (l : List Ky) (g : Nat) (hv : RdK w F v l) (hl : l.length ≤ 1099511627776) (hck : chk l = true) :
    Calls Tryz.prog 33 #[v, .int .u64 g] w fun e w' => e = .returned (.tuple #[.int .i64 (lo l g).length, .int .i64 ((lo l g).length + (own l g).length : Nat)]) ∧ w.grownBy w' none := by
  have HV := hid hv
  have hle := lo_own_le hck g
  have HL0 := hid (at_lo hck g)
  have HL1 := hid (at_own hck g)
  obtain ⟨ho, a, b, off, c, rfl, hc, Ha, Hc⟩ := hv.open
  obtain ⟨n, HN⟩ : ∃ n, Hid (l.length = n) := ⟨_, hid rfl⟩
  obtain ⟨f, HFl⟩ : ∃ n, Hid ((lo l g).length = n) := ⟨_, hid rfl⟩
  obtain ⟨o, HOl⟩ : ∃ n, Hid ((own l g).length = n) := ⟨_, hid rfl⟩
  rw [HN.out] at HV hl hc hle ⊢
  rw [HFl.out] at HL0 HL1 hle ⊢
  rw [HOl.out] at HL1 hle ⊢
  have HC1 : Hid (∀ (u : World) (p : Nat), u.cell? ⟨p, 0, none⟩ = some (.int .u64 g) → w.grownBy u none → Calls Tryz.prog 75 #[.slice a n c, .func (.func 76) #[] #[.pointer (some ⟨p, 0, none⟩)]] u fun e w' => e = .returned (.int .i64 f) ∧ u.grownBy w' none) := hid (fun u p hp hu =>
    place_30 u _ F l p f (HV.out.keep hu) (by rw [HN.out]; exact hl) (by rw [HN.out]; omega) (fun x hx i hi => by
      have := lt_g x l[i] p g ((cell_at hx (cell_lt hp) (by simp)).trans hp)
      rw [HL0.out i hi] at this
      exact this))
  obtain ⟨a2, hs, hr⟩ := HV.out.tail HN.out f (by omega) hc
  have HS := hid hs
  have HR := hid hr
  have HC2 : Hid (∀ (u : World) (p : Nat), u.cell? ⟨p, 0, none⟩ = some (.int .u64 g) → w.grownBy u none → Calls Tryz.prog 75 #[.slice a2 (n - f) (c - f), .func (.func 77) #[] #[.pointer (some ⟨p, 0, none⟩)]] u fun e w' => e = .returned (.int .i64 o) ∧ u.grownBy w' none) := hid (fun u p hp hu =>
    place_31 u _ F (l.drop f) p o (HR.out.keep hu) (by rw [List.length_drop]; rw [HN.out]; omega) (by rw [List.length_drop]; rw [HN.out]; omega) (fun x hx i hi => by
      have := eq_g x (l.drop f)[i] p g ((cell_at hx (cell_lt hp) (by simp)).trans hp)
      rw [HL1.out i hi] at this
      exact this))
  have hfo : ((f + o : Nat) : Int) = (f : Int) + (o : Int) := by omega
  have hb1 : (f : Int) ≤ 1099511627776 := by omega
  have hb2 : (o : Int) ≤ 1099511627776 := by omega
  rw [hfo]
  clear hv ho hc hs hr hle hl Ha Hc HL0 HL1 HFl HOl HN hfo
  obtain ⟨W1, hW1⟩ : ∃ x, w.alloc (.cells #[.int .u64 g] 67) = x := ⟨_, rfl⟩
  obtain ⟨b1, hbb1⟩ : ∃ x, w.heap.size = x := ⟨_, rfl⟩
  have HB1 : Hid (Blk W1 b1 [.int .u64 g] 67) := hid (by rw [← hW1, ← hbb1]; exact Blk.new w [.int .u64 g] 67)
  have HG1 : Hid (w.grownBy W1 none) := hid (by rw [← hW1]; exact galloc _ _ _)
  go_enter Tryz.func33, Tryz.ntmps33
  go_wp2_with (first
    | (go_at_call 75; (with_reducible refine (HC1.out _ _ (HB1.out.cell 0) HG1.out).mono ?_); rintro e w2 ⟨rfl, hg2⟩; have HG2 := hid (gtrans HG1.out hg2); have HB2 := hid (HB1.out.keep hg2); clear hg2)
    | (with_reducible refine wpList_slice_l (by with_unfolding_all rfl) 57 _ _ (by with_unfolding_all rfl) _ _ _ (by with_unfolding_all rfl) (by with_unfolding_all rfl) (HS.out _) ?_)
    | (go_at_call 75; (with_reducible refine (HC2.out _ _ (HB2.out.cell 0) HG2.out).mono ?_); rintro e w3 ⟨rfl, hg3⟩; have HG3 := hid (gtrans HG2.out hg3); clear hg3))
  go_ret2
  exact ⟨rfl, HG3.out⟩
end Go.Proofs.YtlgjmhemgfjgnaaGreat
