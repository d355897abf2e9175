/- Append. -/
import Derived.Test.YtpbiofnncdneoaaGreatDoorX04
namespace Go.Proofs.YtpbiofnncdneoaaGreatDoor
open Go Go.RowKit Go.MuLone
open Go.RowKit (wrap32 wrap64)

theorem wp_calm {P : Program} {c : Code} {Q : Exit → Act → World → Prop} {a : Act} {w : World} (h : c.wp P (fun x a w => x = .normal ∧ Q .normal a w) a w) : c.wp P Q a w := Code.wp_mono (fun e a w ⟨h1, h2⟩ => by subst h1; exact h2) h
theorem gdrew1 (w : World) (row : Option Nat) : w.grownBy w.drew row := ⟨rfl, rfl, rfl, Nat.le_refl _, fun _ _ _ => rfl⟩
set_option maxRecDepth 100000 in
/-- append of bytes that can be read, within a region; where the row lies. -/
theorem step_append_at {w : World} {ops : Array Oper} {o : Oper} {a : Act} {K : Act → World → Prop} {Q : Exit → Act → World → Prop} {E : Prop} (hgd : o.guard = none) (s x : Operand)
  (ho : o.op = .call { callee := .builtin .append, args := #[s, x], argTypes := #[74, 74] })
  (B : Nat) (F : Nat → Prop) (acc l : List UInt8) (hown : Out B w (a.eval s) acc) (hx : Rd w F (a.eval x) l) (hn : acc.length + l.length ≤ 35184372088832) (hB : B ≤ w.heap.size)
  (h : ∀ v' w', Out B w' v' (acc ++ l) → w.grownBy w' (a.eval s).ownBlock → (v'.ownBlock = (a.eval s).ownBlock ∨ v'.ownBlock = some w.heap.size) → K (a.put o.dst v') w') : if Region.wanted o (yielded ops a.tmps) = true then Oper.wp Tryz.prog o a w K Q else E := by
 have hw : Region.wanted o (yielded ops a.tmps) = true := by simp [Region.wanted, hgd]
 rw [if_pos hw]
 obtain ⟨inf, hi, hz0, hz1, hz2⟩ := info_parts Tryz.info5
 obtain ⟨p, b, off, c, e, hc, hnn, ha, hcell⟩ := hx
 cases p with
 | none =>
  have c0 := hnn rfl
  have hl : l = [] := List.eq_nil_of_length_eq_zero (by omega)
  subst hl
  subst c0
  have hrun := run_append_owned_none (P := Tryz.prog) (w := w) B 74 o.type 5 inf 1 Tryz.underlying74 hi (a.eval s) _ _ hown
  have hK := h (a.eval s) w (by rw [List.append_nil]; exact hown) (World.grownBy.refl _ _) (.inl rfl)
  have e' : a.eval x = .slice none 0 0 := e
  unfold Oper.wp
  simp [execOp, ho, resolve, invoke, builtin, e', hrun, Result.andThen]
  exact hK
 | some q =>
  obtain ⟨v', w', hr, h2, h3, _, h5⟩ := run_append_own_at (P := Tryz.prog) w B 74 o.type 5 inf (.int .u8 0) 1 1 Tryz.underlying74 hi hz0 hz1 hz2 rfl (by decide) (a.eval s) _ _ hown q l.length c (Lib.byteCells l) (by simp [Lib.byteCells])
   (fun j u hu => by
    have hj : j < l.length := by have := (List.getElem?_eq_some_iff.1 hu).1; simpa [Lib.byteCells] using this
    have hq := (ha (by omega)).1
    injection hq with hq
    rw [hq, Addr.add_lit, hcell j hj, ← hu]
    simp [Lib.byteCells, List.getElem?_eq_getElem hj])
   (bcs_one l) (by unfold maxLen; omega) (by omega) hB
  have hK := h v' w' (Out.more h2 rfl rfl) h3 h5
  have e' : a.eval x = .slice (some q) l.length c := e
  unfold Oper.wp
  simp [execOp, ho, resolve, invoke, builtin, e', hr, Result.andThen]
  exact hK
section
variable {P : Program} {ops : Array Oper} {S : World → Prop} {o : Oper} {a : Act}
theorem yieldsIf_min (hw : Region.wanted o (yielded ops a.tmps) = true) (x y : Operand) (ho : o.op = .call { callee := .builtin .min, args := #[x, y], argTypes := #[3, 3] }) (vx vy v : Value) (hx : a.eval x = vx) (hy : a.eval y = vy) (hr : ∀ (u : World) ty, (Builtin.min_ #[3, 3] ty #[vx, vy]).run P u = .ok v u) : YieldsIf P ops S o v a :=
 .inl ⟨hw, fun w _ => by
  unfold execOp
  simp [ho, hx, hy, resolve, invoke, builtin, hr]⟩
theorem yieldsIf_sliceh (hw : Region.wanted o (yielded ops a.tmps) = true) (t : TypeId) (x hi : Operand) (ho : o.op = .slice t x none (some hi) none) (vx vh v : Value) (hx : a.eval x = vx) (hh : a.eval hi = vh) (hr : ∀ u : World, (Instr.sliceAt t vx none (some vh) none).run P u = .ok v u) : YieldsIf P ops S o v a :=
 .inl ⟨hw, fun w _ => by
  subst hx hh
  unfold execOp
  simp only [ho, Option.map_some, Option.map_none]
  rw [Sem.run_bind, hr]
  rfl⟩
end
set_option maxRecDepth 100000 in
/-- append of bytes that can be read onto a row of the call's own, and where the new one lies. -/
theorem wpList_append_at {w : World} {ops : Array Oper} {rest : List Oper} {o : Oper} {a : Act} {Q : Exit → Act → World → Prop} (hgd : o.guard = none) (s x : Operand)
  (ho : o.op = .call { callee := .builtin .append, args := #[s, x], argTypes := #[74, 74] })
  (B : Nat) (F : Nat → Prop) (acc l : List UInt8) (hown : Out B w (a.eval s) acc) (hx : Rd w F (a.eval x) l) (hn : acc.length + l.length ≤ 140737488355328) (hB : B ≤ w.heap.size)
  (h : ∀ v' w', Out B w' v' (acc ++ l) → w.grownBy w' (a.eval s).ownBlock → (v'.ownBlock = (a.eval s).ownBlock ∨ v'.ownBlock = some w.heap.size) → wpList Tryz.prog ops Q rest (a.put o.dst v') w') : wpList Tryz.prog ops Q (o :: rest) a w := by
 obtain ⟨inf, hi, hz0, hz1, hz2⟩ := info_parts Tryz.info5
 obtain ⟨p, b, off, c, e, hc, hnn, ha, hcell⟩ := hx
 cases p with
 | none =>
  have c0 := hnn rfl
  have hl : l = [] := List.eq_nil_of_length_eq_zero (by omega)
  subst hl
  subst c0
  refine wpList_append_own_none hgd s x 74 ho B 5 inf 1 Tryz.underlying74 hi _ _ _ rfl hown e ?_
  exact h _ w (by rw [List.append_nil]; exact hown) (World.grownBy.refl _ _) (.inl rfl)
 | some q =>
  refine wpList_append_own_at w hgd s x 74 ho B 5 inf (.int .u8 0) 1 1 Tryz.underlying74 hi hz0 hz1 hz2 rfl (by decide) _ _ _ rfl hown q l.length c (Lib.byteCells l) e (by simp [Lib.byteCells]) ?_ ?_ (by unfold maxLen; omega) (by omega) hB ?_
  ·intro j u hu
   have hj : j < l.length := by have := (List.getElem?_eq_some_iff.1 hu).1; simpa [Lib.byteCells] using this
   have hq := (ha (by omega)).1
   injection hq with hq
   rw [hq, Addr.add_lit, hcell j hj, ← hu]
   simp [Lib.byteCells, List.getElem?_eq_getElem hj]
  ·intro u hu
   unfold Lib.byteCells at hu
   obtain ⟨_, _, rfl⟩ := List.mem_map.1 hu
   rfl
  ·intro v' w' h1 h2 _ h4
   exact h v' w' (Out.more h1 rfl rfl) h2 h4
theorem Rd.take {w : World} {F : Nat → Prop} {a : Option Addr} {n c M : Nat} {l : List UInt8} (h : Rd w F (.slice a n c) l) (hM : M ≤ n) : Rd w F (.slice a M c) (l.take M) := by
 obtain ⟨a', b, off, c', hv, hc, hn, ha, hcell⟩ := h
 injection hv with e1 e2 e3
 subst e1 e2 e3
 have hl : (l.take M).length = M := by rw [List.length_take]; omega
 refine ⟨a, b, off, c, by rw [hl], by rw [hl]; omega, hn, fun h0 => ha (by rw [hl] at h0; omega), fun i hi => ?_⟩
 rw [List.getElem_take]
 exact hcell i (by rw [hl] at hi; omega)
theorem sliceh_run (a : Option Addr) (n c M : Nat) (h : M ≤ c) (u : World) : (Instr.sliceAt 74 (.slice a n c) none (some (.int .i64 (M : Nat))) none).run Tryz.prog u = .ok (.slice a M c) u := by
 have h' : (M : Int) ≤ (c : Int) := by omega
 cases a <;> go_simp
variable {w w' : World} {B b m : Nat} {room : Int} {off : Bool} {wr ar kp : Int} {F : List Fl}
/-- The bytes that stand under a name. -/
def oldB (F : List Fl) (s : ByteArray) : List UInt8 := match getF F s with | some f => f.bs | none => []
theorem oldB_cont (F : List Fl) (s : ByteArray) : oldB F s = (getC (cont F) s).getD [] := by
 rw [← get_cont]
 unfold oldB
 cases getF F s <;> rfl
theorem Dk.look {lk : Int} (h : Dk w B b m lk room off wr ar kp F) (s : ByteArray) : Out B w (lookV F s) (oldB F s) ∧ (∀ k, (lookV F s).ownBlock = some k → Fp b m F k) ∧ ∀ f ∈ F, f.nm ≠ s → (lookV F s).ownBlock = none ∨ (lookV F s).ownBlock ≠ f.v.ownBlock := by
 unfold lookV oldB
 cases hg : getF F s with
 | none => exact ⟨Out.nil _ _, (fun k hk => by cases hk), fun f _ _ => .inl rfl⟩
 | some g =>
  obtain ⟨h1, h2⟩ := getF_mem hg
  exact ⟨h.own g h1, fun k hk => .inr (.inr ⟨g, h1, hk⟩), fun f hf hn => ap_sym h.apart g h1 f hf (by rw [h2]; exact fun e => hn e.symm)⟩
/-- What a write of bytes leaves. -/
def appF (F : List Fl) (s : ByteArray) (l : List UInt8) (K : Int) : Cn := if 0 < K then setC (cont F) s (oldB F s ++ l.take (min K l.length).toNat) else cont F
set_option maxRecDepth 100000 in
set_option maxHeartbeats 4000000 in
theorem append_dk (h : Dk w B b m 0 room off wr ar kp F) (s : ByteArray) (Fr : Nat → Prop) (ba : Option Addr) (bn bc : Nat) (l : List UInt8) (hb : Rd w Fr (.slice ba bn bc) l) (hfr : ∀ k, Fr k → ¬ Fp b m F k) (hU : usedF F ≤ 1099511627776) (hr : 0 ≤ room ∧ room ≤ 1099511627776) (hw : 0 ≤ wr ∧ wr ≤ 4611686018427387904) (ha : 0 ≤ ar ∧ ar ≤ 9223372036854775807) (hB : B ≤ w.heap.size) (he : refE off s = 0) (hf : fitsF room F s l.length = true) :
  Calls Tryz.prog 51 #[.pointer (some ⟨b, 0, none⟩), .string s, .slice ba bn bc] w fun e w' => e = .returned (.int .i64 (wE ar)) ∧ ∃ F', Dk w' B b m 0 room (wO ar off) (wr + 1) (wA ar) kp F' ∧ cont F' = appF F s l (wK ar kp) ∧ DF w w' (Fp b m F) ∧ ∀ k, Fp b m F' k → Fp b m F k ∨ w.heap.size ≤ k := by
 have HD := hid h
 have HL := hid (lock_any h)
 have HN : Hid (l.length = bn) := hid (by obtain ⟨_, _, _, _, e, _⟩ := hb; injection e with _ e _; exact e.symm)
 have HNc : Hid (bn ≤ bc) := hid (by obtain ⟨_, _, _, _, e, h2, _⟩ := hb; injection e with _ e1 e2; omega)
 have HSz : Hid (s.size ≤ 64) := hid (by
  unfold refE at he
  cases off with
  | true => simp at he
  | false =>
   cases hg : goodN s with
   | false => rw [hg] at he; simp at he
   | true =>
    unfold goodN at hg
    simp only [Bool.and_eq_true, decide_eq_true_eq] at hg
    exact hg.2.1)
 have HRf : Hid (∀ u, Dk u B b m 1 room off wr ar kp F → Calls Tryz.prog 107 #[.pointer (some ⟨b, 0, none⟩), .string s] u fun e w' => e = .returned (.int .i64 0) ∧ u.grownBy w' none) := fun u hu => by
  have := refusal_any hu s
  rw [he] at this
  exact this
 have HFt : Hid (∀ u, Dk u B b m 1 room off wr ar kp F → Calls Tryz.prog 108 #[.pointer (some ⟨b, 0, none⟩), .string s, .int .i64 (bn : Nat)] u fun e w' => e = .returned (.bool true) ∧ u.grownBy w' none) := fun u hu => by
  have := fits_any hu s l.length hU hr
  rw [hf, HN.out] at this
  exact this
 have HWr : Hid (∀ u, Dk u B b m 1 room off wr ar kp F → Calls Tryz.prog 109 #[.pointer (some ⟨b, 0, none⟩)] u fun e w' => e = .returned (.tuple #[.int .i64 (wK ar kp), .int .i64 (wE ar)]) ∧ Dk w' B b m 1 room (wO ar off) (wr + 1) (wA ar) kp F ∧ u.grownBy w' (some b)) := fun u hu => write_any hu hw ha
 have HLr : Hid ((l.length : Int) ≤ room) := hid (by
  unfold fitsF at hf
  simp only [Bool.and_eq_true, decide_eq_true_eq] at hf
  have := hf.2
  omega)
 have HOL : Hid ((oldB F s).length ≤ usedF F) := hid (by rw [oldB_cont, used_cont]; exact get_used _ _)
 have HBd := hid (And.intro hU hr)
 have HRb := hid hb
 have HFr := hid hfr
 have HBw := hid hB
 obtain ⟨K, hK⟩ : ∃ x, wK ar kp = x := ⟨_, rfl⟩
 obtain ⟨E, hE⟩ : ∃ x, wE ar = x := ⟨_, rfl⟩
 obtain ⟨O', hO'⟩ : ∃ x, wO ar off = x := ⟨_, rfl⟩
 obtain ⟨A', hA'⟩ : ∃ x, wA ar = x := ⟨_, rfl⟩
 rw [hK, hE, hO', hA'] at HWr
 rw [hK, hE, hO', hA']
 clear h hb hfr hU hr hw ha hB he hf hK hE hO' hA'
 by_cases hK0 : 0 < K
 ·as_aux_lemma =>
  obtain ⟨M, hM⟩ : ∃ x : Nat, min K (bn : Int) = (x : Int) := ⟨(min K (bn : Int)).toNat, by omega⟩
  have HMb : Hid (M ≤ bn) := hid (by omega)
  have HMn : Hid (∀ (ty : TypeId) (u : World), (Builtin.min_ #[3, 3] ty #[.int .i64 K, .int .i64 (bn : Nat)]).run Tryz.prog u = .ok (.int .i64 (M : Nat)) u) := hid (fun ty u => by rw [run_min, hM])
  have HSl : Hid (∀ u : World, (Instr.sliceAt 74 (.slice ba bn bc) none (some (.int .i64 (M : Nat))) none).run Tryz.prog u = .ok (.slice ba M bc) u) := hid (fun u => sliceh_run ba bn bc M (by have := HNc.out; have := HMb.out; omega) u)
  obtain ⟨fa, fc, hfv⟩ := (HD.out.look s).1.len
  obtain ⟨ol, hol⟩ : ∃ x, oldB F s = x := ⟨_, rfl⟩
  rw [hol] at hfv HOL
  obtain ⟨fn, hfn⟩ : ∃ x, ol.length = x := ⟨_, rfl⟩
  rw [hfn] at hfv
  have HCo : Hid (∀ v, cont (setF F s v (ol ++ l.take M)) = appF F s l K) := hid (fun v => by
   unfold appF
   rw [if_pos hK0, set_cont, hol, HN.out, hM]
   rfl)
  have HOwn : Hid (∀ k, (Value.slice fa fn fc).ownBlock = some k → Fp b m F k) := hid (by rw [← hfv]; exact (HD.out.look s).2.1)
  have HNe : Hid (∀ f ∈ F, f.nm ≠ s → (Value.slice fa fn fc).ownBlock = none ∨ (Value.slice fa fn fc).ownBlock ≠ f.v.ownBlock) := hid (by rw [← hfv]; exact (HD.out.look s).2.2)
  have HOo : Hid (∀ u, Dk u B b m 1 room O' (wr + 1) A' kp F → Out B u (.slice fa fn fc) ol) := hid (fun u hu => by rw [← hfv, ← hol]; exact (hu.look s).1)
  have HLo : Hid (∀ u, Dk u B b m 1 room O' (wr + 1) A' kp F → (Instr.lookup 80 (.map (some m)) (.string s) false).run Tryz.prog u = .ok (.slice fa fn fc) u) := hid (fun u hu => by rw [← hfv]; exact run_look1 hu.map s)
  have HLn : Hid (ol.length + (l.take M).length ≤ 35184372088832) := hid (by
   have h1 := HOL.out
   have h2 := HBd.out
   have h3 := HLr.out
   have h4 : (l.take M).length ≤ l.length := by rw [List.length_take]; omega
   omega)
  clear hM hfv hol hfn
  go_enter_defers Tryz.func51, Tryz.ntmps51
  go_upto_region 10 with (first
   | (go_at_call 52; refine HL.out.mono ?_; rintro e w1 ⟨rfl, hd, hg⟩; have HD1 := hid hd; have HF1 := hid (DF.one hg (P := Fp b m F) (.inl rfl)); clear hd hg)
   | (go_at_call 107; refine (HRf.out _ HD1.out).mono ?_; rintro e w2 ⟨rfl, hg⟩; have HD2 := hid (HD1.out.keep hg); have HF2 := hid (HF1.out.trans (DF.of (P := Fp b m F) hg) (fun _ _ q => q)); clear hg)
   | (go_at_call 108; refine (HFt.out _ HD2.out).mono ?_; rintro e w3 ⟨rfl, hg⟩; have HD3 := hid (HD2.out.keep hg); have HF3 := hid (HF2.out.trans (DF.of (P := Fp b m F) hg) (fun _ _ q => q)); clear hg)
   | (go_at_call 109; refine (HWr.out _ HD3.out).mono ?_; rintro e w4 ⟨rfl, hd, hg⟩; have HD4 := hid hd; have HF4 := hid (HF3.out.trans (DF.one hg (P := Fp b m F) (.inl rfl)) (fun _ _ q => q)); clear hd hg))
  have HY3 : Hid (∀ u, w4.grownBy u none → u.cell? ⟨b, 3, none⟩ = some (.map (some m))) := hid (fun u hu => (HD4.out.keep hu).c.2.2.1)
  have HLk : Hid (∀ u, w4.grownBy u none → (Instr.lookup 80 (.map (some m)) (.string s) false).run Tryz.prog u = .ok (.slice fa fn fc) u) := hid (fun u hu => HLo.out u (HD4.out.keep hu))
  have HOl : Hid (∀ u, w4.grownBy u none → Out B u (.slice fa fn fc) ol) := hid (fun u hu => HOo.out u (HD4.out.keep hu))
  have HRd : Hid (∀ u, w4.grownBy u none → Rd u Fr (.slice ba M bc) (l.take M)) := hid (fun u hu => ((HRb.out.df HF4.out HFr.out).keep hu).take HMb.out)
  have HD8 := hid (HD4.out.keep (gdrew1 w4 none))
  obtain ⟨u8, hu8⟩ : ∃ x, w4.drew = x := ⟨_, rfl⟩
  have HU : Hid (w4.grownBy u8 none) := hid (by rw [← hu8]; exact gdrew1 _ _)
  rw [hu8] at HD8
  refine wp_calm ?_
  refine wp_region_held_drew (S := (fun u => u.cell? ⟨b, 3, none⟩ = some (.map (some m)))) (by kernel_rfl) ?_ (fun hHeld => ?_)
  ·rw [hu8]; exact HD8.out.c.2.2.1
  rw [hu8]
  clear hu8
  have hS8 := HD8.out.c.2.2.1
  refine wpAnyH_take (i := 0) (oi := { dst := some 36, op := Op.move (Operand.tmp 0), type := 26, pos := "disk.go:57", after := #[], guard := none }) (v := (.pointer (some ⟨b, 0, none⟩))) rfl (by kernel_rfl) (by kernel_rfl) (by kernel_rfl) (fun _ _ _ h => by cases h.1) (Or.inl ⟨by rfl, by intro u hSu; (try dsimp only at hSu); go_simp⟩) (by assumption) ?_
  (try simp only [Act.put, List.setIfInBounds_toArray, List.set_cons_zero, List.set_cons_succ])
  refine wpAnyH_take (i := 1) (oi := { dst := some 37, op := Op.move (Operand.tmp 1), type := 9, pos := "disk.go:57", after := #[], guard := none }) (v := (.string s)) rfl (by kernel_rfl) (by kernel_rfl) (by kernel_rfl) (fun _ _ _ h => by cases h.1) (Or.inl ⟨by rfl, by intro u hSu; (try dsimp only at hSu); go_simp⟩) (by assumption) ?_
  (try simp only [Act.put, List.setIfInBounds_toArray, List.set_cons_zero, List.set_cons_succ])
  refine wpAnyH_take (i := 2) (oi := { dst := some 38, op := Op.move (Operand.tmp 0), type := 26, pos := "disk.go:57", after := #[], guard := none }) (v := (.pointer (some ⟨b, 0, none⟩))) rfl (by kernel_rfl) (by kernel_rfl) (by kernel_rfl) (fun _ _ _ h => by cases h.1) (Or.inl ⟨by rfl, by intro u hSu; (try dsimp only at hSu); go_simp⟩) (by assumption) ?_
  (try simp only [Act.put, List.setIfInBounds_toArray, List.set_cons_zero, List.set_cons_succ])
  refine wpAnyH_take (i := 3) (oi := { dst := some 39, op := Op.nilCheck (Operand.tmp 38), type := 0, pos := "disk.go:57", after := #[{ on := 2, ground := Ground.data }], guard := none }) (v := (.pointer (some ⟨b, 0, none⟩))) rfl (by kernel_rfl) (by kernel_rfl) (by kernel_rfl) (fun _ _ _ h => by cases h.1) (Or.inl ⟨by rfl, by intro u hSu; (try dsimp only at hSu); go_simp⟩) (by assumption) ?_
  (try simp only [Act.put, List.setIfInBounds_toArray, List.set_cons_zero, List.set_cons_succ])
  refine wpAnyH_take (i := 4) (oi := { dst := some 40, op := Op.fieldAddr 89 (Operand.tmp 39) 2, type := 0, pos := "disk.go:57", after := #[{ on := 3, ground := Ground.data }], guard := none }) (v := (.pointer (some ⟨b, 3, none⟩))) rfl (by kernel_rfl) (by kernel_rfl) (by kernel_rfl) (fun _ _ _ h => by cases h.1) (Or.inl ⟨by rfl, by intro u hSu; (try dsimp only at hSu); go_simp⟩) (by assumption) ?_
  (try simp only [Act.put, List.setIfInBounds_toArray, List.set_cons_zero, List.set_cons_succ])
  refine wpAnyH_take (i := 5) (oi := { dst := some 41, op := Op.load 80 (Operand.tmp 40), type := 80, pos := "disk.go:57", after := #[{ on := 4, ground := Ground.data }], guard := none }) (v := (.map (some m))) rfl (by kernel_rfl) (by kernel_rfl) (by kernel_rfl) (fun _ _ _ h => by cases h.1) (Or.inl ⟨by rfl, by intro u hSu; (try dsimp only at hSu); go_simp⟩) (by assumption) ?_
  (try simp only [Act.put, List.setIfInBounds_toArray, List.set_cons_zero, List.set_cons_succ])
  refine wpAnyH_take (i := 6) (oi := { dst := some 42, op := Op.move (Operand.tmp 1), type := 9, pos := "disk.go:57", after := #[], guard := none }) (v := (.string s)) rfl (by kernel_rfl) (by kernel_rfl) (by kernel_rfl) (fun _ _ _ h => by cases h.1) (Or.inl ⟨by rfl, by intro u hSu; (try dsimp only at hSu); go_simp⟩) (by assumption) ?_
  (try simp only [Act.put, List.setIfInBounds_toArray, List.set_cons_zero, List.set_cons_succ])
  refine wpAnyH_take (i := 8) (oi := { dst := some 44, op := Op.move (Operand.tmp 2), type := 74, pos := "disk.go:57", after := #[], guard := none }) (v := (.slice ba bn bc)) rfl (by kernel_rfl) (by kernel_rfl) (by kernel_rfl) (fun _ _ _ h => by cases h.1) (Or.inl ⟨by rfl, by intro u hSu; (try dsimp only at hSu); go_simp⟩) (by assumption) ?_
  (try simp only [Act.put, List.setIfInBounds_toArray, List.set_cons_zero, List.set_cons_succ])
  refine wpAnyH_take (i := 9) (oi := { dst := some 45, op := Op.move (Operand.tmp 8), type := 3, pos := "disk.go:57", after := #[], guard := none }) (v := (.int .i64 K)) rfl (by kernel_rfl) (by kernel_rfl) (by kernel_rfl) (fun _ _ _ h => by cases h.1) (Or.inl ⟨by rfl, by intro u hSu; (try dsimp only at hSu); go_simp⟩) (by assumption) ?_
  (try simp only [Act.put, List.setIfInBounds_toArray, List.set_cons_zero, List.set_cons_succ])
  refine wpAnyH_take (i := 10) (oi := { dst := some 46, op := Op.move (Operand.tmp 2), type := 74, pos := "disk.go:57", after := #[], guard := none }) (v := (.slice ba bn bc)) rfl (by kernel_rfl) (by kernel_rfl) (by kernel_rfl) (fun _ _ _ h => by cases h.1) (Or.inl ⟨by rfl, by intro u hSu; (try dsimp only at hSu); go_simp⟩) (by assumption) ?_
  (try simp only [Act.put, List.setIfInBounds_toArray, List.set_cons_zero, List.set_cons_succ])
  refine wpAnyH_take (i := 11) (oi := { dst := some 47, op := Op.call { callee := Callee.builtin Builtin.len, args := #[Operand.tmp 46], argTypes := #[74] }, type := 3, pos := "disk.go:57", after := #[{ on := 10, ground := Ground.data }], guard := none }) (v := (.int .i64 (bn : Nat))) rfl (by kernel_rfl) (by kernel_rfl) (by kernel_rfl) (fun _ _ _ h => by cases h.1) (Or.inl ⟨by rfl, by intro u hSu; (try dsimp only at hSu); go_simp⟩) (by assumption) ?_
  (try simp only [Act.put, List.setIfInBounds_toArray, List.set_cons_zero, List.set_cons_succ])
  refine wpAnyH_take (i := 12) (oi := { dst := some 48, op := Op.call { callee := Callee.builtin Builtin.min, args := #[Operand.tmp 45, Operand.tmp 47], argTypes := #[3, 3] }, type := 3, pos := "disk.go:57", after := #[{ on := 9, ground := Ground.data }, { on := 11, ground := Ground.data }], guard := none }) (v := (.int .i64 (M : Nat))) rfl (by kernel_rfl) (by kernel_rfl) (by kernel_rfl) (fun _ _ _ h => by cases h.1) (yieldsIf_min rfl (.tmp 45) (.tmp 47) rfl _ _ _ rfl rfl (fun u ty => HMn.out ty u)) (by assumption) ?_
  (try simp only [Act.put, List.setIfInBounds_toArray, List.set_cons_zero, List.set_cons_succ])
  refine wpAnyH_take (i := 13) (oi := { dst := some 49, op := Op.slice 74 (Operand.tmp 44) none (some (Operand.tmp 48)) none, type := 74, pos := "disk.go:57", after := #[{ on := 8, ground := Ground.data }, { on := 12, ground := Ground.data }], guard := none }) (v := (.slice ba M bc)) rfl (by kernel_rfl) (by kernel_rfl) (by kernel_rfl) (fun _ _ _ h => by cases h.1) (yieldsIf_sliceh rfl 74 (.tmp 44) (.tmp 48) rfl _ _ _ rfl rfl (fun u => HSl.out u)) (by assumption) ?_
  (try simp only [Act.put, List.setIfInBounds_toArray, List.set_cons_zero, List.set_cons_succ])
  refine wpAnyH_ready (rs := [7]) (by kernel_rfl) (by simp) ?_
  refine AllReadyH.cons (o := { dst := some 43, op := Op.lookup 80 (Operand.tmp 41) (Operand.tmp 42) false, type := 74, pos := "disk.go:57", after := #[{ on := 5, ground := Ground.data }, { on := 6, ground := Ground.data }], guard := none }) rfl (fun K hK => ?_) AllReadyH.nil
  have hlk := HLk.out u8 HU.out
  go_simp
  clear hlk
  refine hK.out _ _ ?_ (fun hHeld => ?_)
  ·exact HD8.out.c.2.2.1
  clear hK K
  (try simp only [Act.put, List.setIfInBounds_toArray, List.set_cons_zero, List.set_cons_succ])
  refine wpAnyH_ready (rs := [14]) (by kernel_rfl) (by simp) ?_
  refine AllReadyH.cons (o := { dst := some 50, op := Op.call { callee := Callee.builtin Builtin.append, args := #[Operand.tmp 43, Operand.tmp 49], argTypes := #[74, 74] }, type := 74, pos := "disk.go:57", after := #[{ on := 7, ground := Ground.data }, { on := 13, ground := Ground.data }], guard := none }) rfl (fun K hK => ?_) AllReadyH.nil
  refine step_append_at rfl (.tmp 43) (.tmp 49) rfl B Fr ol (l.take M) (HOl.out u8 HU.out) (HRd.out u8 HU.out) HLn.out (by have := HD8.out.low.1; have := HD8.out.blk.lt; omega) ?_
  intro v5 w5 hO5 hg5 hat5
  obtain ⟨va, vc, hv5⟩ := hO5.len
  obtain ⟨vn, hvn⟩ : ∃ x, (ol ++ l.take M).length = x := ⟨_, rfl⟩
  rw [hvn] at hv5
  subst hv5
  have HO5 := hid hO5
  have HG5 : Hid (u8.grownBy w5 (Value.slice fa fn fc).ownBlock) := hid hg5
  have HA5 : Hid ((Value.slice va vn vc).ownBlock = (Value.slice fa fn fc).ownBlock ∨ (Value.slice va vn vc).ownBlock = some u8.heap.size) := hid hat5
  have HW5 := hid (HD8.out.wr' s (HOl.out u8 HU.out) HG5.out HNe.out)
  have HP5 := hid (put_any s HW5.out va vn vc (ol ++ l.take M) HSz.out HO5.out (fun f hf hn => by
   rcases HA5.out with q | q
   ·rw [q]; exact HNe.out f hf hn
   ·exact .inr (fun e => by have := ((HD8.out.own f hf).lt _ (e.symm.trans q)).2; omega)))
  clear hO5 hg5 hat5 hvn
  refine hK.out _ _ ?_ (fun hHeld => ?_)
  ·exact HW5.out.blk.cell 3
  clear hK K
  (try simp only [Act.put, List.setIfInBounds_toArray, List.set_cons_zero, List.set_cons_succ])
  refine wpAnyH_ready (rs := [15]) (by kernel_rfl) (by simp) ?_
  refine AllReadyH.cons (o := { dst := some 51, op := Op.call { callee := Callee.value (Operand.func 110), args := #[Operand.tmp 36, Operand.tmp 37, Operand.tmp 50], argTypes := #[26, 9, 74] }, type := 0, pos := "disk.go:57", after := #[{ on := 0, ground := Ground.data }, { on := 1, ground := Ground.data }, { on := 14, ground := Ground.data }, { on := 14, ground := Ground.chain }], guard := none }) rfl (fun K hK => ?_) AllReadyH.nil
  go_simp
  go_wp2_with (go_at_call 110; refine HP5.out.mono ?_; rintro e w6 ⟨rfl, hd6, hg6⟩; have HD6 := hid hd6; have HG6 := hid hg6; clear hd6 hg6)
  refine hK.out _ _ ?_ (fun hHeld => ?_)
  ·exact HD6.out.c.2.2.1
  clear hK K
  (try simp only [Act.put, List.setIfInBounds_toArray, List.set_cons_zero, List.set_cons_succ])
  refine wpAnyH_done (by kernel_rfl) ?_ _
  refine ⟨rfl, ?_⟩
  go_wp2_with fail
  refine leaves_cons (f := 53) (args := #[.pointer (some ⟨b, 0, none⟩)]) (by simp) (by simp [go_sem]) ?_
  refine (unlock_any .returning HD6.out).mono ?_
  rintro e u' w7 ⟨rfl, rfl, hd7, hg7⟩
  refine ⟨_, results_tmp rfl _ _ _, rfl, setF F s (.slice va vn vc) (ol ++ l.take M), hd7, HCo.out _, ?_, ?_⟩
  ·exact ((((HF4.out.trans (DF.of (P := Fp b m F) HU.out) (fun _ _ q => q)).trans (DF.opt HG5.out (P := Fp b m F) HOwn.out) (fun _ _ q => q)).trans (DF.one HG6.out (P := Fp b m F) (.inr (.inl rfl))) (fun _ _ q => q)).trans (DF.one hg7 (P := Fp b m F) (.inl rfl)) (fun _ _ q => q))
  ·rintro k (rfl | rfl | ⟨f, hf, hk⟩)
   ·exact .inl (.inl rfl)
   ·exact .inl (.inr (.inl rfl))
   ·rcases mem_setF HD8.out.map.nodup hf with rfl | ⟨hf, _⟩
    ·rcases HA5.out with q | q
     ·exact .inl (HOwn.out k (q.symm.trans hk))
     ·right
      have h9 := q.symm.trans hk
      injection h9 with h9
      have := HF4.out.size
      have := HU.out.size
      omega
    ·exact .inl (.inr (.inr ⟨f, hf, hk⟩))
 ·as_aux_lemma =>
  have HCo : Hid (cont F = appF F s l K) := hid (by unfold appF; rw [if_neg hK0])
  go_enter_defers Tryz.func51, Tryz.ntmps51
  go_wp2_with (first
   | (go_at_call 52; refine HL.out.mono ?_; rintro e w1 ⟨rfl, hd, hg⟩; have HD1 := hid hd; have HF1 := hid (DF.one hg (P := Fp b m F) (.inl rfl)); clear hd hg)
   | (go_at_call 107; refine (HRf.out _ HD1.out).mono ?_; rintro e w2 ⟨rfl, hg⟩; have HD2 := hid (HD1.out.keep hg); have HF2 := hid (HF1.out.trans (DF.of (P := Fp b m F) hg) (fun _ _ q => q)); clear hg)
   | (go_at_call 108; refine (HFt.out _ HD2.out).mono ?_; rintro e w3 ⟨rfl, hg⟩; have HD3 := hid (HD2.out.keep hg); have HF3 := hid (HF2.out.trans (DF.of (P := Fp b m F) hg) (fun _ _ q => q)); clear hg)
   | (go_at_call 109; refine (HWr.out _ HD3.out).mono ?_; rintro e w4 ⟨rfl, hd, hg⟩; have HD4 := hid hd; have HF4 := hid (HF3.out.trans (DF.one hg (P := Fp b m F) (.inl rfl)) (fun _ _ q => q)); clear hd hg))
  refine leaves_cons (f := 53) (args := #[.pointer (some ⟨b, 0, none⟩)]) (by simp) (by simp [go_sem]) ?_
  refine (unlock_any .returning HD4.out).mono ?_
  rintro e u' w7 ⟨rfl, rfl, hd7, hg7⟩
  exact ⟨_, results_tmp rfl _ _ _, rfl, F, hd7, HCo.out, HF4.out.trans (DF.one hg7 (P := Fp b m F) (.inl rfl)) (fun _ _ q => q), fun k hk => .inl hk⟩
end Go.Proofs.YtpbiofnncdneoaaGreatDoor

namespace Go.Proofs.YtpbiofnncdneoaaGreatDoor
open Go Go.RowKit Go.MuLone
open Go.RowKit (wrap32 wrap64)

section
variable {w w' : World} {B b m : Nat} {room : Int} {off : Bool} {wr ar kp : Int} {F : List Fl}
set_option maxRecDepth 100000 in
set_option maxHeartbeats 1600000 in
theorem append_no1 (h : Dk w B b m 0 room off wr ar kp F) (s : ByteArray) (ba : Option Addr) (bn bc : Nat) (he : refE off s ≠ 0) :
  Calls Tryz.prog 51 #[.pointer (some ⟨b, 0, none⟩), .string s, .slice ba bn bc] w fun e w' => e = .returned (.int .i64 (refE off s)) ∧ w.grownBy w' none := by
 have HD := hid h
 have HL := hid (lock_any h)
 obtain ⟨E, hE⟩ : ∃ x, refE off s = x := ⟨_, rfl⟩
 have HRf : Hid (∀ u, Dk u B b m 1 room off wr ar kp F → Calls Tryz.prog 107 #[.pointer (some ⟨b, 0, none⟩), .string s] u fun e w' => e = .returned (.int .i64 E) ∧ u.grownBy w' none) := fun u hu => by
  have := refusal_any hu s
  rw [hE] at this
  exact this
 rw [hE] at he ⊢
 have he' : (E == 0) = false := beq_eq_false_iff_ne.2 he
 clear h hE
 go_enter_defers Tryz.func51, Tryz.ntmps51
 go_wp2_with (first
  | (go_at_call 52; refine HL.out.mono ?_; rintro e w1 ⟨rfl, hd, hg⟩; have HD1 := hid hd; have HG1 := hid hg; clear hd hg)
  | (go_at_call 107; refine (HRf.out _ HD1.out).mono ?_; rintro e w2 ⟨rfl, hg⟩; have HD2 := hid (HD1.out.keep hg); have HG2 := hid (HG1.out.andThen hg (fun j hj => by cases hj)); clear hg))
 refine leaves_cons (f := 53) (args := #[.pointer (some ⟨b, 0, none⟩)]) (by simp) (by simp [go_sem]) ?_
 refine (unlock_any .returning HD2.out).mono ?_
 rintro e u' w3 ⟨rfl, rfl, hd3, hg3⟩
 exact ⟨_, results_tmp rfl _ _ _, rfl, back_same HD.out.blk (gtrans HG2.out hg3) hd3.blk⟩
set_option maxRecDepth 100000 in
set_option maxHeartbeats 1600000 in
theorem append_no2 (h : Dk w B b m 0 room off wr ar kp F) (s : ByteArray) (ba : Option Addr) (bn bc : Nat) (hU : usedF F ≤ 1099511627776) (hr : 0 ≤ room ∧ room ≤ 1099511627776) (he : refE off s = 0) (hf : fitsF room F s bn = false) :
  Calls Tryz.prog 51 #[.pointer (some ⟨b, 0, none⟩), .string s, .slice ba bn bc] w fun e w' => e = .returned (.int .i64 93) ∧ w.grownBy w' none := by
 have HD := hid h
 have HL := hid (lock_any h)
 have HRf : Hid (∀ u, Dk u B b m 1 room off wr ar kp F → Calls Tryz.prog 107 #[.pointer (some ⟨b, 0, none⟩), .string s] u fun e w' => e = .returned (.int .i64 0) ∧ u.grownBy w' none) := fun u hu => by
  have := refusal_any hu s
  rw [he] at this
  exact this
 have HFt : Hid (∀ u, Dk u B b m 1 room off wr ar kp F → Calls Tryz.prog 108 #[.pointer (some ⟨b, 0, none⟩), .string s, .int .i64 (bn : Nat)] u fun e w' => e = .returned (.bool false) ∧ u.grownBy w' none) := fun u hu => by
  have := fits_any hu s bn hU hr
  rw [hf] at this
  exact this
 clear h he hf hU hr
 go_enter_defers Tryz.func51, Tryz.ntmps51
 go_wp2_with (first
  | (go_at_call 52; refine HL.out.mono ?_; rintro e w1 ⟨rfl, hd, hg⟩; have HD1 := hid hd; have HG1 := hid hg; clear hd hg)
  | (go_at_call 107; refine (HRf.out _ HD1.out).mono ?_; rintro e w2 ⟨rfl, hg⟩; have HD2 := hid (HD1.out.keep hg); have HG2 := hid (HG1.out.andThen hg (fun j hj => by cases hj)); clear hg)
  | (go_at_call 108; refine (HFt.out _ HD2.out).mono ?_; rintro e w3 ⟨rfl, hg⟩; have HD3 := hid (HD2.out.keep hg); have HG3 := hid (HG2.out.andThen hg (fun j hj => by cases hj)); clear hg))
 refine leaves_cons (f := 53) (args := #[.pointer (some ⟨b, 0, none⟩)]) (by simp) (by simp [go_sem]) ?_
 refine (unlock_any .returning HD3.out).mono ?_
 rintro e u' w4 ⟨rfl, rfl, hd4, hg4⟩
 exact ⟨_, results_tmp rfl _ _ _, rfl, back_same HD.out.blk (gtrans HG3.out hg4) hd4.blk⟩
/-- What a Cut leaves. -/
def cutF (F : List Fl) (s : ByteArray) (z : Nat) (K : Int) : Cn := if 0 < K then setC (cont F) s ((oldB F s).take z) else cont F
theorem refE_size {off : Bool} {s : ByteArray} (he : refE off s = 0) : s.size ≤ 64 ∧ goodN s = true ∧ off = false := by
 unfold refE at he
 cases off with
 | true => simp at he
 | false =>
  cases hg : goodN s with
  | false => rw [hg] at he; simp at he
  | true =>
   have hg' := hg
   unfold goodN at hg
   simp only [Bool.and_eq_true, decide_eq_true_eq] at hg
   exact ⟨hg.2.1, rfl, rfl⟩
theorem findE_zero {off : Bool} {F : List Fl} {s : ByteArray} (he : findE off F s = 0) : refE off s = 0 ∧ hasF F s = true := by
 unfold findE at he
 by_cases e : refE off s = 0
 ·rw [if_pos e] at he
  refine ⟨e, ?_⟩
  cases hh : hasF F s with
  | true => rfl
  | false => rw [hh] at he; simp at he
 ·rw [if_neg e] at he
  exact absurd he e
set_option maxRecDepth 100000 in
set_option maxHeartbeats 4000000 in
theorem cut_dk (h : Dk w B b m 0 room off wr ar kp F) (s : ByteArray) (z : Nat) (hU : usedF F ≤ 1099511627776) (hw : 0 ≤ wr ∧ wr ≤ 4611686018427387904) (ha : 0 ≤ ar ∧ ar ≤ 9223372036854775807) (hB : B ≤ w.heap.size) (he : findE off F s = 0) (hz : z ≤ (oldB F s).length) :
  Calls Tryz.prog 103 #[.pointer (some ⟨b, 0, none⟩), .string s, .int .i64 (z : Nat)] w fun e w' => e = .returned (.int .i64 (wE ar)) ∧ ∃ F', Dk w' B b m 0 room (wO ar off) (wr + 1) (wA ar) kp F' ∧ cont F' = cutF F s z (wK ar kp) ∧ DF w w' (Fp b m F) ∧ ∀ k, Fp b m F' k → Fp b m F k ∨ w.heap.size ≤ k := by
 have HD := hid h
 have HL := hid (lock_any h)
 have HSz : Hid (s.size ≤ 64) := hid (refE_size (findE_zero he).1).1
 have hfv0 : findV off F s = lookV F s := by unfold findV; rw [if_pos he]
 obtain ⟨fa, fc, hfv⟩ := (h.look s).1.len
 obtain ⟨ol, hol⟩ : ∃ x, oldB F s = x := ⟨_, rfl⟩
 rw [hol] at hfv hz
 obtain ⟨fn, hfn⟩ : ∃ x, ol.length = x := ⟨_, rfl⟩
 rw [hfn] at hfv hz
 have HFi : Hid (∀ u, Dk u B b m 1 room off wr ar kp F → Calls Tryz.prog 101 #[.pointer (some ⟨b, 0, none⟩), .string s] u fun e w' => e = .returned (.tuple #[.slice fa fn fc, .int .i64 0]) ∧ u.grownBy w' none) := fun u hu => by
  have := find_any hu s
  rw [he, hfv0, hfv] at this
  exact this
 have HWr : Hid (∀ u, Dk u B b m 1 room off wr ar kp F → Calls Tryz.prog 109 #[.pointer (some ⟨b, 0, none⟩)] u fun e w' => e = .returned (.tuple #[.int .i64 (wK ar kp), .int .i64 (wE ar)]) ∧ Dk w' B b m 1 room (wO ar off) (wr + 1) (wA ar) kp F ∧ u.grownBy w' (some b)) := fun u hu => write_any hu hw ha
 have HOL : Hid (ol.length ≤ 1099511627776) := hid (by rw [← hol, oldB_cont]; have := get_used (cont F) s; rw [← used_cont] at this; omega)
 obtain ⟨K, hK⟩ : ∃ x, wK ar kp = x := ⟨_, rfl⟩
 obtain ⟨E, hE⟩ : ∃ x, wE ar = x := ⟨_, rfl⟩
 obtain ⟨O', hO'⟩ : ∃ x, wO ar off = x := ⟨_, rfl⟩
 obtain ⟨A', hA'⟩ : ∃ x, wA ar = x := ⟨_, rfl⟩
 rw [hK, hE, hO', hA'] at HWr
 rw [hK, hE, hO', hA']
 have HO4 : Hid (∀ u, Dk u B b m 1 room O' (wr + 1) A' kp F → Out B u (.slice fa fn fc) ol) := hid (fun u hu => by rw [← hfv, ← hol]; exact (hu.look s).1)
 have HC : Hid (∀ u, Dk u B b m 1 room O' (wr + 1) A' kp F → Calls Tryz.prog 64 #[.slice fa z fc] u fun e w' => ∃ v', e = .returned v' ∧ Out u.heap.size w' v' (ol.take z) ∧ u.grownBy w' none) := fun u hu => bclone_any u _ _ (ol.take z) ((HO4.out u hu).rd.take hz) (by have := HOL.out; rw [List.length_take]; omega)
 have HCo1 : Hid (0 < K → ∀ v, cont (setF F s v (ol.take z)) = cutF F s z K) := hid (fun hk v => by unfold cutF; rw [if_pos hk, set_cont, hol])
 have HCo2 : Hid (¬ 0 < K → cont F = cutF F s z K) := hid (fun hk => by unfold cutF; rw [if_neg hk])
 have HZl : Hid ((ol.take z).length = z) := hid (by rw [List.length_take]; omega)
 have HBw := hid hB
 have hz1 : ¬ (z : Int) < 0 := by omega
 have hz2 : ¬ (fn : Int) < (z : Int) := by omega
 have HFc : Hid (fn ≤ fc) := hid (by
  have := (h.look s).1.rd
  rw [hfv, hol] at this
  obtain ⟨_, _, _, _, e, h2, _⟩ := this
  injection e with _ e1 e2
  omega)
 have hz3 : (z : Int) ≤ (fc : Int) := by have := HFc.out; omega
 clear h hU hw ha hB he hfv0 hfv hol hfn hK hE hO' hA' hz
 by_cases hK0 : 0 < K
 ·as_aux_lemma =>
  go_enter_defers Tryz.func103, Tryz.ntmps103
  go_wp2_with (first
   | (go_at_call 52; refine HL.out.mono ?_; rintro e w1 ⟨rfl, hd, hg⟩; have HD1 := hid hd; have HF1 := hid (DF.one hg (P := Fp b m F) (.inl rfl)); clear hd hg)
   | (go_at_call 101; refine (HFi.out _ HD1.out).mono ?_; rintro e w2 ⟨rfl, hg⟩; have HD2 := hid (HD1.out.keep hg); have HF2 := hid (HF1.out.trans (DF.of (P := Fp b m F) hg) (fun _ _ q => q)); clear hg)
   | (go_at_call 109; refine (HWr.out _ HD2.out).mono ?_; rintro e w4 ⟨rfl, hd, hg⟩; have HD4 := hid hd; have HF4 := hid (HF2.out.trans (DF.one hg (P := Fp b m F) (.inl rfl)) (fun _ _ q => q)); clear hd hg)
   | (go_at_call 64; refine (HC.out _ HD4.out).mono ?_; rintro e w5 ⟨v5, rfl, hO, hg⟩; obtain ⟨va, vc, hv5⟩ := hO.len; rw [HZl.out] at hv5; subst hv5; have HO5 := hid hO; have HD5 := hid (HD4.out.keep hg); have HF5 := hid (HF4.out.trans (DF.of (P := Fp b m F) hg) (fun _ _ q => q)); have HP5 := hid (put_any s (HD5.out.toW s) va z vc (ol.take z) HSz.out (HO5.out.below (by have := HF4.out.size; have := HBw.out; omega)) (fun f hf _ => by
     cases hk : (Value.slice va z vc).ownBlock with
     | none => exact .inl rfl
     | some k => exact .inr (fun e => by have := HO5.out.block k hk; have := ((HD4.out.own f hf).lt k e.symm).2; omega))); clear hO hg)
   | (go_at_call 110; refine HP5.out.mono ?_; rintro e w6 ⟨rfl, hd6, hg6⟩; have HD6 := hid hd6; have HG6 := hid hg6; clear hd6 hg6))
  refine leaves_cons (f := 53) (args := #[.pointer (some ⟨b, 0, none⟩)]) (by simp) (by simp [go_sem]) ?_
  refine (unlock_any .returning HD6.out).mono ?_
  rintro e u' w7 ⟨rfl, rfl, hd7, hg7⟩
  refine ⟨_, results_tmp rfl _ _ _, rfl, setF F s (.slice va z vc) (ol.take z), hd7, HCo1.out hK0 _, ?_, ?_⟩
  ·exact (HF5.out.trans (DF.one HG6.out (P := Fp b m F) (.inr (.inl rfl))) (fun _ _ q => q)).trans (DF.one hg7 (P := Fp b m F) (.inl rfl)) (fun _ _ q => q)
  ·rintro k (rfl | rfl | ⟨f, hf, hk⟩)
   ·exact .inl (.inl rfl)
   ·exact .inl (.inr (.inl rfl))
   ·rcases mem_setF HD5.out.map.nodup hf with rfl | ⟨hf, _⟩
    ·right
     have := HO5.out.block k hk
     have := HF4.out.size
     omega
    ·exact .inl (.inr (.inr ⟨f, hf, hk⟩))
 ·as_aux_lemma =>
  go_enter_defers Tryz.func103, Tryz.ntmps103
  go_wp2_with (first
   | (go_at_call 52; refine HL.out.mono ?_; rintro e w1 ⟨rfl, hd, hg⟩; have HD1 := hid hd; have HF1 := hid (DF.one hg (P := Fp b m F) (.inl rfl)); clear hd hg)
   | (go_at_call 101; refine (HFi.out _ HD1.out).mono ?_; rintro e w2 ⟨rfl, hg⟩; have HD2 := hid (HD1.out.keep hg); have HF2 := hid (HF1.out.trans (DF.of (P := Fp b m F) hg) (fun _ _ q => q)); clear hg)
   | (go_at_call 109; refine (HWr.out _ HD2.out).mono ?_; rintro e w4 ⟨rfl, hd, hg⟩; have HD4 := hid hd; have HF4 := hid (HF2.out.trans (DF.one hg (P := Fp b m F) (.inl rfl)) (fun _ _ q => q)); clear hd hg))
  refine leaves_cons (f := 53) (args := #[.pointer (some ⟨b, 0, none⟩)]) (by simp) (by simp [go_sem]) ?_
  refine (unlock_any .returning HD4.out).mono ?_
  rintro e u' w7 ⟨rfl, rfl, hd7, hg7⟩
  exact ⟨_, results_tmp rfl _ _ _, rfl, F, hd7, HCo2.out hK0, HF4.out.trans (DF.one hg7 (P := Fp b m F) (.inl rfl)) (fun _ _ q => q), fun k hk => .inl hk⟩
set_option maxRecDepth 100000 in
set_option maxHeartbeats 1600000 in
theorem cut_no1 (h : Dk w B b m 0 room off wr ar kp F) (s : ByteArray) (z : Int) (he : findE off F s ≠ 0) :
  Calls Tryz.prog 103 #[.pointer (some ⟨b, 0, none⟩), .string s, .int .i64 z] w fun e w' => e = .returned (.int .i64 (findE off F s)) ∧ w.grownBy w' none := by
 have HD := hid h
 have HL := hid (lock_any h)
 obtain ⟨E, hE⟩ : ∃ x, findE off F s = x := ⟨_, rfl⟩
 have hfv0 : findV off F s = .slice none 0 0 := by unfold findV; rw [if_neg he]
 have HFi : Hid (∀ u, Dk u B b m 1 room off wr ar kp F → Calls Tryz.prog 101 #[.pointer (some ⟨b, 0, none⟩), .string s] u fun e w' => e = .returned (.tuple #[.slice none 0 0, .int .i64 E]) ∧ u.grownBy w' none) := fun u hu => by
  have := find_any hu s
  rw [hfv0, hE] at this
  exact this
 rw [hE] at he ⊢
 have he' : (E == 0) = false := beq_eq_false_iff_ne.2 he
 clear h hE hfv0
 go_enter_defers Tryz.func103, Tryz.ntmps103
 go_wp2_with (first
  | (go_at_call 52; refine HL.out.mono ?_; rintro e w1 ⟨rfl, hd, hg⟩; have HD1 := hid hd; have HG1 := hid hg; clear hd hg)
  | (go_at_call 101; refine (HFi.out _ HD1.out).mono ?_; rintro e w2 ⟨rfl, hg⟩; have HD2 := hid (HD1.out.keep hg); have HG2 := hid (HG1.out.andThen hg (fun j hj => by cases hj)); clear hg))
 refine leaves_cons (f := 53) (args := #[.pointer (some ⟨b, 0, none⟩)]) (by simp) (by simp [go_sem]) ?_
 refine (unlock_any .returning HD2.out).mono ?_
 rintro e u' w3 ⟨rfl, rfl, hd3, hg3⟩
 exact ⟨_, results_tmp rfl _ _ _, rfl, back_same HD.out.blk (gtrans HG2.out hg3) hd3.blk⟩
set_option maxRecDepth 100000 in
set_option maxHeartbeats 1600000 in
theorem cut_no2 (h : Dk w B b m 0 room off wr ar kp F) (s : ByteArray) (z : Int) (he : findE off F s = 0) (hz : z < 0 ∨ ((oldB F s).length : Int) < z) :
  Calls Tryz.prog 103 #[.pointer (some ⟨b, 0, none⟩), .string s, .int .i64 z] w fun e w' => e = .returned (.int .i64 95) ∧ w.grownBy w' none := by
 have HD := hid h
 have HL := hid (lock_any h)
 have hfv0 : findV off F s = lookV F s := by unfold findV; rw [if_pos he]
 obtain ⟨fa, fc, hfv⟩ := (h.look s).1.len
 obtain ⟨fn, hfn⟩ : ∃ x, (oldB F s).length = x := ⟨_, rfl⟩
 rw [hfn] at hfv hz
 have HFi : Hid (∀ u, Dk u B b m 1 room off wr ar kp F → Calls Tryz.prog 101 #[.pointer (some ⟨b, 0, none⟩), .string s] u fun e w' => e = .returned (.tuple #[.slice fa fn fc, .int .i64 0]) ∧ u.grownBy w' none) := fun u hu => by
  have := find_any hu s
  rw [he, hfv0, hfv] at this
  exact this
 clear h he hfv0 hfv hfn
 by_cases hz1 : z < 0
 ·clear hz
  go_enter_defers Tryz.func103, Tryz.ntmps103
  go_wp2_with (first
   | (go_at_call 52; refine HL.out.mono ?_; rintro e w1 ⟨rfl, hd, hg⟩; have HD1 := hid hd; have HG1 := hid hg; clear hd hg)
   | (go_at_call 101; refine (HFi.out _ HD1.out).mono ?_; rintro e w2 ⟨rfl, hg⟩; have HD2 := hid (HD1.out.keep hg); have HG2 := hid (HG1.out.andThen hg (fun j hj => by cases hj)); clear hg))
  refine leaves_cons (f := 53) (args := #[.pointer (some ⟨b, 0, none⟩)]) (by simp) (by simp [go_sem]) ?_
  refine (unlock_any .returning HD2.out).mono ?_
  rintro e u' w3 ⟨rfl, rfl, hd3, hg3⟩
  exact ⟨_, results_tmp rfl _ _ _, rfl, back_same HD.out.blk (gtrans HG2.out hg3) hd3.blk⟩
 ·have hz2 : (fn : Int) < z := by omega
  clear hz
  go_enter_defers Tryz.func103, Tryz.ntmps103
  go_wp2_with (first
   | (go_at_call 52; refine HL.out.mono ?_; rintro e w1 ⟨rfl, hd, hg⟩; have HD1 := hid hd; have HG1 := hid hg; clear hd hg)
   | (go_at_call 101; refine (HFi.out _ HD1.out).mono ?_; rintro e w2 ⟨rfl, hg⟩; have HD2 := hid (HD1.out.keep hg); have HG2 := hid (HG1.out.andThen hg (fun j hj => by cases hj)); clear hg))
  refine leaves_cons (f := 53) (args := #[.pointer (some ⟨b, 0, none⟩)]) (by simp) (by simp [go_sem]) ?_
  refine (unlock_any .returning HD2.out).mono ?_
  rintro e u' w3 ⟨rfl, rfl, hd3, hg3⟩
  exact ⟨_, results_tmp rfl _ _ _, rfl, back_same HD.out.blk (gtrans HG2.out hg3) hd3.blk⟩
end
end Go.Proofs.YtpbiofnncdneoaaGreatDoor
