/- The walk of DigestWhole. -/
import Derived.Test.YtmiojplbcjhggaaDoorPlR
namespace Go.Proofs.YtmiojplbcjhggaaDoor
open Go Go.RowKit
open Go.RowKit (wrap32 wrap64)

section
variable {P : Program} {ops : Array Oper} {rest : List Oper} {o : Oper} {a : Act} {w : World} {Q : Exit → Act → World → Prop}
theorem wpList_want (hw : Region.wanted o (yielded ops a.tmps) = true) (h : ∀ K : Act → World → Prop, (∀ a w, wpList P ops Q rest a w → K a w) → o.wp P a w K Q) : wpList P ops Q (o :: rest) a w :=
  wpList_step fun K hK => by rw [if_pos hw]; exact h K hK
theorem wpList_load_partW (hw : Region.wanted o (yielded ops a.tmps) = true) (ty : TypeId) (x : Operand) (ho : o.op = .load ty x) (b off : Nat) (vs : List Value) (d : TypeDesc) (hx : a.eval x = .pointer (some ⟨b, off, none⟩)) (hc : w.rangeAt b off vs)
    (hu : P.underlying ty = some d) (hd : d.isRow = true) (hi : (P.info? ty).map (·.size) = some vs.length)
    (h : wpList P ops Q rest (a.put o.dst (.agg vs.toArray)) w) : wpList P ops Q (o :: rest) a w :=
  wpList_want hw fun _ hK => wp_load_mid ty x ho b off hx vs d hc hu hd hi (hK _ _ h)
theorem wpList_binW (hw : Region.wanted o (yielded ops a.tmps) = true) (op : BinOp) (t : TypeId) (x y : Operand) (ty : TypeId) (ho : o.op = .binOp op t x y ty) (vx vy v : Value) (hx : a.eval x = vx) (hy : a.eval y = vy) (hr : (do eqGuard op t x y vx vy; binOp op t vx vy : Sem Value).run P w = .ok v w)
    (h : wpList P ops Q rest (a.put o.dst v) w) : wpList P ops Q (o :: rest) a w :=
  wpList_want hw fun _ hK => by
    subst hx hy
    unfold Oper.wp execOp
    simp only [ho]
    rw [Sem.run_bind, hr]
    exact hK _ _ h
theorem wpList_build_ofW (hw : Region.wanted o (yielded ops a.tmps) = true) (t : TypeId) (xs : Array (Nat × Operand)) (ho : o.op = .build t xs) (vs : List (Nat × Value)) (hx : (xs.map fun (i, x) => (i, a.eval x)).toList = vs) (z : List Value) (hz : P.built t vs = some z.toArray)
    (h : wpList P ops Q rest (a.put o.dst (.agg z.toArray)) w) : wpList P ops Q (o :: rest) a w := by
  have e : P.built t (xs.map fun (i, x) => (i, a.eval x)).toList = some z.toArray := by rw [hx]; exact hz
  refine wpList_want hw fun _ hK => ?_
  refine wp_build t xs ho (by rw [e]; rfl) ?_
  rw [e]
  exact hK _ _ h
end
theorem Out.fr {C : Nat} {w w' : World} {v : Value} {l : List UInt8} {xb : Option Nat} (h : Out C w v l) (hf : Fr w w' C xb) (hx : ∀ g, v.ownBlock = some g → xb ≠ some g) : Out C w' v l := by
  have h5 := fun (g : Nat) (hv : v.ownBlock = some g) => h.cells5 hv
  rcases h.2 with ⟨rfl, h0⟩ | ⟨g, cap, cur, rfl, hb, hg, r⟩
  · exact ⟨h.1, .inl ⟨rfl, h0⟩⟩
  · obtain ⟨cs, hc⟩ := h5 g rfl
    exact ⟨h.1, .inr ⟨g, cap, cur, rfl, hb, by rw [hf.at_ g hc.lt (.inr ⟨cs, 5, hc, by decide, by decide, hx g rfl⟩)]; exact hg, r⟩⟩
theorem Fr.grown {w w1 w2 : World} {xb : Option Nat} (h : w.grownBy w1 none) (hf : Fr w1 w2 w.heap.size xb) : w.grownBy w2 none :=
  ⟨hf.os.trans h.os, hf.tape.trans h.tape, hf.output.trans h.output, Nat.le_trans h.size hf.size, fun k hk _ => (hf.at_ k (Nat.lt_of_lt_of_le hk h.size) (.inl hk)).trans (h.block k hk (by simp))⟩
theorem Out.rdne {C b : Nat} {w : World} {v : Value} {l : List UInt8} (h : Out C w v l) (hb : v.ownBlock ≠ some b) : Rd w (fun k => k ≠ b) v l := by
  rcases h.2 with ⟨rfl, h0⟩ | ⟨g, cap, cur, rfl, hb', hg, hle, hm, hs, ht⟩
  · have : l = [] := List.eq_nil_of_length_eq_zero h0
    subst this
    exact Rd.nil _ _
  · refine ⟨some ⟨g, 0, none⟩, g, 0, cap, rfl, hle, (fun h => by cases h), fun _ => ⟨rfl, (h.lt g rfl).2, fun e => hb (by rw [← e]; rfl)⟩, fun i hi => ?_⟩
    have := h.cells (g := g) rfl i (.int .u8 l[i].toNat) (by simp [Lib.byteCells, List.getElem?_eq_getElem hi])
    rw [Addr.add_lit] at this
    exact this
theorem Plc.keep {w w' : World} {pr C : Nat} {xv : Value} {xl : List UInt8} (h : Plc w pr C xv xl) (hg : w.grownBy w' none) : Plc w' pr C xv xl := by
  obtain ⟨vo, vi, hp, hC, hO, hc⟩ := h
  refine ⟨vo, vi, hp.keep hg, hC, hO.keep hg, ?_⟩
  rcases hc with hc | ⟨go, co, gi, ci, e1, e2, r1, r2, hne⟩
  · exact .inl hc
  · exact .inr ⟨go, co, gi, ci, e1, e2, r1.keep hg, r2.keep hg, hne⟩
theorem Plc.on {w w' : World} {pr C g : Nat} {xv : Value} {xl : List UInt8} {cs : List Value} {t : TypeId} (h : Plc w pr C xv xl) (hg : w.grownBy w' (some g)) (hb : Blk w g cs t) (h1 : t ≠ 65) (h2 : t ≠ 23) (h3 : xv.ownBlock ≠ some g) : Plc w' pr C xv xl := by
  obtain ⟨vo, vi, hp, hC, hO, hc⟩ := h
  refine ⟨vo, vi, hp.on hg (fun e => hb.ne hp h1 (Option.some.inj e)), hC, hO.on hg (fun k hk e => h3 (by rw [e, ← hk])), ?_⟩
  rcases hc with hc | ⟨go, co, gi, ci, e1, e2, r1, r2, hne⟩
  · exact .inl hc
  · exact .inr ⟨go, co, gi, ci, e1, e2, r1.on hg (fun k hk e => by obtain ⟨cg, hcg, _⟩ := r1.blk e; have hk' : g = k := Option.some.inj hk; subst hk'; exact hb.ne hcg h2 rfl), r2.on hg (fun k hk e => by obtain ⟨cg, hcg, _⟩ := r2.blk e; have hk' : g = k := Option.some.inj hk; subst hk'; exact hb.ne hcg h2 rfl), hne⟩
theorem Plc.out {w : World} {pr C : Nat} {xv : Value} {xl : List UInt8} (h : Plc w pr C xv xl) : Out C w xv xl := by
  obtain ⟨_, _, _, _, hO, _⟩ := h
  exact hO
theorem wpList_append_at {w : World} {ops : Array Oper} {rest : List Oper} {o : Oper} {a : Act} {Q : Exit → Act → World → Prop} (hgd : o.guard = none) (s x : Operand)
    (ho : o.op = .call { callee := .builtin .append, args := #[s, x], argTypes := #[23, 23] })
    (B : Nat) (F : Nat → Prop) (acc l : List UInt8) (hown : Out B w (a.eval s) acc) (hx : Rd w F (a.eval x) l) (hn : acc.length + l.length ≤ 35184372088832) (hB : B ≤ w.heap.size)
    (h : ∀ v' w', Out B w' v' (acc ++ l) → w.grownBy w' (a.eval s).ownBlock → (v'.ownBlock = (a.eval s).ownBlock ∨ v'.ownBlock = some w.heap.size) → wpList Tryd.prog ops Q rest (a.put o.dst v') w') : wpList Tryd.prog ops Q (o :: rest) a w :=
  wpList_step fun _ hK => step_append_at hgd s x ho B F acc l hown hx hn hB (fun v' w' h1 h2 h3 => hK _ _ (h v' w' h1 h2 h3))
theorem Tryd.built65 : Tryd.prog.built 65 [] = some ([.slice none 0 0, .slice none 0 0] : List Value).toArray := by kernel_rfl
theorem eql41 (n : Nat) (x y : Operand) (u : World) : (do eqGuard .eql 41 x y (.int .u64 (n : Nat)) (.int .u64 (n : Nat)); binOp .eql 41 (.int .u64 (n : Nat)) (.int .u64 (n : Nat)) : Sem Value).run Tryd.prog u = .ok (.bool true) u := by
  go_simp
set_option maxRecDepth 100000 in
set_option maxHeartbeats 3200000 in
theorem whole_walk (w : World) (a : Option Addr) (b o n c : Nat) (V0 : Nat → Value) (L0 : Nat → List UInt8) (hG : Glob w) (hn : n ≤ 140737488355328)
    (hA : RowsB w a b o n V0 L0) :
    Calls Tryd.prog 8 #[.slice a n c] w fun e w' => e = .returned (.bool true) ∧ w.grownBy w' none := by
  have HWk : Hid (∀ u, w.grownBy u none → Calls Tryd.prog 15 #[] u fun e w' => e = .returned (.bool true) ∧ u.grownBy w' none) := fun u hu => wakes_any u (hG.keep hu)
  have HA : Hid (∀ u, w.grownBy u none → RowsB u a b o n V0 L0) := fun u hu => hA.on hu
  have HGl : Hid (∀ u, w.grownBy u none → Glob u) := fun u hu => hG.keep hu
  have HNw : Hid (Calls Tryd.prog 16 #[] w fun e w' => e = .returned (.pointer (some ⟨w.heap.size, 0, none⟩)) ∧ Hs w' w.heap.size [] ∧ w.grownBy w' none ∧ w'.heap.size = w.heap.size + 1) := hid (new_any w hG)
  clear hA hG
  go_enter Tryd.func8, Tryd.ntmps8
  go_wp2_with (first
    | (go_at_call 16; (with_reducible refine HNw.out.mono ?_); rintro e w1 ⟨rfl, hH1, hg1, hz1⟩; have HH1 := hid hH1; have HG1 := hid hg1; have HZ1 := hid hz1; clear hH1 hg1 hz1)
    | (refine wpList_build_row rfl 65 rfl [.slice none 0 0, .slice none 0 0] Tryd.built65 ?_)
    | (refine wpList_box_row rfl 65 _ rfl [.slice none 0 0, .slice none 0 0] rfl ?_; intro w2 B2 s2 g2; have HB2 := hid B2; have HG2 := hid (gtrans HG1.out g2); have HH2 := hid (HH1.out.keep g2); clear B2 g2 s2))
  obtain ⟨bh, hbh⟩ : ∃ x, w.heap.size = x := ⟨_, rfl⟩
  obtain ⟨pr, hpr⟩ : ∃ x, w1.heap.size = x := ⟨_, rfl⟩
  rw [hbh] at HH2 ⊢
  rw [hpr] at HB2 ⊢
  have HN := hid (show w.heap.size ≤ bh ∧ w.heap.size ≤ pr by have := HZ1.out; omega)
  have HP2 : Hid (Plc w2 pr w.heap.size (.slice none 0 0) []) := hid ⟨_, _, HB2.out, HN.out.2, Out.nil _ _, .inl ⟨rfl, rfl, rfl⟩⟩
  clear hbh hpr HH1 HG1 HZ1 HB2 HNw
  go_wp2_with fail
  go_loopw [4, 6] (fun av iv wr => ∃ (i : Nat) (A : List UInt8) (xv : Value) (xl : List UInt8), iv = .int .i64 i ∧ i ≤ n ∧ Hid (A.length ≤ 65536) ∧ Hid (Out w.heap.size wr av A) ∧ Hid (Hs wr bh A) ∧ Hid (Plc wr pr w.heap.size xv xl) ∧ Hid (∀ g, av.ownBlock = some g → xv.ownBlock ≠ some g) ∧ Hid (w.grownBy wr none)) (fun _ iv _ => n - (intOf iv).toNat)
  case atStart => exact ⟨0, [], _, [], rfl, by omega, hid (by simp), hid (Out.nil _ _), HH2, HP2, hid (fun g e => by simp [Value.ownBlock] at e), HG2⟩
  case round =>
    clear HH2 HP2 HG2
    obtain ⟨i, A, xv, xl, rfl, hi, HAl, HO, HH, HP, HD, HG⟩ := hrel
    obtain ⟨va, _, _, vc, hve, -⟩ := HO.out.rd
    obtain ⟨vn, hvn⟩ : ∃ x, A.length = x := ⟨_, rfl⟩
    rw [hvn] at hve HAl
    rw [hve] at HO HD ⊢
    have HVn := hid hvn
    clear hve hvn
    obtain ⟨VN, hVN⟩ : ∃ x : Int, (vn : Int) = x := ⟨_, rfl⟩
    have v0 : 0 ≤ VN := by omega
    have v1 : VN ≤ 65536 := by have := HAl.out; omega
    have HVN := hid hVN
    by_cases hlt : i < n
    · have i1 : (i : Int) < (n : Int) := by omega
      obtain ⟨rfl, hb0⟩ := (HA.out w (grefl _ _)).1 (by omega)
      obtain ⟨-, r1, l1⟩ := (HA.out w (grefl _ _)).2 i hlt
      obtain ⟨a1, _, _, q1, e1, -⟩ := r1
      obtain ⟨X, HX⟩ : ∃ x, Hid (L0 i = x) := ⟨_, hid rfl⟩
      obtain ⟨N1, HN1⟩ : ∃ x, Hid ((L0 i).length = x) := ⟨_, hid rfl⟩
      rw [HN1.out] at e1 l1
      have HNX : Hid (X.length = N1) := hid (by rw [← HX.out]; exact HN1.out)
      have HL1 := hid l1
      clear l1 hb0
      have HC1 : Hid (∀ u, w.grownBy u none → u.cell? ⟨b, o + i, none⟩ = some (.slice a1 N1 q1) ∧ b < u.heap.size) := fun u hu => ⟨by rw [← e1]; exact ((HA.out u hu).2 i hlt).1, ((HA.out u hu).1 (by omega)).2⟩
      have HR1 : Hid (∀ u, w.grownBy u none → Rd u (fun k => k < w.heap.size) (.slice a1 N1 q1) X) := fun u hu => by
        rw [← HX.out, ← e1]
        exact (((HA.out w (grefl _ _)).2 i hlt).2.1.mono (fun k hk _ => hk)).keep hu
      obtain ⟨Y, hY⟩ : ∃ x : Int, (N1 : Int) = x := ⟨_, rfl⟩
      have w0 : 0 ≤ Y := by omega
      have w1' : Y ≤ 140737488351232 := by have := HL1.out; omega
      have HYe := hid hY
      obtain ⟨y0, y1⟩ := HC1.out wr HG.out
      by_cases hfit : VN + Y ≤ 65536
      · have HFit : Hid (vn + N1 ≤ 65536) := hid (by omega)
        have HBy : Hid (Calls Tryd.prog 29 #[.pointer (some ⟨pr, 0, none⟩), .slice a1 N1 q1] wr fun e w' => ∃ xv', e = .returned xv' ∧ Plc w' pr w.heap.size xv' X ∧ Fr wr w' w.heap.size xv.ownBlock ∧ (xv'.ownBlock = xv.ownBlock ∨ ∀ g, xv'.ownBlock = some g → wr.heap.size ≤ g)) := hid (bytes_any wr pr w.heap.size xv _ xl X _ HP.out (HR1.out wr HG.out) (fun k hk => hk) (by rw [HNX.out]; have := HFit.out; omega) HG.out.size)
        go_upto_region 10 with (go_at_call 29; (with_reducible refine HBy.out.mono ?_); rintro e u1 ⟨xv', rfl, hp1, hf1, hat1⟩; have HP1 := hid hp1; have HF1 := hid hf1; have HAt1 := hid hat1; clear hp1 hf1 hat1)
        have HW1 := hid (Fr.grown HG.out HF1.out)
        have HO1 := hid (HO.out.fr HF1.out (fun g e => HD.out g e))
        have HH1 : Hid (Hs u1 bh A) := hid (by
          obtain ⟨gg, h1, h2⟩ := HH.out
          exact ⟨gg, h1, HF1.out.blk h2 (by decide) (by decide) (fun e => (HH.out.apart HP.out.out) e)⟩)
        have HD1 : Hid (∀ g, (Value.slice va vn vc).ownBlock = some g → xv'.ownBlock ≠ some g) := hid (fun g e e' => by
          rcases HAt1.out with h | h
          · exact HD.out g e (by rw [← h]; exact e')
          · have h1 := h g e'
            have h2 := (World.ownsRow.lt HO.out g e).2
            omega)
        obtain ⟨ya, _, _, yc, hye, -⟩ := HP1.out.out.rd
        rw [HNX.out] at hye
        have HXv : Hid (xv' = .slice ya N1 yc) := hid hye
        rw [hye] at HP1 HD1 ⊢
        clear hye HP HD HO HH HF1 HAt1 HBy y0 y1
        have HWr : Hid (Calls Tryd.prog 18 #[.pointer (some ⟨bh, 0, none⟩), .slice ya N1 yc] u1 fun e w' => e = .returned (.tuple #[]) ∧ Hs w' bh (A ++ X) ∧ u1.grownBy w' (some bh)) := hid (write_any u1 bh A _ (fun k => k ≠ bh) X HH1.out (HP1.out.out.rdne (HH1.out.apart HP1.out.out)) (by simp) (HGl.out u1 HW1.out) (by have := HN.out; have := (HGl.out w (grefl _ _)).sz; omega) (by rw [HVn.out, HNX.out]; have := HFit.out; omega))
        go_upto_region 11 with (go_at_call 18; (with_reducible refine HWr.out.mono ?_); rintro e u2 ⟨rfl, hH2, hg2⟩; have HH2 := hid hH2; have HG2 := hid hg2; clear hH2 hg2)
        obtain ⟨csh, hcsh⟩ := HH1.out.blk
        have HP2 := hid (HP1.out.on HG2.out hcsh (by decide) (by decide) (HH1.out.apart HP1.out.out))
        have HO2 := hid (HO1.out.on HG2.out (fun k hk e => by have hk' : bh = k := Option.some.inj hk; subst hk'; exact HH1.out.apart HO1.out e))
        have HW2 := hid (HW1.out.andThen HG2.out (fun j hj => .inl (by have hj' : bh = j := Option.some.inj hj; have := HN.out; omega)))
        clear hcsh HP1 HO1 HH1 HW1 HG2 HWr
        obtain ⟨y0, y1⟩ := HC1.out u2 HW2.out
        have HEq : Hid (Calls Tryd.prog 24 #[.slice ya N1 yc, .slice a1 N1 q1] u2 fun e w' => e = .returned (.bool true) ∧ u2.grownBy w' none) := hid (by
          have h := eq_any u2 _ _ _ _ X X HP2.out.out.rd (HR1.out u2 HW2.out) (by rw [HNX.out]; have := HL1.out; omega)
          rw [decide_eq_true rfl] at h
          exact h.mono fun e w' ⟨he, m, hm⟩ => ⟨he, by rw [hm]; exact gdrew _ _ _⟩)
        go_upto_region 13 with (go_at_call 24; (with_reducible refine HEq.out.mono ?_); rintro e u3 ⟨rfl, hg3⟩; have HG3 := hid hg3; clear hg3)
        have HP3 := hid (HP2.out.keep HG3.out)
        have HO3 := hid (HO2.out.keep HG3.out)
        have HH3 := hid (HH2.out.keep HG3.out)
        have HW3 := hid (gtrans HW2.out HG3.out)
        clear HP2 HO2 HH2 HW2 HG3 HEq y0 y1
        obtain ⟨y0, y1⟩ := HC1.out u3 HW3.out
        go_upto_region 14 with (at_builtin; refine wpList_append_at rfl _ _ rfl w.heap.size _ A X HO3.out (HR1.out u3 HW3.out) (by rw [HVn.out, HNX.out]; have := HFit.out; omega) HW3.out.size ?_; intro v4 u4 hO4 hg4 hat4; have HO4 := hid hO4; have HG4 : Hid (u3.grownBy u4 (Value.slice va vn vc).ownBlock) := hid hg4; have HAt4 : Hid (v4.ownBlock = (Value.slice va vn vc).ownBlock ∨ v4.ownBlock = some u3.heap.size) := hid hat4; clear hO4 hg4 hat4)
        have HH4 : Hid (Hs u4 bh (A ++ X)) := hid (HH3.out.on HG4.out (fun e => HH3.out.apart HO3.out e))
        have HW4 : Hid (w.grownBy u4 none) := hid (HW3.out.andThen HG4.out (fun j hj => .inl (HO3.out.block _ hj)))
        have HP4 : Hid (Plc u4 pr w.heap.size (.slice ya N1 yc) X) := hid (by
          cases hq : (Value.slice va vn vc).ownBlock with
          | none =>
            have hg := HG4.out
            rw [hq] at hg
            exact HP3.out.keep hg
          | some g =>
            have hg := HG4.out
            rw [hq] at hg
            obtain ⟨cs, hc⟩ := HO3.out.cells5 hq
            exact HP3.out.on hg hc (by decide) (by decide) (HD1.out g hq))
        have HD4 : Hid (∀ g, v4.ownBlock = some g → (Value.slice ya N1 yc).ownBlock ≠ some g) := hid (fun g e e' => by
          rcases HAt4.out with h | h
          · exact HD1.out g (by rw [← h]; exact e) e'
          · rw [h] at e
            have h1 := Option.some.inj e
            have h2 := (World.ownsRow.lt HP3.out.out g e').2
            omega)
        obtain ⟨xa4, _, _, xc4, hx4, -⟩ := HO4.out.rd
        obtain ⟨n4, hn4⟩ : ∃ y, (A ++ X).length = y := ⟨_, rfl⟩
        rw [hn4] at hx4
        rw [hx4] at HO4 HD4 ⊢
        have HN4 : Hid ((A ++ X).length = n4) := hid hn4
        have HN46 : Hid (n4 ≤ 65536) := hid (by rw [← hn4, List.length_append, HVn.out, HNX.out]; exact HFit.out)
        clear hx4 hn4 HP3 HO3 HH3 HW3 HG4 HAt4 HD1 y0 y1
        obtain ⟨AX, HAX⟩ : ∃ y, Hid (A ++ X = y) := ⟨_, hid rfl⟩
        rw [HAX.out] at HH4 HO4 HN4
        obtain ⟨S, HSe⟩ : ∃ y, Hid (Lib.byteCells (sumL AX) = y) := ⟨_, hid rfl⟩
        have HSm : Hid (∀ u, u4.grownBy u none → Calls Tryd.prog 20 #[.pointer (some ⟨bh, 0, none⟩)] u fun e w' => e = .returned (.agg S.toArray) ∧ u.grownBy w' none) := fun u hu => by
          rw [← HSe.out]
          exact hsum_any u bh AX (HH4.out.keep hu) (HGl.out u (gtrans HW4.out hu)) (by rw [HN4.out]; have := HN46.out; omega)
        have HCp : Hid (∀ u, u4.grownBy u none → Calls Tryd.prog 30 #[.slice xa4 n4 xc4] u fun e w' => ∃ v', e = .returned v' ∧ Out u.heap.size w' v' AX ∧ u.grownBy w' none) := fun u hu => copyR_any u _ _ AX (HO4.out.keep hu).rd (by rw [HN4.out]; have := HN46.out; omega)
        have HDs : Hid (∀ (u : World) (v : Value) (B : Nat), u4.grownBy u none → Out B u v AX → Calls Tryd.prog 11 #[v] u fun e w' => e = .returned (.agg S.toArray) ∧ u.grownBy w' none) := fun u v B hu h => by
          rw [← HSe.out]
          exact dsum_any u v _ AX h.rd (HGl.out u (gtrans HW4.out hu)) (by rw [HN4.out]; have := HN46.out; omega)
        have HNe : Hid (∀ (x y : Operand) (u : World), (do eqGuard .neq 24 x y (.agg S.toArray) (.agg S.toArray); binOp .neq 24 (.agg S.toArray) (.agg S.toArray) : Sem Value).run Tryd.prog u = .ok (.bool false) u) := fun x y u => by
          rw [← HSe.out, neqG_32]
          exact neq_self _ (sumL_length _) u
        by_cases h64 : i < 64
        · have h64' : (i : Int) < 64 := by omega
          go_wp2_with (first
            | (go_at_call 20; (with_reducible refine (HSm.out _ (grefl _ _)).mono ?_); rintro e q1 ⟨rfl, hg1⟩; have HQ1 := hid hg1; clear hg1)
            | (go_at_call 30; (with_reducible refine (HCp.out _ HQ1.out).mono ?_); rintro e q2 ⟨v2, rfl, hO2, hg2⟩; have HV2 := hid hO2; have HQ2 := hid (gtrans HQ1.out hg2); clear hO2 hg2)
            | (go_at_call 11; (with_reducible refine (HDs.out _ _ _ HQ2.out HV2.out).mono ?_); rintro e q3 ⟨rfl, hg3⟩; have HQ3 := hid (gtrans HQ2.out hg3); clear hg3)
            | (with_reducible refine wpList_binW (by with_unfolding_all rfl) .neq 24 _ _ _ (by with_unfolding_all rfl) _ _ _ (by with_unfolding_all rfl) (by with_unfolding_all rfl) (HNe.out _ _ _) ?_))
          go_roundw
          case rel => exact ⟨i + 1, AX, _, X, by go_num, by omega, hid (by rw [HN4.out]; exact HN46.out), hid (HO4.out.keep HQ3.out), hid (HH4.out.keep HQ3.out), hid (HP4.out.keep HQ3.out), HD4, hid (gtrans HW4.out HQ3.out)⟩
          case measure => simp [intOf]; omega
        · have h64' : ¬ (i : Int) < 64 := by omega
          go_wp2_with fail
          go_roundw
          case rel => exact ⟨i + 1, AX, _, X, by go_num, by omega, hid (by rw [HN4.out]; exact HN46.out), HO4, HH4, HP4, HD4, HW4⟩
          case measure => simp [intOf]; omega
      · skip
        obtain ⟨S, HSe⟩ : ∃ y, Hid (Lib.byteCells (sumL A) = y) := ⟨_, hid rfl⟩
        have HSm : Hid (∀ u, wr.grownBy u none → Calls Tryd.prog 20 #[.pointer (some ⟨bh, 0, none⟩)] u fun e w' => e = .returned (.agg S.toArray) ∧ u.grownBy w' none) := fun u hu => by
          rw [← HSe.out]
          exact hsum_any u bh A (HH.out.keep hu) (HGl.out u (gtrans HG.out hu)) (by rw [HVn.out]; have := HAl.out; omega)
        have HCp : Hid (∀ u, wr.grownBy u none → Calls Tryd.prog 30 #[.slice va vn vc] u fun e w' => ∃ v', e = .returned v' ∧ Out u.heap.size w' v' A ∧ u.grownBy w' none) := fun u hu => copyR_any u _ _ A (HO.out.keep hu).rd (by rw [HVn.out]; have := HAl.out; omega)
        have HDs : Hid (∀ (u : World) (v : Value) (B : Nat), wr.grownBy u none → Out B u v A → Calls Tryd.prog 11 #[v] u fun e w' => e = .returned (.agg S.toArray) ∧ u.grownBy w' none) := fun u v B hu h => by
          rw [← HSe.out]
          exact dsum_any u v _ A h.rd (HGl.out u (gtrans HG.out hu)) (by rw [HVn.out]; have := HAl.out; omega)
        have HEq : Hid (∀ (x y : Operand) (u : World), (do eqGuard .eql 24 x y (.agg S.toArray) (.agg S.toArray); binOp .eql 24 (.agg S.toArray) (.agg S.toArray) : Sem Value).run Tryd.prog u = .ok (.bool true) u) := fun x y u => by
          rw [← HSe.out, neqG_32, eql_32 _ _ (sumL_length _) (sumL_length _) u]
          simp
        have HLn : Hid (∀ u, wr.grownBy u none → Calls Tryd.prog 21 #[.pointer (some ⟨bh, 0, none⟩)] u fun e w' => e = .returned (.int .u64 VN) ∧ u.grownBy w' none) := fun u hu => by
          have h := (HH.out.keep hu).taken
          rw [HVn.out] at h
          rw [← HVN.out]
          exact (len_any vn bh u h).mono fun e w' ⟨he, hw⟩ => ⟨he, by rw [hw]; exact grefl _ _⟩
        go_wp2_with (first
          | (go_at_call 20; (with_reducible refine (HSm.out _ (grefl _ _)).mono ?_); rintro e q1 ⟨rfl, hg1⟩; have HQ1 := hid hg1; clear hg1)
          | (go_at_call 30; (with_reducible refine (HCp.out _ HQ1.out).mono ?_); rintro e q2 ⟨v2, rfl, hO2, hg2⟩; have HV2 := hid hO2; have HQ2 := hid (gtrans HQ1.out hg2); clear hO2 hg2)
          | (go_at_call 11; (with_reducible refine (HDs.out _ _ _ HQ2.out HV2.out).mono ?_); rintro e q3 ⟨rfl, hg3⟩; have HQ3 := hid (gtrans HQ2.out hg3); clear hg3)
          | (with_reducible refine wpList_bin (by with_unfolding_all rfl) .eql 24 _ _ _ (by with_unfolding_all rfl) _ _ _ (by with_unfolding_all rfl) (by with_unfolding_all rfl) (HEq.out _ _ _) ?_)
          | (go_at_call 21; (with_reducible refine (HLn.out _ HQ3.out).mono ?_); rintro e q4 ⟨rfl, hg4⟩; have HQ4 := hid (gtrans HQ3.out hg4); clear hg4)
          | (go_at_call 15; (with_reducible refine (HWk.out _ (gtrans HG.out HQ4.out)).mono ?_); rintro e q5 ⟨rfl, hg5⟩; have HQ5 := hid (gtrans HQ4.out hg5); clear hg5))
        go_ret
        exact ⟨rfl, gtrans HG.out HQ5.out⟩
    · have hge : ¬ (i : Int) < (n : Int) := by omega
      obtain ⟨S, HSe⟩ : ∃ y, Hid (Lib.byteCells (sumL A) = y) := ⟨_, hid rfl⟩
      have HSm : Hid (∀ u, wr.grownBy u none → Calls Tryd.prog 20 #[.pointer (some ⟨bh, 0, none⟩)] u fun e w' => e = .returned (.agg S.toArray) ∧ u.grownBy w' none) := fun u hu => by
        rw [← HSe.out]
        exact hsum_any u bh A (HH.out.keep hu) (HGl.out u (gtrans HG.out hu)) (by rw [HVn.out]; have := HAl.out; omega)
      have HCp : Hid (∀ u, wr.grownBy u none → Calls Tryd.prog 30 #[.slice va vn vc] u fun e w' => ∃ v', e = .returned v' ∧ Out u.heap.size w' v' A ∧ u.grownBy w' none) := fun u hu => copyR_any u _ _ A (HO.out.keep hu).rd (by rw [HVn.out]; have := HAl.out; omega)
      have HDs : Hid (∀ (u : World) (v : Value) (B : Nat), wr.grownBy u none → Out B u v A → Calls Tryd.prog 11 #[v] u fun e w' => e = .returned (.agg S.toArray) ∧ u.grownBy w' none) := fun u v B hu h => by
        rw [← HSe.out]
        exact dsum_any u v _ A h.rd (HGl.out u (gtrans HG.out hu)) (by rw [HVn.out]; have := HAl.out; omega)
      have HEq : Hid (∀ (x y : Operand) (u : World), (do eqGuard .eql 24 x y (.agg S.toArray) (.agg S.toArray); binOp .eql 24 (.agg S.toArray) (.agg S.toArray) : Sem Value).run Tryd.prog u = .ok (.bool true) u) := fun x y u => by
        rw [← HSe.out, neqG_32, eql_32 _ _ (sumL_length _) (sumL_length _) u]
        simp
      have HLn : Hid (∀ u, wr.grownBy u none → Calls Tryd.prog 21 #[.pointer (some ⟨bh, 0, none⟩)] u fun e w' => e = .returned (.int .u64 VN) ∧ u.grownBy w' none) := fun u hu => by
        have h := (HH.out.keep hu).taken
        rw [HVn.out] at h
        rw [← HVN.out]
        exact (len_any vn bh u h).mono fun e w' ⟨he, hw⟩ => ⟨he, by rw [hw]; exact grefl _ _⟩
      go_wp2_with (first
        | (go_at_call 20; (with_reducible refine (HSm.out _ (grefl _ _)).mono ?_); rintro e q1 ⟨rfl, hg1⟩; have HQ1 := hid hg1; clear hg1)
        | (go_at_call 30; (with_reducible refine (HCp.out _ HQ1.out).mono ?_); rintro e q2 ⟨v2, rfl, hO2, hg2⟩; have HV2 := hid hO2; have HQ2 := hid (gtrans HQ1.out hg2); clear hO2 hg2)
        | (go_at_call 11; (with_reducible refine (HDs.out _ _ _ HQ2.out HV2.out).mono ?_); rintro e q3 ⟨rfl, hg3⟩; have HQ3 := hid (gtrans HQ2.out hg3); clear hg3)
        | (with_reducible refine wpList_bin (by with_unfolding_all rfl) .eql 24 _ _ _ (by with_unfolding_all rfl) _ _ _ (by with_unfolding_all rfl) (by with_unfolding_all rfl) (HEq.out _ _ _) ?_)
        | (go_at_call 21; (with_reducible refine (HLn.out _ HQ3.out).mono ?_); rintro e q4 ⟨rfl, hg4⟩; have HQ4 := hid (gtrans HQ3.out hg4); clear hg4)
        | (go_at_call 15; (with_reducible refine (HWk.out _ (gtrans HG.out HQ4.out)).mono ?_); rintro e q5 ⟨rfl, hg5⟩; have HQ5 := hid (gtrans HQ4.out hg5); clear hg5))
      go_ret
      exact ⟨rfl, gtrans HG.out HQ5.out⟩
end Go.Proofs.YtmiojplbcjhggaaDoor
