/- CopyRing, as long as memory bears. -/
import Derived.Test.YtmpcpakdocaieaaCpR
namespace Go.Proofs.Ytmpcpakdocaieaa
open Go Go.RowKit
open Go.RowKit (wrap32 wrap64)

set_option maxRecDepth 100000 in
/-- append of keys that can be read onto a row of the call's own. -/
theorem wpList_append_keysW {w : World} {ops : Array Oper} {rest : List Oper} {o : Oper} {a : Act} {Q : Exit → Act → World → Prop} (hgd : o.guard = none) (s x : Operand)
    (ho : o.op = .call { callee := .builtin .append, args := #[s, x], argTypes := #[55, 55] })
    (B : Nat) (F : Nat → Prop) (acc l : List Ky) (hown : OutK B w (a.eval s) acc) (hx : RdK w F (a.eval x) l) (hn : acc.length + l.length ≤ 2932031007402) (hB : B ≤ w.heap.size)
    (h : ∀ v' w', OutK B w' v' (acc ++ l) → w.grownBy w' (a.eval s).ownBlock → wpList Try.prog ops Q rest (a.put o.dst v') w') : wpList Try.prog ops Q (o :: rest) a w := by
  obtain ⟨inf, hi, hz0, hz1, hz2⟩ := info_parts Try.info107
  obtain ⟨hok, p, b, off, c, e, hc, hnn, ha, hcell⟩ := hx
  cases p with
  | none =>
    have c0 := hnn rfl
    have hl : l = [] := List.eq_nil_of_length_eq_zero (by omega)
    subst hl
    subst c0
    refine wpList_append_own_none hgd s x 55 ho B 107 inf 34 Try.underlying55 hi _ _ _ rfl hown.2 e ?_
    exact h _ w (by rw [List.append_nil]; exact hown) (World.grownBy.refl _ _)
  | some q =>
    refine wpList_append_own w hgd s x 55 ho B 107 inf (.agg zky.cells.toArray) 34 48 Try.underlying55 hi hz0 hz1 hz2 rfl (by decide) _ _ _ rfl hown.2 q l.length c (kcs l) e (by rw [kcs_length l hok.len]) ?_ (kcs_one l) (by unfold maxLen; omega) (by omega) hB ?_
    · intro j u hu
      have hj : j < l.length * 34 := by have := (List.getElem?_eq_some_iff.1 hu).1; rw [kcs_length l hok.len] at this; exact this
      have hq := (ha (by omega)).1
      injection hq with hq
      have hi' : j / 34 < l.length := by omega
      have hg := kcs_get l hok.len (j / 34) l[j / 34] (List.getElem?_eq_getElem hi') (j % 34) (by omega)
      rw [show j / 34 * 34 + j % 34 = j by omega, hu] at hg
      have hcl := hcell (j / 34) hi' (j % 34) u hg.symm
      rw [hq, Addr.add_lit, show off + j = off + j / 34 * 34 + j % 34 by omega]
      exact hcl
    · intro v' w' h1 h2 _
      refine h v' w' ⟨fun k hk => ?_, ?_⟩ h2
      · rcases List.mem_append.1 hk with hk | hk
        · exact hown.1 k hk
        · exact hok k hk
      · rw [kcs_append, List.length_append]
        exact h1
set_option maxRecDepth 100000 in
set_option maxHeartbeats 800000 in
theorem copyKeysW (w : World) (v : Value) (F : Nat → Prop) (l : List Ky) (hv : RdK w F v l) (hl : l.length ≤ 2932031007402) :
    Calls Try.prog 42 #[v] w fun e w' => ∃ v', e = .returned v' ∧ OutK w.heap.size w' v' l ∧ w.grownBy w' none := by
  have HV := hid hv
  obtain ⟨ho, a, b, off, c, rfl, hc, Ha, Hc⟩ := hv.open
  obtain ⟨n, HN⟩ : ∃ n, Hid (l.length = n) := ⟨_, hid rfl⟩
  rw [HN.out] at HV hl ⊢
  clear hv ho hc Ha Hc
  go_enter Try.func42, Try.ntmps42
  go_wp2_with (at_builtin; refine wpList_append_keysW rfl _ _ rfl w.heap.size F [] l (OutK.nil _ _) HV.out (by show 0 + l.length ≤ _; rw [HN.out]; omega) (Nat.le_refl _) ?_; intro v4 w4 hO4 hg4; have HO4 := hid hO4; have HG4 : Hid (w.grownBy w4 none) := hid hg4; clear hO4 hg4)
  go_ret
  exact ⟨_, rfl, HO4.out, HG4.out⟩
set_option maxRecDepth 100000 in
set_option maxHeartbeats 800000 in
theorem copyRingW (w : World) (v : Value) (F : Nat → Prop) (l : List Ky) (nx : Nat) (hv : RdK w F v l) (hl : l.length ≤ 2932031007402) :
    Calls Try.prog 18 #[.agg #[v, .int .u64 nx]] w fun e w' => ∃ a c, e = .returned (.agg #[.slice a l.length c, .int .u64 nx]) ∧ OutK w.heap.size w' (.slice a l.length c) l ∧ w.grownBy w' none := by
  have HV := hid hv
  obtain ⟨_, a, _, _, c, rfl, _, _, _⟩ := hv.open
  have HCk : Hid (∀ u, w.grownBy u none → Calls Try.prog 42 #[.slice a l.length c] u fun e w' => ∃ v', e = .returned v' ∧ OutK u.heap.size w' v' l ∧ u.grownBy w' none) := fun u hu => copyKeysW u _ F l (HV.out.keep hu) hl
  obtain ⟨n, HN⟩ : ∃ n, Hid (l.length = n) := ⟨_, hid rfl⟩
  rw [HN.out] at HCk ⊢
  clear hv HV hl
  obtain ⟨W1, hW1⟩ : ∃ x, w.alloc (.cells #[.slice a n c, .int .u64 nx] 69) = x := ⟨_, rfl⟩
  obtain ⟨b1, hb1⟩ : ∃ x, w.heap.size = x := ⟨_, rfl⟩
  have HB1 : Hid (Blk W1 b1 [.slice a n c, .int .u64 nx] 69) := hid (by rw [← hW1, ← hb1]; exact Blk.new w [.slice a n c, .int .u64 nx] 69)
  have HG1 : Hid (w.grownBy W1 none) := hid (by rw [← hW1]; exact galloc _ _ _)
  have y0 := HB1.out.cell 0
  have y1 := HB1.out.cell 1
  rw [hb1]
  go_enter Try.func18, Try.ntmps18
  go_wp2_with (first
    | (have := HB2; clear this; with_reducible refine wpList_alloc_row (by with_unfolding_all rfl) 69 (by with_unfolding_all rfl) [.slice none 0 0, .int .u64 0] Try.zero69 ?_; intro w3 B3 s3 g3; have HB3 := hid B3; have HG3 := hid g3; have HS3 := hid s3; clear B3 g3 s3)
    | (with_reducible refine wpList_alloc_row (by with_unfolding_all rfl) 69 (by with_unfolding_all rfl) [.slice none 0 0, .int .u64 0] Try.zero69 ?_; intro w2 B2 s2 g2; have HB2 := hid B2; have HG2 := hid g2; have HS2 := hid s2; clear B2 g2 s2)
    | (have := HR6; clear this; (with_reducible refine wpList_load_part (by with_unfolding_all rfl) 69 _ (by with_unfolding_all rfl) w2.heap.size 0 [.slice a5 n c5, .int .u64 nx] _ (by with_unfolding_all rfl) HB6.out.whole Try.underlying69 (by with_unfolding_all rfl) (by with_unfolding_all exact Try.size69) ?_))
    | (with_reducible refine wpList_load_part (by with_unfolding_all rfl) 69 _ (by with_unfolding_all rfl) b1 0 [.slice a n c, .int .u64 nx] _ (by with_unfolding_all rfl) (HB1.out.keep HG2.out).whole Try.underlying69 (by with_unfolding_all rfl) (by with_unfolding_all exact Try.size69) ?_)
    | (have := HR6; clear this; with_reducible refine wpList_store_all (by with_unfolding_all rfl) 69 _ _ (by with_unfolding_all rfl) _ [.slice none 0 0, .int .u64 0] [.slice a5 n c5, .int .u64 nx] 69 (by with_unfolding_all rfl) (by with_unfolding_all rfl) HR6.out (by with_unfolding_all rfl) (by with_unfolding_all exact Try.size69) (ring_one _ _ _ _) ?_; intro w7 B7 g7 s7; have HB7 := hid B7; have HG7 := hid g7; have HS7 := hid s7; clear B7 g7 s7)
    | (with_reducible refine wpList_store_all (by with_unfolding_all rfl) 69 _ _ (by with_unfolding_all rfl) _ [.slice none 0 0, .int .u64 0] [.slice a n c, .int .u64 nx] 69 (by with_unfolding_all rfl) (by with_unfolding_all rfl) HB3.out (by with_unfolding_all rfl) (by with_unfolding_all exact Try.size69) (ring_one _ _ _ _) ?_; intro w4 B4 g4 s4; have HB4 := hid B4; have HG4 := hid g4; have HS4 := hid s4; clear B4 g4 s4; have HR4 := hid ((HB2.out.keep HG3.out).on HG4.out (by simp; have := HS2.out; omega)); have HGx := hid ((gtrans (gtrans HG1.out HG2.out) HG3.out).andThen HG4.out (fun j hj => .inl (by injection hj with hj; have := HG1.out.size; have := HG2.out.size; omega))); have HQ4 := hid (((HB1.out.keep HG2.out).keep HG3.out).on HG4.out (by simp; have := HB1.out.lt; have := HG2.out.size; omega)); have y0 := HQ4.out.cell 0)
    | (go_at_call 42; (with_reducible refine (HCk.out _ HGx.out).mono ?_); rintro e w5 ⟨v5, rfl, hO5, hg5⟩; obtain ⟨a5, c5, hv5⟩ := hO5.slice; rw [HN.out] at hv5; subst hv5; have HO5 := hid (hO5.below (show b1 ≤ w4.heap.size by have := HGx.out.size; omega)); have HG5 := hid hg5; clear hO5 hg5; have HB5 := hid (HB4.out.keep HG5.out); have HR5 := hid (HR4.out.keep HG5.out); have x0 := HB5.out.cell 0; have x0f := HB5.out.frozen 0; obtain ⟨W6, hW6⟩ : ∃ x, w5.setCell ⟨w2.heap.size, 0, none⟩ (.slice a5 n c5) = x := ⟨_, rfl⟩; have HB6 : Hid (Blk W6 w2.heap.size [.slice a5 n c5, .int .u64 nx] 69) := hid (by rw [← hW6]; exact HB5.out.set 0 (.slice a5 n c5)); have HG6 := hid (gset w5 ⟨w2.heap.size, 0, none⟩ (.slice a5 n c5)); rw [hW6] at HG6; have HR6 := hid (HR5.out.on HG6.out (by simp; have := HS2.out; omega)); have HO6 := hid (HO5.out.on HG6.out (fun j hj e => by injection hj with hj; exact HO5.out.ne_blk HB5.out (by decide) _ e hj.symm))))
  refine bodyPost_ret (results_blk rfl _ W1.heap.size 69 [.slice a5 n c5, .int .u64 nx] _ rfl HB7.out Try.underlying69 rfl Try.size69) rfl ?_
  refine ⟨a5, c5, rfl, HO6.out.on HG7.out (fun j hj e => ?_), ((gtrans HGx.out HG5.out).andThen HG6.out (fun j hj => .inl (by injection hj with hj; have := HG1.out.size; have := HG2.out.size; omega))).andThen HG7.out (fun j hj => .inl (by injection hj with hj; have := HG1.out.size; omega))⟩
  injection hj with hj
  exact HO6.out.ne_blk HR6.out (by decide) _ e hj.symm
end Go.Proofs.Ytmpcpakdocaieaa
