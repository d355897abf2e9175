/- CopyRing, as long as memory bears. -/
import Derived.Test.YtlgjmhemgfjgnaaGreatVO
namespace Go.Proofs.YtlgjmhemgfjgnaaGreat
open Go Go.RowKit
open Go.RowKit (wrap32 wrap64)

set_option maxRecDepth 100000 in
/-- append of keys that can be read onto a row of the call's own. -/
theorem wpList_append_keysW {w : World} {ops : Array Oper} {rest : List Oper} {o : Oper} {a : Act} {Q : Exit → Act → World → Prop} (hgd : o.guard = none) (s x : Operand)
    (ho : o.op = .call { callee := .builtin .append, args := #[s, x], argTypes := #[57, 57] })
    (B : Nat) (F : Nat → Prop) (acc l : List Ky) (hown : OutK B w (a.eval s) acc) (hx : RdK w F (a.eval x) l) (hn : acc.length + l.length ≤ 3518437208883) (hB : B ≤ w.heap.size)
    (h : ∀ v' w', OutK B w' v' (acc ++ l) → w.grownBy w' (a.eval s).ownBlock → wpList Tryz.prog ops Q rest (a.put o.dst v') w') : wpList Tryz.prog ops Q (o :: rest) a w := by
  obtain ⟨inf, hi, hz0, hz1, hz2⟩ := info_parts Tryz.info85
  obtain ⟨hok, p, b, off, c, e, hc, hnn, ha, hcell⟩ := hx
  cases p with
  | none =>
    have c0 := hnn rfl
    have hl : l = [] := List.eq_nil_of_length_eq_zero (by omega)
    subst hl
    subst c0
    refine wpList_append_own_none hgd s x 57 ho B 85 inf 19 Tryz.underlying57 hi _ _ _ rfl hown.2 e ?_
    exact h _ w (by rw [List.append_nil]; exact hown) (World.grownBy.refl _ _)
  | some q =>
    refine wpList_append_own w hgd s x 57 ho B 85 inf (.agg zky.cells.toArray) 19 40 Tryz.underlying57 hi hz0 hz1 hz2 rfl (by decide) _ _ _ rfl hown.2 q l.length c (kcs l) e (by rw [kcs_length l hok.len]) ?_ (kcs_one l) (by unfold maxLen; omega) (by omega) hB ?_
    · intro j u hu
      have hj : j < l.length * 19 := by have := (List.getElem?_eq_some_iff.1 hu).1; rw [kcs_length l hok.len] at this; exact this
      have hq := (ha (by omega)).1
      injection hq with hq
      have hi' : j / 19 < l.length := by omega
      have hg := kcs_get l hok.len (j / 19) l[j / 19] (List.getElem?_eq_getElem hi') (j % 19) (by omega)
      rw [show j / 19 * 19 + j % 19 = j by omega, hu] at hg
      have hcl := hcell (j / 19) hi' (j % 19) u hg.symm
      rw [hq, Addr.add_lit, show off + j = off + j / 19 * 19 + j % 19 by omega]
      exact hcl
    · intro v' w' h1 h2 _
      refine h v' w' ⟨fun k hk => ?_, ?_⟩ h2
      · rcases List.mem_append.1 hk with hk | hk
        · exact hown.1 k hk
        · exact hok k hk
      · rw [kcs_append, List.length_append]
        exact h1
set_option maxRecDepth 100000 in
set_option maxHeartbeats 800000 in
theorem copyKeysW (w : World) (v : Value) (F : Nat → Prop) (l : List Ky) (hv : RdK w F v l) (hl : l.length ≤ 3518437208883) :
    Calls Tryz.prog 4 #[v] w fun e w' => ∃ v', e = .returned v' ∧ OutK w.heap.size w' v' l ∧ w.grownBy w' none := by
  have HV := hid hv
  obtain ⟨ho, a, b, off, c, rfl, hc, Ha, Hc⟩ := hv.open
  obtain ⟨n, HN⟩ : ∃ n, Hid (l.length = n) := ⟨_, hid rfl⟩
  rw [HN.out] at HV hl ⊢
  clear hv ho hc Ha Hc
  go_enter Tryz.func4, Tryz.ntmps4
  go_wp2_with (at_builtin; refine wpList_append_keysW rfl _ _ rfl w.heap.size F [] l (OutK.nil _ _) HV.out (by show 0 + l.length ≤ _; rw [HN.out]; omega) (Nat.le_refl _) ?_; intro v4 w4 hO4 hg4; have HO4 := hid hO4; have HG4 : Hid (w.grownBy w4 none) := hid hg4; clear hO4 hg4)
  go_ret
  exact ⟨_, rfl, HO4.out, HG4.out⟩
end Go.Proofs.YtlgjmhemgfjgnaaGreat
