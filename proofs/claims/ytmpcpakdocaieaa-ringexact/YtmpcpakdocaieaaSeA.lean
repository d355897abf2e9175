/- The law's seat: Ring. -/
import Derived.Test.YtmpcpakdocaieaaKbK
namespace Go.Proofs.Ytmpcpakdocaieaa.Bk
open Go Go.RowKit
open Go.RowKit (wrap32 wrap64)

theorem OutK.shape {B : Nat} {w : World} {v : Value} {l : List Ky} (h : OutK B w v l) : ∃ a n c, v = .slice a n c := by
  rcases h.2.2 with ⟨rfl, _⟩ | ⟨g, cap, cur, rfl, _⟩
  · exact ⟨_, _, _, rfl⟩
  · exact ⟨_, _, _, rfl⟩
set_option maxRecDepth 100000 in
theorem step_append_keys {w : World} {ops : Array Oper} {o : Oper} {a : Act} {K : Act → World → Prop} {Q : Exit → Act → World → Prop} (hw : Region.wanted o (yielded ops a.tmps) = true) (s x : Operand)
    (ho : o.op = .call { callee := .builtin .append, args := #[s, x], argTypes := #[55, 55] })
    (B : Nat) (F : Nat → Prop) (acc l : List Ky) (vs vx : Value) (hs : a.eval s = vs) (hxe : a.eval x = vx) (hown : OutK B w vs acc) (hx : RdK w F vx l) (hn : acc.length + l.length ≤ 1099511627776) (hB : B ≤ w.heap.size)
    (h : ∀ v' w', OutK B w' v' (acc ++ l) → w.grownBy w' vs.ownBlock → (v'.ownBlock = vs.ownBlock ∨ v'.ownBlock = some w.heap.size) → K (a.put o.dst v') w') :
    if Region.wanted o (yielded ops a.tmps) = true then Oper.wp Try.prog o a w K Q else K (a.put o.dst undef) w := by
  rw [if_pos hw]
  have hrun : ∃ v' w', (Builtin.append_ #[55, 55] o.type #[vs, vx]).run Try.prog w = .ok v' w' ∧ OutK B w' v' (acc ++ l) ∧ w.grownBy w' vs.ownBlock ∧ (v'.ownBlock = vs.ownBlock ∨ v'.ownBlock = some w.heap.size) := by
    obtain ⟨inf, hi, hz0, hz1, hz2⟩ := info_parts Try.info107
    obtain ⟨hok, p, b, off, c, e, hc, hnn, ha, hcell⟩ := hx
    cases p with
    | none =>
      have c0 := hnn rfl
      have hl : l = [] := List.eq_nil_of_length_eq_zero (by omega)
      subst hl
      subst c0
      refine ⟨vs, w, ?_, by rw [List.append_nil]; exact hown, World.grownBy.refl _ _, .inl rfl⟩
      rw [e]
      exact run_append_owned_none (P := Try.prog) (w := w) B 55 o.type 107 inf 34 Try.underlying55 hi _ _ _ hown.2
    | some q =>
      obtain ⟨v', w', h1, h2, h3, _, h4⟩ := run_append_own_at (P := Try.prog) w B 55 o.type 107 inf (.agg zky.cells.toArray) 34 48 Try.underlying55 hi hz0 hz1 hz2 rfl (by decide) vs _ _ hown.2 q l.length c (kcs l) (by rw [kcs_length l hok.len]) (by
        intro j u hu
        have hj : j < l.length * 34 := by have := (List.getElem?_eq_some_iff.1 hu).1; rw [kcs_length l hok.len] at this; exact this
        have hq := (ha (by omega)).1
        injection hq with hq
        have hi' : j / 34 < l.length := by omega
        have hg := kcs_get l hok.len (j / 34) l[j / 34] (List.getElem?_eq_getElem hi') (j % 34) (by omega)
        rw [show j / 34 * 34 + j % 34 = j by omega, hu] at hg
        have hcl := hcell (j / 34) hi' (j % 34) u hg.symm
        rw [hq, Addr.add_lit, show off + j = off + j / 34 * 34 + j % 34 by omega]
        exact hcl) (kcs_one l) (by unfold maxLen; omega) (by omega) hB
      refine ⟨v', w', by rw [e]; exact h1, ⟨fun k hk => ?_, by rw [List.length_append, kcs_append]; exact h2⟩, h3, h4⟩
      rcases List.mem_append.1 hk with hk | hk
      · exact hown.1 k hk
      · exact hok k hk
  obtain ⟨v', w', hr, h1, h2, h3⟩ := hrun
  unfold Oper.wp execOp
  simp only [ho, resolve, invoke, builtin, Sem.run_bind, Sem.run_pure, Result.andThen_ok, List.map_toArray, List.map_cons, List.map_nil, hs, hxe, hr]
  exact h v' w' h1 h2 h3
end Go.Proofs.Ytmpcpakdocaieaa.Bk
