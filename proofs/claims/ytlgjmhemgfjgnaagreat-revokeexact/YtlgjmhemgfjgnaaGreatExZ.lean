/- RevokeExact: for every argument the statement's function returns true, and the argument reads afterwards as it read before. Conditions: none. -/
import Derived.Test.YtlgjmhemgfjgnaaGreatOpT
import Derived.Test.YtlgjmhemgfjgnaaGreatYI
namespace Go.Proofs.YtlgjmhemgfjgnaaGreat
open Go Go.RowKit Go.ChangeShapes Go.WideShapes Go.ChangeAt Go.Joins Go.Deep

set_option maxRecDepth 100000 in
theorem revokeExact_lifted (os : Os) (started : os.Started) (H : Type) (enc : TypeId × Value → H) :
    ReturnsInHanded {} Tryz.checked os 3 .any (Rows.revokeExactSpec.pre6 enc Tryz.prog Tryz.f3 [] false)
      (Rows.revokeExactSpec.post enc Tryz.prog Tryz.f3 false true false false) := by
  have hwit := ChangeSpec.witness_shaped (enc := enc) (C := Tryz.checked) (f := 3) (fn := Tryz.f3) (s := Rows.revokeExactSpec) (conds := []) (apart := false) (os := os) (X := fun _ _ => True) false (World.doorLaid Tryz.prog 400 os) #[.slice none 0 0] 8 rfl (World.shaped_of_RefB (by kernel_rfl) (by kernel_rfl)) (by kernel_rfl) (by kernel_rfl) (by kernel_rfl) trivial
  obtain ⟨ww, tape, inp, q1, q2, q3, q4, ⟨⟨q5, _⟩, q6⟩, q7⟩ := hwit
  refine returnsInHanded_of_change_sized (C := Tryz.checked) own5 started (by kernel_rfl) Tryz.func3 ⟨ww, tape, inp, q1, q2, q3, q4, ⟨q5, q6⟩, q7⟩ ?_
  intro W base args ds gs before hval0 hW _ hsz0 _
  have hval : ∀ (j : Nat) t v, Tryz.f3.params[j]? = some t → args[j]? = some v → Value.okWide Tryz.prog W .any base t v := hval0
  have hsz : (DataW.weightsEach Tryz.prog (Tryz.f3.params.toList ++ Rows.revokeExactSpec.plain.varTypes Tryz.prog) (ds ++ gs)).all (· ≤ reachBytes) = true := hsz0
  have hW' := hW
  obtain ⟨p, q, hA0, hV, rfl, hfz, hnd⟩ := hW
  have hA : DataW.TrodAll enc Tryz.prog W 0 (fun _ => true) true Tryz.f3.params.toList args.toList ds p := hA0
  rw [Tryz.params3] at hA hval hsz
  obtain ⟨v0, d0, rfl, rfl, h0⟩ := trodAll_one hA
  obtain ⟨rfl, rfl⟩ := trodVars_none hV
  have k0 := h0
  have lt0 : ∀ x ∈ p, x.block < W.heap.size := by obtain ⟨m, hm⟩ := k0; exact DataW.trod_lt m _ _ _ hm
  have hs : (d0.weights Tryz.prog 22).all (· ≤ reachBytes) = true := by simpa [DataW.weightsEach] using hsz
  obtain ⟨fuel, hf⟩ := h0
  obtain ⟨a0, n0, c0, rfl⟩ := okWide_slice Tryz.underlying22 (hval 0 22 v0 rfl rfl)
  obtain ⟨sa, b, off, n, sc, T, hv, h1, h2, h3, RW, h4⟩ := open_S2 (y := (d0, p)) hf hs
  obtain ⟨rfl, rfl, rfl⟩ : sa = a0 ∧ n = n0 ∧ sc = c0 := by injection hv with e1 e2 e3; exact ⟨e1.symm, e2.symm, e3.symm⟩
  clear hA0 hval0 hsz0
  refine (Bk.exact_walk W sa b off n sc T RW h2 h4 h1).mono fun e W' ⟨he, hg⟩ => ?_
  subst he
  have bel : Below W.heap.size W W' := gbelow hg
  exact ⟨_, rfl, _, _, _, [], _, [], hW', trodAll_mk1 (shut_bool Tryz.underlying4 _), trodAll_mk1 (Below.trod laidOut5 (by kernel_rfl) (of_decide_eq_true (by kernel_rfl)) k0 bel lt0), rfl, bel.frame _, fun h => by cases h⟩

theorem revokeExact_holds : Rows.RevokeExactSaid :=
  OpenClaim.holds_of_wide 3 Tryz.f3 rfl rfl rfl rfl rfl rfl rfl ⟨rfl, rfl, rfl, rfl, rfl⟩ rfl rfl rfl rfl rfl (by kernel_rfl) Tryz.func3 (by kernel_rfl)
    (of_decide_eq_true (by kernel_rfl)) (by unfold Func.isWrapper; first | (rw [if_pos (by decide +kernel)]; kernel_rfl) | (rw [if_neg (by decide +kernel)]; exact ⟨rfl, rfl⟩))
    (fun os started H enc _ => revokeExact_lifted os started H enc)
#print axioms revokeExact_holds
end Go.Proofs.YtlgjmhemgfjgnaaGreat
