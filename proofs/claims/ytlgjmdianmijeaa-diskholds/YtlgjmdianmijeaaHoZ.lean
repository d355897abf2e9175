/- DiskHolds: for every argument the statement's function returns true, and the argument reads afterwards as it read before. Conditions: none. -/
import Derived.Test.YtlgjmdianmijeaaOpD
import Derived.Test.YtlgjmdianmijeaaDz
namespace Go.Proofs.Ytlgjmdianmijeaa
open Go Go.RowKit Go.ChangeShapes Go.WideShapes Go.ChangeAt Go.Joins Go.Deep

theorem own9h : ownKnob Try.prog.godebug = none := by kernel_rfl
theorem laidOut9h : laidOutB Try.prog = true := by kernel_rfl
set_option maxRecDepth 100000 in
theorem diskHolds_lifted (os : Os) (started : os.Started) (H : Type) (enc : TypeId × Value → H) :
    ReturnsInHanded {} Try.checked os 4 .any (Rows.diskHoldsSpec.pre6 enc Try.prog Try.f4 [] false)
      (Rows.diskHoldsSpec.post enc Try.prog Try.f4 false true false false) := by
  have hwit := ChangeSpec.witness_shaped (enc := enc) (C := Try.checked) (f := 4) (fn := Try.f4) (s := Rows.diskHoldsSpec) (conds := []) (apart := false) (os := os) (X := fun _ _ => True) false (World.doorLaid Try.prog 400 os) #[.agg [Value.int .i64 0, Value.int .i64 0, .slice none 0 0].toArray] 8 rfl (World.shaped_of_RefB (by kernel_rfl) (by kernel_rfl)) (by kernel_rfl) (by kernel_rfl) (by kernel_rfl) trivial
  obtain ⟨ww, tape, inp, q1, q2, q3, q4, ⟨⟨q5, _⟩, q6⟩, q7⟩ := hwit
  refine returnsInHanded_of_change_sized (C := Try.checked) own9h started (by kernel_rfl) Try.func4 ⟨ww, tape, inp, q1, q2, q3, q4, ⟨q5, q6⟩, q7⟩ ?_
  intro W base args ds gs before hval0 hW _ hsz0 _
  have hval : ∀ (j : Nat) t v, Try.f4.params[j]? = some t → args[j]? = some v → Value.okWide Try.prog W .any base t v := hval0
  have hsz : (DataW.weightsEach Try.prog (Try.f4.params.toList ++ Rows.diskHoldsSpec.plain.varTypes Try.prog) (ds ++ gs)).all (· ≤ reachBytes) = true := hsz0
  have hW' := hW
  obtain ⟨p, q, hA0, hV, rfl, hfz, hnd⟩ := hW
  have hA : DataW.TrodAll enc Try.prog W 0 (fun _ => true) true Try.f4.params.toList args.toList ds p := hA0
  rw [Try.params4] at hA hval hsz
  obtain ⟨v0, d0, rfl, rfl, h0⟩ := trodAll_one hA
  obtain ⟨rfl, rfl⟩ := trodVars_none hV
  have k0 := h0
  have lt0 : ∀ x ∈ p, x.block < W.heap.size := by obtain ⟨m, hm⟩ := k0; exact DataW.trod_lt m _ _ _ hm
  have hs : (d0.weights Try.prog 48).all (· ≤ reachBytes) = true := by simpa [DataW.weightsEach] using hsz
  obtain ⟨fuel, hf⟩ := h0
  obtain ⟨cs0, rfl, hcs⟩ := okWide_struct Try.underlying48 (hval 0 48 v0 rfl rfl)
  rw [Try.cells48] at hcs
  obtain ⟨cs⟩ := cs0
  have hf' : DataW.trod enc Try.prog W 0 (fun _ => true) true fuel 48 cs = some (d0, p) := hf
  obtain ⟨r0, r1, sa, sb, so, n, sc, T, rfl, h1, h2⟩ := open_script (x := (d0, p)) hf' hs
  clear hA0 hval0 hsz0
  refine (holds_walk W _ sa sb so n sc r0 r1 T h2 h1).mono fun e W' ⟨he, hg⟩ => ?_
  subst he
  have bel : Below W.heap.size W W' := gbelow hg
  exact ⟨_, rfl, _, _, _, [], _, [], hW', trodAll_mk1 (shut_bool Try.underlying4 _), trodAll_mk1 (Below.trod laidOut9h (by kernel_rfl) (of_decide_eq_true (by kernel_rfl)) k0 bel lt0), rfl, bel.frame _, fun h => by cases h⟩

theorem diskHolds_holds : Rows.DiskHoldsSaid :=
  OpenClaim.holds_of_wide 4 Try.f4 rfl rfl rfl rfl rfl rfl rfl ⟨rfl, rfl, rfl, rfl, rfl⟩ rfl rfl rfl rfl rfl (by kernel_rfl) Try.func4 (by kernel_rfl)
    (of_decide_eq_true (by kernel_rfl)) (by unfold Func.isWrapper; first | (rw [if_pos (by decide +kernel)]; kernel_rfl) | (rw [if_neg (by decide +kernel)]; exact ⟨rfl, rfl⟩))
    (fun os started H enc _ => diskHolds_lifted os started H enc)
#print axioms diskHolds_holds
end Go.Proofs.Ytlgjmdianmijeaa
