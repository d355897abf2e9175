/- DigestMac: for every argument the statement's function returns true, and the argument reads afterwards as it read before. Conditions: the row's own (its listed variables lie as the program's text lays them, which the card ties); none besides. -/
import Derived.Test.YtmiojplbcjhggaaDoorMacX
import Derived.Test.YtmiojplbcjhggaaDoorSameZ
namespace Go.Proofs.YtmiojplbcjhggaaDoor
open Go Go.RowKit Go.ChangeShapes Go.WideShapes Go.ChangeAt Go.Joins Go.Deep

theorem Tryd.cells45 : Tryd.prog.cellsOf 45 = 2 := by kernel_rfl
section
variable {H : Type} {enc : TypeId × Value → H} {W : World}
theorem keyed_sized {d0 d1 : DataW H} (h : ((DataW.agg [d0, d1]).weights Tryd.prog 45).all (· ≤ reachBytes) = true) : (d0.weights Tryd.prog 22).all (· ≤ reachBytes) = true ∧ (d1.weights Tryd.prog 22).all (· ≤ reachBytes) = true := by
  rw [List.all_eq_true] at h
  simp only [DataW.weights, Tryd.underlying45, DataW.weightsEach, List.map_cons, List.map_nil, List.append_nil] at h
  exact ⟨List.all_eq_true.2 fun n hn => h n (List.mem_append_left _ hn), List.all_eq_true.2 fun n hn => h n (List.mem_append_right _ hn)⟩
set_option maxRecDepth 100000 in
theorem open_keyed {r : Reach} {b0 : Nat} {v : Value} {d : DataW H} {p : List MemPlace} (hv : Value.okWide Tryd.prog W r b0 45 v) (h : DataW.Trod enc Tryd.prog W 0 (fun _ => true) true 45 v d p)
    (hsz : (DataW.weightsEach Tryd.prog [45] [d]).all (· ≤ reachBytes) = true) :
    ∃ (aA aB : Option Addr) (bA oA nA cA bB oB nB cB : Nat) (VA VB : Nat → Value) (LA LB : Nat → List UInt8), v = .agg #[.slice aA nA cA, .slice aB nB cB] ∧ nA ≤ 140737488355328 ∧ nB ≤ 140737488355328 ∧ RowsB W aA bA oA nA VA LA ∧ RowsB W aB bB oB nB VB LB := by
  obtain ⟨fuel, hf⟩ := h
  obtain ⟨cs, rfl, hcs⟩ := okWide_struct Tryd.underlying45 hv
  rw [Tryd.cells45] at hcs
  obtain ⟨c0, c1, rfl⟩ : ∃ c0 c1, cs = #[c0, c1] := by
    obtain ⟨l⟩ := cs
    match l, (show l.length = 2 from hcs) with
    | [a, b], _ => exact ⟨a, b, rfl⟩
  have hf' : DataW.trod enc Tryd.prog W 0 (fun _ => true) true fuel 45 [c0, c1] = some (d, p) := hf
  obtain ⟨xs, k, _, hx, _, hxl, hg⟩ := DataW.trod_struct Tryd.underlying45 hf'
  obtain ⟨x0, x1, rfl⟩ : ∃ x0 x1, xs = [x0, x1] := by
    match xs, (show xs.length = 2 from hxl) with
    | [a, b], _ => exact ⟨a, b, rfl⟩
  have hs : (d.weights Tryd.prog 45).all (· ≤ reachBytes) = true := by simpa [DataW.weightsEach] using hsz
  have hd : d = DataW.agg [x0.1, x1.1] := congrArg Prod.fst hx
  rw [hd] at hs
  obtain ⟨s0, s1⟩ := keyed_sized (d0 := x0.1) (d1 := x1.1) hs
  have f0 : DataW.trod enc Tryd.prog W 0 (fun _ => true) true k 22 [c0] = some x0 := by
    have := hg 0 _ rfl
    change DataW.trod enc Tryd.prog W 0 (fun _ => true) true k 22 ((([c0, c1] : List Value).drop 0).take (Tryd.prog.cellsOf 22)) = some x0 at this
    rw [Tryd.cells22] at this
    exact this
  have f1 : DataW.trod enc Tryd.prog W 0 (fun _ => true) true k 22 [c1] = some x1 := by
    have := hg 1 _ rfl
    change DataW.trod enc Tryd.prog W 0 (fun _ => true) true k 22 ((([c0, c1] : List Value).drop 1).take (Tryd.prog.cellsOf 22)) = some x1 at this
    rw [Tryd.cells22] at this
    exact this
  obtain ⟨aA, bA, oA, nA, cA, VA, LA, rfl, hnA, hA⟩ := rows_of f0 s0
  obtain ⟨aB, bB, oB, nB, cB, VB, LB, rfl, hnB, hB⟩ := rows_of f1 s1
  exact ⟨aA, aB, bA, oA, nA, cA, bB, oB, nB, cB, VA, VB, LA, LB, rfl, hnA, hnB, hA, hB⟩
end

theorem door_metDigestMac (os : Os) (args : Array Value) : laidMetH Tryd.prog Rows.digestMacRow.laid ((World.doorLaid Tryd.prog 400 os).forCall (fun _ _ => 0) ⟨#[], args, []⟩).memory :=
  laidMetH_of_parts3 (fuel := 8) (laidMet_of_run' 8 (by kernel_rfl) (by kernel_rfl)) (by kernel_rfl) (by kernel_rfl)

set_option maxRecDepth 100000 in
theorem digestMac_lifted (os : Os) (started : os.Started) (H : Type) (enc : TypeId × Value → H) :
    ReturnsInHanded {} Tryd.checked os 5 .any (fun w args => (Rows.digestMacSpec.pre enc Tryd.prog Tryd.f5 [] false w args ∧ laidMetH Tryd.prog Rows.digestMacRow.laid w) ∧ sizedMet enc Tryd.prog Tryd.f5 (OpenSpec.ofChange Rows.digestMacSpec) false w args)
      (Rows.digestMacSpec.post enc Tryd.prog Tryd.f5 false true false false) := by
  refine returnsInHanded_of_change_and (C := Tryd.checked) (X := fun w _ => laidMetH Tryd.prog Rows.digestMacRow.laid w) (fun _ _ _ hh h => h.of_heap hh) ownD started (by kernel_rfl) Tryd.func5
    (ChangeSpec.witness_shaped (enc := enc) (C := Tryd.checked) (os := os) (X := fun w _ => laidMetH Tryd.prog Rows.digestMacRow.laid w) false (World.doorLaid Tryd.prog 400 os) #[.agg #[.slice none 0 0, .slice none 0 0]] 8 rfl (World.shaped_of_RefB (by kernel_rfl) (by kernel_rfl)) (by kernel_rfl) (by kernel_rfl) (by kernel_rfl) (door_metDigestMac os _)) ?_
  intro W base args ds gs before hval0 hW _ hsz0 hL _
  have hval : ∀ (j : Nat) t v, Tryd.f5.params[j]? = some t → args[j]? = some v → Value.okWide Tryd.prog W .any base t v := hval0
  have hsz : (DataW.weightsEach Tryd.prog (Tryd.f5.params.toList ++ Rows.digestMacSpec.plain.varTypes Tryd.prog) (ds ++ gs)).all (· ≤ reachBytes) = true := hsz0
  have hW' := hW
  obtain ⟨p, q, hA0, hV, rfl, hfz, hnd⟩ := hW
  have hA : DataW.TrodAll enc Tryd.prog W 0 (fun _ => true) true Tryd.f5.params.toList args.toList ds p := hA0
  rw [Tryd.params5] at hA hval hsz
  obtain ⟨v0, d0, rfl, rfl, h0⟩ := trodAll_one hA
  obtain ⟨rfl, rfl⟩ := trodVars_none hV
  have k0 := h0
  have lt0 : ∀ x ∈ p, x.block < W.heap.size := by obtain ⟨m, hm⟩ := k0; exact DataW.trod_lt m _ _ _ hm
  obtain ⟨aA, aB, bA, oA, nA, cA, bB, oB, nB, cB, VA, VB, LA, LB, rfl, hnA, hnB, hRA, hRB⟩ := open_keyed (hval 0 45 v0 rfl rfl) h0 hsz
  have hG : Glob W := by
    rw [MakeChecks.laidMetH_plain _ _ _ (by kernel_rfl)] at hL
    exact glob_of hL
  clear hA0 hval0 hsz0
  refine (mac_walk W aA aB bA oA nA cA bB oB nB cB VA VB LA LB hG hnA hnB hRA hRB).mono fun e W' ⟨he, hg⟩ => ?_
  subst he
  have bel : Below W.heap.size W W' := gbelow hg
  exact ⟨_, rfl, _, _, _, [], _, [], hW', trodAll_mk1 (shut_bool Tryd.underlying4 _), trodAll_mk1 (Below.trod laidOutD (by kernel_rfl) (of_decide_eq_true (by kernel_rfl)) k0 bel lt0), rfl, bel.frame _, fun h => by cases h⟩

theorem digestMac_row : Rows.DigestMacSaid :=
  OpenClaim.holds_of_wide 5 Tryd.f5 rfl rfl rfl rfl rfl rfl rfl ⟨rfl, rfl, rfl, rfl, rfl⟩ rfl rfl rfl rfl rfl (by kernel_rfl) Tryd.func5 (by kernel_rfl)
    (of_decide_eq_true (by kernel_rfl)) (by unfold Func.isWrapper; first | (rw [if_pos (by decide +kernel)]; kernel_rfl) | (rw [if_neg (by decide +kernel)]; exact ⟨rfl, rfl⟩))
    (fun os started H enc _ => digestMac_lifted os started H enc)

theorem digestMac_holds : Rows.DigestMacCardSaid :=
  Claim7.holds_tied_plain_at .later [] _ _ _ _
    digestMac_row (fun _ h => by cases h) (by kernel_rfl) (fun _ h => by cases h) digestMac_row_tie rfl ⟨rfl, rfl⟩ (by kernel_rfl) rfl
    (fun f fn hf hfn => by
      obtain rfl : f = 5 := Option.some.inj ((show Tryd.prog.funcNamed "postern/posternlaw4.DigestMac" = some 5 by kernel_rfl).symm.trans hf) |>.symm
      obtain rfl : fn = Tryd.f5 := (Option.some.inj (Tryd.func5.symm.trans hfn)).symm
      exact ⟨by kernel_rfl, fun j t ht => by
        rw [Tryd.params5] at ht
        have hm : t ∈ [45] := by simpa using Array.mem_of_getElem? ht
        have hall : ([45].all fun u => !Tryd.prog.wantsStandIn u) = true := by kernel_rfl
        exact (show Tryd.prog.wantsStandIn t = false by simpa using List.all_eq_true.1 hall t hm)⟩)
    (by kernel_rfl)
#print axioms digestMac_holds
end Go.Proofs.YtmiojplbcjhggaaDoor
