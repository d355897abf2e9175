/- DigestSame: for every argument the statement's function returns true, and the argument reads afterwards as it read before. Conditions: the row's own (its listed variables lie as the program's text lays them, which the card ties); none besides. -/
import Derived.Test.YtmiojplbcjhggaaDoorSameB
import Derived.Test.YtmiojplbcjhggaaDoorOpenA
import Derived.Test.YtmiojplbcjhggaaDoorTie
import Derived.Test.YtmiojplbcjhggaaDoorCards
namespace Go.Proofs.YtmiojplbcjhggaaDoor
open Go Go.RowKit Go.ChangeShapes Go.WideShapes Go.ChangeAt Go.Joins Go.Deep

theorem Tryd.cells49 : Tryd.prog.cellsOf 49 = 2 := by kernel_rfl
theorem Tryd.cells22 : Tryd.prog.cellsOf 22 = 1 := by kernel_rfl
theorem Tryd.bytes23 : Tryd.prog.bytesOf 23 = 24 := by kernel_rfl
section
variable {H : Type} {enc : TypeId × Value → H} {W : World}
theorem rows_of {fuel : Nat} {v : Value} {y : DataW H × List MemPlace} (h : DataW.trod enc Tryd.prog W 0 (fun _ => true) true fuel 22 [v] = some y) (hsz : (y.1.weights Tryd.prog 22).all (· ≤ reachBytes) = true) :
    ∃ (a : Option Addr) (b o n c : Nat) (V : Nat → Value) (L : Nat → List UInt8), v = .slice a n c ∧ n ≤ 140737488355328 ∧ RowsB W a b o n V L := by
  obtain ⟨a, b, o, n, c, hv, hnc, hn, ha, hel⟩ := open_rows Tryd.underlying22 Tryd.cells23 (by decide) (by rw [Tryd.bytes23]; decide) h hsz
  have hex : ∀ i, i < n → ∃ q : Value × List UInt8, W.cell? ⟨b, o + i, none⟩ = some q.1 ∧ Rd W (fun _ => True) q.1 q.2 ∧ q.2.length ≤ 140737488351232 := by
    intro i hi
    obtain ⟨cs, m, x, hcl, hcell, ht, hs⟩ := hel i hi
    obtain ⟨c0, rfl⟩ : ∃ c0, cs = [c0] := by
      match cs, hcl with
      | [a], _ => exact ⟨a, rfl⟩
    obtain ⟨l0, r0, b0⟩ := open_bytes ht hs
    refine ⟨(c0, l0), ?_, r0, b0⟩
    have := hcell 0 (by decide)
    rw [Nat.mul_one, Nat.add_zero] at this
    exact this
  obtain ⟨f, hf⟩ := choose_lt hex
  exact ⟨a, b, o, n, c, fun i => (f i).1, fun i => (f i).2, hv, hn, ha, fun i hi => hf i hi⟩
theorem two_sized {d0 d1 : DataW H} (h : ((DataW.agg [d0, d1]).weights Tryd.prog 49).all (· ≤ reachBytes) = true) : (d0.weights Tryd.prog 22).all (· ≤ reachBytes) = true ∧ (d1.weights Tryd.prog 22).all (· ≤ reachBytes) = true := by
  rw [List.all_eq_true] at h
  simp only [DataW.weights, Tryd.underlying49, DataW.weightsEach, List.map_cons, List.map_nil, List.append_nil] at h
  exact ⟨List.all_eq_true.2 fun n hn => h n (List.mem_append_left _ hn), List.all_eq_true.2 fun n hn => h n (List.mem_append_right _ hn)⟩
set_option maxRecDepth 100000 in
theorem open_two {r : Reach} {b0 : Nat} {v : Value} {d : DataW H} {p : List MemPlace} (hv : Value.okWide Tryd.prog W r b0 49 v) (h : DataW.Trod enc Tryd.prog W 0 (fun _ => true) true 49 v d p)
    (hsz : (DataW.weightsEach Tryd.prog [49] [d]).all (· ≤ reachBytes) = true) :
    ∃ (aA aB : Option Addr) (bA oA nA cA bB oB nB cB : Nat) (VA VB : Nat → Value) (LA LB : Nat → List UInt8), v = .agg #[.slice aA nA cA, .slice aB nB cB] ∧ nA ≤ 140737488355328 ∧ nB ≤ 140737488355328 ∧ RowsB W aA bA oA nA VA LA ∧ RowsB W aB bB oB nB VB LB := by
  obtain ⟨fuel, hf⟩ := h
  obtain ⟨cs, rfl, hcs⟩ := okWide_struct Tryd.underlying49 hv
  rw [Tryd.cells49] at hcs
  obtain ⟨c0, c1, rfl⟩ : ∃ c0 c1, cs = #[c0, c1] := by
    obtain ⟨l⟩ := cs
    match l, (show l.length = 2 from hcs) with
    | [a, b], _ => exact ⟨a, b, rfl⟩
  have hf' : DataW.trod enc Tryd.prog W 0 (fun _ => true) true fuel 49 [c0, c1] = some (d, p) := hf
  obtain ⟨xs, k, _, hx, _, hxl, hg⟩ := DataW.trod_struct Tryd.underlying49 hf'
  obtain ⟨x0, x1, rfl⟩ : ∃ x0 x1, xs = [x0, x1] := by
    match xs, (show xs.length = 2 from hxl) with
    | [a, b], _ => exact ⟨a, b, rfl⟩
  have hs : (d.weights Tryd.prog 49).all (· ≤ reachBytes) = true := by simpa [DataW.weightsEach] using hsz
  have hd : d = DataW.agg [x0.1, x1.1] := congrArg Prod.fst hx
  rw [hd] at hs
  obtain ⟨s0, s1⟩ := two_sized (d0 := x0.1) (d1 := x1.1) hs
  have f0 : DataW.trod enc Tryd.prog W 0 (fun _ => true) true k 22 [c0] = some x0 := by
    have := hg 0 _ rfl
    change DataW.trod enc Tryd.prog W 0 (fun _ => true) true k 22 ((([c0, c1] : List Value).drop 0).take (Tryd.prog.cellsOf 22)) = some x0 at this
    rw [Tryd.cells22] at this
    exact this
  have f1 : DataW.trod enc Tryd.prog W 0 (fun _ => true) true k 22 [c1] = some x1 := by
    have := hg 1 _ rfl
    change DataW.trod enc Tryd.prog W 0 (fun _ => true) true k 22 ((([c0, c1] : List Value).drop 1).take (Tryd.prog.cellsOf 22)) = some x1 at this
    rw [Tryd.cells22] at this
    exact this
  obtain ⟨aA, bA, oA, nA, cA, VA, LA, rfl, hnA, hA⟩ := rows_of f0 s0
  obtain ⟨aB, bB, oB, nB, cB, VB, LB, rfl, hnB, hB⟩ := rows_of f1 s1
  exact ⟨aA, aB, bA, oA, nA, cA, bB, oB, nB, cB, VA, VB, LA, LB, rfl, hnA, hnB, hA, hB⟩
end

theorem door_metSame (os : Os) (args : Array Value) : laidMetH Tryd.prog Rows.digestSameRow.laid ((World.doorLaid Tryd.prog 400 os).forCall (fun _ _ => 0) ⟨#[], args, []⟩).memory :=
  laidMetH_of_parts3 (fuel := 8) (laidMet_of_run' 8 (by kernel_rfl) (by kernel_rfl)) (by kernel_rfl) (by kernel_rfl)

set_option maxRecDepth 100000 in
theorem same_lifted (os : Os) (started : os.Started) (H : Type) (enc : TypeId × Value → H) :
    ReturnsInHanded {} Tryd.checked os 6 .any (fun w args => (Rows.digestSameSpec.pre enc Tryd.prog Tryd.f6 [] false w args ∧ laidMetH Tryd.prog Rows.digestSameRow.laid w) ∧ sizedMet enc Tryd.prog Tryd.f6 (OpenSpec.ofChange Rows.digestSameSpec) false w args)
      (Rows.digestSameSpec.post enc Tryd.prog Tryd.f6 false true false false) := by
  refine returnsInHanded_of_change_and (C := Tryd.checked) (X := fun w _ => laidMetH Tryd.prog Rows.digestSameRow.laid w) (fun _ _ _ hh h => h.of_heap hh) ownD started (by kernel_rfl) Tryd.func6
    (ChangeSpec.witness_shaped (enc := enc) (C := Tryd.checked) (os := os) (X := fun w _ => laidMetH Tryd.prog Rows.digestSameRow.laid w) false (World.doorLaid Tryd.prog 400 os) #[.agg #[.slice none 0 0, .slice none 0 0]] 8 rfl (World.shaped_of_RefB (by kernel_rfl) (by kernel_rfl)) (by kernel_rfl) (by kernel_rfl) (by kernel_rfl) (door_metSame os _)) ?_
  intro W base args ds gs before hval0 hW _ hsz0 hL _
  have hval : ∀ (j : Nat) t v, Tryd.f6.params[j]? = some t → args[j]? = some v → Value.okWide Tryd.prog W .any base t v := hval0
  have hsz : (DataW.weightsEach Tryd.prog (Tryd.f6.params.toList ++ Rows.digestSameSpec.plain.varTypes Tryd.prog) (ds ++ gs)).all (· ≤ reachBytes) = true := hsz0
  have hW' := hW
  obtain ⟨p, q, hA0, hV, rfl, hfz, hnd⟩ := hW
  have hA : DataW.TrodAll enc Tryd.prog W 0 (fun _ => true) true Tryd.f6.params.toList args.toList ds p := hA0
  rw [Tryd.params6] at hA hval hsz
  obtain ⟨v0, d0, rfl, rfl, h0⟩ := trodAll_one hA
  obtain ⟨rfl, rfl⟩ := trodVars_none hV
  have k0 := h0
  have lt0 : ∀ x ∈ p, x.block < W.heap.size := by obtain ⟨m, hm⟩ := k0; exact DataW.trod_lt m _ _ _ hm
  obtain ⟨aA, aB, bA, oA, nA, cA, bB, oB, nB, cB, VA, VB, LA, LB, rfl, hnA, hnB, hRA, hRB⟩ := open_two (hval 0 49 v0 rfl rfl) h0 hsz
  have hG : Glob W := by
    rw [MakeChecks.laidMetH_plain _ _ _ (by kernel_rfl)] at hL
    exact glob_of hL
  clear hA0 hval0 hsz0
  refine (same_walk W aA aB bA oA nA cA bB oB nB cB VA VB LA LB hG hnA hnB hRA hRB).mono fun e W' ⟨he, hg⟩ => ?_
  subst he
  have bel : Below W.heap.size W W' := gbelow hg
  exact ⟨_, rfl, _, _, _, [], _, [], hW', trodAll_mk1 (shut_bool Tryd.underlying4 _), trodAll_mk1 (Below.trod laidOutD (by kernel_rfl) (of_decide_eq_true (by kernel_rfl)) k0 bel lt0), rfl, bel.frame _, fun h => by cases h⟩

theorem same_row : Rows.DigestSameSaid :=
  OpenClaim.holds_of_wide 6 Tryd.f6 rfl rfl rfl rfl rfl rfl rfl ⟨rfl, rfl, rfl, rfl, rfl⟩ rfl rfl rfl rfl rfl (by kernel_rfl) Tryd.func6 (by kernel_rfl)
    (of_decide_eq_true (by kernel_rfl)) (by unfold Func.isWrapper; first | (rw [if_pos (by decide +kernel)]; kernel_rfl) | (rw [if_neg (by decide +kernel)]; exact ⟨rfl, rfl⟩))
    (fun os started H enc _ => same_lifted os started H enc)

theorem digestSame_holds : Rows.DigestSameCardSaid :=
  Claim7.holds_tied_plain_at .later [] _ _ _ _
    same_row (fun _ h => by cases h) (by kernel_rfl) (fun _ h => by cases h) digestSame_row_tie rfl ⟨rfl, rfl⟩ (by kernel_rfl) rfl
    (fun f fn hf hfn => by
      obtain rfl : f = 6 := Option.some.inj ((show Tryd.prog.funcNamed "postern/posternlaw4.DigestSame" = some 6 by kernel_rfl).symm.trans hf) |>.symm
      obtain rfl : fn = Tryd.f6 := (Option.some.inj (Tryd.func6.symm.trans hfn)).symm
      exact ⟨by kernel_rfl, fun j t ht => by
        rw [Tryd.params6] at ht
        have hm : t ∈ [49] := by simpa using Array.mem_of_getElem? ht
        have hall : ([49].all fun u => !Tryd.prog.wantsStandIn u) = true := by kernel_rfl
        exact (show Tryd.prog.wantsStandIn t = false by simpa using List.all_eq_true.1 hall t hm)⟩)
    (by kernel_rfl)
#print axioms digestSame_holds
end Go.Proofs.YtmiojplbcjhggaaDoor
