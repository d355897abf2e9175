/- RadixExact, second form: for every argument that holds together at most 1048576 values and letters the statement's function returns true, and the argument reads afterwards as it read before. Conditions: the row's own (its three listed tables lie as the program's text lays them, which the card ties) and that bound; none besides. -/
import Derived.Test.YtipjjhccbgbdiaaGreatDoorExact
import Derived.Test.YtipjjhccbgbdiaaGreatDoorOpen
import Derived.Test.YtipjjhccbgbdiaaGreatDoorTie
import Derived.Test.YtipjjhccbgbdiaaGreatDoorCards
import Derived.ChangeOld
import Derived.Handed
import Derived.Lib.SmallJoins
import Derived.SevenTiedAt
import Derived.Deep.DeepHandedRow
import Derived.Deep.DeepWitnessRowRef
namespace Go.Proofs.YtipjjhccbgbdiaaGreatDoor
open Go Go.RowKit Go.ChangeShapes Go.WideShapes Go.ChangeAt Go.Joins

theorem ownExact : ownKnob Tryz.prog.godebug = none := by kernel_rfl
theorem laidOutExact : laidOutB Tryz.prog = true := by kernel_rfl

/-- The heap that the program's own start lays meets the rows' list. -/
theorem door_met (os : Os) (args : Array Value) : laidMetH Tryz.prog Rows.radixExactUptoRow.laid ((World.doorLaid Tryz.prog 400 os).forCall (fun _ _ => 0) ⟨#[], args, []⟩).memory :=
  laidMetH_of_parts3 (fuel := 8) (laidMet_of_run' 8 (by kernel_rfl) (by kernel_rfl)) (by kernel_rfl) (by kernel_rfl)

theorem bulkW {H : Type} {d0 d1 d2 d3 : DataW H} (h : Rows.uptoSmall H ([.agg [d0, d1, d2, d3]] ++ []) = true) : Rows.uptoBulk d3 ≤ 1048576 := by
  have h1 := of_decide_eq_true h
  simp only [List.append_nil, Rows.uptoBulkAll, Rows.uptoBulk] at h1
  omega

set_option maxRecDepth 100000 in
theorem contract (H : Type) (enc : TypeId × Value → H) (W : World) (base : Nat) (args : Array Value) (ds gs : List (DataW H)) (before : List MemPlace)
    (hval0 : ∀ (j : Nat) t v, Tryz.f3.params[j]? = some t → args[j]? = some v → Value.okWide Tryz.prog W .any base t v)
    (hW : DataW.Whole enc Tryz.prog Tryz.f3.params.toList Rows.radixExactSpec.vars false W args.toList ds gs before)
    (hcond : Rows.uptoSmall H (ds ++ gs) = true)
    (hsz0 : (DataW.weightsEach Tryz.prog (Tryz.f3.params.toList ++ Rows.radixExactSpec.plain.varTypes Tryz.prog) (ds ++ gs)).all (· ≤ reachBytes) = true)
    (hL : laidMetH Tryz.prog Rows.radixExactUptoRow.laid W) :
    Calls Tryz.prog 3 args W fun e W' => ∃ v, e = .returned v ∧ Rows.radixExactSpec.post enc Tryz.prog Tryz.f3 false true false false W args v W' := by
  have hval : ∀ (j : Nat) t v, Tryz.f3.params[j]? = some t → args[j]? = some v → Value.okWide Tryz.prog W .any base t v := hval0
  have hsz : (DataW.weightsEach Tryz.prog (Tryz.f3.params.toList ++ Rows.radixExactSpec.plain.varTypes Tryz.prog) (ds ++ gs)).all (· ≤ reachBytes) = true := hsz0
  have hW' := hW
  obtain ⟨p, q, hA0, hV, rfl, hfz, hnd⟩ := hW
  have hA : DataW.TrodAll enc Tryz.prog W 0 (fun _ => true) true Tryz.f3.params.toList args.toList ds p := hA0
  rw [Tryz.params3] at hA hval hsz
  obtain ⟨v0, d0, rfl, rfl, h0⟩ := trodAll_one hA
  obtain ⟨rfl, rfl⟩ := trodVars_none hV
  have k0 := h0
  have lt0 : ∀ x ∈ p, x.block < W.heap.size := by obtain ⟨m, hm⟩ := k0; exact DataW.trod_lt m _ _ _ hm
  obtain ⟨f0, f1, f2, f3, y0, y1, y2, y3, n, rfl, rfl, hp, hy0, hy1, hy2, hy3⟩ := open_agg4 Tryz.underlying27 (by kernel_rfl) Tryz.cells27 (hval 0 27 v0 rfl rfl) h0
  obtain ⟨s0, s1, s2, s3⟩ := parts_sized (d0 := y0.1) (d1 := y1.1) (d2 := y2.1) (d3 := y3.1) hsz
  obtain ⟨aB, bB, oB, nB, cB, V, L, rfl, hB0, hB1, hB2⟩ := open_B hy0 s0
  obtain ⟨aS, bS, oS, nS, cS, S, rfl, hS0, hS1, hS2⟩ := open_S hy1 s1
  obtain ⟨aN, bN, oN, nN, cN, M, rfl, hN0, hN1, hN2⟩ := open_N hy2 s2
  obtain ⟨aq, nq, cq, hvq, hnq⟩ := len_W hy3
  obtain ⟨aW, bW, oW, nW, cW, N, K, rfl, hW0, hW1, hW2⟩ := open_W hy3 s3
  have hnW : nW ≤ 1048576 := by
    have h9 := bulkW hcond
    have h10 : nW = nq := by simp only [Value.slice.injEq] at hvq; exact hvq.2.1
    omega
  clear hA0 hval0 hsz0 hvq hnq
  refine (exact_walk W aB bB oB nB cB V L aS bS oS nS cS S aN bN oN nN cN M aW bW oW nW cW N K (tensOf hL) hB0 hS0 hN0 hnW hB1 hB2 hS1 hS2 hN1 hN2 hW1 hW2).mono fun e W' ⟨he, bel⟩ => ?_
  subst he
  exact ⟨_, rfl, _, _, _, [], _, [], hW', trodAll_mk1 (shut_bool Tryz.underlying4 _), trodAll_mk1 (Below.trod laidOutExact (by kernel_rfl) (of_decide_eq_true (by kernel_rfl)) k0 bel lt0), rfl, bel.frame _, fun h => by cases h⟩

theorem reads (os : Os) {H : Type} (enc : TypeId × Value → H) : ∃ places, DataW.whole enc Tryz.prog ((World.doorLaid Tryz.prog 400 os).forCall (fun _ _ => 0) ⟨#[], #[.agg #[.slice none 0 0, .slice none 0 0, .slice none 0 0, .slice none 0 0]], []⟩).memory Tryz.f3.params.toList Rows.radixExactSpec.vars false #[Value.agg #[.slice none 0 0, .slice none 0 0, .slice none 0 0, .slice none 0 0]].toList 8 = some ([.agg [.nil, .nil, .nil, .nil]], [], places) :=
  ⟨[], by kernel_rfl⟩

set_option maxRecDepth 100000 in
theorem liftedUpto (os : Os) (started : os.Started) (H : Type) (enc : TypeId × Value → H) (F : Stop.Interp) :
    ReturnsInHanded {} Tryz.checked os 3 .any ((Rows.OpenSpec.upto Rows.radixExactSpec).preRow enc Tryz.prog Tryz.f3 Rows.radixExactUptoRow.domain false Rows.radixExactUptoRow.laid) (((Rows.OpenSpec.upto Rows.radixExactSpec).at F).post enc Tryz.prog Tryz.f3 false true false false) := by
  obtain ⟨places, hx⟩ := reads os enc
  refine returnsInHanded_of_row (C := Tryz.checked) (s := Rows.OpenSpec.upto Rows.radixExactSpec) ownExact started (by kernel_rfl) Tryz.func3
    (witness_row_atRef (enc := enc) (C := Tryz.checked) false (World.doorLaid Tryz.prog 400 os) #[.agg #[.slice none 0 0, .slice none 0 0, .slice none 0 0, .slice none 0 0]] rfl (by kernel_rfl) (by kernel_rfl) (by kernel_rfl)
      (OpenSpec.preRow_of_cond 8 hx (by kernel_rfl) (fun k hk => by cases hk; kernel_rfl) (by kernel_rfl) (door_met os _))) ?_
  intro W base args ds gs before hval hW _ hcond hsz hL _ _
  exact contract H enc W base args ds gs before hval hW (hcond _ rfl) hsz hL

theorem saidUpto : Rows.RadixExactUptoSaid :=
  OpenClaim.holds_of_cond 3 Tryz.f3 rfl rfl rfl rfl rfl rfl rfl ⟨rfl, rfl, rfl, rfl, rfl⟩ rfl rfl rfl rfl rfl (by kernel_rfl) Tryz.func3 (by kernel_rfl)
    (of_decide_eq_true (by kernel_rfl)) (by unfold Func.isWrapper; first | (rw [if_pos (by decide +kernel)]; kernel_rfl) | (rw [if_neg (by decide +kernel)]; exact ⟨rfl, rfl⟩))
    (fun os started H enc _ F => by rw [OpenClaim.pre_eq_preRow]; exact liftedUpto os started H enc F)

theorem radixExactUpto_holds : Rows.RadixExactUptoCardSaid :=
  Claim7.holds_tied_plain_at .later [] _ _ _ _ saidUpto (fun _ h => by cases h) (by kernel_rfl) (fun _ h => by cases h) radixExactUpto_row_tie rfl ⟨rfl, rfl⟩ (by kernel_rfl) rfl
    (fun f fn hf hfn => by
      obtain rfl : f = 3 := Option.some.inj ((show Tryz.prog.funcNamed "postern/posternlaw1.RadixExact" = some 3 by kernel_rfl).symm.trans hf) |>.symm
      obtain rfl : fn = Tryz.f3 := (Option.some.inj (Tryz.func3.symm.trans hfn)).symm
      exact ⟨by kernel_rfl, fun j t ht => by
        rw [Tryz.params3] at ht
        have hm : t ∈ [27] := by simpa using Array.mem_of_getElem? ht
        have hall : ([27].all fun u => !Tryz.prog.wantsStandIn u) = true := by kernel_rfl
        exact (show Tryz.prog.wantsStandIn t = false by simpa using List.all_eq_true.1 hall t hm)⟩)
    (by kernel_rfl)
#print axioms radixExactUpto_holds
end Go.Proofs.YtipjjhccbgbdiaaGreatDoor
