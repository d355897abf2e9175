/- RadixBack: for every argument the statement's function returns true, and the argument reads afterwards as it read before. Conditions: the row's own (its three listed tables lie as the program's text lays them, which the card ties); none besides. -/
import Derived.Test.YtipjjhccbgbdiaaDoorWalkP
import Derived.Test.YtipjjhccbgbdiaaDoorOpenN
import Derived.Test.YtipjjhccbgbdiaaDoorTie
import Derived.Test.YtipjjhccbgbdiaaDoorCards
import Derived.ChangeOld
import Derived.Handed
import Derived.Lib.SmallJoins
import Derived.SevenTiedAt
namespace Go.Proofs.YtipjjhccbgbdiaaDoor
open Go Go.RowKit Go.ChangeShapes Go.WideShapes Go.ChangeAt Go.Joins

theorem ownBack : ownKnob Tryd.prog.godebug = none := by kernel_rfl
theorem laidOutBack : laidOutB Tryd.prog = true := by kernel_rfl

/-- The heap that the program's own start lays meets the rows' list. -/
theorem door_metBack (os : Os) (args : Array Value) : laidMetH Tryd.prog Rows.radixBackRow.laid ((World.doorLaid Tryd.prog 400 os).forCall (fun _ _ => 0) ⟨#[], args, []⟩).memory :=
  laidMetH_of_parts3 (fuel := 8) (laidMet_of_run' 8 (by kernel_rfl) (by kernel_rfl)) (by kernel_rfl) (by kernel_rfl)

set_option maxRecDepth 100000 in
theorem back_lifted (os : Os) (started : os.Started) (H : Type) (enc : TypeId × Value → H) :
    ReturnsInHanded {} Tryd.checked os 3 .any (fun w args => (Rows.radixBackSpec.pre enc Tryd.prog Tryd.f3 [] false w args ∧ laidMetH Tryd.prog Rows.radixBackRow.laid w) ∧ sizedMet enc Tryd.prog Tryd.f3 (OpenSpec.ofChange Rows.radixBackSpec) false w args)
      (Rows.radixBackSpec.post enc Tryd.prog Tryd.f3 false true false false) := by
  refine returnsInHanded_of_change_and (C := Tryd.checked) (X := fun w _ => laidMetH Tryd.prog Rows.radixBackRow.laid w) (fun _ _ _ hh h => h.of_heap hh) ownBack started (by kernel_rfl) Tryd.func3
    (ChangeSpec.witness_shaped (enc := enc) (C := Tryd.checked) (os := os) (X := fun w _ => laidMetH Tryd.prog Rows.radixBackRow.laid w) false (World.doorLaid Tryd.prog 400 os) #[.agg #[.slice none 0 0, .slice none 0 0, .slice none 0 0, .slice none 0 0]] 8 rfl (World.shaped_of_RefB (by kernel_rfl) (by kernel_rfl)) (by kernel_rfl) (by kernel_rfl) (by kernel_rfl) (door_metBack os _)) ?_
  intro W base args ds gs before hval0 hW _ hsz0 hL _
  have hval : ∀ (j : Nat) t v, Tryd.f3.params[j]? = some t → args[j]? = some v → Value.okWide Tryd.prog W .any base t v := hval0
  have hsz : (DataW.weightsEach Tryd.prog (Tryd.f3.params.toList ++ Rows.radixBackSpec.plain.varTypes Tryd.prog) (ds ++ gs)).all (· ≤ reachBytes) = true := hsz0
  have hW' := hW
  obtain ⟨p, q, hA0, hV, rfl, hfz, hnd⟩ := hW
  have hA : DataW.TrodAll enc Tryd.prog W 0 (fun _ => true) true Tryd.f3.params.toList args.toList ds p := hA0
  rw [Tryd.params3] at hA hval hsz
  obtain ⟨v0, d0, rfl, rfl, h0⟩ := trodAll_one hA
  obtain ⟨rfl, rfl⟩ := trodVars_none hV
  have k0 := h0
  have lt0 : ∀ x ∈ p, x.block < W.heap.size := by obtain ⟨m, hm⟩ := k0; exact DataW.trod_lt m _ _ _ hm
  obtain ⟨f0, f1, f2, f3, y0, y1, y2, y3, n, rfl, rfl, hp, hy0, hy1, hy2, hy3⟩ := open_agg4 Tryd.underlying27 (by kernel_rfl) Tryd.cells27 (hval 0 27 v0 rfl rfl) h0
  obtain ⟨s0, _, s2, s3⟩ := parts_sized (d0 := y0.1) (d1 := y1.1) (d2 := y2.1) (d3 := y3.1) hsz
  obtain ⟨aB, bB, oB, nB, cB, V, L, rfl, hB0, hB1, hB2⟩ := open_B hy0 s0
  obtain ⟨aN, bN, oN, nN, cN, M, rfl, hN0, hN1, hN2⟩ := open_N hy2 s2
  obtain ⟨aW, bW, oW, nW, cW, N, K, rfl, hW0, hW1, hW2⟩ := open_W hy3 s3
  clear hA0 hval0 hsz0
  refine (back_walk W aB bB oB nB cB V L aN bN oN nN cN M aW bW oW nW cW N K f1 (tensOf hL) hB0 hN0 hW0 hB1 hB2 hN1 hN2 hW1 (fun i hi => ⟨(hW2 i hi).1, (hW2 i hi).2.1, (hW2 i hi).2.2.1⟩)).mono fun e W' ⟨he, bel⟩ => ?_
  subst he
  exact ⟨_, rfl, _, _, _, [], _, [], hW', trodAll_mk1 (shut_bool Tryd.underlying4 _), trodAll_mk1 (Below.trod laidOutBack (by kernel_rfl) (of_decide_eq_true (by kernel_rfl)) k0 bel lt0), rfl, bel.frame _, fun h => by cases h⟩

theorem back_row : Rows.RadixBackSaid :=
  OpenClaim.holds_of_wide 3 Tryd.f3 rfl rfl rfl rfl rfl rfl rfl ⟨rfl, rfl, rfl, rfl, rfl⟩ rfl rfl rfl rfl rfl (by kernel_rfl) Tryd.func3 (by kernel_rfl)
    (of_decide_eq_true (by kernel_rfl)) (by unfold Func.isWrapper; first | (rw [if_pos (by decide +kernel)]; kernel_rfl) | (rw [if_neg (by decide +kernel)]; exact ⟨rfl, rfl⟩))
    (fun os started H enc _ => back_lifted os started H enc)

theorem radixBack_holds : Rows.RadixBackCardSaid :=
  Claim7.holds_tied_plain_at .later [] [.data, .data, .data] true (true, "95096ffbf20067ed336e025924aa6136eab8b8c486733e83c5b8008f9fd13e17") false
    back_row (fun _ h => by cases h) (by kernel_rfl) (fun _ h => by cases h) radixBack_row_tie rfl ⟨rfl, rfl⟩ (by kernel_rfl) rfl
    (fun f fn hf hfn => by
      obtain rfl : f = 3 := Option.some.inj ((show Tryd.prog.funcNamed "postern/posternlaw1.RadixBack" = some 3 by kernel_rfl).symm.trans hf) |>.symm
      obtain rfl : fn = Tryd.f3 := (Option.some.inj (Tryd.func3.symm.trans hfn)).symm
      exact ⟨by kernel_rfl, fun j t ht => by
        rw [Tryd.params3] at ht
        have hm : t ∈ [27] := by simpa using Array.mem_of_getElem? ht
        have hall : ([27].all fun u => !Tryd.prog.wantsStandIn u) = true := by kernel_rfl
        exact (show Tryd.prog.wantsStandIn t = false by simpa using List.all_eq_true.1 hall t hm)⟩)
    (by kernel_rfl)
#print axioms radixBack_holds
end Go.Proofs.YtipjjhccbgbdiaaDoor
