/- RadixOne: for every list of texts the statement's function returns true, and the list reads afterwards as it read before. Conditions: the row's own (its three listed tables lie as the program's text lays them, which the card ties); none besides. -/
import Derived.Test.YtipjjhccbgbdiaaDoorWalkM
import Derived.Test.YtipjjhccbgbdiaaDoorOpen
import Derived.Test.YtipjjhccbgbdiaaDoorTie
import Derived.Test.YtipjjhccbgbdiaaDoorCards
import Derived.ChangeOld
import Derived.Handed
import Derived.SevenTiedAt
namespace Go.Proofs.YtipjjhccbgbdiaaDoor
open Go Go.RowKit Go.ChangeShapes Go.WideShapes Go.ChangeAt Go.Deep

theorem ownOne : ownKnob Tryd.prog.godebug = none := by kernel_rfl
theorem laidOutOne : laidOutB Tryd.prog = true := by kernel_rfl
theorem Tryd.bytes9 : Tryd.prog.bytesOf 9 = 16 := by kernel_rfl

/-- The heap that the program's own start lays meets the row's list. -/
theorem door_metOne (os : Os) (args : Array Value) : laidMetH Tryd.prog Rows.radixOneRow.laid ((World.doorLaid Tryd.prog 400 os).forCall (fun _ _ => 0) ⟨#[], args, []⟩).memory :=
  laidMetH_of_parts3 (fuel := 8) (laidMet_of_run' 8 (by kernel_rfl) (by kernel_rfl)) (by kernel_rfl) (by kernel_rfl)

/-- Texts, as the walk reads them. -/
def ArgS (W : World) (v : Value) : Prop :=
  ∃ (aS : Option Addr) (bS oS nS cS : Nat) (S : Nat → ByteArray), v = .slice aS nS cS ∧ nS ≤ 140737488355328 ∧ (0 < nS → aS = some ⟨bS, oS, none⟩ ∧ bS < W.heap.size) ∧ ∀ i, i < nS → W.cell? ⟨bS, oS + i, none⟩ = some (.string (S i)) ∧ (S i).size ≤ 140737488355328

theorem open_S {H : Type} {enc : TypeId × Value → H} {W : World} {fuel : Nat} {v : Value} {y : DataW H × List MemPlace} (h : DataW.trod enc Tryd.prog W 0 (fun _ => true) true fuel 23 [v] = some y) (hsz : (y.1.weights Tryd.prog 23).all (· ≤ reachBytes) = true) : ArgS W v := by
  rcases open_strs Tryd.underlying23 Tryd.underlying9 Tryd.cells9 h with ⟨hcs, _⟩ | ⟨a, len, cap, m, Sx, hcs, _, hl, hm, hmm, hx, hr⟩
  · simp only [List.cons.injEq, and_true] at hcs
    exact ⟨none, 0, 0, 0, 0, fun _ => ByteArray.empty, hcs, by omega, fun h => by omega, fun i h => by omega⟩
  · simp only [List.cons.injEq, and_true] at hcs
    simp only [if_true] at hmm
    rw [hx] at hsz
    obtain ⟨hs1, hs2⟩ := all_slice Tryd.underlying23 hsz
    rw [Tryd.bytes9] at hs1
    simp at hs1
    have hrb := reachBytes_lt
    have hlen : len ≤ 140737488355328 := by omega
    by_cases h0 : len = 0
    · exact ⟨some a, 0, 0, len, cap, fun _ => ByteArray.empty, hcs, hlen, fun h => by omega, fun i h => by omega⟩
    · obtain ⟨b, off, spot⟩ := a
      have c0 := (hr 0 (by omega)).1
      have hspot : spot = none := by simpa [Addr.add] using World.cell?_spot c0
      subst hspot
      have hblt : b < W.heap.size := by
        rw [add_none] at c0
        exact World.block_lt_of_cell? W _ c0
      refine ⟨some ⟨b, off, none⟩, b, off, len, cap, Sx, hcs, hlen, fun _ => ⟨rfl, hblt⟩, fun i hi => ?_⟩
      have q := (hr i (by omega)).1
      rw [add_none] at q
      refine ⟨q, ?_⟩
      have hin := hs2 (.lit (.string (Sx i).data.toList)) (List.mem_map.2 ⟨i, List.mem_range.2 hi, rfl⟩)
      have hle := of_decide_eq_true (List.all_eq_true.1 hin (Sx i).data.toList.length (by simp [DataW.weights]))
      rw [size_list] at hle
      omega

theorem tensOfOne {W : World} (h : laidMetH Tryd.prog Rows.radixOneRow.laid W) : Tens W := tensOf h

set_option maxRecDepth 100000 in
theorem one_lifted (os : Os) (started : os.Started) (H : Type) (enc : TypeId × Value → H) :
    ReturnsInHanded {} Tryd.checked os 4 .any (fun w args => (Rows.radixOneSpec.pre enc Tryd.prog Tryd.f4 [] false w args ∧ laidMetH Tryd.prog Rows.radixOneRow.laid w) ∧ sizedMet enc Tryd.prog Tryd.f4 (OpenSpec.ofChange Rows.radixOneSpec) false w args)
      (Rows.radixOneSpec.post enc Tryd.prog Tryd.f4 false true false false) := by
  refine returnsInHanded_of_change_and (C := Tryd.checked) (X := fun w _ => laidMetH Tryd.prog Rows.radixOneRow.laid w) (fun _ _ _ hh h => h.of_heap hh) ownOne started (by kernel_rfl) Tryd.func4
    (ChangeSpec.witness_shaped (enc := enc) (C := Tryd.checked) (os := os) (X := fun w _ => laidMetH Tryd.prog Rows.radixOneRow.laid w) false (World.doorLaid Tryd.prog 400 os) #[.slice none 0 0] 8 rfl (World.shaped_of_RefB (by kernel_rfl) (by kernel_rfl)) (by kernel_rfl) (by kernel_rfl) (by kernel_rfl) (door_metOne os _)) ?_
  intro W base args ds gs before hval0 hW _ hsz0 hL _
  have hval : ∀ (j : Nat) t v, Tryd.f4.params[j]? = some t → args[j]? = some v → Value.okWide Tryd.prog W .any base t v := hval0
  have hsz : (DataW.weightsEach Tryd.prog (Tryd.f4.params.toList ++ Rows.radixOneSpec.plain.varTypes Tryd.prog) (ds ++ gs)).all (· ≤ reachBytes) = true := hsz0
  have hW' := hW
  obtain ⟨p, q, hA0, hV, rfl, hfz, hnd⟩ := hW
  have hA : DataW.TrodAll enc Tryd.prog W 0 (fun _ => true) true Tryd.f4.params.toList args.toList ds p := hA0
  rw [Tryd.params4] at hA hval hsz
  obtain ⟨v0, d0, rfl, rfl, h0⟩ := trodAll_one hA
  obtain ⟨rfl, rfl⟩ := trodVars_none hV
  have k0 := h0
  have lt0 : ∀ x ∈ p, x.block < W.heap.size := by obtain ⟨m, hm⟩ := k0; exact DataW.trod_lt m _ _ _ hm
  obtain ⟨a0, len0, cap0, rfl⟩ := okWide_slice Tryd.underlying23 (hval 0 23 v0 rfl rfl)
  obtain ⟨fuel, hf⟩ := h0
  have hs0 : (d0.weights Tryd.prog 23).all (· ≤ reachBytes) = true := List.all_eq_true.2 fun n hn => List.all_eq_true.1 hsz n (List.mem_append_left _ hn)
  obtain ⟨aS, bS, oS, nS, cS, S, he, hS0, hS1, hS2⟩ := open_S (y := (d0, p)) hf hs0
  rw [he] at hW' k0 ⊢
  clear hA0 hval0 hsz0
  refine (one_walk W aS bS oS nS cS S (tensOfOne hL) hS0 hS1 hS2).mono fun e W' ⟨he, bel⟩ => ?_
  subst he
  exact ⟨_, rfl, _, _, _, [], _, [], hW', trodAll_mk1 (shut_bool Tryd.underlying4 _), trodAll_mk1 (Below.trod laidOutOne (by kernel_rfl) (of_decide_eq_true (by kernel_rfl)) k0 bel lt0), rfl, bel.frame _, fun h => by cases h⟩

theorem one_row : Rows.RadixOneSaid :=
  OpenClaim.holds_of_wide 4 Tryd.f4 rfl rfl rfl rfl rfl rfl rfl ⟨rfl, rfl, rfl, rfl, rfl⟩ rfl rfl rfl rfl rfl (by kernel_rfl) Tryd.func4 (by kernel_rfl)
    (of_decide_eq_true (by kernel_rfl)) (by unfold Func.isWrapper; first | (rw [if_pos (by decide +kernel)]; kernel_rfl) | (rw [if_neg (by decide +kernel)]; exact ⟨rfl, rfl⟩))
    (fun os started H enc _ => one_lifted os started H enc)

theorem radixOne_holds : Rows.RadixOneCardSaid :=
  Claim7.holds_tied_plain_at .later [] [.data, .data, .data] true (true, "95096ffbf20067ed336e025924aa6136eab8b8c486733e83c5b8008f9fd13e17") false
    one_row (fun _ h => by cases h) (by kernel_rfl) (fun _ h => by cases h) radixOne_row_tie rfl ⟨rfl, rfl⟩ (by kernel_rfl) rfl
    (fun f fn hf hfn => by
      obtain rfl : f = 4 := Option.some.inj ((show Tryd.prog.funcNamed "postern/posternlaw1.RadixOne" = some 4 by kernel_rfl).symm.trans hf) |>.symm
      obtain rfl : fn = Tryd.f4 := (Option.some.inj (Tryd.func4.symm.trans hfn)).symm
      exact ⟨by kernel_rfl, fun j t ht => by
        rw [Tryd.params4] at ht
        have hm : t ∈ [23] := by simpa using Array.mem_of_getElem? ht
        have hall : ([23].all fun u => !Tryd.prog.wantsStandIn u) = true := by kernel_rfl
        exact (show Tryd.prog.wantsStandIn t = false by simpa using List.all_eq_true.1 hall t hm)⟩)
    (by kernel_rfl)
#print axioms radixOne_holds
end Go.Proofs.YtipjjhccbgbdiaaDoor
