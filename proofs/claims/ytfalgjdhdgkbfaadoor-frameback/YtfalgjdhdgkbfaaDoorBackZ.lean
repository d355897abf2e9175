/- FrameBack: for every argument the statement's function returns true, and the argument reads afterwards as it read before. Conditions: the row's own (its listed table lies as the program's text lays it, which the card ties); none besides. -/
import Derived.Test.YtfalgjdhdgkbfaaDoorBackB
import Derived.Test.YtfalgjdhdgkbfaaDoorOpenA
import Derived.Test.YtfalgjdhdgkbfaaDoorTie
import Derived.Test.YtfalgjdhdgkbfaaDoorCards
namespace Go.Proofs.YtfalgjdhdgkbfaaDoor
open Go Go.RowKit Go.ChangeShapes Go.WideShapes Go.ChangeAt Go.Joins Go.Deep

theorem Tryd.cells48 : Tryd.prog.cellsOf 48 = 4 := by kernel_rfl
theorem Tryd.cells3 : Tryd.prog.cellsOf 3 = 1 := by kernel_rfl
theorem Tryd.bytes48 : Tryd.prog.bytesOf 48 = 64 := by kernel_rfl
theorem four_of {cs : List Value} (h : cs.length = 4) : ∃ a b c d, cs = [a, b, c, d] := by
  match cs, h with
  | [a, b, c, d], _ => exact ⟨a, b, c, d, rfl⟩
section
variable {H : Type} {enc : TypeId × Value → H} {W : World}
theorem framed_sized {d0 d1 d2 d3 : DataW H} (h : ((DataW.agg [d0, d1, d2, d3]).weights Tryd.prog 48).all (· ≤ reachBytes) = true) : (d0.weights Tryd.prog 29).all (· ≤ reachBytes) = true ∧ (d1.weights Tryd.prog 29).all (· ≤ reachBytes) = true := by
  rw [List.all_eq_true] at h
  simp only [DataW.weights, Tryd.underlying48, DataW.weightsEach, List.map_cons, List.map_nil, List.append_nil] at h
  exact ⟨List.all_eq_true.2 fun n hn => h n (List.mem_append_left _ hn), List.all_eq_true.2 fun n hn => h n (List.mem_append_right _ (List.mem_append_left _ hn))⟩
set_option maxRecDepth 100000 in
theorem open_F {fuel : Nat} {v : Value} {y : DataW H × List MemPlace} (h : DataW.trod enc Tryd.prog W 0 (fun _ => true) true fuel 46 [v] = some y) (hsz : (y.1.weights Tryd.prog 46).all (· ≤ reachBytes) = true) :
    ∃ (a : Option Addr) (b o n c : Nat) (VB VT : Nat → Value) (B T : Nat → List UInt8) (A Z : Nat → Int), v = .slice a n c ∧ n ≤ 140737488355328 ∧ ArgF W a b o n VB VT B T A Z := by
  obtain ⟨a, b, o, n, c, hv, hnc, hn, ha, hel⟩ := open_rows Tryd.underlying46 Tryd.cells48 (by decide) (by rw [Tryd.bytes48]; decide) h hsz
  have hex : ∀ i, i < n → ∃ q : Value × Value × List UInt8 × List UInt8 × Int × Int, (W.cell? ⟨b, o + i * 4, none⟩ = some q.1 ∧ W.cell? ⟨b, o + i * 4 + 1, none⟩ = some q.2.1 ∧ W.cell? ⟨b, o + i * 4 + 2, none⟩ = some (.int .i64 q.2.2.2.2.1) ∧ W.cell? ⟨b, o + i * 4 + 3, none⟩ = some (.int .i64 q.2.2.2.2.2)) ∧
      Rd W (fun _ => True) q.1 q.2.2.1 ∧ Rd W (fun _ => True) q.2.1 q.2.2.2.1 ∧ q.2.2.1.length ≤ 140737488355328 ∧ q.2.2.2.1.length ≤ 140737488355328 := by
    intro i hi
    obtain ⟨cs, m, x, hcl, hcell, ht, hs⟩ := hel i hi
    obtain ⟨c0, c1, c2, c3, rfl⟩ := four_of hcl
    obtain ⟨xs, k, _, hx, _, hxl, hf⟩ := DataW.trod_struct Tryd.underlying48 ht
    obtain ⟨x0, x1, x2, x3, rfl⟩ : ∃ x0 x1 x2 x3, xs = [x0, x1, x2, x3] := by
      match xs, (show xs.length = 4 from hxl) with
      | [a, b, c, d], _ => exact ⟨a, b, c, d, rfl⟩
    rw [hx] at hs
    obtain ⟨s0, s1⟩ := framed_sized (d0 := x0.1) (d1 := x1.1) (d2 := x2.1) (d3 := x3.1) hs
    have f0 : DataW.trod enc Tryd.prog W 0 (fun _ => true) true k 29 [c0] = some x0 := by
      have := hf 0 _ rfl
      change DataW.trod enc Tryd.prog W 0 (fun _ => true) true k 29 ((([c0, c1, c2, c3] : List Value).drop 0).take (Tryd.prog.cellsOf 29)) = some x0 at this
      rw [Tryd.cells29] at this
      exact this
    have f1 : DataW.trod enc Tryd.prog W 0 (fun _ => true) true k 29 [c1] = some x1 := by
      have := hf 1 _ rfl
      change DataW.trod enc Tryd.prog W 0 (fun _ => true) true k 29 ((([c0, c1, c2, c3] : List Value).drop 1).take (Tryd.prog.cellsOf 29)) = some x1 at this
      rw [Tryd.cells29] at this
      exact this
    have f2 : DataW.trod enc Tryd.prog W 0 (fun _ => true) true k 3 [c2] = some x2 := by
      have := hf 2 _ rfl
      change DataW.trod enc Tryd.prog W 0 (fun _ => true) true k 3 ((([c0, c1, c2, c3] : List Value).drop 2).take (Tryd.prog.cellsOf 3)) = some x2 at this
      rw [Tryd.cells3] at this
      exact this
    have f3 : DataW.trod enc Tryd.prog W 0 (fun _ => true) true k 3 [c3] = some x3 := by
      have := hf 3 _ rfl
      change DataW.trod enc Tryd.prog W 0 (fun _ => true) true k 3 ((([c0, c1, c2, c3] : List Value).drop 3).take (Tryd.prog.cellsOf 3)) = some x3 at this
      rw [Tryd.cells3] at this
      exact this
    obtain ⟨l0, r0, b0⟩ := open_bytes f0 s0
    obtain ⟨l1, r1, b1⟩ := open_bytes f1 s1
    obtain ⟨z2, e2, _, _⟩ := DataW.trod_int (k := .i64) Tryd.underlying3 f2
    obtain ⟨z3, e3, _, _⟩ := DataW.trod_int (k := .i64) Tryd.underlying3 f3
    simp only [List.cons.injEq, and_true] at e2 e3
    subst e2
    subst e3
    refine ⟨(c0, c1, l0, l1, z2, z3), ⟨?_, ?_, ?_, ?_⟩, r0, r1, b0, b1⟩
    · exact hcell 0 (by decide)
    · exact hcell 1 (by decide)
    · exact hcell 2 (by decide)
    · exact hcell 3 (by decide)
  obtain ⟨f, hf⟩ := choose_lt hex
  exact ⟨a, b, o, n, c, fun i => (f i).1, fun i => (f i).2.1, fun i => (f i).2.2.1, fun i => (f i).2.2.2.1, fun i => (f i).2.2.2.2.1, fun i => (f i).2.2.2.2.2, hv, hn, ha, fun i hi => hf i hi⟩
theorem open_arg {r : Reach} {b0 : Nat} {v : Value} {d : DataW H} {p : List MemPlace} (hv : Value.okWide Tryd.prog W r b0 46 v) (h : DataW.Trod enc Tryd.prog W 0 (fun _ => true) true 46 v d p)
    (hsz : (DataW.weightsEach Tryd.prog [46] [d]).all (· ≤ reachBytes) = true) :
    ∃ (a : Option Addr) (b o n c : Nat) (VB VT : Nat → Value) (B T : Nat → List UInt8) (A Z : Nat → Int), v = .slice a n c ∧ n ≤ 140737488355328 ∧ ArgF W a b o n VB VT B T A Z := by
  obtain ⟨fuel, hf⟩ := h
  obtain ⟨a, n, c, rfl⟩ := okWide_slice Tryd.underlying46 hv
  refine open_F (fuel := fuel) (y := (d, p)) hf ?_
  simpa [DataW.weightsEach] using hsz
end

theorem door_metBack (os : Os) (args : Array Value) : laidMetH Tryd.prog Rows.frameBackRow.laid ((World.doorLaid Tryd.prog 400 os).forCall (fun _ _ => 0) ⟨#[], args, []⟩).memory :=
  laidMetH_of_parts3 (fuel := 8) (laidMet_of_run' 8 (by kernel_rfl) (by kernel_rfl)) (by kernel_rfl) (by kernel_rfl)

set_option maxRecDepth 100000 in
theorem back_lifted (os : Os) (started : os.Started) (H : Type) (enc : TypeId × Value → H) :
    ReturnsInHanded {} Tryd.checked os 4 .any (fun w args => (Rows.frameBackSpec.pre enc Tryd.prog Tryd.f4 [] false w args ∧ laidMetH Tryd.prog Rows.frameBackRow.laid w) ∧ sizedMet enc Tryd.prog Tryd.f4 (OpenSpec.ofChange Rows.frameBackSpec) false w args)
      (Rows.frameBackSpec.post enc Tryd.prog Tryd.f4 false true false false) := by
  refine returnsInHanded_of_change_and (C := Tryd.checked) (X := fun w _ => laidMetH Tryd.prog Rows.frameBackRow.laid w) (fun _ _ _ hh h => h.of_heap hh) ownD started (by kernel_rfl) Tryd.func4
    (ChangeSpec.witness_shaped (enc := enc) (C := Tryd.checked) (os := os) (X := fun w _ => laidMetH Tryd.prog Rows.frameBackRow.laid w) false (World.doorLaid Tryd.prog 400 os) #[.slice none 0 0] 8 rfl (World.shaped_of_RefB (by kernel_rfl) (by kernel_rfl)) (by kernel_rfl) (by kernel_rfl) (by kernel_rfl) (door_metBack os _)) ?_
  intro W base args ds gs before hval0 hW _ hsz0 hL _
  have hval : ∀ (j : Nat) t v, Tryd.f4.params[j]? = some t → args[j]? = some v → Value.okWide Tryd.prog W .any base t v := hval0
  have hsz : (DataW.weightsEach Tryd.prog (Tryd.f4.params.toList ++ Rows.frameBackSpec.plain.varTypes Tryd.prog) (ds ++ gs)).all (· ≤ reachBytes) = true := hsz0
  have hW' := hW
  obtain ⟨p, q, hA0, hV, rfl, hfz, hnd⟩ := hW
  have hA : DataW.TrodAll enc Tryd.prog W 0 (fun _ => true) true Tryd.f4.params.toList args.toList ds p := hA0
  rw [Tryd.params4] at hA hval hsz
  obtain ⟨v0, d0, rfl, rfl, h0⟩ := trodAll_one hA
  obtain ⟨rfl, rfl⟩ := trodVars_none hV
  have k0 := h0
  have lt0 : ∀ x ∈ p, x.block < W.heap.size := by obtain ⟨m, hm⟩ := k0; exact DataW.trod_lt m _ _ _ hm
  obtain ⟨a, b, o, n, c, VB, VT, B, T, A, Z, rfl, hB0, hB1⟩ := open_arg (hval 0 46 v0 rfl rfl) h0 hsz
  have hTab : Tab W := by
    rw [MakeChecks.laidMetH_plain _ _ _ (by kernel_rfl)] at hL
    exact tab_of hL
  clear hA0 hval0 hsz0
  refine (back_walk W a b o n c VB VT B T A Z hTab hB0 hB1).mono fun e W' ⟨he, hg⟩ => ?_
  subst he
  have bel : Below W.heap.size W W' := gbelow hg
  exact ⟨_, rfl, _, _, _, [], _, [], hW', trodAll_mk1 (shut_bool Tryd.underlying4 _), trodAll_mk1 (Below.trod laidOutD (by kernel_rfl) (of_decide_eq_true (by kernel_rfl)) k0 bel lt0), rfl, bel.frame _, fun h => by cases h⟩

theorem back_row : Rows.FrameBackSaid :=
  OpenClaim.holds_of_wide 4 Tryd.f4 rfl rfl rfl rfl rfl rfl rfl ⟨rfl, rfl, rfl, rfl, rfl⟩ rfl rfl rfl rfl rfl (by kernel_rfl) Tryd.func4 (by kernel_rfl)
    (of_decide_eq_true (by kernel_rfl)) (by unfold Func.isWrapper; first | (rw [if_pos (by decide +kernel)]; kernel_rfl) | (rw [if_neg (by decide +kernel)]; exact ⟨rfl, rfl⟩))
    (fun os started H enc _ => back_lifted os started H enc)

theorem frameBack_holds : Rows.FrameBackCardSaid :=
  Claim7.holds_tied_plain_at .later [] _ _ _ _
    back_row (fun _ h => by cases h) (by kernel_rfl) (fun _ h => by cases h) frameBack_row_tie rfl ⟨rfl, rfl⟩ (by kernel_rfl) rfl
    (fun f fn hf hfn => by
      obtain rfl : f = 4 := Option.some.inj ((show Tryd.prog.funcNamed "postern/posternlaw3.FrameBack" = some 4 by kernel_rfl).symm.trans hf) |>.symm
      obtain rfl : fn = Tryd.f4 := (Option.some.inj (Tryd.func4.symm.trans hfn)).symm
      exact ⟨by kernel_rfl, fun j t ht => by
        rw [Tryd.params4] at ht
        have hm : t ∈ [46] := by simpa using Array.mem_of_getElem? ht
        have hall : ([46].all fun u => !Tryd.prog.wantsStandIn u) = true := by kernel_rfl
        exact (show Tryd.prog.wantsStandIn t = false by simpa using List.all_eq_true.1 hall t hm)⟩)
    (by kernel_rfl)
#print axioms frameBack_holds
end Go.Proofs.YtfalgjdhdgkbfaaDoor
