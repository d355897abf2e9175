/- SumMixes: for every argument the statement's function returns true, and the argument reads afterwards as it read before. Conditions: the row's own (its listed table lies as the program's text lays it, which the card ties); none besides. -/
import Derived.Test.YtfalgjdhdgkbfabDoorSumC
import Derived.Test.YtfalgjdhdgkbfabDoorOpenA
import Derived.Test.YtfalgjdhdgkbfabDoorTie
import Derived.Test.YtfalgjdhdgkbfabDoorCards
namespace Go.Proofs.YtfalgjdhdgkbfabDoor
open Go Go.RowKit Go.ChangeShapes Go.WideShapes Go.ChangeAt Go.Joins Go.Deep

theorem Tryd.cells56 : Tryd.prog.cellsOf 56 = 8 := by kernel_rfl
theorem Tryd.cells54 : Tryd.prog.cellsOf 54 = 4 := by kernel_rfl
theorem Tryd.cells3 : Tryd.prog.cellsOf 3 = 1 := by kernel_rfl
theorem Tryd.bytes56 : Tryd.prog.bytesOf 56 = 88 := by kernel_rfl
theorem eight_of {cs : List Value} (h : cs.length = 8) : ∃ a b c d e f g h, cs = [a, b, c, d, e, f, g, h] := by
  match cs, h with
  | [a, b, c, d, e, f, g, h], _ => exact ⟨a, b, c, d, e, f, g, h, rfl⟩
theorem byte_of (z : Int) (w0 : (Lit.int .u8 z).wf = true) : ∃ x : UInt8, z = (x.toNat : Int) := by
  have hbd := bounds_u8 w0
  exact ⟨UInt8.ofNat z.toNat, by simp; omega⟩
section
variable {H : Type} {enc : TypeId × Value → H} {W : World}
theorem sums_sized {d0 d1 d2 d3 d4 : DataW H} (h : ((DataW.agg [d0, d1, d2, d3, d4]).weights Tryd.prog 56).all (· ≤ reachBytes) = true) : (d0.weights Tryd.prog 29).all (· ≤ reachBytes) = true ∧ (d1.weights Tryd.prog 29).all (· ≤ reachBytes) = true ∧ (d2.weights Tryd.prog 29).all (· ≤ reachBytes) = true := by
  rw [List.all_eq_true] at h
  simp only [DataW.weights, Tryd.underlying56, DataW.weightsEach, List.map_cons, List.map_nil, List.append_nil] at h
  exact ⟨List.all_eq_true.2 fun n hn => h n (List.mem_append_left _ hn), List.all_eq_true.2 fun n hn => h n (List.mem_append_right _ (List.mem_append_left _ hn)), List.all_eq_true.2 fun n hn => h n (List.mem_append_right _ (List.mem_append_right _ (List.mem_append_left _ hn)))⟩
/-- Four bytes. -/
theorem open_four {fuel : Nat} {c0 c1 c2 c3 : Value} {y : DataW H × List MemPlace} (h : DataW.trod enc Tryd.prog W 0 (fun _ => true) true fuel 54 [c0, c1, c2, c3] = some y) : ∃ f : Nat → UInt8, c0 = .int .u8 (f 0).toNat ∧ c1 = .int .u8 (f 1).toNat ∧ c2 = .int .u8 (f 2).toNat ∧ c3 = .int .u8 (f 3).toNat := by
  obtain ⟨xs, m, _, _, _, hl, hf⟩ := DataW.trod_array Tryd.underlying54 h
  rw [Tryd.cells5] at hf
  have g : ∀ i (c : Value), i < 4 → (([c0, c1, c2, c3] : List Value).drop (i * 1)).take 1 = [c] → ∃ x : UInt8, c = .int .u8 x.toNat := fun i c hi hc => by
    have h1 := hf i hi
    rw [hc, List.getElem?_eq_getElem (by omega)] at h1
    obtain ⟨z, e, _, w0⟩ := DataW.trod_int (k := .u8) Tryd.underlying5 h1
    simp only [List.cons.injEq, and_true] at e
    obtain ⟨x, hx⟩ := byte_of z w0
    exact ⟨x, by rw [e, hx]⟩
  obtain ⟨x0, e0⟩ := g 0 c0 (by decide) rfl
  obtain ⟨x1, e1⟩ := g 1 c1 (by decide) rfl
  obtain ⟨x2, e2⟩ := g 2 c2 (by decide) rfl
  obtain ⟨x3, e3⟩ := g 3 c3 (by decide) rfl
  exact ⟨fun k => if k = 0 then x0 else if k = 1 then x1 else if k = 2 then x2 else x3, e0, e1, e2, e3⟩
set_option maxRecDepth 100000 in
theorem open_S {fuel : Nat} {v : Value} {y : DataW H × List MemPlace} (h : DataW.trod enc Tryd.prog W 0 (fun _ => true) true fuel 53 [v] = some y) (hsz : (y.1.weights Tryd.prog 53).all (· ≤ reachBytes) = true) :
    ∃ (a : Option Addr) (b o n c : Nat) (VA VB VC : Nat → Value) (A B C : Nat → List UInt8) (P : Nat → Int) (Y : Nat → Nat → UInt8), v = .slice a n c ∧ n ≤ 140737488355328 ∧ ArgS W a b o n VA VB VC A B C P Y := by
  obtain ⟨a, b, o, n, c, hv, hnc, hn, ha, hel⟩ := open_rows Tryd.underlying53 Tryd.cells56 (by decide) (by rw [Tryd.bytes56]; decide) h hsz
  have hex : ∀ i, i < n → ∃ q : (Value × Value × Value) × (List UInt8 × List UInt8 × List UInt8) × Int × (Nat → UInt8), (W.cell? ⟨b, o + i * 8, none⟩ = some q.1.1 ∧ W.cell? ⟨b, o + i * 8 + 1, none⟩ = some q.1.2.1 ∧ W.cell? ⟨b, o + i * 8 + 2, none⟩ = some q.1.2.2 ∧ W.cell? ⟨b, o + i * 8 + 3, none⟩ = some (.int .i64 q.2.2.1) ∧
      W.cell? ⟨b, o + i * 8 + 4, none⟩ = some (.int .u8 (q.2.2.2 0).toNat) ∧ W.cell? ⟨b, o + i * 8 + 5, none⟩ = some (.int .u8 (q.2.2.2 1).toNat) ∧ W.cell? ⟨b, o + i * 8 + 6, none⟩ = some (.int .u8 (q.2.2.2 2).toNat) ∧ W.cell? ⟨b, o + i * 8 + 7, none⟩ = some (.int .u8 (q.2.2.2 3).toNat)) ∧
      (Rd W (fun _ => True) q.1.1 q.2.1.1 ∧ Rd W (fun _ => True) q.1.2.1 q.2.1.2.1 ∧ Rd W (fun _ => True) q.1.2.2 q.2.1.2.2) ∧ q.2.1.1.length ≤ 140737488355328 ∧ q.2.1.2.1.length ≤ 140737488355328 ∧ q.2.1.2.2.length ≤ 140737488355328 := by
    intro i hi
    obtain ⟨cs, m, x, hcl, hcell, ht, hs⟩ := hel i hi
    obtain ⟨c0, c1, c2, c3, c4, c5, c6, c7, rfl⟩ := eight_of hcl
    obtain ⟨xs, k, _, hx, _, hxl, hf⟩ := DataW.trod_struct Tryd.underlying56 ht
    obtain ⟨x0, x1, x2, x3, x4, rfl⟩ : ∃ x0 x1 x2 x3 x4, xs = [x0, x1, x2, x3, x4] := by
      match xs, (show xs.length = 5 from hxl) with
      | [a, b, c, d, e], _ => exact ⟨a, b, c, d, e, rfl⟩
    rw [hx] at hs
    obtain ⟨s0, s1, s2⟩ := sums_sized (d0 := x0.1) (d1 := x1.1) (d2 := x2.1) (d3 := x3.1) (d4 := x4.1) hs
    have f0 : DataW.trod enc Tryd.prog W 0 (fun _ => true) true k 29 [c0] = some x0 := by
      have := hf 0 _ rfl
      change DataW.trod enc Tryd.prog W 0 (fun _ => true) true k 29 ((([c0, c1, c2, c3, c4, c5, c6, c7] : List Value).drop 0).take (Tryd.prog.cellsOf 29)) = some x0 at this
      rw [Tryd.cells29] at this
      exact this
    have f1 : DataW.trod enc Tryd.prog W 0 (fun _ => true) true k 29 [c1] = some x1 := by
      have := hf 1 _ rfl
      change DataW.trod enc Tryd.prog W 0 (fun _ => true) true k 29 ((([c0, c1, c2, c3, c4, c5, c6, c7] : List Value).drop 1).take (Tryd.prog.cellsOf 29)) = some x1 at this
      rw [Tryd.cells29] at this
      exact this
    have f2 : DataW.trod enc Tryd.prog W 0 (fun _ => true) true k 29 [c2] = some x2 := by
      have := hf 2 _ rfl
      change DataW.trod enc Tryd.prog W 0 (fun _ => true) true k 29 ((([c0, c1, c2, c3, c4, c5, c6, c7] : List Value).drop 2).take (Tryd.prog.cellsOf 29)) = some x2 at this
      rw [Tryd.cells29] at this
      exact this
    have f3 : DataW.trod enc Tryd.prog W 0 (fun _ => true) true k 3 [c3] = some x3 := by
      have := hf 3 _ rfl
      change DataW.trod enc Tryd.prog W 0 (fun _ => true) true k 3 ((([c0, c1, c2, c3, c4, c5, c6, c7] : List Value).drop 3).take (Tryd.prog.cellsOf 3)) = some x3 at this
      rw [Tryd.cells3] at this
      exact this
    have f4 : DataW.trod enc Tryd.prog W 0 (fun _ => true) true k 54 [c4, c5, c6, c7] = some x4 := by
      have := hf 4 _ rfl
      change DataW.trod enc Tryd.prog W 0 (fun _ => true) true k 54 ((([c0, c1, c2, c3, c4, c5, c6, c7] : List Value).drop 4).take (Tryd.prog.cellsOf 54)) = some x4 at this
      rw [Tryd.cells54] at this
      exact this
    obtain ⟨l0, r0, b0⟩ := open_bytes f0 s0
    obtain ⟨l1, r1, b1⟩ := open_bytes f1 s1
    obtain ⟨l2, r2, b2⟩ := open_bytes f2 s2
    obtain ⟨z3, e3, _, _⟩ := DataW.trod_int (k := .i64) Tryd.underlying3 f3
    simp only [List.cons.injEq, and_true] at e3
    obtain ⟨g, g0, g1, g2, g3⟩ := open_four f4
    subst e3
    subst g0
    subst g1
    subst g2
    subst g3
    refine ⟨((c0, c1, c2), (l0, l1, l2), z3, g), ⟨?_, ?_, ?_, ?_, ?_, ?_, ?_, ?_⟩, ⟨r0, r1, r2⟩, b0, b1, b2⟩
    · exact hcell 0 (by decide)
    · exact hcell 1 (by decide)
    · exact hcell 2 (by decide)
    · exact hcell 3 (by decide)
    · exact hcell 4 (by decide)
    · exact hcell 5 (by decide)
    · exact hcell 6 (by decide)
    · exact hcell 7 (by decide)
  obtain ⟨f, hf⟩ := choose_lt hex
  exact ⟨a, b, o, n, c, fun i => (f i).1.1, fun i => (f i).1.2.1, fun i => (f i).1.2.2, fun i => (f i).2.1.1, fun i => (f i).2.1.2.1, fun i => (f i).2.1.2.2, fun i => (f i).2.2.1, fun i => (f i).2.2.2, hv, hn, ha, fun i hi => hf i hi⟩
theorem open_arg {r : Reach} {b0 : Nat} {v : Value} {d : DataW H} {p : List MemPlace} (hv : Value.okWide Tryd.prog W r b0 53 v) (h : DataW.Trod enc Tryd.prog W 0 (fun _ => true) true 53 v d p)
    (hsz : (DataW.weightsEach Tryd.prog [53] [d]).all (· ≤ reachBytes) = true) :
    ∃ (a : Option Addr) (b o n c : Nat) (VA VB VC : Nat → Value) (A B C : Nat → List UInt8) (P : Nat → Int) (Y : Nat → Nat → UInt8), v = .slice a n c ∧ n ≤ 140737488355328 ∧ ArgS W a b o n VA VB VC A B C P Y := by
  obtain ⟨fuel, hf⟩ := h
  obtain ⟨a, n, c, rfl⟩ := okWide_slice Tryd.underlying53 hv
  refine open_S (fuel := fuel) (y := (d, p)) hf ?_
  simpa [DataW.weightsEach] using hsz
end

theorem door_metSum (os : Os) (args : Array Value) : laidMetH Tryd.prog Rows.sumMixesRow.laid ((World.doorLaid Tryd.prog 400 os).forCall (fun _ _ => 0) ⟨#[], args, []⟩).memory :=
  laidMetH_of_parts3 (fuel := 8) (laidMet_of_run' 8 (by kernel_rfl) (by kernel_rfl)) (by kernel_rfl) (by kernel_rfl)

set_option maxRecDepth 100000 in
theorem sum_lifted (os : Os) (started : os.Started) (H : Type) (enc : TypeId × Value → H) :
    ReturnsInHanded {} Tryd.checked os 4 .any (fun w args => (Rows.sumMixesSpec.pre enc Tryd.prog Tryd.f4 [] false w args ∧ laidMetH Tryd.prog Rows.sumMixesRow.laid w) ∧ sizedMet enc Tryd.prog Tryd.f4 (OpenSpec.ofChange Rows.sumMixesSpec) false w args)
      (Rows.sumMixesSpec.post enc Tryd.prog Tryd.f4 false true false false) := by
  refine returnsInHanded_of_change_and (C := Tryd.checked) (X := fun w _ => laidMetH Tryd.prog Rows.sumMixesRow.laid w) (fun _ _ _ hh h => h.of_heap hh) ownD started (by kernel_rfl) Tryd.func4
    (ChangeSpec.witness_shaped (enc := enc) (C := Tryd.checked) (os := os) (X := fun w _ => laidMetH Tryd.prog Rows.sumMixesRow.laid w) false (World.doorLaid Tryd.prog 400 os) #[.slice none 0 0] 8 rfl (World.shaped_of_RefB (by kernel_rfl) (by kernel_rfl)) (by kernel_rfl) (by kernel_rfl) (by kernel_rfl) (door_metSum os _)) ?_
  intro W base args ds gs before hval0 hW _ hsz0 hL _
  have hval : ∀ (j : Nat) t v, Tryd.f4.params[j]? = some t → args[j]? = some v → Value.okWide Tryd.prog W .any base t v := hval0
  have hsz : (DataW.weightsEach Tryd.prog (Tryd.f4.params.toList ++ Rows.sumMixesSpec.plain.varTypes Tryd.prog) (ds ++ gs)).all (· ≤ reachBytes) = true := hsz0
  have hW' := hW
  obtain ⟨p, q, hA0, hV, rfl, hfz, hnd⟩ := hW
  have hA : DataW.TrodAll enc Tryd.prog W 0 (fun _ => true) true Tryd.f4.params.toList args.toList ds p := hA0
  rw [Tryd.params4] at hA hval hsz
  obtain ⟨v0, d0, rfl, rfl, h0⟩ := trodAll_one hA
  obtain ⟨rfl, rfl⟩ := trodVars_none hV
  have k0 := h0
  have lt0 : ∀ x ∈ p, x.block < W.heap.size := by obtain ⟨m, hm⟩ := k0; exact DataW.trod_lt m _ _ _ hm
  obtain ⟨a, b, o, n, c, VA, VB, VC, A, B, C, P, Y, rfl, hB0, hB1⟩ := open_arg (hval 0 53 v0 rfl rfl) h0 hsz
  have hTab : Tab W := by
    rw [MakeChecks.laidMetH_plain _ _ _ (by kernel_rfl)] at hL
    exact tab_of hL
  clear hA0 hval0 hsz0
  refine (sums_walk W a b o n c VA VB VC A B C P Y hTab hB0 hB1).mono fun e W' ⟨he, hg⟩ => ?_
  subst he
  have bel : Below W.heap.size W W' := gbelow hg
  exact ⟨_, rfl, _, _, _, [], _, [], hW', trodAll_mk1 (shut_bool Tryd.underlying4 _), trodAll_mk1 (Below.trod laidOutD (by kernel_rfl) (of_decide_eq_true (by kernel_rfl)) k0 bel lt0), rfl, bel.frame _, fun h => by cases h⟩

theorem sum_row : Rows.SumMixesSaid :=
  OpenClaim.holds_of_wide 4 Tryd.f4 rfl rfl rfl rfl rfl rfl rfl ⟨rfl, rfl, rfl, rfl, rfl⟩ rfl rfl rfl rfl rfl (by kernel_rfl) Tryd.func4 (by kernel_rfl)
    (of_decide_eq_true (by kernel_rfl)) (by unfold Func.isWrapper; first | (rw [if_pos (by decide +kernel)]; kernel_rfl) | (rw [if_neg (by decide +kernel)]; exact ⟨rfl, rfl⟩))
    (fun os started H enc _ => sum_lifted os started H enc)

theorem sumMixes_holds : Rows.SumMixesCardSaid :=
  Claim7.holds_tied_plain_at .later [] _ _ _ _
    sum_row (fun _ h => by cases h) (by kernel_rfl) (fun _ h => by cases h) sumMixes_row_tie rfl ⟨rfl, rfl⟩ (by kernel_rfl) rfl
    (fun f fn hf hfn => by
      obtain rfl : f = 4 := Option.some.inj ((show Tryd.prog.funcNamed "postern/posternlaw3.SumMixes" = some 4 by kernel_rfl).symm.trans hf) |>.symm
      obtain rfl : fn = Tryd.f4 := (Option.some.inj (Tryd.func4.symm.trans hfn)).symm
      exact ⟨by kernel_rfl, fun j t ht => by
        rw [Tryd.params4] at ht
        have hm : t ∈ [53] := by simpa using Array.mem_of_getElem? ht
        have hall : ([53].all fun u => !Tryd.prog.wantsStandIn u) = true := by kernel_rfl
        exact (show Tryd.prog.wantsStandIn t = false by simpa using List.all_eq_true.1 hall t hm)⟩)
    (by kernel_rfl)
#print axioms sumMixes_holds
end Go.Proofs.YtfalgjdhdgkbfabDoor
