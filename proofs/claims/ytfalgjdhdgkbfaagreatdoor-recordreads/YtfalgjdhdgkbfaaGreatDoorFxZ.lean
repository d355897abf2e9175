/- FrameExact: for every argument the statement's function returns true, and the argument reads afterwards as it read before. Conditions: the row's own (its listed table lies as the program's text lays it, which the card ties); none besides. -/
import Derived.Test.YtfalgjdhdgkbfaaGreatDoorFxF
import Derived.Test.YtfalgjdhdgkbfaaGreatDoorDoorC
import Derived.Test.YtfalgjdhdgkbfaaGreatDoorTie
import Derived.Test.YtfalgjdhdgkbfaaGreatDoorCards
import Derived.Deep.Matrix
import Derived.Deep.Strs
namespace Go.Proofs.YtfalgjdhdgkbfaaGreatDoor.Bk
open Go Go.RowKit Go.ChangeShapes Go.WideShapes Go.ChangeAt Go.Joins Go.Deep

theorem Tryz.cells93 : Tryz.prog.cellsOf 93 = 2 := by kernel_rfl
theorem Tryz.cells28 : Tryz.prog.cellsOf 28 = 1 := by kernel_rfl
theorem Tryz.cells5 : Tryz.prog.cellsOf 5 = 1 := by kernel_rfl
theorem Tryz.bytes5 : Tryz.prog.bytesOf 5 = 1 := by kernel_rfl
theorem Tryz.bytes28 : Tryz.prog.bytesOf 28 = 24 := by kernel_rfl

theorem weightsAll_mem {H : Type} {P : Program} {e : TypeId} {d : DataW H} : ∀ {l : List (DataW H)}, d ∈ l → ∀ n ∈ d.weights P e, n ∈ DataW.weightsAll P e l
  | x :: r, hd, n, hn => by
    simp only [DataW.weightsAll, List.mem_append]
    rcases List.mem_cons.1 hd with rfl | h
    · exact .inl hn
    · exact .inr (weightsAll_mem h n hn)
theorem all_slice {H : Type} {P : Program} {t e : TypeId} {elems spare : List (DataW H)} (hu : P.underlying t = some (.slice e)) (h : ((DataW.slice elems spare).weights P t).all (· ≤ reachBytes) = true) :
    (elems.length + spare.length) * P.bytesOf e ≤ reachBytes ∧ ∀ d ∈ elems, (d.weights P e).all (· ≤ reachBytes) = true := by
  simp only [DataW.weights, hu] at h
  rw [List.all_eq_true] at h
  refine ⟨of_decide_eq_true (h _ (List.mem_cons_self ..)), fun d hd => List.all_eq_true.2 fun n hn => h n (List.mem_cons_of_mem _ (List.mem_append_left _ (weightsAll_mem hd n hn)))⟩
/-- Rows of bytes, as the walks read them. -/
def ArgB (W : World) (v : Value) : Prop :=
  ∃ (aB : Option Addr) (bB oB nB cB : Nat) (V : Nat → Value) (L : Nat → List UInt8), v = .slice aB nB cB ∧ nB ≤ 140737488355328 ∧ (0 < nB → aB = some ⟨bB, oB, none⟩ ∧ bB < W.heap.size) ∧ ∀ i, i < nB → W.cell? ⟨bB, oB + i, none⟩ = some (V i) ∧ Rd W (V i) (L i) ∧ (L i).length ≤ 140737488355328
theorem add_none {b o i : Nat} : (⟨b, o, none⟩ : Addr).add i = ⟨b, o + i, none⟩ := Addr.add_lit ..

section
variable {H : Type} {enc : TypeId × Value → H} {W : World}

set_option maxRecDepth 100000 in
theorem open_B {fuel : Nat} {v : Value} {y : DataW H × List MemPlace} (h : DataW.trod enc Tryz.prog W 0 (fun _ => true) true fuel 33 [v] = some y) (hsz : (y.1.weights Tryz.prog 33).all (· ≤ reachBytes) = true) : ArgB W v := by
  rcases open_int_rows Tryz.underlying33 Tryz.underlying28 Tryz.underlying5 Tryz.cells28 Tryz.cells5 h with ⟨hcs, _⟩ | ⟨a, len, cap, A, L, C, Z, hcs, _, hl, hm, hx, hr⟩
  · simp only [List.cons.injEq, and_true] at hcs
    exact ⟨none, 0, 0, 0, 0, fun _ => undef, fun _ => [], hcs, by omega, fun h => by omega, fun i h => by omega⟩
  · simp only [List.cons.injEq, and_true] at hcs
    rw [hx] at hsz
    obtain ⟨hs1, hs2⟩ := all_slice Tryz.underlying33 hsz
    rw [Tryz.bytes28] at hs1
    simp at hs1
    have hrb := reachBytes_lt
    have hlen : len ≤ 140737488355328 := by omega
    by_cases h0 : len = 0
    · exact ⟨some a, 0, 0, len, cap, fun _ => undef, fun _ => [], hcs, hlen, fun h => by omega, fun i h => by omega⟩
    · obtain ⟨b, off, spot⟩ := a
      have c0 := (hr 0 (by omega)).1
      have hspot : spot = none := by simpa [Addr.add] using World.cell?_spot c0
      subst hspot
      have hblt : b < W.heap.size := by
        rw [add_none] at c0
        exact World.block_lt_of_cell? W _ c0
      refine ⟨some ⟨b, off, none⟩, b, off, len, cap, fun i => .slice (A i) (L i) (C i), fun i => ((Z i).take (L i)).map fun z => UInt8.ofNat z.toNat, hcs, hlen, fun _ => ⟨rfl, hblt⟩, fun i hi => ?_⟩
      obtain ⟨r1, r2, r3, r4, r5, r6, r7⟩ := hr i (by omega)
      rw [add_none] at r1
      have hLl : (((Z i).take (L i)).map fun z => UInt8.ofNat z.toNat).length = L i := by rw [List.length_map, List.length_take]; omega
      have hLb : L i ≤ 140737488355328 := by
        cases hA : A i with
        | none => have := r6 hA; omega
        | some a' =>
          have hin := hs2 (intRow .u8 (A i) (L i) (Z i)) (List.mem_map.2 ⟨i, List.mem_range.2 hi, rfl⟩)
          rw [hA] at hin
          obtain ⟨hs3, _⟩ := all_slice Tryz.underlying28 hin
          rw [Tryz.bytes5] at hs3
          simp [lits] at hs3
          omega
      refine ⟨r1, ?_, by rw [hLl]; exact hLb⟩
      show Rd W (.slice (A i) (L i) (C i)) (((Z i).take (L i)).map fun z => UInt8.ofNat z.toNat)
      cases hA : A i with
      | none =>
        have hC := r6 hA
        have hL0 : L i = 0 := by omega
        exact ⟨none, 0, 0, C i, by rw [hLl], by rw [hLl]; exact r2, fun _ => hC, fun h => by rw [hLl] at h; omega, fun j h => by rw [hLl] at h; omega⟩
      | some a' =>
        obtain ⟨_, r8⟩ := r7 a' hA
        by_cases hL0 : L i = 0
        · exact ⟨some a', 0, 0, C i, by rw [hLl], by rw [hLl]; exact r2, (fun h => by cases h), fun h => by rw [hLl] at h; omega, fun j h => by rw [hLl] at h; omega⟩
        · obtain ⟨b', off', spot'⟩ := a'
          have d0 := r8 0 (by omega)
          have hspot' : spot' = none := by simpa [Addr.add] using World.cell?_spot d0
          subst hspot'
          have hblt' : b' < W.heap.size := by
            rw [add_none] at d0
            exact World.block_lt_of_cell? W _ d0
          refine ⟨some ⟨b', off', none⟩, b', off', C i, by rw [hLl], by rw [hLl]; exact r2, (fun h => by cases h), fun _ => ⟨rfl, hblt'⟩, fun j hj => ?_⟩
          rw [hLl] at hj
          have dj := r8 j (by omega)
          rw [add_none] at dj
          rw [dj]
          have hz : j < (Z i).length := by omega
          have hwf := r5 ((Z i)[j]) (List.getElem_mem hz)
          have hbd := bounds_u8 hwf
          simp [List.getD, List.getElem?_eq_getElem hz]
          omega

end

theorem parts_sized {H : Type} {d0 d1 : DataW H} (h : (DataW.weightsEach Tryz.prog [93] [.agg [d0, d1]]).all (· ≤ reachBytes) = true) :
    (d0.weights Tryz.prog 33).all (· ≤ reachBytes) = true ∧ (d1.weights Tryz.prog 33).all (· ≤ reachBytes) = true := by
  rw [List.all_eq_true] at h
  simp only [DataW.weightsEach, DataW.weights, Tryz.underlying93, List.map_cons, List.map_nil, List.append_nil] at h
  refine ⟨List.all_eq_true.2 fun n hn => h n ?_, List.all_eq_true.2 fun n hn => h n ?_⟩
  · exact List.mem_append_left _ hn
  · exact List.mem_append_right _ hn

theorem door_metFx (os : Os) (args : Array Value) : laidMetH Tryz.prog Rows.frameExactRow.laid ((World.doorLaid Tryz.prog 400 os).forCall (fun _ _ => 0) ⟨#[], args, []⟩).memory :=
  laidMetH_of_parts3 (fuel := 8) (laidMet_of_run' 8 (by kernel_rfl) (by kernel_rfl)) (by kernel_rfl) (by kernel_rfl)

set_option maxRecDepth 100000 in
theorem fx_lifted (os : Os) (started : os.Started) (H : Type) (enc : TypeId × Value → H) :
    ReturnsInHanded {} Tryz.checked os 5 .any (fun w args => (Rows.frameExactSpec.pre enc Tryz.prog Tryz.f5 [] false w args ∧ laidMetH Tryz.prog Rows.frameExactRow.laid w) ∧ sizedMet enc Tryz.prog Tryz.f5 (OpenSpec.ofChange Rows.frameExactSpec) false w args)
      (Rows.frameExactSpec.post enc Tryz.prog Tryz.f5 false true false false) := by
  refine returnsInHanded_of_change_and (C := Tryz.checked) (X := fun w _ => laidMetH Tryz.prog Rows.frameExactRow.laid w) (fun _ _ _ hh h => h.of_heap hh) ownD started (by kernel_rfl) Tryz.func5
    (ChangeSpec.witness_shaped (enc := enc) (C := Tryz.checked) (os := os) (X := fun w _ => laidMetH Tryz.prog Rows.frameExactRow.laid w) false (World.doorLaid Tryz.prog 400 os) #[.agg #[.slice none 0 0, .slice none 0 0]] 8 rfl (World.shaped_of_RefB (by kernel_rfl) (by kernel_rfl)) (by kernel_rfl) (by kernel_rfl) (by kernel_rfl) (door_metFx os _)) ?_
  intro W base args ds gs before hval0 hW _ hsz0 hL _
  have hval : ∀ (j : Nat) t v, Tryz.f5.params[j]? = some t → args[j]? = some v → Value.okWide Tryz.prog W .any base t v := hval0
  have hsz : (DataW.weightsEach Tryz.prog (Tryz.f5.params.toList ++ Rows.frameExactSpec.plain.varTypes Tryz.prog) (ds ++ gs)).all (· ≤ reachBytes) = true := hsz0
  have hW' := hW
  obtain ⟨p, q, hA0, hV, rfl, hfz, hnd⟩ := hW
  have hA : DataW.TrodAll enc Tryz.prog W 0 (fun _ => true) true Tryz.f5.params.toList args.toList ds p := hA0
  rw [Tryz.params5] at hA hval hsz
  obtain ⟨v0, d0, rfl, rfl, h0⟩ := trodAll_one hA
  obtain ⟨rfl, rfl⟩ := trodVars_none hV
  have k0 := h0
  have lt0 : ∀ x ∈ p, x.block < W.heap.size := by obtain ⟨m, hm⟩ := k0; exact DataW.trod_lt m _ _ _ hm
  obtain ⟨f0, f1, y0, y1, n, rfl, rfl, hp, hy0, hy1⟩ := open_agg2 Tryz.underlying93 (by kernel_rfl) Tryz.cells93 (hval 0 93 v0 rfl rfl) h0
  obtain ⟨s0, s1⟩ := parts_sized (d0 := y0.1) (d1 := y1.1) hsz
  obtain ⟨aB, bB, oB, nB, cB, V, L, rfl, hB0, hB1, hB2⟩ := open_B hy0 s0
  obtain ⟨aC, bC, oC, nC, cC, V', L', rfl, hC0, hC1, hC2⟩ := open_B hy1 s1
  have hTab : Tab W := by
    rw [MakeChecks.laidMetH_plain _ _ _ (by kernel_rfl)] at hL
    exact tab_of hL
  clear hA0 hval0 hsz0
  refine (frame_walk W aB bB oB nB cB V L aC bC oC nC cC V' L' hTab hB0 hC0 hB1 hB2 hC1 hC2).mono fun e W' ⟨he, bel⟩ => ?_
  subst he
  exact ⟨_, rfl, _, _, _, [], _, [], hW', trodAll_mk1 (shut_bool Tryz.underlying4 _), trodAll_mk1 (Below.trod laidOutD (by kernel_rfl) (of_decide_eq_true (by kernel_rfl)) k0 bel lt0), rfl, bel.frame _, fun h => by cases h⟩

theorem fx_row : Rows.FrameExactSaid :=
  OpenClaim.holds_of_wide 5 Tryz.f5 rfl rfl rfl rfl rfl rfl rfl ⟨rfl, rfl, rfl, rfl, rfl⟩ rfl rfl rfl rfl rfl (by kernel_rfl) Tryz.func5 (by kernel_rfl)
    (of_decide_eq_true (by kernel_rfl)) (by unfold Func.isWrapper; first | (rw [if_pos (by decide +kernel)]; kernel_rfl) | (rw [if_neg (by decide +kernel)]; exact ⟨rfl, rfl⟩))
    (fun os started H enc _ => fx_lifted os started H enc)
end Go.Proofs.YtfalgjdhdgkbfaaGreatDoor.Bk

namespace Go.Proofs.YtfalgjdhdgkbfaaGreatDoor
open Go Go.RowKit Go.ChangeShapes Go.WideShapes Go.ChangeAt Go.Joins Go.Deep
theorem frameExact_holds : Rows.FrameExactCardSaid :=
  Claim7.holds_tied_plain_at .later [] _ _ _ _
    Bk.fx_row (fun _ h => by cases h) (by kernel_rfl) (fun _ h => by cases h) frameExact_row_tie rfl ⟨rfl, rfl⟩ (by kernel_rfl) rfl
    (fun f fn hf hfn => by
      obtain rfl : f = 5 := Option.some.inj ((show Tryz.prog.funcNamed "postern/posternlaw3.FrameExact" = some 5 by kernel_rfl).symm.trans hf) |>.symm
      obtain rfl : fn = Tryz.f5 := (Option.some.inj (Tryz.func5.symm.trans hfn)).symm
      exact ⟨by kernel_rfl, fun j t ht => by
        rw [Tryz.params5] at ht
        have hm : t ∈ [93] := by simpa using Array.mem_of_getElem? ht
        have hall : ([93].all fun u => !Tryz.prog.wantsStandIn u) = true := by kernel_rfl
        exact (show Tryz.prog.wantsStandIn t = false by simpa using List.all_eq_true.1 hall t hm)⟩)
    (by kernel_rfl)
#print axioms frameExact_holds
end Go.Proofs.YtfalgjdhdgkbfaaGreatDoor
