/- The listed table, out of the row's list. -/
import Derived.Test.YtfalgjdhdgkbfaaGreatDoorX00
import Derived.Test.YtfalgjdhdgkbfaaGreatDoorChecked
import Derived.ProofKit
import Derived.OpenShut
import Derived.SizedLaws
import Derived.Lib.LaidTab
import Derived.Stop.LaidErr
import Derived.LaidMore
import Derived.MakeChecks
import Derived.ChangeOld
import Derived.Handed
import Derived.Lib.SmallJoins
import Derived.SevenTiedAt
import Derived.Test.YtfalgjdhdgkbfaaGreatDoorX15
import Derived.Test.YtfalgjdhdgkbfaaGreatDoorTie
import Derived.Test.YtfalgjdhdgkbfaaGreatDoorCards
import Derived.Deep.Matrix
import Derived.Deep.Strs
import Derived.Test.YtfalgjdhdgkbfaaGreatDoorRx1
import Derived.Deep.SlicePairs
import Derived.Test.YtfalgjdhdgkbfaaGreatDoorX05
import Derived.Test.YtfalgjdhdgkbfaaGreatDoorX03
import Derived.Maps.AppendAt
namespace Go.Proofs.YtfalgjdhdgkbfaaGreatDoor
open Go Go.RowKit Go.ChangeShapes Go.WideShapes Go.ChangeAt Go.Joins

theorem tabName : Tryz.prog.globalNamed "postern/record.halved" = some 0 := by kernel_rfl
theorem Tryz.cells119 : Tryz.prog.cellsOf 119 = 1 := by kernel_rfl
def tabZ : List Int := tabL.map fun (n : Nat) => (n : Int)
theorem tabZ_at (i : Nat) (h : i < 16) : tabZ.getD i 0 = (tb i : Int) := by
  have : ∀ k : Fin 16, tabZ.getD k.val 0 = (tb k.val : Int) := by decide
  exact this ⟨i, h⟩
theorem tab_of {W : World} (h : laidMet Tryz.prog [("postern/record.halved", Lib.tabData .u32 tabZ)] W) : Tab W := by
  have h1 := Lib.tabIs_of_head (g := 0) (t := 138) (e := 119) (n := 16) tabName (by kernel_rfl) (by kernel_rfl) Tryz.underlying119 Tryz.cells119 (by kernel_rfl) h
  have hc : ∀ i, i < 16 → W.cell? ⟨0, i, none⟩ = some (.int .u32 (tb i)) := fun i hi => by
    have := h1.cell tabName i (by simpa [tabZ, tabL] using hi)
    rw [tabZ_at i hi] at this
    exact this
  exact ⟨World.block_lt_of_cell? W _ (hc 0 (by decide)), hc⟩
theorem ownD : ownKnob Tryz.prog.godebug = none := by kernel_rfl
theorem laidOutD : laidOutB Tryz.prog = true := by kernel_rfl

end Go.Proofs.YtfalgjdhdgkbfaaGreatDoor

namespace Go.Proofs.YtfalgjdhdgkbfaaGreatDoor.Bk
open Go Go.RowKit Go.ChangeShapes Go.WideShapes Go.ChangeAt Go.Joins Go.Deep

theorem Tryz.cells93 : Tryz.prog.cellsOf 93 = 2 := by kernel_rfl
theorem Tryz.cells28 : Tryz.prog.cellsOf 28 = 1 := by kernel_rfl
theorem Tryz.cells5 : Tryz.prog.cellsOf 5 = 1 := by kernel_rfl
theorem Tryz.bytes5 : Tryz.prog.bytesOf 5 = 1 := by kernel_rfl
theorem Tryz.bytes28 : Tryz.prog.bytesOf 28 = 24 := by kernel_rfl

theorem weightsAll_mem {H : Type} {P : Program} {e : TypeId} {d : DataW H} : ∀ {l : List (DataW H)}, d ∈ l → ∀ n ∈ d.weights P e, n ∈ DataW.weightsAll P e l
  | x :: r, hd, n, hn => by
    simp only [DataW.weightsAll, List.mem_append]
    rcases List.mem_cons.1 hd with rfl | h
    · exact .inl hn
    · exact .inr (weightsAll_mem h n hn)
theorem all_slice {H : Type} {P : Program} {t e : TypeId} {elems spare : List (DataW H)} (hu : P.underlying t = some (.slice e)) (h : ((DataW.slice elems spare).weights P t).all (· ≤ reachBytes) = true) :
    (elems.length + spare.length) * P.bytesOf e ≤ reachBytes ∧ ∀ d ∈ elems, (d.weights P e).all (· ≤ reachBytes) = true := by
  simp only [DataW.weights, hu] at h
  rw [List.all_eq_true] at h
  refine ⟨of_decide_eq_true (h _ (List.mem_cons_self ..)), fun d hd => List.all_eq_true.2 fun n hn => h n (List.mem_cons_of_mem _ (List.mem_append_left _ (weightsAll_mem hd n hn)))⟩
/-- Rows of bytes, as the walks read them. -/
def ArgB (W : World) (v : Value) : Prop :=
  ∃ (aB : Option Addr) (bB oB nB cB : Nat) (V : Nat → Value) (L : Nat → List UInt8), v = .slice aB nB cB ∧ nB ≤ 140737488355328 ∧ (0 < nB → aB = some ⟨bB, oB, none⟩ ∧ bB < W.heap.size) ∧ ∀ i, i < nB → W.cell? ⟨bB, oB + i, none⟩ = some (V i) ∧ Rd W (V i) (L i) ∧ (L i).length ≤ 140737488355328
theorem add_none {b o i : Nat} : (⟨b, o, none⟩ : Addr).add i = ⟨b, o + i, none⟩ := Addr.add_lit ..

section
variable {H : Type} {enc : TypeId × Value → H} {W : World}

set_option maxRecDepth 100000 in
theorem open_B {fuel : Nat} {v : Value} {y : DataW H × List MemPlace} (h : DataW.trod enc Tryz.prog W 0 (fun _ => true) true fuel 33 [v] = some y) (hsz : (y.1.weights Tryz.prog 33).all (· ≤ reachBytes) = true) : ArgB W v := by
  rcases open_int_rows Tryz.underlying33 Tryz.underlying28 Tryz.underlying5 Tryz.cells28 Tryz.cells5 h with ⟨hcs, _⟩ | ⟨a, len, cap, A, L, C, Z, hcs, _, hl, hm, hx, hr⟩
  · simp only [List.cons.injEq, and_true] at hcs
    exact ⟨none, 0, 0, 0, 0, fun _ => undef, fun _ => [], hcs, by omega, fun h => by omega, fun i h => by omega⟩
  · simp only [List.cons.injEq, and_true] at hcs
    rw [hx] at hsz
    obtain ⟨hs1, hs2⟩ := all_slice Tryz.underlying33 hsz
    rw [Tryz.bytes28] at hs1
    simp at hs1
    have hrb := reachBytes_lt
    have hlen : len ≤ 140737488355328 := by omega
    by_cases h0 : len = 0
    · exact ⟨some a, 0, 0, len, cap, fun _ => undef, fun _ => [], hcs, hlen, fun h => by omega, fun i h => by omega⟩
    · obtain ⟨b, off, spot⟩ := a
      have c0 := (hr 0 (by omega)).1
      have hspot : spot = none := by simpa [Addr.add] using World.cell?_spot c0
      subst hspot
      have hblt : b < W.heap.size := by
        rw [add_none] at c0
        exact World.block_lt_of_cell? W _ c0
      refine ⟨some ⟨b, off, none⟩, b, off, len, cap, fun i => .slice (A i) (L i) (C i), fun i => ((Z i).take (L i)).map fun z => UInt8.ofNat z.toNat, hcs, hlen, fun _ => ⟨rfl, hblt⟩, fun i hi => ?_⟩
      obtain ⟨r1, r2, r3, r4, r5, r6, r7⟩ := hr i (by omega)
      rw [add_none] at r1
      have hLl : (((Z i).take (L i)).map fun z => UInt8.ofNat z.toNat).length = L i := by rw [List.length_map, List.length_take]; omega
      have hLb : L i ≤ 140737488355328 := by
        cases hA : A i with
        | none => have := r6 hA; omega
        | some a' =>
          have hin := hs2 (intRow .u8 (A i) (L i) (Z i)) (List.mem_map.2 ⟨i, List.mem_range.2 hi, rfl⟩)
          rw [hA] at hin
          obtain ⟨hs3, _⟩ := all_slice Tryz.underlying28 hin
          rw [Tryz.bytes5] at hs3
          simp [lits] at hs3
          omega
      refine ⟨r1, ?_, by rw [hLl]; exact hLb⟩
      show Rd W (.slice (A i) (L i) (C i)) (((Z i).take (L i)).map fun z => UInt8.ofNat z.toNat)
      cases hA : A i with
      | none =>
        have hC := r6 hA
        have hL0 : L i = 0 := by omega
        exact ⟨none, 0, 0, C i, by rw [hLl], by rw [hLl]; exact r2, fun _ => hC, fun h => by rw [hLl] at h; omega, fun j h => by rw [hLl] at h; omega⟩
      | some a' =>
        obtain ⟨_, r8⟩ := r7 a' hA
        by_cases hL0 : L i = 0
        · exact ⟨some a', 0, 0, C i, by rw [hLl], by rw [hLl]; exact r2, (fun h => by cases h), fun h => by rw [hLl] at h; omega, fun j h => by rw [hLl] at h; omega⟩
        · obtain ⟨b', off', spot'⟩ := a'
          have d0 := r8 0 (by omega)
          have hspot' : spot' = none := by simpa [Addr.add] using World.cell?_spot d0
          subst hspot'
          have hblt' : b' < W.heap.size := by
            rw [add_none] at d0
            exact World.block_lt_of_cell? W _ d0
          refine ⟨some ⟨b', off', none⟩, b', off', C i, by rw [hLl], by rw [hLl]; exact r2, (fun h => by cases h), fun _ => ⟨rfl, hblt'⟩, fun j hj => ?_⟩
          rw [hLl] at hj
          have dj := r8 j (by omega)
          rw [add_none] at dj
          rw [dj]
          have hz : j < (Z i).length := by omega
          have hwf := r5 ((Z i)[j]) (List.getElem_mem hz)
          have hbd := bounds_u8 hwf
          simp [List.getD, List.getElem?_eq_getElem hz]
          omega

end

theorem parts_sized {H : Type} {d0 d1 : DataW H} (h : (DataW.weightsEach Tryz.prog [93] [.agg [d0, d1]]).all (· ≤ reachBytes) = true) :
    (d0.weights Tryz.prog 33).all (· ≤ reachBytes) = true ∧ (d1.weights Tryz.prog 33).all (· ≤ reachBytes) = true := by
  rw [List.all_eq_true] at h
  simp only [DataW.weightsEach, DataW.weights, Tryz.underlying93, List.map_cons, List.map_nil, List.append_nil] at h
  refine ⟨List.all_eq_true.2 fun n hn => h n ?_, List.all_eq_true.2 fun n hn => h n ?_⟩
  · exact List.mem_append_left _ hn
  · exact List.mem_append_right _ hn

theorem door_metFx (os : Os) (args : Array Value) : laidMetH Tryz.prog Rows.frameExactRow.laid ((World.doorLaid Tryz.prog 400 os).forCall (fun _ _ => 0) ⟨#[], args, []⟩).memory :=
  laidMetH_of_parts3 (fuel := 8) (laidMet_of_run' 8 (by kernel_rfl) (by kernel_rfl)) (by kernel_rfl) (by kernel_rfl)

set_option maxRecDepth 100000 in
theorem fx_lifted (os : Os) (started : os.Started) (H : Type) (enc : TypeId × Value → H) :
    ReturnsInHanded {} Tryz.checked os 5 .any (fun w args => (Rows.frameExactSpec.pre enc Tryz.prog Tryz.f5 [] false w args ∧ laidMetH Tryz.prog Rows.frameExactRow.laid w) ∧ sizedMet enc Tryz.prog Tryz.f5 (OpenSpec.ofChange Rows.frameExactSpec) false w args)
      (Rows.frameExactSpec.post enc Tryz.prog Tryz.f5 false true false false) := by
  refine returnsInHanded_of_change_and (C := Tryz.checked) (X := fun w _ => laidMetH Tryz.prog Rows.frameExactRow.laid w) (fun _ _ _ hh h => h.of_heap hh) ownD started (by kernel_rfl) Tryz.func5
    (ChangeSpec.witness_shaped (enc := enc) (C := Tryz.checked) (os := os) (X := fun w _ => laidMetH Tryz.prog Rows.frameExactRow.laid w) false (World.doorLaid Tryz.prog 400 os) #[.agg #[.slice none 0 0, .slice none 0 0]] 8 rfl (World.shaped_of_RefB (by kernel_rfl) (by kernel_rfl)) (by kernel_rfl) (by kernel_rfl) (by kernel_rfl) (door_metFx os _)) ?_
  intro W base args ds gs before hval0 hW _ hsz0 hL _
  have hval : ∀ (j : Nat) t v, Tryz.f5.params[j]? = some t → args[j]? = some v → Value.okWide Tryz.prog W .any base t v := hval0
  have hsz : (DataW.weightsEach Tryz.prog (Tryz.f5.params.toList ++ Rows.frameExactSpec.plain.varTypes Tryz.prog) (ds ++ gs)).all (· ≤ reachBytes) = true := hsz0
  have hW' := hW
  obtain ⟨p, q, hA0, hV, rfl, hfz, hnd⟩ := hW
  have hA : DataW.TrodAll enc Tryz.prog W 0 (fun _ => true) true Tryz.f5.params.toList args.toList ds p := hA0
  rw [Tryz.params5] at hA hval hsz
  obtain ⟨v0, d0, rfl, rfl, h0⟩ := trodAll_one hA
  obtain ⟨rfl, rfl⟩ := trodVars_none hV
  have k0 := h0
  have lt0 : ∀ x ∈ p, x.block < W.heap.size := by obtain ⟨m, hm⟩ := k0; exact DataW.trod_lt m _ _ _ hm
  obtain ⟨f0, f1, y0, y1, n, rfl, rfl, hp, hy0, hy1⟩ := open_agg2 Tryz.underlying93 (by kernel_rfl) Tryz.cells93 (hval 0 93 v0 rfl rfl) h0
  obtain ⟨s0, s1⟩ := parts_sized (d0 := y0.1) (d1 := y1.1) hsz
  obtain ⟨aB, bB, oB, nB, cB, V, L, rfl, hB0, hB1, hB2⟩ := open_B hy0 s0
  obtain ⟨aC, bC, oC, nC, cC, V', L', rfl, hC0, hC1, hC2⟩ := open_B hy1 s1
  have hTab : Tab W := by
    rw [MakeChecks.laidMetH_plain _ _ _ (by kernel_rfl)] at hL
    exact tab_of hL
  clear hA0 hval0 hsz0
  refine (frame_walk W aB bB oB nB cB V L aC bC oC nC cC V' L' hTab hB0 hC0 hB1 hB2 hC1 hC2).mono fun e W' ⟨he, bel⟩ => ?_
  subst he
  exact ⟨_, rfl, _, _, _, [], _, [], hW', trodAll_mk1 (shut_bool Tryz.underlying4 _), trodAll_mk1 (Below.trod laidOutD (by kernel_rfl) (of_decide_eq_true (by kernel_rfl)) k0 bel lt0), rfl, bel.frame _, fun h => by cases h⟩

theorem fx_row : Rows.FrameExactSaid :=
  OpenClaim.holds_of_wide 5 Tryz.f5 rfl rfl rfl rfl rfl rfl rfl ⟨rfl, rfl, rfl, rfl, rfl⟩ rfl rfl rfl rfl rfl (by kernel_rfl) Tryz.func5 (by kernel_rfl)
    (of_decide_eq_true (by kernel_rfl)) (by unfold Func.isWrapper; first | (rw [if_pos (by decide +kernel)]; kernel_rfl) | (rw [if_neg (by decide +kernel)]; exact ⟨rfl, rfl⟩))
    (fun os started H enc _ => fx_lifted os started H enc)
end Go.Proofs.YtfalgjdhdgkbfaaGreatDoor.Bk

namespace Go.Proofs.YtfalgjdhdgkbfaaGreatDoor
open Go Go.RowKit Go.ChangeShapes Go.WideShapes Go.ChangeAt Go.Joins Go.Deep
theorem frameExact_holds : Rows.FrameExactCardSaid :=
  Claim7.holds_tied_plain_at .later [] _ _ _ _
    Bk.fx_row (fun _ h => by cases h) (by kernel_rfl) (fun _ h => by cases h) frameExact_row_tie rfl ⟨rfl, rfl⟩ (by kernel_rfl) rfl
    (fun f fn hf hfn => by
      obtain rfl : f = 5 := Option.some.inj ((show Tryz.prog.funcNamed "postern/posternlaw3.FrameExact" = some 5 by kernel_rfl).symm.trans hf) |>.symm
      obtain rfl : fn = Tryz.f5 := (Option.some.inj (Tryz.func5.symm.trans hfn)).symm
      exact ⟨by kernel_rfl, fun j t ht => by
        rw [Tryz.params5] at ht
        have hm : t ∈ [93] := by simpa using Array.mem_of_getElem? ht
        have hall : ([93].all fun u => !Tryz.prog.wantsStandIn u) = true := by kernel_rfl
        exact (show Tryz.prog.wantsStandIn t = false by simpa using List.all_eq_true.1 hall t hm)⟩)
    (by kernel_rfl)
#print axioms frameExact_holds
end Go.Proofs.YtfalgjdhdgkbfaaGreatDoor

namespace Go.Proofs.YtfalgjdhdgkbfaaGreatDoor.Bk
open Go Go.RowKit Go.ChangeShapes Go.WideShapes Go.ChangeAt Go.Joins Go.Deep

theorem Tryz.cells77 : Tryz.prog.cellsOf 77 = 3 := by kernel_rfl
theorem Tryz.cells75 : Tryz.prog.cellsOf 75 = 2 := by kernel_rfl
theorem Tryz.cells22 : Tryz.prog.cellsOf 22 = 1 := by kernel_rfl
theorem Tryz.cells67 : Tryz.prog.cellsOf 67 = 23 := by kernel_rfl
theorem Tryz.cells3 : Tryz.prog.cellsOf 3 = 1 := by kernel_rfl
theorem Tryz.bytes67 : Tryz.prog.bytesOf 67 = 88 := by kernel_rfl
section
variable {H : Type} {enc : TypeId × Value → H} {W : World}
/-- A slice of bytes. -/
theorem open_bytes {fuel : Nat} {c : Value} {y : DataW H × List MemPlace} (h : DataW.trod enc Tryz.prog W 0 (fun _ => true) true fuel 28 [c] = some y) (hsz : (y.1.weights Tryz.prog 28).all (· ≤ reachBytes) = true) : ∃ l : List UInt8, Go.Proofs.YtfalgjdhdgkbfaaGreatDoor.Rd W (fun _ => True) c l ∧ l.length ≤ 140737488355328 := by
  rcases DataW.trod_slice Tryz.underlying28 h with ⟨hcs, _⟩ | ⟨a, len, cap, elems, rest, n2, _, hcs, hx, _, hl', _, hlen, hel, _, _⟩
  · simp only [List.cons.injEq, and_true] at hcs
    subst hcs
    exact ⟨[], Go.Proofs.YtfalgjdhdgkbfaaGreatDoor.Rd.nil _ _, by simp⟩
  · simp only [List.cons.injEq, and_true] at hcs
    subst hcs
    rw [hx] at hsz
    obtain ⟨hs1, _⟩ := all_slice Tryz.underlying28 hsz
    rw [Tryz.bytes5] at hs1
    simp at hs1
    have hrb := reachBytes_lt
    rw [Tryz.cells5] at hel
    have hex : ∀ i, i < len → ∃ z : UInt8, W.cell? (a.add i) = some (.int .u8 z.toNat) := by
      intro i hi
      have hi' := hel i hi
      rw [List.getElem?_eq_getElem (by omega), Option.bind_eq_some_iff] at hi'
      obtain ⟨cs', hc', ht'⟩ := hi'
      obtain ⟨_, hl6, hc6⟩ := World.cells?_some hc'
      obtain ⟨z, e, _, w0⟩ := DataW.trod_int (k := .u8) Tryz.underlying5 ht'
      have hbd := bounds_u8 w0
      have := hc6 0 (by omega)
      subst e
      refine ⟨UInt8.ofNat z.toNat, ?_⟩
      have e0 : (a.add (i * 1)).add 0 = a.add i := by cases a; simp [Addr.add]
      rw [e0] at this
      rw [this]
      simp
      omega
    obtain ⟨f, hf⟩ := choose_lt hex
    refine ⟨(List.range len).map f, ?_, by simp; omega⟩
    have hll : ((List.range len).map f).length = len := by simp
    by_cases h0 : len = 0
    · exact ⟨some a, 0, 0, cap, by rw [hll], by rw [hll]; exact hl', (fun h => by cases h), fun h => by rw [hll] at h; omega, fun i h => by rw [hll] at h; omega⟩
    · obtain ⟨b, off, spot⟩ := a
      have c0 := hf 0 (by omega)
      have hspot : spot = none := by simpa [Addr.add] using World.cell?_spot c0
      subst hspot
      have hblt : b < W.heap.size := by
        rw [add_none] at c0
        exact World.block_lt_of_cell? W _ c0
      refine ⟨some ⟨b, off, none⟩, b, off, cap, by rw [hll], by rw [hll]; exact hl', (fun h => by cases h), fun _ => ⟨rfl, hblt, trivial⟩, fun j hj => ?_⟩
      have dj := hf j (by rw [hll] at hj; exact hj)
      rw [add_none] at dj
      rw [dj]
      simp
set_option maxRecDepth 100000 in
/-- A slice of structs, its elements' cells. -/
theorem open_rows {t e : TypeId} {k : Nat} (ht : Tryz.prog.underlying t = some (.slice e)) (hk : Tryz.prog.cellsOf e = k) (hk0 : 0 < k) (hby : 0 < Tryz.prog.bytesOf e) {fuel : Nat} {v : Value} {y : DataW H × List MemPlace}
    (h : DataW.trod enc Tryz.prog W 0 (fun _ => true) true fuel t [v] = some y) (hsz : (y.1.weights Tryz.prog t).all (· ≤ reachBytes) = true) :
    ∃ (a : Option Addr) (b o n c : Nat), v = .slice a n c ∧ n ≤ c ∧ n ≤ 140737488355328 ∧ (0 < n → a = some ⟨b, o, none⟩ ∧ b < W.heap.size) ∧
      ∀ i, i < n → ∃ (cs : List Value) (m : Nat) (x : DataW H × List MemPlace), cs.length = k ∧ (∀ j, j < k → W.cell? ⟨b, o + (i * k + j), none⟩ = cs[j]?) ∧ DataW.trod enc Tryz.prog W 0 (fun _ => true) true m e cs = some x ∧ (x.1.weights Tryz.prog e).all (· ≤ reachBytes) = true := by
  rcases DataW.trod_slice ht h with ⟨hcs, _⟩ | ⟨a, len, cap, elems, rest, n2, _, hcs, hx, _, hl', _, hlen, hel, _, _⟩
  · simp only [List.cons.injEq, and_true] at hcs
    subst hcs
    exact ⟨none, 0, 0, 0, 0, rfl, Nat.le_refl _, by omega, fun h => by omega, fun i h => by omega⟩
  · simp only [List.cons.injEq, and_true] at hcs
    subst hcs
    rw [hx] at hsz
    obtain ⟨hs1, hs2⟩ := all_slice ht hsz
    simp only [List.length_map] at hs1
    have hrb := reachBytes_lt
    have hlb : len ≤ 140737488355328 := by
      have : (elems.length + rest.length) * 1 ≤ (elems.length + rest.length) * Tryz.prog.bytesOf e := Nat.mul_le_mul_left _ hby
      omega
    rw [hk] at hel
    have hex : ∀ i, i < len → ∃ (cs : List Value) (x : DataW H × List MemPlace), cs.length = k ∧ (∀ j, j < k → W.cell? ((a.add (i * k)).add j) = cs[j]?) ∧ DataW.trod enc Tryz.prog W 0 (fun _ => true) true n2 e cs = some x ∧ (x.1.weights Tryz.prog e).all (· ≤ reachBytes) = true := by
      intro i hi
      have hi' := hel i hi
      rw [List.getElem?_eq_getElem (by omega), Option.bind_eq_some_iff] at hi'
      obtain ⟨cs', hc', ht'⟩ := hi'
      obtain ⟨_, hl6, hc6⟩ := World.cells?_some hc'
      exact ⟨cs', elems[i], hl6, fun j hj => hc6 j hj, ht', hs2 _ (List.mem_map.2 ⟨elems[i], List.getElem_mem _, rfl⟩)⟩
    by_cases h0 : len = 0
    · exact ⟨some a, 0, 0, len, cap, rfl, hl', hlb, fun h => by omega, fun i h => by omega⟩
    · obtain ⟨b, off, spot⟩ := a
      obtain ⟨cs0, x0, hl0, hc0, _, _⟩ := hex 0 (by omega)
      have c0 := hc0 0 hk0
      rw [List.getElem?_eq_getElem (by omega)] at c0
      have hspot : spot = none := by simpa [Addr.add] using World.cell?_spot c0
      subst hspot
      have hblt : b < W.heap.size := by
        rw [add_none, add_none] at c0
        exact World.block_lt_of_cell? W _ c0
      refine ⟨some ⟨b, off, none⟩, b, off, len, cap, rfl, hl', hlb, fun _ => ⟨rfl, hblt⟩, fun i hi => ?_⟩
      obtain ⟨cs, x, hl1, hc1, ht1, hs3⟩ := hex i hi
      refine ⟨cs, n2, x, hl1, fun j hj => ?_, ht1, hs3⟩
      have := hc1 j hj
      rw [add_none, add_none, Nat.add_assoc] at this
      exact this
theorem down {v : Value} {l : List UInt8} (h : Go.Proofs.YtfalgjdhdgkbfaaGreatDoor.Rd W (fun _ => True) v l) : Rd W v l := by
  obtain ⟨a, b, off, c, hv, hc, hn, ha, hcell⟩ := h
  exact ⟨a, b, off, c, hv, hc, hn, fun hl => ⟨(ha hl).1, (ha hl).2.1⟩, hcell⟩
set_option maxRecDepth 100000 in
theorem open_ofd {fuel : Nat} {cs : List Value} {x : DataW H × List MemPlace} (h : DataW.trod enc Tryz.prog W 0 (fun _ => true) true fuel 67 cs = some x) : ∃ o : Ofd, o.cs = cs ∧ o.ok := by
  obtain ⟨xs, k, _, hx, hl, hxl, hf⟩ := DataW.trod_struct Tryz.underlying67 h
  rw [Tryz.cells67] at hl
  obtain ⟨x0, x1, x2, x3, x4, x5, x6, x7, rfl⟩ : ∃ x0 x1 x2 x3 x4 x5 x6 x7, xs = [x0, x1, x2, x3, x4, x5, x6, x7] := by
    match xs, (show xs.length = 8 from hxl) with
    | [a, b, c, d, e, f, g, h], _ => exact ⟨a, b, c, d, e, f, g, h, rfl⟩
  obtain ⟨c0, c1, c2, c3, ds, rfl⟩ : ∃ c0 c1 c2 c3 ds, cs = c0 :: c1 :: c2 :: c3 :: ds := by
    match cs, hl with
    | c0 :: c1 :: c2 :: c3 :: ds, _ => exact ⟨c0, c1, c2, c3, ds, rfl⟩
  have f0 : DataW.trod enc Tryz.prog W 0 (fun _ => true) true k 3 [c0] = some x0 := by
    have := hf 0 _ rfl
    change DataW.trod enc Tryz.prog W 0 (fun _ => true) true k 3 (((c0 :: c1 :: c2 :: c3 :: ds).drop 0).take (Tryz.prog.cellsOf 3)) = some x0 at this
    rw [Tryz.cells3] at this
    exact this
  have f1 : DataW.trod enc Tryz.prog W 0 (fun _ => true) true k 3 [c1] = some x1 := by
    have := hf 1 _ rfl
    change DataW.trod enc Tryz.prog W 0 (fun _ => true) true k 3 (((c0 :: c1 :: c2 :: c3 :: ds).drop 1).take (Tryz.prog.cellsOf 3)) = some x1 at this
    rw [Tryz.cells3] at this
    exact this
  have f3 : DataW.trod enc Tryz.prog W 0 (fun _ => true) true k 3 [c3] = some x3 := by
    have := hf 3 _ rfl
    change DataW.trod enc Tryz.prog W 0 (fun _ => true) true k 3 (((c0 :: c1 :: c2 :: c3 :: ds).drop 3).take (Tryz.prog.cellsOf 3)) = some x3 at this
    rw [Tryz.cells3] at this
    exact this
  obtain ⟨z0, e0, _, _⟩ := DataW.trod_int (k := .i64) Tryz.underlying3 f0
  obtain ⟨z1, e1, _, _⟩ := DataW.trod_int (k := .i64) Tryz.underlying3 f1
  obtain ⟨z3, e3, _, _⟩ := DataW.trod_int (k := .i64) Tryz.underlying3 f3
  simp only [List.cons.injEq, and_true] at e0 e1 e3
  subst e0 e1 e3
  exact ⟨⟨_, z0, z1, z3⟩, rfl, hl, rfl, rfl, rfl⟩
theorem reads_sized {d0 d1 d2 : DataW H} (h : ((DataW.agg [DataW.agg [d0, d1], d2]).weights Tryz.prog 77).all (· ≤ reachBytes) = true) : (d0.weights Tryz.prog 28).all (· ≤ reachBytes) = true ∧ (d1.weights Tryz.prog 28).all (· ≤ reachBytes) = true ∧ (d2.weights Tryz.prog 22).all (· ≤ reachBytes) = true := by
  rw [List.all_eq_true] at h
  simp only [DataW.weights, Tryz.underlying77, Tryz.underlying75, DataW.weightsEach, DataW.weightsAll, List.map_cons, List.map_nil, List.append_nil] at h
  refine ⟨List.all_eq_true.2 fun n hn => h n ?_, List.all_eq_true.2 fun n hn => h n ?_, List.all_eq_true.2 fun n hn => h n ?_⟩ <;> simp [hn]
set_option maxRecDepth 100000 in
theorem open_reads {fuel : Nat} {cs : List Value} {x : DataW H × List MemPlace} (h : DataW.trod enc Tryz.prog W 0 (fun _ => true) true fuel 77 cs = some x) (hs : (x.1.weights Tryz.prog 77).all (· ≤ reachBytes) = true) :
    ∃ (V0 V1 : Value) (L0 L1 : List UInt8) (oa : Option Addr) (ob oo on oc : Nat) (f : Nat → Ofd), cs = [V0, V1, .slice oa on oc] ∧ Rd W V0 L0 ∧ Rd W V1 L1 ∧ L0.length ≤ 140737488355328 ∧ L1.length ≤ 140737488355328 ∧ on ≤ 140737488355328 ∧ RowsF W oa ob oo on f := by
  obtain ⟨xs, k, _, hx, hl, hxl, hf⟩ := DataW.trod_struct Tryz.underlying77 h
  rw [Tryz.cells77] at hl
  obtain ⟨c0, c1, c2, rfl⟩ : ∃ c0 c1 c2, cs = [c0, c1, c2] := by
    match cs, hl with
    | [a, b, c], _ => exact ⟨a, b, c, rfl⟩
  obtain ⟨x0, x1, rfl⟩ : ∃ x0 x1, xs = [x0, x1] := by
    match xs, (show xs.length = 2 from hxl) with
    | [a, b], _ => exact ⟨a, b, rfl⟩
  have f0 : DataW.trod enc Tryz.prog W 0 (fun _ => true) true k 75 [c0, c1] = some x0 := by
    have := hf 0 _ rfl
    change DataW.trod enc Tryz.prog W 0 (fun _ => true) true k 75 ((List.drop 0 [c0, c1, c2]).take (Tryz.prog.cellsOf 75)) = some x0 at this
    rw [Tryz.cells75] at this
    exact this
  have f1 : DataW.trod enc Tryz.prog W 0 (fun _ => true) true k 22 [c2] = some x1 := by
    have := hf 1 _ rfl
    change DataW.trod enc Tryz.prog W 0 (fun _ => true) true k 22 ((List.drop 2 [c0, c1, c2]).take (Tryz.prog.cellsOf 22)) = some x1 at this
    rw [Tryz.cells22] at this
    exact this
  obtain ⟨ys, m, _, hy, hyl, hyxl, hyf⟩ := DataW.trod_array Tryz.underlying75 f0
  obtain ⟨y0, y1, rfl⟩ : ∃ y0 y1, ys = [y0, y1] := by
    match ys, (show ys.length = 2 from hyxl) with
    | [a, b], _ => exact ⟨a, b, rfl⟩
  have g0 : DataW.trod enc Tryz.prog W 0 (fun _ => true) true m 28 [c0] = some y0 := by
    have := hyf 0 (by omega)
    rw [Tryz.cells28] at this
    exact this
  have g1 : DataW.trod enc Tryz.prog W 0 (fun _ => true) true m 28 [c1] = some y1 := by
    have := hyf 1 (by omega)
    rw [Tryz.cells28] at this
    exact this
  have hs' : ((DataW.agg [DataW.agg [y0.1, y1.1], x1.1]).weights Tryz.prog 77).all (· ≤ reachBytes) = true := by
    rw [hx] at hs
    simp only [List.map_cons, List.map_nil] at hs
    rw [hy] at hs
    exact hs
  obtain ⟨s0, s1, s2⟩ := reads_sized hs'
  obtain ⟨L0, r0, b0⟩ := open_bytes g0 s0
  obtain ⟨L1, r1, b1⟩ := open_bytes g1 s1
  obtain ⟨a, b, o, n, cc, hv, hnc, hn, ha, hel⟩ := open_rows Tryz.underlying22 Tryz.cells67 (by decide) (by rw [Tryz.bytes67]; decide) f1 s2
  have hex : ∀ i, i < n → ∃ q : Ofd, W.rangeAt b (o + i * 23) q.cs ∧ q.ok := by
    intro i hi
    obtain ⟨cs', m', x', hcl, hcell, ht, _⟩ := hel i hi
    obtain ⟨q, hq, hok⟩ := open_ofd ht
    refine ⟨q, fun j v hj => ?_, hok⟩
    rw [hq] at hj
    have hj' : j < 23 := by
      have := (List.getElem?_eq_some_iff.1 hj).1
      omega
    rw [← hj, ← hcell j hj', Nat.add_assoc]
  haveI : Inhabited Ofd := ⟨⟨[], 0, 0, 0⟩⟩
  obtain ⟨f, hf'⟩ := choose_lt hex
  exact ⟨c0, c1, L0, L1, a, b, o, n, cc, f, by rw [hv], down r0, down r1, b0, b1, hn, ha, fun i hi => hf' i hi⟩
end
end Go.Proofs.YtfalgjdhdgkbfaaGreatDoor.Bk

namespace Go.Proofs.YtfalgjdhdgkbfaaGreatDoor
open Go Go.RowKit
open Go.RowKit (wrap32 wrap64)

/-- All blocks stay but b and those of F. -/
structure KF (w w' : World) (b : Nat) (F : Nat → Prop) : Prop where
  os : w'.os = w.os
  tape : w'.tape = w.tape
  output : w'.output = w.output
  size : w.heap.size ≤ w'.heap.size
  block : ∀ k, k < w.heap.size → k ≠ b → ¬ F k → w'.heap[k]? = w.heap[k]?
theorem KF.refl (w : World) (b : Nat) (F : Nat → Prop) : KF w w b F := ⟨rfl, rfl, rfl, Nat.le_refl _, fun _ _ _ _ => rfl⟩
theorem KF.trans {w w1 w2 : World} {b : Nat} {F : Nat → Prop} (h : KF w w1 b F) (k : KF w1 w2 b F) : KF w w2 b F :=
  ⟨k.os.trans h.os, k.tape.trans h.tape, k.output.trans h.output, Nat.le_trans h.size k.size, fun i h1 h2 h3 => (k.block i (Nat.lt_of_lt_of_le h1 h.size) h2 h3).trans (h.block i h1 h2 h3)⟩
theorem KF.own {w w' : World} {b : Nat} {F : Nat → Prop} {row : Option Nat} (hg : w.grownBy w' row) (hr : ∀ k, row = some k → k = b ∨ F k) : KF w w' b F :=
  ⟨hg.os, hg.tape, hg.output, hg.size, fun k h1 h2 h3 => hg.block k h1 (fun e => by rcases hr k e.symm with h | h <;> first | exact h2 h | exact h3 h)⟩
theorem KF.new {w w' : World} {b : Nat} {F : Nat → Prop} (hg : w.grownBy w' none) : KF w w' b F := KF.own hg (fun k e => by cases e)
theorem KF.set {w : World} {b o : Nat} {F : Nat → Prop} (v : Value) : KF w (w.setCell ⟨b, o, none⟩ v) b F := KF.own (gset w ⟨b, o, none⟩ v) (fun k e => .inl (by injection e with e; exact e.symm))
/-- Other cells of the block stay. -/
def Els2 (o : Nat) (f f' : Nat → Value) : Prop := ∀ j, (j < o ∨ o + 2 ≤ j) → f' j = f j
theorem Els2.refl (o : Nat) (f : Nat → Value) : Els2 o f f := fun _ _ => rfl
theorem Els2.trans {o : Nat} {f g h : Nat → Value} (a : Els2 o f g) (b : Els2 o g h) : Els2 o f h := fun j hj => (b j hj).trans (a j hj)
theorem Out.shape {B : Nat} {w : World} {v : Value} {l : List UInt8} (h : Out B w v l) : ∃ a n c, v = .slice a n c := by
  rcases h.2 with ⟨rfl, _⟩ | ⟨g, cap, cur, rfl, _⟩
  · exact ⟨_, _, _, rfl⟩
  · exact ⟨_, _, _, rfl⟩
/-- A Writer of the reference's at place o of block b: what it has laid, its refusal. -/
def Wv (w : World) (b t n o : Nat) (f : Nat → Value) (F : Nat → Prop) (l : List UInt8) (bad : Nat) : Prop :=
  w.rowIs b t n f ∧ o + 2 ≤ n ∧ ¬ F b ∧ f (o + 1) = .int .i64 (bad : Int) ∧ Out 0 w (f o) l ∧ ∀ g, (f o).ownBlock = some g → F g
theorem Wv.on {w w' : World} {b t n o : Nat} {f : Nat → Value} {F : Nat → Prop} {l : List UInt8} {bad : Nat} {row : Option Nat} (h : Wv w b t n o f F l bad) (hg : w.grownBy w' row) (hb : row ≠ some b) (hr : ∀ k, row = some k → ¬ F k) : Wv w' b t n o f F l bad := by
  obtain ⟨h1, h2, h3, e1, hO, hF⟩ := h
  exact ⟨h1.of_block (hg.block b h1.lt (fun e => hb e.symm)), h2, h3, e1, hO.on hg (fun k hk e => hr k hk (hF k e)), hF⟩
theorem Wv.keep {w w' : World} {b t n o : Nat} {f : Nat → Value} {F : Nat → Prop} {l : List UInt8} {bad : Nat} (h : Wv w b t n o f F l bad) (hg : w.grownBy w' none) : Wv w' b t n o f F l bad := h.on hg (by simp) (fun k hk => by cases hk)
theorem Wv.mono {w : World} {b t n o : Nat} {f : Nat → Value} {F G : Nat → Prop} {l : List UInt8} {bad : Nat} (h : Wv w b t n o f F l bad) (hf : ∀ k, k < w.heap.size → F k → G k) (hG : ¬ G b) : Wv w b t n o f G l bad := by
  obtain ⟨h1, h2, h3, e1, hO, hF⟩ := h
  exact ⟨h1, h2, hG, e1, hO, fun g hg => hf g (hO.lt g hg).2 (hF g hg)⟩
theorem Wv.cells {w : World} {b t n o : Nat} {f : Nat → Value} {F : Nat → Prop} {l : List UInt8} {bad : Nat} (h : Wv w b t n o f F l bad) :
    w.cell? ⟨b, o, none⟩ = some (f o) ∧ w.cell? ⟨b, o + 1, none⟩ = some (.int .i64 (bad : Int)) ∧ (∀ j, w.frozen? ⟨b, j, none⟩ = false) ∧ b < w.heap.size := by
  obtain ⟨h1, h2, h3, e1, hO, hF⟩ := h
  refine ⟨h1.cell (by omega), ?_, fun j => h1.frozen j, h1.lt⟩
  rw [h1.cell (by omega), e1]
theorem Wv.put {w w1 : World} {b t n o : Nat} {f : Nat → Value} {F : Nat → Prop} {l l' : List UInt8} {bad : Nat} {v' : Value} (h : Wv w b t n o f F l bad) (hg : w.grownBy w1 (f o).ownBlock) (hO : Out 0 w1 v' l') (hF : ∀ g, v'.ownBlock = some g → F g) :
    ∃ f', Wv (w1.setCell ⟨b, o, none⟩ v') b t n o f' F l' bad ∧ Els2 o f f' := by
  obtain ⟨h1, h2, h3, e1, hO0, hF0⟩ := h
  have hr : w1.rowIs b t n f := h1.of_block (hg.block b h1.lt (fun e => h3 (hF0 b e.symm)))
  refine ⟨_, ⟨hr.set o v', h2, h3, ?_, ?_, ?_⟩, fun j hj => ?_⟩
  · simp; exact e1
  · simp
    exact hO.on (gset w1 ⟨b, o, none⟩ v') (fun k hk e => h3 (hF b (by injection hk with hk; rw [e, ← hk])))
  · simp; exact hF
  · rw [if_neg (by omega)]
theorem Wv.bad {w : World} {b t n o : Nat} {f : Nat → Value} {F : Nat → Prop} {l : List UInt8} {bad : Nat} (h : Wv w b t n o f F l bad) (e : Nat) :
    ∃ f', Wv (w.setCell ⟨b, o + 1, none⟩ (.int .i64 (e : Int))) b t n o f' F l e ∧ Els2 o f f' := by
  obtain ⟨h1, h2, h3, e1, hO0, hF0⟩ := h
  refine ⟨_, ⟨h1.set (o + 1) _, h2, h3, ?_, ?_, ?_⟩, fun j hj => ?_⟩
  · simp
  · simp
    exact hO0.on (gset w ⟨b, o + 1, none⟩ _) (fun k hk e => h3 (hF0 b (by injection hk with hk; rw [e, ← hk])))
  · simp; exact hF0
  · rw [if_neg (by omega)]

set_option maxRecDepth 100000 in
/-- append of bytes that can be read onto a row of the call's own: the old block or a new one. -/
theorem wpList_append_at {w : World} {ops : Array Oper} {rest : List Oper} {o : Oper} {a : Act} {Q : Exit → Act → World → Prop} (hgd : o.guard = none) (s x : Operand)
    (ho : o.op = .call { callee := .builtin .append, args := #[s, x], argTypes := #[28, 28] })
    (F : Nat → Prop) (acc l : List UInt8) (hown : Out 0 w (a.eval s) acc) (hx : Rd w F (a.eval x) l) (hn : acc.length + l.length ≤ 35184372088832)
    (h : ∀ v' w', Out 0 w' v' (acc ++ l) → w.grownBy w' (a.eval s).ownBlock → (v'.ownBlock = (a.eval s).ownBlock ∨ v'.ownBlock = some w.heap.size) → wpList Tryz.prog ops Q rest (a.put o.dst v') w') : wpList Tryz.prog ops Q (o :: rest) a w := by
  obtain ⟨inf, hi, hz0, hz1, hz2⟩ := info_parts Tryz.info5
  obtain ⟨p, b, off, c, e, hc, hnn, ha, hcell⟩ := hx
  cases p with
  | none =>
    have c0 := hnn rfl
    have hl : l = [] := List.eq_nil_of_length_eq_zero (by omega)
    subst hl
    subst c0
    refine wpList_append_own_none hgd s x 28 ho 0 5 inf 1 Tryz.underlying28 hi _ _ _ rfl hown e ?_
    exact h _ w (by rw [List.append_nil]; exact hown) (World.grownBy.refl _ _) (.inl rfl)
  | some q =>
    refine wpList_append_own_at w hgd s x 28 ho 0 5 inf (.int .u8 0) 1 1 Tryz.underlying28 hi hz0 hz1 hz2 rfl (by decide) _ _ _ rfl hown q l.length c (Lib.byteCells l) e (by simp [Lib.byteCells]) ?_ ?_ (by unfold maxLen; omega) (by omega) (Nat.zero_le _) ?_
    · intro j u hu
      have hj : j < l.length := by have := (List.getElem?_eq_some_iff.1 hu).1; simpa [Lib.byteCells] using this
      have hq := (ha (by omega)).1
      injection hq with hq
      rw [hq, Addr.add_lit, hcell j hj, ← hu]
      simp [Lib.byteCells, List.getElem?_eq_getElem hj]
    · intro u hu
      unfold Lib.byteCells at hu
      obtain ⟨_, _, rfl⟩ := List.mem_map.1 hu
      rfl
    · intro v' w' h1 h2 h3 h4
      exact h v' w' (Out.more h1 rfl rfl) h2 h4

set_option maxRecDepth 100000 in
set_option maxHeartbeats 1000000 in
theorem vlay_any (w : World) (b t n o : Nat) (f : Nat → Value) (F G : Nat → Prop) (l : List UInt8) (bad : Nat) (v : Value) (x : List UInt8) (h : Wv w b t n o f F l bad) (hv : Rd w G v x) (hF : ∀ g, w.heap.size ≤ g → F g) (hl : l.length + x.length ≤ 35184372088832) :
    Calls Tryz.prog 72 #[.pointer (some ⟨b, o, none⟩), v] w fun e w' => e = .returned (.tuple #[]) ∧ (∃ f', Wv w' b t n o f' F (wl bad l x) bad ∧ Els2 o f f') ∧ KF w w' b F := by
  obtain ⟨c0, c1, hfz, hlt⟩ := h.cells
  have HW := hid h
  have HV := hid hv
  obtain ⟨a, b', off, c, rfl, -⟩ := hv
  obtain ⟨v0, hv0⟩ : ∃ q, f o = q := ⟨_, rfl⟩
  rw [hv0] at c0
  have HO : Hid (Out 0 w v0 l) := hid (hv0 ▸ h.2.2.2.2.1)
  have HF0 : Hid (∀ g, v0.ownBlock = some g → F g) := hid (hv0 ▸ h.2.2.2.2.2)
  have HNb : Hid (¬ F b) := hid h.2.2.1
  have HV0 := hid hv0
  clear h hv0
  unfold wl
  by_cases hb : bad = 0
  · subst hb
    rw [if_pos rfl]
    go_enter Tryz.func72, Tryz.ntmps72
    go_wp2_with (at_builtin; refine wpList_append_at rfl _ _ rfl G l x HO.out HV.out hl ?_; intro v1 w1 hO1 hg1 hat; obtain ⟨va, vn, vc, rfl⟩ := hO1.shape; have HO1 := hid hO1; have HG1 : Hid (w.grownBy w1 v0.ownBlock) := hid hg1; have HAt : Hid ((Value.slice va vn vc).ownBlock = v0.ownBlock ∨ (Value.slice va vn vc).ownBlock = some w.heap.size) := hid hat; have R1 := hid (HW.out.1.of_block (HG1.out.block b hlt (fun e => HNb.out (HF0.out b e.symm)))); have d0 : w1.cell? ⟨b, o, none⟩ = some v0 := (by rw [← HV0.out]; exact R1.out.cell (by have := HW.out.2.1; omega)); have z1 : ∀ j, w1.frozen? ⟨b, j, none⟩ = false := (fun j => R1.out.frozen j); clear hO1 hg1 hat)
    go_end0
    refine ⟨rfl, HW.out.put (w1 := w1) (by rw [HV0.out]; exact HG1.out) HO1.out (fun g hg => ?_), (KF.own HG1.out (fun k e => .inr (HF0.out k e))).trans (KF.set _)⟩
    rcases HAt.out with h | h
    · exact HF0.out g (h ▸ hg)
    · rw [h] at hg; injection hg with hg; exact hF g (by omega)
  · have hd : ((bad : Int) == 0) = false := by simpa using hb
    have hd2 : (bad == 0) = false := by simpa using hb
    rw [if_neg hb]
    clear hb
    go_enter Tryz.func72, Tryz.ntmps72
    go_wp2_with fail
    go_end0
    exact ⟨rfl, ⟨f, HW.out, Els2.refl _ _⟩, KF.refl _ _ _⟩

set_option maxRecDepth 100000 in
set_option maxHeartbeats 1000000 in
theorem vrefuse_any (w : World) (b t n o : Nat) (f : Nat → Value) (F : Nat → Prop) (l : List UInt8) (bad e : Nat) (h : Wv w b t n o f F l bad) :
    Calls Tryz.prog 70 #[.pointer (some ⟨b, o, none⟩), .int .i64 e] w fun r w' => r = .returned (.tuple #[]) ∧ (∃ f', Wv w' b t n o f' F l (ref bad e) ∧ Els2 o f f') ∧ KF w w' b F := by
  obtain ⟨c0, c1, hfz, hlt⟩ := h.cells
  have HW := hid h
  clear h c0
  by_cases hb : bad = 0
  · subst hb
    rw [show ref 0 e = e from rfl]
    go_enter Tryz.func70, Tryz.ntmps70
    go_wp2_with fail
    go_end0
    exact ⟨rfl, HW.out.bad e, KF.set _⟩
  · have hd : ((bad : Int) == 0) = false := by simpa using hb
    have hd2 : (bad == 0) = false := by simpa using hb
    rw [show ref bad e = bad from if_neg hb]
    clear hb
    go_enter Tryz.func70, Tryz.ntmps70
    go_wp2_with fail
    go_end0
    exact ⟨rfl, ⟨f, HW.out, Els2.refl _ _⟩, KF.refl _ _ _⟩
end Go.Proofs.YtfalgjdhdgkbfaaGreatDoor
