/- RecordWrites: for every argument the statement's function returns true, and the argument reads afterwards as it read before. Conditions: the row's own (its listed table lies as the program's text lays it, which the card ties); none besides. -/
import Derived.Test.YtfalgjdhdgkbfaaGreatDoorX17
import Derived.Test.YtfalgjdhdgkbfaaGreatDoorWe5
namespace Go.Proofs.YtfalgjdhdgkbfaaGreatDoor.Bk
open Go Go.RowKit Go.ChangeShapes Go.WideShapes Go.ChangeAt Go.Joins Go.Deep

theorem bytes_ofW : ∀ (cs : List Value), (∀ i, i < cs.length → ∃ b : UInt8, cs[i]? = some (.int .u8 b.toNat)) → ∃ D : List UInt8, cs = Lib.byteCells D ∧ D.length = cs.length
  | [], _ => ⟨[], rfl, rfl⟩
  | c :: cs, h => by
    obtain ⟨D, hD, hl⟩ := bytes_ofW cs (fun i hi => by simpa using h (i + 1) (by simp; omega))
    obtain ⟨b, hb⟩ := h 0 (by simp)
    simp only [List.getElem?_cons_zero, Option.some.injEq] at hb
    exact ⟨b :: D, by rw [hb, hD]; rfl, by simp [hl]⟩
theorem Tryz.cells65w : Tryz.prog.cellsOf 65 = 16 := by kernel_rfl
theorem Tryz.cells67w : Tryz.prog.cellsOf 67 = 23 := by kernel_rfl
theorem Tryz.cells3w : Tryz.prog.cellsOf 3 = 1 := by kernel_rfl
theorem Tryz.cells63w : Tryz.prog.cellsOf 63 = 1 := by kernel_rfl
theorem Tryz.cells28w : Tryz.prog.cellsOf 28 = 1 := by kernel_rfl
theorem Tryz.cells5w : Tryz.prog.cellsOf 5 = 1 := by kernel_rfl
theorem Tryz.cells2w : Tryz.prog.cellsOf 2 = 1 := by kernel_rfl
theorem Tryz.cells4w : Tryz.prog.cellsOf 4 = 1 := by kernel_rfl
theorem u8_ofW {n : Int} (h : (Lit.int .u8 n).wf = true) : ∃ b : UInt8, n = b.toNat := by
  simp [Lit.wf, IntKind.min, IntKind.max, IntKind.signed, IntKind.bits] at h
  refine ⟨UInt8.ofNat n.toNat, ?_⟩
  rw [UInt8.toNat_ofNat']
  omega
theorem u64_ofW {n : Int} (h : (Lit.int .u64 n).wf = true) : ∃ b : Nat, n = b ∧ b < 18446744073709551616 := by
  simp [Lit.wf, IntKind.min, IntKind.max, IntKind.signed, IntKind.bits] at h
  exact ⟨n.toNat, by omega, by omega⟩
theorem i64_ofW {n : Int} (h : (Lit.int .i64 n).wf = true) : -9223372036854775808 ≤ n ∧ n ≤ 9223372036854775807 := by
  simp [Lit.wf, IntKind.min, IntKind.max, IntKind.signed, IntKind.bits] at h
  omega
section
variable {H : Type} {enc : TypeId × Value → H} {W : World}
theorem open_idW {fuel : Nat} {cs : List Value} {x : DataW H × List MemPlace} (h : DataW.trod enc Tryz.prog W 0 (fun _ => true) true fuel 65 cs = some x) : ∃ D : List UInt8, cs = Lib.byteCells D ∧ D.length = 16 := by
  obtain ⟨xs, m, _, _, hl, hxl, hf⟩ := DataW.trod_array Tryz.underlying65 h
  rw [Tryz.cells65w] at hl
  obtain ⟨D, hD, hDl⟩ := bytes_ofW cs (fun i hi => by
    have h1 := hf i (by omega)
    rw [Tryz.cells5w, Nat.mul_one, List.getElem?_eq_getElem (by omega)] at h1
    obtain ⟨n, e, _, hw⟩ := DataW.trod_int (k := .u8) Tryz.underlying5 h1
    obtain ⟨b, rfl⟩ := u8_ofW hw
    refine ⟨b, ?_⟩
    have h2 : (List.take 1 (List.drop i cs))[0]? = some (.int .u8 b.toNat) := by rw [e]; rfl
    rw [List.getElem?_take_of_lt (by omega), List.getElem?_drop] at h2
    simpa using h2)
  exact ⟨D, hD, by omega⟩
theorem op_sizedW {d0 d1 d2 d3 d4 d5 d6 d7 : DataW H} (h : ((DataW.agg [d0, d1, d2, d3, d4, d5, d6, d7]).weights Tryz.prog 67).all (· ≤ reachBytes) = true) : (d6.weights Tryz.prog 28).all (· ≤ reachBytes) = true := by
  rw [List.all_eq_true] at h
  simp only [DataW.weights, Tryz.underlying67, DataW.weightsEach, List.map_cons, List.map_nil, List.append_nil] at h
  exact List.all_eq_true.2 fun n hn => h n (by simp only [List.mem_append]; exact Or.inr (Or.inr (Or.inr (Or.inr (Or.inr (Or.inr (Or.inl hn)))))))
set_option maxRecDepth 100000 in
theorem open_ow {fuel : Nat} {cs : List Value} {x : DataW H × List MemPlace} (h : DataW.trod enc Tryz.prog W 0 (fun _ => true) true fuel 67 cs = some x) (hs : (x.1.weights Tryz.prog 67).all (· ≤ reachBytes) = true) :
    ∃ o : Go.Proofs.YtfalgjdhdgkbfaaGreatDoor.Ow, cs = o.cs ∧ o.In W := by
  obtain ⟨xs, k, _, hx, hl, hxl, hf⟩ := DataW.trod_struct Tryz.underlying67 h
  rw [Tryz.cells67w] at hl
  obtain ⟨x0, x1, x2, x3, x4, x5, x6, x7, rfl⟩ : ∃ x0 x1 x2 x3 x4 x5 x6 x7, xs = [x0, x1, x2, x3, x4, x5, x6, x7] := by
    match xs, (show xs.length = 8 from hxl) with
    | [a, b, c, d, e, f, g, h], _ => exact ⟨a, b, c, d, e, f, g, h, rfl⟩
  rw [hx] at hs
  have s6 := op_sizedW (d0 := x0.1) (d1 := x1.1) (d2 := x2.1) (d3 := x3.1) (d4 := x4.1) (d5 := x5.1) (d6 := x6.1) (d7 := x7.1) hs
  obtain ⟨c0, c1, c2, c3, c4, c5, c6, ds, rfl⟩ : ∃ c0 c1 c2 c3 c4 c5 c6 ds, cs = c0 :: c1 :: c2 :: c3 :: c4 :: c5 :: c6 :: ds := by
    match cs, hl with
    | c0 :: c1 :: c2 :: c3 :: c4 :: c5 :: c6 :: ds, _ => exact ⟨c0, c1, c2, c3, c4, c5, c6, ds, rfl⟩
  have hdl : ds.length = 16 := by simpa using hl
  have f0 : DataW.trod enc Tryz.prog W 0 (fun _ => true) true k 3 [c0] = some x0 := by
    have := hf 0 _ rfl
    change DataW.trod enc Tryz.prog W 0 (fun _ => true) true k 3 (((c0 :: c1 :: c2 :: c3 :: c4 :: c5 :: c6 :: ds).drop 0).take (Tryz.prog.cellsOf 3)) = some x0 at this
    rw [Tryz.cells3w] at this
    exact this
  have f1 : DataW.trod enc Tryz.prog W 0 (fun _ => true) true k 3 [c1] = some x1 := by
    have := hf 1 _ rfl
    change DataW.trod enc Tryz.prog W 0 (fun _ => true) true k 3 (((c0 :: c1 :: c2 :: c3 :: c4 :: c5 :: c6 :: ds).drop 1).take (Tryz.prog.cellsOf 3)) = some x1 at this
    rw [Tryz.cells3w] at this
    exact this
  have f2 : DataW.trod enc Tryz.prog W 0 (fun _ => true) true k 63 [c2] = some x2 := by
    have := hf 2 _ rfl
    change DataW.trod enc Tryz.prog W 0 (fun _ => true) true k 63 (((c0 :: c1 :: c2 :: c3 :: c4 :: c5 :: c6 :: ds).drop 2).take (Tryz.prog.cellsOf 63)) = some x2 at this
    rw [Tryz.cells63w] at this
    exact this
  have f3 : DataW.trod enc Tryz.prog W 0 (fun _ => true) true k 3 [c3] = some x3 := by
    have := hf 3 _ rfl
    change DataW.trod enc Tryz.prog W 0 (fun _ => true) true k 3 (((c0 :: c1 :: c2 :: c3 :: c4 :: c5 :: c6 :: ds).drop 3).take (Tryz.prog.cellsOf 3)) = some x3 at this
    rw [Tryz.cells3w] at this
    exact this
  have f4 : DataW.trod enc Tryz.prog W 0 (fun _ => true) true k 2 [c4] = some x4 := by
    have := hf 4 _ rfl
    change DataW.trod enc Tryz.prog W 0 (fun _ => true) true k 2 (((c0 :: c1 :: c2 :: c3 :: c4 :: c5 :: c6 :: ds).drop 4).take (Tryz.prog.cellsOf 2)) = some x4 at this
    rw [Tryz.cells2w] at this
    exact this
  have f5 : DataW.trod enc Tryz.prog W 0 (fun _ => true) true k 4 [c5] = some x5 := by
    have := hf 5 _ rfl
    change DataW.trod enc Tryz.prog W 0 (fun _ => true) true k 4 (((c0 :: c1 :: c2 :: c3 :: c4 :: c5 :: c6 :: ds).drop 5).take (Tryz.prog.cellsOf 4)) = some x5 at this
    rw [Tryz.cells4w] at this
    exact this
  have f6 : DataW.trod enc Tryz.prog W 0 (fun _ => true) true k 28 [c6] = some x6 := by
    have := hf 6 _ rfl
    change DataW.trod enc Tryz.prog W 0 (fun _ => true) true k 28 (((c0 :: c1 :: c2 :: c3 :: c4 :: c5 :: c6 :: ds).drop 6).take (Tryz.prog.cellsOf 28)) = some x6 at this
    rw [Tryz.cells28w] at this
    exact this
  have f7 : DataW.trod enc Tryz.prog W 0 (fun _ => true) true k 65 ds = some x7 := by
    have := hf 7 _ rfl
    change DataW.trod enc Tryz.prog W 0 (fun _ => true) true k 65 (((c0 :: c1 :: c2 :: c3 :: c4 :: c5 :: c6 :: ds).drop 7).take (Tryz.prog.cellsOf 65)) = some x7 at this
    rw [Tryz.cells65w] at this
    change DataW.trod enc Tryz.prog W 0 (fun _ => true) true k 65 (ds.take 16) = some x7 at this
    rw [List.take_of_length_le (by omega)] at this
    exact this
  obtain ⟨z0, e0, _, _⟩ := DataW.trod_int (k := .i64) Tryz.underlying3 f0
  obtain ⟨z1, e1, _, _⟩ := DataW.trod_int (k := .i64) Tryz.underlying3 f1
  obtain ⟨z2, e2, _, w2⟩ := DataW.trod_int (k := .u64) Tryz.underlying63 f2
  obtain ⟨z3, e3, _, _⟩ := DataW.trod_int (k := .i64) Tryz.underlying3 f3
  obtain ⟨z4, e4, _, w4⟩ := DataW.trod_int (k := .i64) Tryz.underlying2 f4
  obtain ⟨z5, e5, _⟩ := DataW.trod_bool Tryz.underlying4 f5
  obtain ⟨B, r6, b6⟩ := open_bytes f6 s6
  obtain ⟨D, hD, hDl⟩ := open_idW f7
  obtain ⟨N, rfl, hN⟩ := u64_ofW w2
  simp only [List.cons.injEq, and_true] at e0 e1 e2 e3 e4 e5
  subst e0 e1 e2 e3 e4 e5 hD
  have r7 : Go.Proofs.YtfalgjdhdgkbfaaGreatDoor.Rd W (fun k => k < W.heap.size) c6 B := r6.mono (fun k hk _ => hk)
  obtain ⟨ba, bb, bo, bc, rfl, q⟩ := r6
  exact ⟨⟨z0, z1, N, z3, z4, z5, ba, B.length, bc, B, D⟩, rfl, r7, hN, hDl, b6⟩
theorem open_ows {fuel : Nat} {v : Value} {y : DataW H × List MemPlace} (h : DataW.trod enc Tryz.prog W 0 (fun _ => true) true fuel 22 [v] = some y) (hsz : (y.1.weights Tryz.prog 22).all (· ≤ reachBytes) = true) :
    ∃ (oa : Option Addr) (ob oo on oc : Nat) (f : Nat → Go.Proofs.YtfalgjdhdgkbfaaGreatDoor.Ow), v = .slice oa on oc ∧ on ≤ 140737488355328 ∧ Go.Proofs.YtfalgjdhdgkbfaaGreatDoor.RowsO W oa ob oo on f := by
  obtain ⟨a, b, o, n, cc, hv, hnc, hn, ha, hel⟩ := open_rows Tryz.underlying22 Tryz.cells67 (by decide) (by rw [Tryz.bytes67]; decide) h hsz
  have hex : ∀ i, i < n → ∃ q : Go.Proofs.YtfalgjdhdgkbfaaGreatDoor.Ow, W.rangeAt b (o + i * 23) q.cs ∧ q.In W := by
    intro i hi
    obtain ⟨cs', m', x', hcl, hcell, ht, hs⟩ := hel i hi
    obtain ⟨q, hq, hok⟩ := open_ow ht hs
    refine ⟨q, fun j v hj => ?_, hok⟩
    rw [← hq] at hj
    have hj' : j < 23 := by
      have := (List.getElem?_eq_some_iff.1 hj).1
      omega
    rw [← hj, ← hcell j hj', Nat.add_assoc]
  haveI : Inhabited Go.Proofs.YtfalgjdhdgkbfaaGreatDoor.Ow := ⟨⟨0, 0, 0, 0, 0, false, none, 0, 0, [], []⟩⟩
  obtain ⟨f, hf'⟩ := choose_lt hex
  exact ⟨a, b, o, n, cc, f, hv, hn, ha, fun i hi => hf' i hi⟩
end
theorem door_metWr (os : Os) (args : Array Value) : laidMetH Tryz.prog Rows.recordWritesRow.laid ((World.doorLaid Tryz.prog 400 os).forCall (fun _ _ => 0) ⟨#[], args, []⟩).memory :=
  laidMetH_of_parts3 (fuel := 8) (laidMet_of_run' 8 (by kernel_rfl) (by kernel_rfl)) (by kernel_rfl) (by kernel_rfl)

set_option maxRecDepth 100000 in
theorem wr_lifted (os : Os) (started : os.Started) (H : Type) (enc : TypeId × Value → H) :
    ReturnsInHanded {} Tryz.checked os 3 .any (fun w args => (Rows.recordWritesSpec.pre enc Tryz.prog Tryz.f3 [] false w args ∧ laidMetH Tryz.prog Rows.recordWritesRow.laid w) ∧ sizedMet enc Tryz.prog Tryz.f3 (OpenSpec.ofChange Rows.recordWritesSpec) false w args)
      (Rows.recordWritesSpec.post enc Tryz.prog Tryz.f3 false true false false) := by
  refine returnsInHanded_of_change_and (C := Tryz.checked) (X := fun w _ => laidMetH Tryz.prog Rows.recordWritesRow.laid w) (fun _ _ _ hh h => h.of_heap hh) ownD started (by kernel_rfl) Tryz.func3
    (ChangeSpec.witness_shaped (enc := enc) (C := Tryz.checked) (os := os) (X := fun w _ => laidMetH Tryz.prog Rows.recordWritesRow.laid w) false (World.doorLaid Tryz.prog 400 os) #[.slice none 0 0] 8 rfl (World.shaped_of_RefB (by kernel_rfl) (by kernel_rfl)) (by kernel_rfl) (by kernel_rfl) (by kernel_rfl) (door_metWr os _)) ?_
  intro W base args ds gs before hval0 hW _ hsz0 hL _
  have hval : ∀ (j : Nat) t v, Tryz.f3.params[j]? = some t → args[j]? = some v → Value.okWide Tryz.prog W .any base t v := hval0
  have hsz : (DataW.weightsEach Tryz.prog (Tryz.f3.params.toList ++ Rows.recordWritesSpec.plain.varTypes Tryz.prog) (ds ++ gs)).all (· ≤ reachBytes) = true := hsz0
  have hW' := hW
  obtain ⟨p, q, hA0, hV, rfl, hfz, hnd⟩ := hW
  have hA : DataW.TrodAll enc Tryz.prog W 0 (fun _ => true) true Tryz.f3.params.toList args.toList ds p := hA0
  rw [Tryz.params3] at hA hval hsz
  obtain ⟨v0, d0, rfl, rfl, h0⟩ := trodAll_one hA
  obtain ⟨rfl, rfl⟩ := trodVars_none hV
  have k0 := h0
  have lt0 : ∀ x ∈ p, x.block < W.heap.size := by obtain ⟨m, hm⟩ := k0; exact DataW.trod_lt m _ _ _ hm
  have hs : (d0.weights Tryz.prog 22).all (· ≤ reachBytes) = true := by simpa [DataW.weightsEach] using hsz
  obtain ⟨fuel, hf⟩ := h0
  obtain ⟨a0, n0, c0, rfl⟩ := okWide_slice Tryz.underlying22 (hval 0 22 v0 rfl rfl)
  have hf' : DataW.trod enc Tryz.prog W 0 (fun _ => true) true fuel 22 [.slice a0 n0 c0] = some (d0, p) := hf
  obtain ⟨oa, ob, oo, on, oc, f, hv, h1, h2⟩ := open_ows (y := (d0, p)) hf' hs
  rw [hv]
  rw [hv] at hf k0 hW' hA hval
  have hTab : Tab W := by
    rw [MakeChecks.laidMetH_plain _ _ _ (by kernel_rfl)] at hL
    exact tab_of hL
  clear hA0 hval0 hsz0
  refine (Go.Proofs.YtfalgjdhdgkbfaaGreatDoor.writes_walk W oa ob oo on oc f hTab h1 h2).mono fun e W' ⟨he, hg⟩ => ?_
  subst he
  have bel : Below W.heap.size W W' := gbelow hg
  exact ⟨_, rfl, _, _, _, [], _, [], hW', trodAll_mk1 (shut_bool Tryz.underlying4 _), trodAll_mk1 (Below.trod laidOutD (by kernel_rfl) (of_decide_eq_true (by kernel_rfl)) k0 bel lt0), rfl, bel.frame _, fun h => by cases h⟩

theorem wr_row : Rows.RecordWritesSaid :=
  OpenClaim.holds_of_wide 3 Tryz.f3 rfl rfl rfl rfl rfl rfl rfl ⟨rfl, rfl, rfl, rfl, rfl⟩ rfl rfl rfl rfl rfl (by kernel_rfl) Tryz.func3 (by kernel_rfl)
    (of_decide_eq_true (by kernel_rfl)) (by unfold Func.isWrapper; first | (rw [if_pos (by decide +kernel)]; kernel_rfl) | (rw [if_neg (by decide +kernel)]; exact ⟨rfl, rfl⟩))
    (fun os started H enc _ => wr_lifted os started H enc)
end Go.Proofs.YtfalgjdhdgkbfaaGreatDoor.Bk

namespace Go.Proofs.YtfalgjdhdgkbfaaGreatDoor
open Go Go.RowKit Go.ChangeShapes Go.WideShapes Go.ChangeAt Go.Joins Go.Deep
theorem recordWrites_holds : Rows.RecordWritesCardSaid :=
  Claim7.holds_tied_plain_at .later [] _ _ _ _
    Bk.wr_row (fun _ h => by cases h) (by kernel_rfl) (fun _ h => by cases h) recordWrites_row_tie rfl ⟨rfl, rfl⟩ (by kernel_rfl) rfl
    (fun f fn hf hfn => by
      obtain rfl : f = 3 := Option.some.inj ((show Tryz.prog.funcNamed "postern/posternlaw3.RecordWrites" = some 3 by kernel_rfl).symm.trans hf) |>.symm
      obtain rfl : fn = Tryz.f3 := (Option.some.inj (Tryz.func3.symm.trans hfn)).symm
      exact ⟨by kernel_rfl, fun j t ht => by
        rw [Tryz.params3] at ht
        have hm : t ∈ [22] := by simpa using Array.mem_of_getElem? ht
        have hall : ([22].all fun u => !Tryz.prog.wantsStandIn u) = true := by kernel_rfl
        exact (show Tryz.prog.wantsStandIn t = false by simpa using List.all_eq_true.1 hall t hm)⟩)
    (by kernel_rfl)
#print axioms recordWrites_holds
end Go.Proofs.YtfalgjdhdgkbfaaGreatDoor
