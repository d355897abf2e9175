/- DiskOrder: for every argument the statement's function returns true, and the argument reads afterwards as it read before. Conditions: none. -/
import Derived.Test.YtlgjmdianmijeabOpD
import Derived.Test.YtlgjmdianmijeabOd
namespace Go.Proofs.Ytlgjmdianmijeab
open Go Go.RowKit Go.ChangeShapes Go.WideShapes Go.ChangeAt Go.Joins Go.Deep

section
variable {H : Type} {enc : TypeId × Value → H} {W : World}
theorem Try.cells24 : Try.prog.cellsOf 24 = 3 := by kernel_rfl
theorem order_sized {d0 d1 d2 : DataW H} (h : ((DataW.agg [d0, d1, d2]).weights Try.prog 24).all (· ≤ reachBytes) = true) : (d0.weights Try.prog 22).all (· ≤ reachBytes) = true := by
  rw [List.all_eq_true] at h
  simp only [DataW.weights, Try.underlying24, DataW.weightsEach, List.map_cons, List.map_nil, List.append_nil] at h
  exact List.all_eq_true.2 fun n hn => h n (by simp only [List.mem_append]; exact .inl hn)
set_option maxRecDepth 100000 in
theorem open_order {fuel : Nat} {cs : List Value} {x : DataW H × List MemPlace} (h : DataW.trod enc Try.prog W 0 (fun _ => true) true fuel 24 cs = some x) (hs : (x.1.weights Try.prog 24).all (· ≤ reachBytes) = true) :
    ∃ (r0 r1 : Int) (a : Option Addr) (b o n c : Nat) (L : Cn), cs = [.slice a n c, .int .i64 r0, .int .i64 r1] ∧ n = L.length ∧ n ≤ 140737488355328 ∧ ArF W (fun k => k < W.heap.size) a b o L ∧ ∀ p ∈ L, p.2.length ≤ 140737488355328 := by
  obtain ⟨xs, k, _, hx, hl, hxl, hf⟩ := DataW.trod_struct Try.underlying24 h
  rw [Try.cells24] at hl
  obtain ⟨x0, x1, x2, rfl⟩ : ∃ x0 x1 x2, xs = [x0, x1, x2] := by
    match xs, (show xs.length = 3 from hxl) with
    | [a, b, c], _ => exact ⟨a, b, c, rfl⟩
  rw [hx] at hs
  have s1 := order_sized (d0 := x0.1) (d1 := x1.1) (d2 := x2.1) hs
  obtain ⟨c0, c1, c2, rfl⟩ : ∃ c0 c1 c2, cs = [c0, c1, c2] := by
    match cs, hl with
    | [a, b, c], _ => exact ⟨a, b, c, rfl⟩
  have f0 : DataW.trod enc Try.prog W 0 (fun _ => true) true k 22 [c0] = some x0 := by
    have := hf 0 _ rfl
    change DataW.trod enc Try.prog W 0 (fun _ => true) true k 22 ((([c0, c1, c2] : List Value).drop 0).take (Try.prog.cellsOf 22)) = some x0 at this
    rw [Try.cells22] at this
    exact this
  have f1 : DataW.trod enc Try.prog W 0 (fun _ => true) true k 3 [c1] = some x1 := by
    have := hf 1 _ rfl
    change DataW.trod enc Try.prog W 0 (fun _ => true) true k 3 ((([c0, c1, c2] : List Value).drop 1).take (Try.prog.cellsOf 3)) = some x1 at this
    rw [Try.cells3] at this
    exact this
  have f2 : DataW.trod enc Try.prog W 0 (fun _ => true) true k 3 [c2] = some x2 := by
    have := hf 2 _ rfl
    change DataW.trod enc Try.prog W 0 (fun _ => true) true k 3 ((([c0, c1, c2] : List Value).drop 2).take (Try.prog.cellsOf 3)) = some x2 at this
    rw [Try.cells3] at this
    exact this
  obtain ⟨r0, e0, _, _⟩ := DataW.trod_int (k := .i64) Try.underlying3 f1
  obtain ⟨r1, e1, _, _⟩ := DataW.trod_int (k := .i64) Try.underlying3 f2
  obtain ⟨a, b, o, n, c, L, rfl, h1, h2, h3, h4⟩ := open_files f0 s1
  simp at e0 e1
  subst e0 e1
  exact ⟨r0, r1, a, b, o, n, c, L, rfl, h1, h2, h3, h4⟩
end
theorem own9o : ownKnob Try.prog.godebug = none := by kernel_rfl
theorem laidOut9o : laidOutB Try.prog = true := by kernel_rfl
set_option maxRecDepth 100000 in
theorem diskOrder_lifted (os : Os) (started : os.Started) (H : Type) (enc : TypeId × Value → H) :
    ReturnsInHanded {} Try.checked os 3 .any (Rows.diskOrderSpec.pre6 enc Try.prog Try.f3 [] false)
      (Rows.diskOrderSpec.post enc Try.prog Try.f3 false true false false) := by
  have hwit := ChangeSpec.witness_shaped (enc := enc) (C := Try.checked) (f := 3) (fn := Try.f3) (s := Rows.diskOrderSpec) (conds := []) (apart := false) (os := os) (X := fun _ _ => True) false (World.doorLaid Try.prog 400 os) #[.agg [.slice none 0 0, Value.int .i64 0, Value.int .i64 0].toArray] 8 rfl (World.shaped_of_RefB (by kernel_rfl) (by kernel_rfl)) (by kernel_rfl) (by kernel_rfl) (by kernel_rfl) trivial
  obtain ⟨ww, tape, inp, q1, q2, q3, q4, ⟨⟨q5, _⟩, q6⟩, q7⟩ := hwit
  refine returnsInHanded_of_change_sized (C := Try.checked) own9o started (by kernel_rfl) Try.func3 ⟨ww, tape, inp, q1, q2, q3, q4, ⟨q5, q6⟩, q7⟩ ?_
  intro W base args ds gs before hval0 hW _ hsz0 _
  have hval : ∀ (j : Nat) t v, Try.f3.params[j]? = some t → args[j]? = some v → Value.okWide Try.prog W .any base t v := hval0
  have hsz : (DataW.weightsEach Try.prog (Try.f3.params.toList ++ Rows.diskOrderSpec.plain.varTypes Try.prog) (ds ++ gs)).all (· ≤ reachBytes) = true := hsz0
  have hW' := hW
  obtain ⟨p, q, hA0, hV, rfl, hfz, hnd⟩ := hW
  have hA : DataW.TrodAll enc Try.prog W 0 (fun _ => true) true Try.f3.params.toList args.toList ds p := hA0
  rw [Try.params3] at hA hval hsz
  obtain ⟨v0, d0, rfl, rfl, h0⟩ := trodAll_one hA
  obtain ⟨rfl, rfl⟩ := trodVars_none hV
  have k0 := h0
  have lt0 : ∀ x ∈ p, x.block < W.heap.size := by obtain ⟨m, hm⟩ := k0; exact DataW.trod_lt m _ _ _ hm
  have hs : (d0.weights Try.prog 24).all (· ≤ reachBytes) = true := by simpa [DataW.weightsEach] using hsz
  obtain ⟨fuel, hf⟩ := h0
  obtain ⟨cs0, rfl, hcs⟩ := okWide_struct Try.underlying24 (hval 0 24 v0 rfl rfl)
  rw [Try.cells24] at hcs
  obtain ⟨cs⟩ := cs0
  have hf' : DataW.trod enc Try.prog W 0 (fun _ => true) true fuel 24 cs = some (d0, p) := hf
  obtain ⟨r0, r1, sa, sb, so, n, sc, L, rfl, h1, h2, h3, h4⟩ := open_order (x := (d0, p)) hf' hs
  subst h1
  clear hA0 hval0 hsz0
  refine (order_walk W _ sa sb so sc L r0 r1 h3 h2 h4).mono fun e W' ⟨he, hg⟩ => ?_
  subst he
  have bel : Below W.heap.size W W' := gbelow hg
  exact ⟨_, rfl, _, _, _, [], _, [], hW', trodAll_mk1 (shut_bool Try.underlying4 _), trodAll_mk1 (Below.trod laidOut9o (by kernel_rfl) (of_decide_eq_true (by kernel_rfl)) k0 bel lt0), rfl, bel.frame _, fun h => by cases h⟩

theorem diskOrder_holds : Rows.DiskOrderSaid :=
  OpenClaim.holds_of_wide 3 Try.f3 rfl rfl rfl rfl rfl rfl rfl ⟨rfl, rfl, rfl, rfl, rfl⟩ rfl rfl rfl rfl rfl (by kernel_rfl) Try.func3 (by kernel_rfl)
    (of_decide_eq_true (by kernel_rfl)) (by unfold Func.isWrapper; first | (rw [if_pos (by decide +kernel)]; kernel_rfl) | (rw [if_neg (by decide +kernel)]; exact ⟨rfl, rfl⟩))
    (fun os started H enc _ => diskOrder_lifted os started H enc)
#print axioms diskOrder_holds
end Go.Proofs.Ytlgjmdianmijeab
