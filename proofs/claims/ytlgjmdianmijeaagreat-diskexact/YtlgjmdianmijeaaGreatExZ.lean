/- DiskExact: for every argument the statement's function returns true, and the argument reads afterwards as it read before. Conditions: none. -/
import Derived.Test.YtlgjmdianmijeaaGreatOpD
namespace Go.Proofs.YtlgjmdianmijeaaGreat
open Go Go.RowKit Go.ChangeShapes Go.WideShapes Go.ChangeAt Go.Joins Go.Deep

theorem own9x : ownKnob Tryz.prog.godebug = none := by kernel_rfl
theorem laidOut9x : laidOutB Tryz.prog = true := by kernel_rfl
theorem Tryz.size25 : (Tryz.prog.info? 25).map (·.size) = some 3 := by kernel_rfl
theorem Opv.In.mono {o : Opv} {w : World} {F G : Nat → Prop} (h : o.In w F) (hf : ∀ k, F k → G k) : o.In w G := by
  obtain ⟨h1, ⟨h2, g, off, h3⟩, h4, h5, h6⟩ := h
  exact ⟨h1.mono (fun k _ hk => hf k hk), ⟨h2, g, off, h3.mono hf⟩, h4, h5, h6⟩
set_option maxRecDepth 100000 in
theorem exact_walk (w : World) (r0 r1 : Int) (a : Option Addr) (n cc g off : Nat) (T : Nat → Opv) (hA : ArO w (fun j => j < w.heap.size) a g off n T) (hn : n ≤ 140737488355328) (hN : ∀ i, i < n → (T i).Nm) :
    Calls Tryz.prog 3 #[.agg [Value.int .i64 r0, .int .i64 r1, .slice a n cc].toArray] w fun e w' => e = .returned (.bool true) ∧ w.grownBy w' none := by
  have HX : Hid (∀ u, w.grownBy u none → Calls Tryz.prog 5 #[.agg [Value.int .i64 r0, .int .i64 r1, .slice a n cc].toArray, .bool false] u fun e w' => e = .returned (.bool true) ∧ u.grownBy w' none) := hid (fun u hu => play_exact u r0 r1 a n cc g off T ⟨fun h0 => ⟨((hA.keep hu).at_ h0).1, ((hA.keep hu).at_ h0).2.1, ((hA.keep hu).at_ h0).2.1⟩, fun i hi => ⟨((hA.keep hu).each i hi).1, ((hA.keep hu).each i hi).2.mono (fun j hj => Nat.lt_of_lt_of_le hj hu.size)⟩⟩ hn hN)
  clear hA hn hN
  go_enter Tryz.func3, Tryz.ntmps3
  go_wp2_with (first
    | ((with_reducible refine wpList_box_row (by with_unfolding_all rfl) 25 _ (by with_unfolding_all rfl) [Value.int .i64 r0, .int .i64 r1, .slice a n cc] (by with_unfolding_all rfl) ?_); intro w1 B1 s1 g1; have HB1 := hid B1; have HG1 := hid g1; clear B1 s1 g1)
    | (with_reducible refine wpList_load_part (by with_unfolding_all rfl) 25 _ (by with_unfolding_all rfl) w.heap.size 0 [Value.int .i64 r0, .int .i64 r1, .slice a n cc] _ (by with_unfolding_all rfl) HB1.out.whole Tryz.underlying25 (by with_unfolding_all rfl) (by with_unfolding_all exact Tryz.size25) ?_)
    | (go_at_call 5; (with_reducible refine (HX.out _ HG1.out).mono ?_); rintro e w2 ⟨rfl, hg⟩; have HG2 := hid hg; clear hg))
  go_ret
  exact ⟨rfl, gtrans HG1.out HG2.out⟩
set_option maxRecDepth 100000 in
theorem diskExact_lifted (os : Os) (started : os.Started) (H : Type) (enc : TypeId × Value → H) :
    ReturnsInHanded {} Tryz.checked os 3 .any (Rows.diskExactSpec.pre6 enc Tryz.prog Tryz.f3 [] false)
      (Rows.diskExactSpec.post enc Tryz.prog Tryz.f3 false true false false) := by
  have hwit := ChangeSpec.witness_shaped (enc := enc) (C := Tryz.checked) (f := 3) (fn := Tryz.f3) (s := Rows.diskExactSpec) (conds := []) (apart := false) (os := os) (X := fun _ _ => True) false (World.doorLaid Tryz.prog 400 os) #[.agg [Value.int .i64 0, Value.int .i64 0, .slice none 0 0].toArray] 8 rfl (World.shaped_of_RefB (by kernel_rfl) (by kernel_rfl)) (by kernel_rfl) (by kernel_rfl) (by kernel_rfl) trivial
  obtain ⟨ww, tape, inp, q1, q2, q3, q4, ⟨⟨q5, _⟩, q6⟩, q7⟩ := hwit
  refine returnsInHanded_of_change_sized (C := Tryz.checked) own9x started (by kernel_rfl) Tryz.func3 ⟨ww, tape, inp, q1, q2, q3, q4, ⟨q5, q6⟩, q7⟩ ?_
  intro W base args ds gs before hval0 hW _ hsz0 _
  have hval : ∀ (j : Nat) t v, Tryz.f3.params[j]? = some t → args[j]? = some v → Value.okWide Tryz.prog W .any base t v := hval0
  have hsz : (DataW.weightsEach Tryz.prog (Tryz.f3.params.toList ++ Rows.diskExactSpec.plain.varTypes Tryz.prog) (ds ++ gs)).all (· ≤ reachBytes) = true := hsz0
  have hW' := hW
  obtain ⟨p, q, hA0, hV, rfl, hfz, hnd⟩ := hW
  have hA : DataW.TrodAll enc Tryz.prog W 0 (fun _ => true) true Tryz.f3.params.toList args.toList ds p := hA0
  rw [Tryz.params3] at hA hval hsz
  obtain ⟨v0, d0, rfl, rfl, h0⟩ := trodAll_one hA
  obtain ⟨rfl, rfl⟩ := trodVars_none hV
  have k0 := h0
  have lt0 : ∀ x ∈ p, x.block < W.heap.size := by obtain ⟨m, hm⟩ := k0; exact DataW.trod_lt m _ _ _ hm
  have hs : (d0.weights Tryz.prog 25).all (· ≤ reachBytes) = true := by simpa [DataW.weightsEach] using hsz
  obtain ⟨fuel, hf⟩ := h0
  obtain ⟨cs0, rfl, hcs⟩ := okWide_struct Tryz.underlying25 (hval 0 25 v0 rfl rfl)
  rw [Tryz.cells25] at hcs
  obtain ⟨cs⟩ := cs0
  have hf' : DataW.trod enc Tryz.prog W 0 (fun _ => true) true fuel 25 cs = some (d0, p) := hf
  obtain ⟨r0, r1, sa, sb, so, n, sc, T, rfl, h1, h2, h3⟩ := open_script (x := (d0, p)) hf' hs
  clear hA0 hval0 hsz0
  refine (exact_walk W r0 r1 sa n sc sb so T h2 h1 h3).mono fun e W' ⟨he, hg⟩ => ?_
  subst he
  have bel : Below W.heap.size W W' := gbelow hg
  exact ⟨_, rfl, _, _, _, [], _, [], hW', trodAll_mk1 (shut_bool Tryz.underlying4 _), trodAll_mk1 (Below.trod laidOut9x (by kernel_rfl) (of_decide_eq_true (by kernel_rfl)) k0 bel lt0), rfl, bel.frame _, fun h => by cases h⟩

theorem diskExact_holds : Rows.DiskExactSaid :=
  OpenClaim.holds_of_wide 3 Tryz.f3 rfl rfl rfl rfl rfl rfl rfl ⟨rfl, rfl, rfl, rfl, rfl⟩ rfl rfl rfl rfl rfl (by kernel_rfl) Tryz.func3 (by kernel_rfl)
    (of_decide_eq_true (by kernel_rfl)) (by unfold Func.isWrapper; first | (rw [if_pos (by decide +kernel)]; kernel_rfl) | (rw [if_neg (by decide +kernel)]; exact ⟨rfl, rfl⟩))
    (fun os started H enc _ => diskExact_lifted os started H enc)
#print axioms diskExact_holds
end Go.Proofs.YtlgjmdianmijeaaGreat
