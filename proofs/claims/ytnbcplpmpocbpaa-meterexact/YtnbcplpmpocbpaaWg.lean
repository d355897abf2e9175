/- wakes. -/
import Derived.Test.YtnbcplpmpocbpaaWf
namespace Go.Proofs.Ytnbcplpmpocbpaa
open Go Go.RowKit
open Go.RowKit (wrap32 wrap64)

theorem quietAt_build {P : Program} {C : World → Prop} {o : Oper} {A : Act} {u : World} (t : TypeId) (xs : Array (Nat × Operand)) (ho : o.op = .build t xs) (vs : List (Nat × Value)) (hx : (xs.map fun (i, x) => (i, A.eval x)) = vs.toArray) (z : List Value) (hz : P.built t vs = some z.toArray) : o.quietAt P A C u (.agg z.toArray) := by
  have e : P.built t (xs.map fun (i, x) => (i, A.eval x)).toList = some z.toArray := by rw [hx]; exact hz
  unfold Oper.quietAt execOp
  simp only [ho, Sem.run_bind, run_build u t _ _ e]
  exact ⟨rfl, rfl⟩
theorem eq37 (a b c d : Int) (u : World) : (Op.equalIn 10000 37 (.agg #[.int .u64 a, .int .i64 b]) (.agg #[.int .u64 c, .int .i64 d])).run Try.prog u = .ok (a == c && b == d) u := by
  have u2 := Try.underlying2
  have u26 := Try.underlying26
  have hS : Try.prog.underlying 37 = some (.struct (Try.prog.fieldsOf 37)) := by kernel_rfl
  rw [show (10000 : Nat) = 9999 + 1 from rfl, run_equalIn_struct u 9999 37 _ _ hS (by kernel_rfl)]
  simp only [Program.fieldsOf, Try.underlying37]
  go_simp
  by_cases h1 : a = c <;> by_cases h2 : b = d <;> simp [h1, h2]
theorem eql37 {x y : Operand} (a b c d : Int) (u : World) : (do eqGuard .eql 37 x y (.agg #[.int .u64 a, .int .i64 b]) (.agg #[.int .u64 c, .int .i64 d]); binOp .eql 37 (.agg #[.int .u64 a, .int .i64 b]) (.agg #[.int .u64 c, .int .i64 d]) : Sem Value).run Try.prog u = .ok (.bool (a == c && b == d)) u := by
  have h : (do eqGuard .eql 37 x y (.agg #[.int .u64 a, .int .i64 b]) (.agg #[.int .u64 c, .int .i64 d]); binOp .eql 37 (.agg #[.int .u64 a, .int .i64 b]) (.agg #[.int .u64 c, .int .i64 d]) : Sem Value).run Try.prog u = (binOp .eql 37 (.agg #[.int .u64 a, .int .i64 b]) (.agg #[.int .u64 c, .int .i64 d])).run Try.prog u := by
    rw [Sem.run_bind, run_eqGuard_agg u .eql 37 x y _ _ (by kernel_rfl)]
    rfl
  rw [h, run_eql_struct, eq37]
  rfl
theorem neq37 {x y : Operand} (a b c d : Int) (u : World) : (do eqGuard .neq 37 x y (.agg #[.int .u64 a, .int .i64 b]) (.agg #[.int .u64 c, .int .i64 d]); binOp .neq 37 (.agg #[.int .u64 a, .int .i64 b]) (.agg #[.int .u64 c, .int .i64 d]) : Sem Value).run Try.prog u = .ok (.bool (!(a == c && b == d))) u := by
  have h : (do eqGuard .neq 37 x y (.agg #[.int .u64 a, .int .i64 b]) (.agg #[.int .u64 c, .int .i64 d]); binOp .neq 37 (.agg #[.int .u64 a, .int .i64 b]) (.agg #[.int .u64 c, .int .i64 d]) : Sem Value).run Try.prog u = (binOp .neq 37 (.agg #[.int .u64 a, .int .i64 b]) (.agg #[.int .u64 c, .int .i64 d])).run Try.prog u := by
    rw [Sem.run_bind, run_eqGuard_agg u .neq 37 x y _ _ (by kernel_rfl)]
    rfl
  rw [h, run_neq_struct, eq37]
  rfl
theorem built28 (h l : Int) : Try.prog.built 28 [(0, .int .i64 h), (1, .int .u64 l)] = some [Value.int .i64 h, .int .u64 l].toArray := by kernel_rfl
theorem built370 : Try.prog.built 37 [] = some [Value.int .u64 0, .int .i64 0].toArray := by kernel_rfl
theorem built371 (s : Int) : Try.prog.built 37 [(0, .int .u64 s)] = some [Value.int .u64 s, .int .i64 0].toArray := by kernel_rfl
theorem fail_fin (H : Int) (l s : Nat) (ta now : Int) (q : Nat) (T : Int) (w : World) (hH : H ≤ 9223372036854775807) (hA : -9223372036854775808 ≤ ta) (hA2 : ta ≤ 9223372036854775807) (hn : now ≤ 9223372036854775807) (hs : Fnt s) (hq : pl (nowS H s ta now) = q) (hT : nowA H ta now = T) :
    Calls Try.prog 16 #[.agg #[.int .i64 H, .int .u64 (l : Int)], .agg #[.int .u64 (s : Int), .int .i64 ta], .int .i64 now] w fun e w' => e = .returned (.agg #[.int .u64 (q : Int), .int .i64 T]) ∧ w.grownBy w' none :=
  (fail_any H l s ta now w hH hA hA2 hn).mono fun e w' h => by
    obtain ⟨r, h1, h2, h3⟩ := h
    rw [h2 hs, hq, hT] at h1
    exact ⟨h1, h3⟩
theorem locked_fin (H : Int) (l s : Nat) (ta now : Int) (g : Bool) (w : World) (hH : H ≤ 9223372036854775807) (hA : -9223372036854775808 ≤ ta) (hA2 : ta ≤ 9223372036854775807) (hn : now ≤ 9223372036854775807) (hs : Fnt s) (hl : Fnt l) (hg : decide (l ≤ nowS H s ta now) = g) :
    Calls Try.prog 19 #[.agg #[.int .i64 H, .int .u64 (l : Int)], .agg #[.int .u64 (s : Int), .int .i64 ta], .int .i64 now] w fun e w' => e = .returned (.bool g) ∧ w.grownBy w' none :=
  (locked_any H l s ta now w hH hA hA2 hn).mono fun e w' h => by
    obtain ⟨r, h1, h2, h3⟩ := h
    rw [h2 hs hl, hg] at h1
    exact ⟨h1, h3⟩
theorem wk_fail1 : pl (nowS 10 0 0 4) = 4607182418800017408 ∧ nowA 10 0 4 = 0 := by decide +kernel
theorem wk_fail2 : pl (nowS 10 4607182418800017408 0 9) = 4611686018427387904 ∧ nowA 10 0 9 = 0 := by decide +kernel
theorem wk_fail3 : pl (nowS 10 4611686018427387904 0 9) = 4613937818241073152 := by decide +kernel
theorem wk_l9 : decide (4613937818241073152 ≤ nowS 10 4613937818241073152 0 9) = true := by decide +kernel
theorem wk_l10 : decide (4613937818241073152 ≤ nowS 10 4613937818241073152 0 10) = false := by decide +kernel
theorem wk_ck : ckR 10 4613937818241073152 = 0 := by decide +kernel
theorem wk_wait {x : Int} {b : Bool} (h : waitIs 10 4613937818241073152 4613937818241073152 0 4 x b) : x = 6 ∧ b = true := by
  have e1 : nowS 10 4613937818241073152 0 4 = 4613937818241073152 := by decide +kernel
  have e2 : nowA 10 0 4 = 0 := by decide +kernel
  have e3 : isHB 4613937818241073152 4613937818241073152 1 := ⟨fun j hj => by have : j = 0 := by omega
                                                                              subst this; exact Nat.le_refl _, by decide +kernel⟩
  have e4 : max (10 : Int) 1 = 10 := by decide
  unfold waitIs at h
  rw [e1, e2, e4] at h
  rcases h with ⟨h, _⟩ | ⟨_, k, hk, h⟩
  · omega
  · have := hk.eq e3
    subst this
    rcases h with ⟨_, _, h1, h2⟩ | ⟨h, _⟩
    · exact ⟨by rw [h1]; rfl, h2⟩
    · exact absurd ⟨by omega, by omega⟩ h
def C3 : List Value := [.int .i64 10, .int .u64 4613937818241073152]
def M3 : List Value := [.int .u64 4613937818241073152, .int .i64 0]
theorem run_not (b : Bool) (u : World) : (Op.unary .not (.bool b)).run Try.prog u = .ok (.bool (!b)) u := by cases b <;> rfl
set_option maxRecDepth 100000 in
set_option maxHeartbeats 1600000 in
theorem wakes_any (w : World) : Calls Try.prog 11 #[] w fun e w' => e = .returned (.bool true) ∧ w.grownBy w' none := by
  have HF1 := hid (fun u => fail_fin 10 4613937818241073152 0 0 4 4607182418800017408 0 u (by omega) (by omega) (by omega) (by omega) (by unfold Fnt; omega) wk_fail1.1 wk_fail1.2)
  have HF2 := hid (fun u => fail_fin 10 4613937818241073152 4607182418800017408 0 9 4611686018427387904 0 u (by omega) (by omega) (by omega) (by omega) (by unfold Fnt; omega) wk_fail2.1 wk_fail2.2)
  have HF3 := hid (fun u => fail_fin 10 4613937818241073152 4611686018427387904 0 9 4613937818241073152 0 u (by omega) (by omega) (by omega) (by omega) (by unfold Fnt; omega) wk_fail3 wk_fail2.2)
  have HL9 := hid (fun u => locked_fin 10 4613937818241073152 4613937818241073152 0 9 true u (by omega) (by omega) (by omega) (by omega) (by unfold Fnt; omega) (by unfold Fnt; omega) wk_l9)
  have HL10 := hid (fun u => locked_fin 10 4613937818241073152 4613937818241073152 0 10 false u (by omega) (by omega) (by omega) (by omega) (by unfold Fnt; omega) (by unfold Fnt; omega) wk_l10)
  have HCk := hid (fun u => check_any 10 4613937818241073152 (by omega) u)
  rw [wk_ck] at HCk
  have HWt := hid (fun u => (wait_any 10 4613937818241073152 4613937818241073152 0 4 u (by omega) (by omega) (by omega) (by omega) (by omega)).mono (R' := fun e w' => e = .returned (.tuple #[.int .i64 6, .bool true]) ∧ u.grownBy w' none) fun e w' h => by
    obtain ⟨x, b, h1, h2, h3⟩ := h
    obtain ⟨rfl, rfl⟩ := wk_wait (h2 (by unfold Fnt; omega) (by unfold Fnt; omega) (by omega))
    exact ⟨h1, h3⟩)
  go_enter Try.func11, Try.ntmps11
  go_upto_region 2 with (first
    | (have := HG1; clear this; (with_reducible refine wpList_store_all (by with_unfolding_all rfl) 28 _ _ (by with_unfolding_all rfl) _ [.int .i64 0, .int .u64 0] [.int .i64 10, .int .u64 4613937818241073152] 28 (by with_unfolding_all rfl) (by with_unfolding_all rfl) HC1.out (by with_unfolding_all rfl) (by with_unfolding_all exact Try.size28) (one2 _ _ _ _) ?_); intro w2 B2 g2 s2; have HC2 := hid B2; have HG2 := hid (HG1.out.andThen g2 (fun j hj => .inl (by injection hj with hj; omega))); clear B2 g2 s2)
    | (with_reducible refine wpList_build_of (by with_unfolding_all rfl) 28 _ (by with_unfolding_all rfl) [(0, .int .i64 10), (1, .int .u64 4613937818241073152)] (by with_unfolding_all rfl) [.int .i64 10, .int .u64 4613937818241073152] (built28 _ _) ?_)
    | ((with_reducible refine wpList_alloc_row (by with_unfolding_all rfl) 28 (by with_unfolding_all rfl) [.int .i64 0, .int .u64 0] Try.zero28 ?_); intro w1 B1 s1 g1; have HC1 := hid B1; have HG1 := hid g1; clear B1 s1 g1))
  obtain ⟨p1, hp1⟩ : ∃ x, w.heap.size = x := ⟨_, rfl⟩
  rw [hp1] at HC2
  simp only [hp1]
  have HP1 : Hid (w.heap.size ≤ p1) := hid (by omega)
  clear hp1 HC1 HG1
  go_wp2_with fail
  refine wp_region_list (by kernel_rfl) [fun v _ => v = (Value.agg [Value.int .i64 10, Value.int .u64 4613937818241073152].toArray), fun v _ => v = (Value.agg [Value.int .i64 10, Value.int .u64 4613937818241073152].toArray), fun v _ => v = (Value.agg [Value.int .i64 10, Value.int .u64 4613937818241073152].toArray), fun v _ => v = (Value.agg [Value.int .u64 0, Value.int .i64 0].toArray), fun v _ => v = (Value.agg [Value.int .u64 4607182418800017408, Value.int .i64 0].toArray), fun v _ => v = (Value.agg [Value.int .u64 4611686018427387904, Value.int .i64 0].toArray), fun v _ => v = (Value.agg [Value.int .u64 4613937818241073152, Value.int .i64 0].toArray), fun v u => ∃ b, v = Value.pointer (some ⟨b, 0, none⟩) ∧ Blk u b [Value.int .u64 0, Value.int .i64 0] 37 ∧ w2.heap.size ≤ b] (none) (fun _ => none) 8 (by kernel_rfl) (by kernel_rfl) (by kernel_rfl) (by kernel_rfl) (by decide) noRow_one (fun _ => .inl rfl) ⟨fun i v u u' hki h hg => h, fun i v u u' hki h hg => h, fun i v u u' hki h hg => h, fun i v u u' hki h hg => h, fun i v u u' hki h hg => h, fun i v u u' hki h hg => h, fun i v u u' hki h hg => h, fun i v u u' hki h hg => (by obtain ⟨b, e, hb, hl⟩ := h; exact ⟨b, e, hb.keep hg, hl⟩), trivial⟩ ⟨?_, ?_, ?_, ?_, ?_, ?_, ?_, ?_, trivial⟩ ?_
  · intro A u hu hpu hsz hout hdeps
    have e1 : A.eval (.tmp 1) = (.pointer (some ⟨p1, 0, none⟩)) := (hout 1 (by kernel_rfl)).trans rfl
    refine ifw_none rfl ?_
    with_reducible refine shown_q (Value.agg [Value.int .i64 10, Value.int .u64 4613937818241073152].toArray) ?qq_1_0 (fun _ _ => ?qr_1_0)
    case qr_1_0 => exact (rfl : (Value.agg [Value.int .i64 10, Value.int .u64 4613937818241073152].toArray) = (Value.agg [Value.int .i64 10, Value.int .u64 4613937818241073152].toArray))
    with_reducible refine quietAt_load 28 (.tmp 1) ?h0_1_0 p1 0 [Value.int .i64 10, Value.int .u64 4613937818241073152] (.struct (Try.prog.fieldsOf 28)) ?h1_1_0 ?h2_1_0 ?h3_1_0 ?h4_1_0 ?h5_1_0
    case h0_1_0 => rfl
    case h1_1_0 => exact e1
    case h2_1_0 => exact (HC2.out.keep hu).whole
    case h3_1_0 => exact Try.underlying28
    case h4_1_0 => rfl
    case h5_1_0 => exact Try.size28
  · intro A u hu hpu hsz hout hdeps
    have e1 : A.eval (.tmp 1) = (.pointer (some ⟨p1, 0, none⟩)) := (hout 1 (by kernel_rfl)).trans rfl
    refine ifw_none rfl ?_
    with_reducible refine shown_q (Value.agg [Value.int .i64 10, Value.int .u64 4613937818241073152].toArray) ?qq_1_1 (fun _ _ => ?qr_1_1)
    case qr_1_1 => exact (rfl : (Value.agg [Value.int .i64 10, Value.int .u64 4613937818241073152].toArray) = (Value.agg [Value.int .i64 10, Value.int .u64 4613937818241073152].toArray))
    with_reducible refine quietAt_load 28 (.tmp 1) ?h0_1_1 p1 0 [Value.int .i64 10, Value.int .u64 4613937818241073152] (.struct (Try.prog.fieldsOf 28)) ?h1_1_1 ?h2_1_1 ?h3_1_1 ?h4_1_1 ?h5_1_1
    case h0_1_1 => rfl
    case h1_1_1 => exact e1
    case h2_1_1 => exact (HC2.out.keep hu).whole
    case h3_1_1 => exact Try.underlying28
    case h4_1_1 => rfl
    case h5_1_1 => exact Try.size28
  · intro A u hu hpu hsz hout hdeps
    have e1 : A.eval (.tmp 1) = (.pointer (some ⟨p1, 0, none⟩)) := (hout 1 (by kernel_rfl)).trans rfl
    refine ifw_none rfl ?_
    with_reducible refine shown_q (Value.agg [Value.int .i64 10, Value.int .u64 4613937818241073152].toArray) ?qq_1_2 (fun _ _ => ?qr_1_2)
    case qr_1_2 => exact (rfl : (Value.agg [Value.int .i64 10, Value.int .u64 4613937818241073152].toArray) = (Value.agg [Value.int .i64 10, Value.int .u64 4613937818241073152].toArray))
    with_reducible refine quietAt_load 28 (.tmp 1) ?h0_1_2 p1 0 [Value.int .i64 10, Value.int .u64 4613937818241073152] (.struct (Try.prog.fieldsOf 28)) ?h1_1_2 ?h2_1_2 ?h3_1_2 ?h4_1_2 ?h5_1_2
    case h0_1_2 => rfl
    case h1_1_2 => exact e1
    case h2_1_2 => exact (HC2.out.keep hu).whole
    case h3_1_2 => exact Try.underlying28
    case h4_1_2 => rfl
    case h5_1_2 => exact Try.size28
  · intro A u hu hpu hsz hout hdeps
    refine ifw_none rfl ?_
    with_reducible refine shown_q (Value.agg [Value.int .u64 0, Value.int .i64 0].toArray) ?qq_1_3 (fun _ _ => ?qr_1_3)
    case qr_1_3 => exact (rfl : (Value.agg [Value.int .u64 0, Value.int .i64 0].toArray) = (Value.agg [Value.int .u64 0, Value.int .i64 0].toArray))
    with_reducible refine quietAt_build 37 #[] ?h0_1_3 [] ?h1_1_3 [.int .u64 0, .int .i64 0] ?h2_1_3
    case h0_1_3 => rfl
    case h1_1_3 => simp only [List.map_toArray, List.map_nil]
    case h2_1_3 => exact built370
  · intro A u hu hpu hsz hout hdeps
    have e9 : A.eval (.tmp 9) = (.agg [.int .i64 10, .int .u64 4613937818241073152].toArray) := by have h := depL hdeps 2 (by kernel_rfl) 9 (by kernel_rfl); exact h
    have e10 : A.eval (.tmp 10) = (.agg [.int .u64 0, .int .i64 0].toArray) := by have h := depL hdeps 3 (by kernel_rfl) 10 (by kernel_rfl); exact h
    refine ifw_none rfl ?_
    with_reducible refine shown_q (Value.agg [Value.int .u64 4607182418800017408, Value.int .i64 0].toArray) ?qq_1_4 (fun _ _ => ?qr_1_4)
    case qr_1_4 => exact (rfl : (Value.agg [Value.int .u64 4607182418800017408, Value.int .i64 0].toArray) = (Value.agg [Value.int .u64 4607182418800017408, Value.int .i64 0].toArray))
    with_reducible refine quietAt_call 16 Try.f16 ?h0_1_4 ?h1_1_4 ?h2_1_4 #[.tmp 9, .tmp 10, .const (.int .i64 4)] #[28, 37, 2] ?h3_1_4 (Value.agg [Value.int .u64 4607182418800017408, Value.int .i64 0].toArray) #[(Value.agg [Value.int .i64 10, Value.int .u64 4613937818241073152].toArray), (Value.agg [Value.int .u64 0, Value.int .i64 0].toArray), (Value.int .i64 4)] ?h4_1_4 ?h5_1_4
    case h0_1_4 => exact Try.func16
    case h1_1_4 => kernel_rfl
    case h2_1_4 => kernel_rfl
    case h3_1_4 => rfl
    case h4_1_4 => exact map3 _ _ _ _ _ _ _ e9 e10 rfl
    case h5_1_4 => exact HF1.out u
  · intro A u hu hpu hsz hout hdeps
    have e8 : A.eval (.tmp 8) = (.agg [.int .i64 10, .int .u64 4613937818241073152].toArray) := by have h := depL hdeps 1 (by kernel_rfl) 8 (by kernel_rfl); exact h
    have e11 : A.eval (.tmp 11) = (.agg [.int .u64 4607182418800017408, .int .i64 0].toArray) := by have h := depL hdeps 4 (by kernel_rfl) 11 (by kernel_rfl); exact h
    refine ifw_none rfl ?_
    with_reducible refine shown_q (Value.agg [Value.int .u64 4611686018427387904, Value.int .i64 0].toArray) ?qq_1_5 (fun _ _ => ?qr_1_5)
    case qr_1_5 => exact (rfl : (Value.agg [Value.int .u64 4611686018427387904, Value.int .i64 0].toArray) = (Value.agg [Value.int .u64 4611686018427387904, Value.int .i64 0].toArray))
    with_reducible refine quietAt_call 16 Try.f16 ?h0_1_5 ?h1_1_5 ?h2_1_5 #[.tmp 8, .tmp 11, .const (.int .i64 9)] #[28, 37, 2] ?h3_1_5 (Value.agg [Value.int .u64 4611686018427387904, Value.int .i64 0].toArray) #[(Value.agg [Value.int .i64 10, Value.int .u64 4613937818241073152].toArray), (Value.agg [Value.int .u64 4607182418800017408, Value.int .i64 0].toArray), (Value.int .i64 9)] ?h4_1_5 ?h5_1_5
    case h0_1_5 => exact Try.func16
    case h1_1_5 => kernel_rfl
    case h2_1_5 => kernel_rfl
    case h3_1_5 => rfl
    case h4_1_5 => exact map3 _ _ _ _ _ _ _ e8 e11 rfl
    case h5_1_5 => exact HF2.out u
  · intro A u hu hpu hsz hout hdeps
    have e7 : A.eval (.tmp 7) = (.agg [.int .i64 10, .int .u64 4613937818241073152].toArray) := by have h := depL hdeps 0 (by kernel_rfl) 7 (by kernel_rfl); exact h
    have e12 : A.eval (.tmp 12) = (.agg [.int .u64 4611686018427387904, .int .i64 0].toArray) := by have h := depL hdeps 5 (by kernel_rfl) 12 (by kernel_rfl); exact h
    refine ifw_none rfl ?_
    with_reducible refine shown_q (Value.agg [Value.int .u64 4613937818241073152, Value.int .i64 0].toArray) ?qq_1_6 (fun _ _ => ?qr_1_6)
    case qr_1_6 => exact (rfl : (Value.agg [Value.int .u64 4613937818241073152, Value.int .i64 0].toArray) = (Value.agg [Value.int .u64 4613937818241073152, Value.int .i64 0].toArray))
    with_reducible refine quietAt_call 16 Try.f16 ?h0_1_6 ?h1_1_6 ?h2_1_6 #[.tmp 7, .tmp 12, .const (.int .i64 9)] #[28, 37, 2] ?h3_1_6 (Value.agg [Value.int .u64 4613937818241073152, Value.int .i64 0].toArray) #[(Value.agg [Value.int .i64 10, Value.int .u64 4613937818241073152].toArray), (Value.agg [Value.int .u64 4611686018427387904, Value.int .i64 0].toArray), (Value.int .i64 9)] ?h4_1_6 ?h5_1_6
    case h0_1_6 => exact Try.func16
    case h1_1_6 => kernel_rfl
    case h2_1_6 => kernel_rfl
    case h3_1_6 => rfl
    case h4_1_6 => exact map3 _ _ _ _ _ _ _ e7 e12 rfl
    case h5_1_6 => exact HF3.out u
  · intro A u hu hpu hsz hout hdeps
    refine ifw_none rfl ?_
    exact shown_alloc 37 rfl [.int .u64 0, .int .i64 0] Try.zero37 (fun w' h _ => ⟨u.heap.size, rfl, h, hu.size⟩)
  · intro A w3 listed hh hall
    have hA := hh.frame
    have HU := hid hh.grown
    obtain ⟨x7, hx7⟩ : ∃ x, A.eval (.tmp 7) = x := ⟨_, rfl⟩
    have f7 : (fun v _ => v = (Value.agg [Value.int .i64 10, Value.int .u64 4613937818241073152].toArray)) x7 w3 := by rw [← hx7]; exact hh.got 0 _ 7 rfl rfl (hall 0 (by decide))
    obtain ⟨x8, hx8⟩ : ∃ x, A.eval (.tmp 8) = x := ⟨_, rfl⟩
    have f8 : (fun v _ => v = (Value.agg [Value.int .i64 10, Value.int .u64 4613937818241073152].toArray)) x8 w3 := by rw [← hx8]; exact hh.got 1 _ 8 rfl rfl (hall 1 (by decide))
    obtain ⟨x9, hx9⟩ : ∃ x, A.eval (.tmp 9) = x := ⟨_, rfl⟩
    have f9 : (fun v _ => v = (Value.agg [Value.int .i64 10, Value.int .u64 4613937818241073152].toArray)) x9 w3 := by rw [← hx9]; exact hh.got 2 _ 9 rfl rfl (hall 2 (by decide))
    obtain ⟨x10, hx10⟩ : ∃ x, A.eval (.tmp 10) = x := ⟨_, rfl⟩
    have f10 : (fun v _ => v = (Value.agg [Value.int .u64 0, Value.int .i64 0].toArray)) x10 w3 := by rw [← hx10]; exact hh.got 3 _ 10 rfl rfl (hall 3 (by decide))
    obtain ⟨x11, hx11⟩ : ∃ x, A.eval (.tmp 11) = x := ⟨_, rfl⟩
    have f11 : (fun v _ => v = (Value.agg [Value.int .u64 4607182418800017408, Value.int .i64 0].toArray)) x11 w3 := by rw [← hx11]; exact hh.got 4 _ 11 rfl rfl (hall 4 (by decide))
    obtain ⟨x12, hx12⟩ : ∃ x, A.eval (.tmp 12) = x := ⟨_, rfl⟩
    have f12 : (fun v _ => v = (Value.agg [Value.int .u64 4611686018427387904, Value.int .i64 0].toArray)) x12 w3 := by rw [← hx12]; exact hh.got 5 _ 12 rfl rfl (hall 5 (by decide))
    obtain ⟨x13, hx13⟩ : ∃ x, A.eval (.tmp 13) = x := ⟨_, rfl⟩
    have f13 : (fun v _ => v = (Value.agg [Value.int .u64 4613937818241073152, Value.int .i64 0].toArray)) x13 w3 := by rw [← hx13]; exact hh.got 6 _ 13 rfl rfl (hall 6 (by decide))
    obtain ⟨x2, hx2⟩ : ∃ x, A.eval (.tmp 2) = x := ⟨_, rfl⟩
    have f2 : (fun v u => ∃ b, v = Value.pointer (some ⟨b, 0, none⟩) ∧ Blk u b [Value.int .u64 0, Value.int .i64 0] 37 ∧ w2.heap.size ≤ b) x2 w3 := by rw [← hx2]; exact hh.got 7 _ 2 rfl rfl (hall 7 (by decide))
    dsimp only [wrote, List.foldl] at hA
    rw [hx7, hx8, hx9, hx10, hx11, hx12, hx13, hx2] at hA
    clear hh hall hx7 hx8 hx9 hx10 hx11 hx12 hx13 hx2
    replace f7 := (f7 : x7 = (.agg [.int .i64 10, .int .u64 4613937818241073152].toArray))
    subst f7
    replace f8 := (f8 : x8 = (.agg [.int .i64 10, .int .u64 4613937818241073152].toArray))
    subst f8
    replace f9 := (f9 : x9 = (.agg [.int .i64 10, .int .u64 4613937818241073152].toArray))
    subst f9
    replace f10 := (f10 : x10 = (.agg [.int .u64 0, .int .i64 0].toArray))
    subst f10
    replace f11 := (f11 : x11 = (.agg [.int .u64 4607182418800017408, .int .i64 0].toArray))
    subst f11
    replace f12 := (f12 : x12 = (.agg [.int .u64 4611686018427387904, .int .i64 0].toArray))
    subst f12
    replace f13 := (f13 : x13 = (.agg [.int .u64 4613937818241073152, .int .i64 0].toArray))
    subst f13
    obtain ⟨p2, e2, hb2, hl2⟩ := f2
    subst e2
    subst hA
    show wpList _ _ _ [_] _ _
    simp only [Act.put, List.setIfInBounds_toArray, List.set_cons_succ, List.set_cons_zero]
    have HC3 := hid (HC2.out.keep HU.out)
    have HZ3 := hid hb2
    have HL3 := hid hl2
    have HG3 := hid (gtrans HG2.out HU.out)
    clear hb2 hl2
    go_wp2_with (first
      | (have := HG4; clear this; (with_reducible refine wpList_load_part (by with_unfolding_all rfl) 28 _ (by with_unfolding_all rfl) _ 0 [.int .i64 10, .int .u64 4613937818241073152] _ (by with_unfolding_all rfl) HC4.out.whole Try.underlying28 (by with_unfolding_all rfl) (by with_unfolding_all exact Try.size28) ?_))
      | (have := HG4; clear this; (with_reducible refine wpList_load_part (by with_unfolding_all rfl) 37 _ (by with_unfolding_all rfl) _ 0 [.int .u64 4613937818241073152, .int .i64 0] _ (by with_unfolding_all rfl) HM4.out.whole Try.underlying37 (by with_unfolding_all rfl) (by with_unfolding_all exact Try.size37) ?_))
      | ((with_reducible refine wpList_store_all (by with_unfolding_all rfl) 37 _ _ (by with_unfolding_all rfl) _ [.int .u64 0, .int .i64 0] [.int .u64 4613937818241073152, .int .i64 0] 37 (by with_unfolding_all rfl) (by with_unfolding_all rfl) HZ3.out (by with_unfolding_all rfl) (by with_unfolding_all exact Try.size37) (one2 _ _ _ _) ?_); intro w4 B4 g4 s4; have HM4 := hid B4; have HC4 := hid (HC3.out.on g4 (by have h1 := HC2.out.lt; have h2 := HL3.out; simp; omega)); have HG4 := hid (HG3.out.andThen g4 (fun j hj => .inl (by injection hj with hj; have h1 := HL3.out; have h2 := HG2.out.size; omega))); clear B4 g4 s4))
    refine (HWt.out _).mono ?_
    rintro e w5 ⟨rfl, hg5⟩
    have HCW := hid (HC4.out.keep hg5)
    have HMW := hid (HM4.out.keep hg5)
    have HG5 := hid (gtrans HG4.out hg5)
    clear hg5 HC2 HC3 HC4 HM4 HZ3 HL3 HG2 HG3 HG4 HU HF1 HF2 HF3 HWt
    go_wp2_with fail
    refine wp_region_list (by kernel_rfl) [fun v _ => v = (Value.agg [Value.int .i64 10, Value.int .u64 4613937818241073152].toArray), fun v _ => v = (Value.int .i64 0), fun v _ => v = (Value.int .i64 0), fun v _ => v = (Value.bool true), fun v _ => v = (Value.bool true), fun v _ => v = (Value.agg [Value.int .u64 4613937818241073152, Value.int .i64 0].toArray), fun v _ => v = (Value.int .u64 4613937818241073152), fun v _ => v = (Value.agg [Value.int .u64 4613937818241073152, Value.int .i64 0].toArray), fun v _ => v = (Value.bool true), fun v _ => v = (Value.bool true), fun v _ => v = (Value.bool true), fun v _ => v = (Value.agg [Value.int .i64 10, Value.int .u64 4613937818241073152].toArray), fun v _ => v = (Value.agg [Value.int .u64 4613937818241073152, Value.int .i64 0].toArray), fun v _ => v = (Value.bool true), fun v _ => v = (Value.bool true), fun v _ => v = (Value.bool true), fun v _ => v = (Value.agg [Value.int .i64 10, Value.int .u64 4613937818241073152].toArray), fun v _ => v = (Value.agg [Value.int .u64 4613937818241073152, Value.int .i64 0].toArray), fun v _ => v = (Value.bool false), fun v _ => v = (Value.bool true), fun v _ => v = (Value.bool true), fun v _ => v = (Value.bool true), fun v _ => v = (Value.int .i64 6), fun v _ => v = (Value.bool true), fun v _ => v = (Value.bool true), fun v _ => v = (Value.bool true), fun v _ => v = (Value.bool true), fun v _ => v = (Value.bool true), fun v _ => v = (Value.bool true)] (none) (fun _ => none) 29 (by kernel_rfl) (by kernel_rfl) (by kernel_rfl) (by kernel_rfl) (by decide) noRow_one (fun _ => .inl rfl) ⟨fun i v u u' hki h hg => h, fun i v u u' hki h hg => h, fun i v u u' hki h hg => h, fun i v u u' hki h hg => h, fun i v u u' hki h hg => h, fun i v u u' hki h hg => h, fun i v u u' hki h hg => h, fun i v u u' hki h hg => h, fun i v u u' hki h hg => h, fun i v u u' hki h hg => h, fun i v u u' hki h hg => h, fun i v u u' hki h hg => h, fun i v u u' hki h hg => h, fun i v u u' hki h hg => h, fun i v u u' hki h hg => h, fun i v u u' hki h hg => h, fun i v u u' hki h hg => h, fun i v u u' hki h hg => h, fun i v u u' hki h hg => h, fun i v u u' hki h hg => h, fun i v u u' hki h hg => h, fun i v u u' hki h hg => h, fun i v u u' hki h hg => h, fun i v u u' hki h hg => h, fun i v u u' hki h hg => h, fun i v u u' hki h hg => h, fun i v u u' hki h hg => h, fun i v u u' hki h hg => h, fun i v u u' hki h hg => h, trivial⟩ ⟨?_, ?_, ?_, ?_, ?_, ?_, ?_, ?_, ?_, ?_, ?_, ?_, ?_, ?_, ?_, ?_, ?_, ?_, ?_, ?_, ?_, ?_, ?_, ?_, ?_, ?_, ?_, ?_, ?_, trivial⟩ ?_
    · intro A u hu hpu hsz hout hdeps
      have e1 : A.eval (.tmp 1) = (.pointer (some ⟨p1, 0, none⟩)) := (hout 1 (by kernel_rfl)).trans rfl
      refine ifw_none rfl ?_
      with_reducible refine shown_q (Value.agg [Value.int .i64 10, Value.int .u64 4613937818241073152].toArray) ?qq_2_0 (fun _ _ => ?qr_2_0)
      case qr_2_0 => exact (rfl : (Value.agg [Value.int .i64 10, Value.int .u64 4613937818241073152].toArray) = (Value.agg [Value.int .i64 10, Value.int .u64 4613937818241073152].toArray))
      with_reducible refine quietAt_load 28 (.tmp 1) ?h0_2_0 p1 0 [Value.int .i64 10, Value.int .u64 4613937818241073152] (.struct (Try.prog.fieldsOf 28)) ?h1_2_0 ?h2_2_0 ?h3_2_0 ?h4_2_0 ?h5_2_0
      case h0_2_0 => rfl
      case h1_2_0 => exact e1
      case h2_2_0 => exact (HCW.out.keep hu).whole
      case h3_2_0 => exact Try.underlying28
      case h4_2_0 => rfl
      case h5_2_0 => exact Try.size28
    · intro A u hu hpu hsz hout hdeps
      have e20 : A.eval (.tmp 20) = (.agg [.int .i64 10, .int .u64 4613937818241073152].toArray) := by have h := depL hdeps 0 (by kernel_rfl) 20 (by kernel_rfl); exact h
      refine ifw_none rfl ?_
      with_reducible refine shown_q (Value.int .i64 0) ?qq_2_1 (fun _ _ => ?qr_2_1)
      case qr_2_1 => exact (rfl : (Value.int .i64 0) = (Value.int .i64 0))
      with_reducible refine quietAt_call 9 Try.f9 ?h0_2_1 ?h1_2_1 ?h2_2_1 #[.tmp 20] #[28] ?h3_2_1 (Value.int .i64 0) #[(Value.agg [Value.int .i64 10, Value.int .u64 4613937818241073152].toArray)] ?h4_2_1 ?h5_2_1
      case h0_2_1 => exact Try.func9
      case h1_2_1 => kernel_rfl
      case h2_2_1 => kernel_rfl
      case h3_2_1 => rfl
      case h4_2_1 => exact map1 _ _ _ e20
      case h5_2_1 => exact HCk.out u
    · intro A u hu hpu hsz hout hdeps
      have e21 : A.eval (.tmp 21) = (.int .i64 0) := by have h := depL hdeps 1 (by kernel_rfl) 21 (by kernel_rfl); exact h
      refine ifw_none rfl ?_
      with_reducible refine shown_q (Value.int .i64 0) ?qq_2_2 (fun _ _ => ?qr_2_2)
      case qr_2_2 => exact (rfl : (Value.int .i64 0) = (Value.int .i64 0))
      with_reducible refine quietAt_call 8 Try.f8 ?h0_2_2 ?h1_2_2 ?h2_2_2 #[.tmp 21] #[24] ?h3_2_2 (Value.int .i64 0) #[(Value.int .i64 0)] ?h4_2_2 ?h5_2_2
      case h0_2_2 => exact Try.func8
      case h1_2_2 => kernel_rfl
      case h2_2_2 => kernel_rfl
      case h3_2_2 => rfl
      case h4_2_2 => exact map1 _ _ _ e21
      case h5_2_2 => exact (num_any 0 u).mono (fun e w' h => ⟨h.1, by rw [h.2]; exact grefl _ _⟩)
    · intro A u hu hpu hsz hout hdeps
      have e22 : A.eval (.tmp 22) = (.int .i64 0) := by have h := depL hdeps 2 (by kernel_rfl) 22 (by kernel_rfl); exact h
      refine ifw_none rfl ?_
      with_reducible refine shown_q (Value.bool true) ?qq_2_3 (fun _ _ => ?qr_2_3)
      case qr_2_3 => exact (rfl : (Value.bool true) = (Value.bool true))
      with_reducible refine quietAt_bin .eql 3 (.tmp 22) (.const (.int .i64 0)) 3 (Value.int .i64 0) (Value.int .i64 0) (Value.bool true) ?h0_2_3 ?h1_2_3 ?h2_2_3 ?h3_2_3
      case h0_2_3 => rfl
      case h1_2_3 => exact e22
      case h2_2_3 => exact rfl
      case h3_2_3 => exact (by go_simp)
    · intro A u hu hpu hsz hout hdeps
      have e23 : A.eval (.tmp 23) = (.bool true) := by have h := depL hdeps 3 (by kernel_rfl) 23 (by kernel_rfl); exact h
      refine ifw_none rfl ?_
      with_reducible refine shown_q (Value.bool true) ?qq_2_4 (fun _ _ => ?qr_2_4)
      case qr_2_4 => exact (rfl : (Value.bool true) = (Value.bool true))
      with_reducible refine quietAt_mv (.tmp 23) (Value.bool true) ?h0_2_4 ?h1_2_4
      case h0_2_4 => rfl
      case h1_2_4 => exact e23
    · intro A u hu hpu hsz hout hdeps
      have e24 : A.eval (.tmp 24) = (.bool true) := by have h := depL hdeps 4 (by kernel_rfl) 24 (by kernel_rfl); exact h
      have e2 : A.eval (.tmp 2) = (.pointer (some ⟨p2, 0, none⟩)) := (hout 2 (by kernel_rfl)).trans rfl
      refine ifw_want 4 true 24 rfl rfl e24 ?_
      with_reducible refine shown_q (Value.agg [Value.int .u64 4613937818241073152, Value.int .i64 0].toArray) ?qq_2_5 (fun _ _ => ?qr_2_5)
      case qr_2_5 => exact (rfl : (Value.agg [Value.int .u64 4613937818241073152, Value.int .i64 0].toArray) = (Value.agg [Value.int .u64 4613937818241073152, Value.int .i64 0].toArray))
      with_reducible refine quietAt_load 37 (.tmp 2) ?h0_2_5 p2 0 [Value.int .u64 4613937818241073152, Value.int .i64 0] (.struct (Try.prog.fieldsOf 37)) ?h1_2_5 ?h2_2_5 ?h3_2_5 ?h4_2_5 ?h5_2_5
      case h0_2_5 => rfl
      case h1_2_5 => exact e2
      case h2_2_5 => exact (HMW.out.keep hu).whole
      case h3_2_5 => exact Try.underlying37
      case h4_2_5 => rfl
      case h5_2_5 => exact Try.size37
    · intro A u hu hpu hsz hout hdeps
      have e24 : A.eval (.tmp 24) = (.bool true) := by have h := depL hdeps 4 (by kernel_rfl) 24 (by kernel_rfl); exact h
      refine ifw_want 4 true 24 rfl rfl e24 ?_
      with_reducible refine shown_q (Value.int .u64 4613937818241073152) ?qq_2_6 (fun _ _ => ?qr_2_6)
      case qr_2_6 => exact (rfl : (Value.int .u64 4613937818241073152) = (Value.int .u64 4613937818241073152))
      with_reducible refine quietAt_ext 26 #[.const (.float FloatKind.f64 4613937818241073152)] #[49] ?h0_2_6 (Value.int .u64 4613937818241073152) #[(Value.float FloatKind.f64 4613937818241073152)] ?h1_2_6 ?h2_2_6
      case h0_2_6 => rfl
      case h1_2_6 => exact map1 _ _ _ rfl
      case h2_2_6 => exact (call26 4613937818241073152 u)
    · intro A u hu hpu hsz hout hdeps
      have e24 : A.eval (.tmp 24) = (.bool true) := by have h := depL hdeps 4 (by kernel_rfl) 24 (by kernel_rfl); exact h
      have e26 : A.eval (.tmp 26) = (.int .u64 4613937818241073152) := by have h := depL hdeps 6 (by kernel_rfl) 26 (by kernel_rfl); exact h
      refine ifw_want 4 true 24 rfl rfl e24 ?_
      with_reducible refine shown_q (Value.agg [Value.int .u64 4613937818241073152, Value.int .i64 0].toArray) ?qq_2_7 (fun _ _ => ?qr_2_7)
      case qr_2_7 => exact (rfl : (Value.agg [Value.int .u64 4613937818241073152, Value.int .i64 0].toArray) = (Value.agg [Value.int .u64 4613937818241073152, Value.int .i64 0].toArray))
      with_reducible refine quietAt_build 37 #[(0, .tmp 26)] ?h0_2_7 [(0, (Value.int .u64 4613937818241073152))] ?h1_2_7 [.int .u64 4613937818241073152, .int .i64 0] ?h2_2_7
      case h0_2_7 => rfl
      case h1_2_7 => simp only [List.map_toArray, List.map_cons, List.map_nil, e26]
      case h2_2_7 => exact built371 _
    · intro A u hu hpu hsz hout hdeps
      have e24 : A.eval (.tmp 24) = (.bool true) := by have h := depL hdeps 4 (by kernel_rfl) 24 (by kernel_rfl); exact h
      have e25 : A.eval (.tmp 25) = (.agg [.int .u64 4613937818241073152, .int .i64 0].toArray) := by have h := depL hdeps 5 (by kernel_rfl) 25 (by kernel_rfl); exact h
      have e27 : A.eval (.tmp 27) = (.agg [.int .u64 4613937818241073152, .int .i64 0].toArray) := by have h := depL hdeps 7 (by kernel_rfl) 27 (by kernel_rfl); exact h
      refine ifw_want 4 true 24 rfl rfl e24 ?_
      with_reducible refine shown_q (Value.bool true) ?qq_2_8 (fun _ _ => ?qr_2_8)
      case qr_2_8 => exact (rfl : (Value.bool true) = (Value.bool true))
      with_reducible refine quietAt_bin .eql 37 (.tmp 25) (.tmp 27) 37 (Value.agg [Value.int .u64 4613937818241073152, Value.int .i64 0].toArray) (Value.agg [Value.int .u64 4613937818241073152, Value.int .i64 0].toArray) (Value.bool true) ?h0_2_8 ?h1_2_8 ?h2_2_8 ?h3_2_8
      case h0_2_8 => rfl
      case h1_2_8 => exact e25
      case h2_2_8 => exact e27
      case h3_2_8 => exact (by rw [eql37]; rfl)
    · intro A u hu hpu hsz hout hdeps
      have e24 : A.eval (.tmp 24) = (.bool true) := by have h := depL hdeps 4 (by kernel_rfl) 24 (by kernel_rfl); exact h
      have e28 : A.eval (.tmp 28) = (.bool true) := by have h := depL hdeps 8 (by kernel_rfl) 28 (by kernel_rfl); exact h
      refine ifw_none rfl ?_
      with_reducible refine shown_q (Value.bool true) ?qq_2_9 (fun _ _ => ?qr_2_9)
      case qr_2_9 => exact (rfl : (Value.bool true) = (Value.bool true))
      with_reducible refine quietAt_pick (.tmp 24) (.tmp 28) (.const (.bool false)) true (Value.bool true) ?h0_2_9 ?h1_2_9 ?h2_2_9
      case h0_2_9 => rfl
      case h1_2_9 => exact e24
      case h2_2_9 => rw [if_pos rfl]; exact e28
    · intro A u hu hpu hsz hout hdeps
      have e29 : A.eval (.tmp 29) = (.bool true) := by have h := depL hdeps 9 (by kernel_rfl) 29 (by kernel_rfl); exact h
      refine ifw_none rfl ?_
      with_reducible refine shown_q (Value.bool true) ?qq_2_10 (fun _ _ => ?qr_2_10)
      case qr_2_10 => exact (rfl : (Value.bool true) = (Value.bool true))
      with_reducible refine quietAt_mv (.tmp 29) (Value.bool true) ?h0_2_10 ?h1_2_10
      case h0_2_10 => rfl
      case h1_2_10 => exact e29
    · intro A u hu hpu hsz hout hdeps
      have e30 : A.eval (.tmp 30) = (.bool true) := by have h := depL hdeps 10 (by kernel_rfl) 30 (by kernel_rfl); exact h
      have e1 : A.eval (.tmp 1) = (.pointer (some ⟨p1, 0, none⟩)) := (hout 1 (by kernel_rfl)).trans rfl
      refine ifw_want 10 true 30 rfl rfl e30 ?_
      with_reducible refine shown_q (Value.agg [Value.int .i64 10, Value.int .u64 4613937818241073152].toArray) ?qq_2_11 (fun _ _ => ?qr_2_11)
      case qr_2_11 => exact (rfl : (Value.agg [Value.int .i64 10, Value.int .u64 4613937818241073152].toArray) = (Value.agg [Value.int .i64 10, Value.int .u64 4613937818241073152].toArray))
      with_reducible refine quietAt_load 28 (.tmp 1) ?h0_2_11 p1 0 [Value.int .i64 10, Value.int .u64 4613937818241073152] (.struct (Try.prog.fieldsOf 28)) ?h1_2_11 ?h2_2_11 ?h3_2_11 ?h4_2_11 ?h5_2_11
      case h0_2_11 => rfl
      case h1_2_11 => exact e1
      case h2_2_11 => exact (HCW.out.keep hu).whole
      case h3_2_11 => exact Try.underlying28
      case h4_2_11 => rfl
      case h5_2_11 => exact Try.size28
    · intro A u hu hpu hsz hout hdeps
      have e30 : A.eval (.tmp 30) = (.bool true) := by have h := depL hdeps 10 (by kernel_rfl) 30 (by kernel_rfl); exact h
      have e2 : A.eval (.tmp 2) = (.pointer (some ⟨p2, 0, none⟩)) := (hout 2 (by kernel_rfl)).trans rfl
      refine ifw_want 10 true 30 rfl rfl e30 ?_
      with_reducible refine shown_q (Value.agg [Value.int .u64 4613937818241073152, Value.int .i64 0].toArray) ?qq_2_12 (fun _ _ => ?qr_2_12)
      case qr_2_12 => exact (rfl : (Value.agg [Value.int .u64 4613937818241073152, Value.int .i64 0].toArray) = (Value.agg [Value.int .u64 4613937818241073152, Value.int .i64 0].toArray))
      with_reducible refine quietAt_load 37 (.tmp 2) ?h0_2_12 p2 0 [Value.int .u64 4613937818241073152, Value.int .i64 0] (.struct (Try.prog.fieldsOf 37)) ?h1_2_12 ?h2_2_12 ?h3_2_12 ?h4_2_12 ?h5_2_12
      case h0_2_12 => rfl
      case h1_2_12 => exact e2
      case h2_2_12 => exact (HMW.out.keep hu).whole
      case h3_2_12 => exact Try.underlying37
      case h4_2_12 => rfl
      case h5_2_12 => exact Try.size37
    · intro A u hu hpu hsz hout hdeps
      have e30 : A.eval (.tmp 30) = (.bool true) := by have h := depL hdeps 10 (by kernel_rfl) 30 (by kernel_rfl); exact h
      have e31 : A.eval (.tmp 31) = (.agg [.int .i64 10, .int .u64 4613937818241073152].toArray) := by have h := depL hdeps 11 (by kernel_rfl) 31 (by kernel_rfl); exact h
      have e32 : A.eval (.tmp 32) = (.agg [.int .u64 4613937818241073152, .int .i64 0].toArray) := by have h := depL hdeps 12 (by kernel_rfl) 32 (by kernel_rfl); exact h
      refine ifw_want 10 true 30 rfl rfl e30 ?_
      with_reducible refine shown_q (Value.bool true) ?qq_2_13 (fun _ _ => ?qr_2_13)
      case qr_2_13 => exact (rfl : (Value.bool true) = (Value.bool true))
      with_reducible refine quietAt_call 19 Try.f19 ?h0_2_13 ?h1_2_13 ?h2_2_13 #[.tmp 31, .tmp 32, .const (.int .i64 9)] #[28, 37, 2] ?h3_2_13 (Value.bool true) #[(Value.agg [Value.int .i64 10, Value.int .u64 4613937818241073152].toArray), (Value.agg [Value.int .u64 4613937818241073152, Value.int .i64 0].toArray), (Value.int .i64 9)] ?h4_2_13 ?h5_2_13
      case h0_2_13 => exact Try.func19
      case h1_2_13 => kernel_rfl
      case h2_2_13 => kernel_rfl
      case h3_2_13 => rfl
      case h4_2_13 => exact map3 _ _ _ _ _ _ _ e31 e32 rfl
      case h5_2_13 => exact HL9.out u
    · intro A u hu hpu hsz hout hdeps
      have e30 : A.eval (.tmp 30) = (.bool true) := by have h := depL hdeps 10 (by kernel_rfl) 30 (by kernel_rfl); exact h
      have e33 : A.eval (.tmp 33) = (.bool true) := by have h := depL hdeps 13 (by kernel_rfl) 33 (by kernel_rfl); exact h
      refine ifw_none rfl ?_
      with_reducible refine shown_q (Value.bool true) ?qq_2_14 (fun _ _ => ?qr_2_14)
      case qr_2_14 => exact (rfl : (Value.bool true) = (Value.bool true))
      with_reducible refine quietAt_pick (.tmp 30) (.tmp 33) (.const (.bool false)) true (Value.bool true) ?h0_2_14 ?h1_2_14 ?h2_2_14
      case h0_2_14 => rfl
      case h1_2_14 => exact e30
      case h2_2_14 => rw [if_pos rfl]; exact e33
    · intro A u hu hpu hsz hout hdeps
      have e34 : A.eval (.tmp 34) = (.bool true) := by have h := depL hdeps 14 (by kernel_rfl) 34 (by kernel_rfl); exact h
      refine ifw_none rfl ?_
      with_reducible refine shown_q (Value.bool true) ?qq_2_15 (fun _ _ => ?qr_2_15)
      case qr_2_15 => exact (rfl : (Value.bool true) = (Value.bool true))
      with_reducible refine quietAt_mv (.tmp 34) (Value.bool true) ?h0_2_15 ?h1_2_15
      case h0_2_15 => rfl
      case h1_2_15 => exact e34
    · intro A u hu hpu hsz hout hdeps
      have e35 : A.eval (.tmp 35) = (.bool true) := by have h := depL hdeps 15 (by kernel_rfl) 35 (by kernel_rfl); exact h
      have e1 : A.eval (.tmp 1) = (.pointer (some ⟨p1, 0, none⟩)) := (hout 1 (by kernel_rfl)).trans rfl
      refine ifw_want 15 true 35 rfl rfl e35 ?_
      with_reducible refine shown_q (Value.agg [Value.int .i64 10, Value.int .u64 4613937818241073152].toArray) ?qq_2_16 (fun _ _ => ?qr_2_16)
      case qr_2_16 => exact (rfl : (Value.agg [Value.int .i64 10, Value.int .u64 4613937818241073152].toArray) = (Value.agg [Value.int .i64 10, Value.int .u64 4613937818241073152].toArray))
      with_reducible refine quietAt_load 28 (.tmp 1) ?h0_2_16 p1 0 [Value.int .i64 10, Value.int .u64 4613937818241073152] (.struct (Try.prog.fieldsOf 28)) ?h1_2_16 ?h2_2_16 ?h3_2_16 ?h4_2_16 ?h5_2_16
      case h0_2_16 => rfl
      case h1_2_16 => exact e1
      case h2_2_16 => exact (HCW.out.keep hu).whole
      case h3_2_16 => exact Try.underlying28
      case h4_2_16 => rfl
      case h5_2_16 => exact Try.size28
    · intro A u hu hpu hsz hout hdeps
      have e35 : A.eval (.tmp 35) = (.bool true) := by have h := depL hdeps 15 (by kernel_rfl) 35 (by kernel_rfl); exact h
      have e2 : A.eval (.tmp 2) = (.pointer (some ⟨p2, 0, none⟩)) := (hout 2 (by kernel_rfl)).trans rfl
      refine ifw_want 15 true 35 rfl rfl e35 ?_
      with_reducible refine shown_q (Value.agg [Value.int .u64 4613937818241073152, Value.int .i64 0].toArray) ?qq_2_17 (fun _ _ => ?qr_2_17)
      case qr_2_17 => exact (rfl : (Value.agg [Value.int .u64 4613937818241073152, Value.int .i64 0].toArray) = (Value.agg [Value.int .u64 4613937818241073152, Value.int .i64 0].toArray))
      with_reducible refine quietAt_load 37 (.tmp 2) ?h0_2_17 p2 0 [Value.int .u64 4613937818241073152, Value.int .i64 0] (.struct (Try.prog.fieldsOf 37)) ?h1_2_17 ?h2_2_17 ?h3_2_17 ?h4_2_17 ?h5_2_17
      case h0_2_17 => rfl
      case h1_2_17 => exact e2
      case h2_2_17 => exact (HMW.out.keep hu).whole
      case h3_2_17 => exact Try.underlying37
      case h4_2_17 => rfl
      case h5_2_17 => exact Try.size37
    · intro A u hu hpu hsz hout hdeps
      have e35 : A.eval (.tmp 35) = (.bool true) := by have h := depL hdeps 15 (by kernel_rfl) 35 (by kernel_rfl); exact h
      have e36 : A.eval (.tmp 36) = (.agg [.int .i64 10, .int .u64 4613937818241073152].toArray) := by have h := depL hdeps 16 (by kernel_rfl) 36 (by kernel_rfl); exact h
      have e37 : A.eval (.tmp 37) = (.agg [.int .u64 4613937818241073152, .int .i64 0].toArray) := by have h := depL hdeps 17 (by kernel_rfl) 37 (by kernel_rfl); exact h
      refine ifw_want 15 true 35 rfl rfl e35 ?_
      with_reducible refine shown_q (Value.bool false) ?qq_2_18 (fun _ _ => ?qr_2_18)
      case qr_2_18 => exact (rfl : (Value.bool false) = (Value.bool false))
      with_reducible refine quietAt_call 19 Try.f19 ?h0_2_18 ?h1_2_18 ?h2_2_18 #[.tmp 36, .tmp 37, .const (.int .i64 10)] #[28, 37, 2] ?h3_2_18 (Value.bool false) #[(Value.agg [Value.int .i64 10, Value.int .u64 4613937818241073152].toArray), (Value.agg [Value.int .u64 4613937818241073152, Value.int .i64 0].toArray), (Value.int .i64 10)] ?h4_2_18 ?h5_2_18
      case h0_2_18 => exact Try.func19
      case h1_2_18 => kernel_rfl
      case h2_2_18 => kernel_rfl
      case h3_2_18 => rfl
      case h4_2_18 => exact map3 _ _ _ _ _ _ _ e36 e37 rfl
      case h5_2_18 => exact HL10.out u
    · intro A u hu hpu hsz hout hdeps
      have e35 : A.eval (.tmp 35) = (.bool true) := by have h := depL hdeps 15 (by kernel_rfl) 35 (by kernel_rfl); exact h
      have e38 : A.eval (.tmp 38) = (.bool false) := by have h := depL hdeps 18 (by kernel_rfl) 38 (by kernel_rfl); exact h
      refine ifw_want 15 true 35 rfl rfl e35 ?_
      with_reducible refine shown_q (Value.bool true) ?qq_2_19 (fun _ _ => ?qr_2_19)
      case qr_2_19 => exact (rfl : (Value.bool true) = (Value.bool true))
      with_reducible refine quietAt_un .not 4 (.tmp 38) (Value.bool false) (Value.bool true) ?h0_2_19 ?h1_2_19 ?h2_2_19
      case h0_2_19 => rfl
      case h1_2_19 => exact e38
      case h2_2_19 => rfl
    · intro A u hu hpu hsz hout hdeps
      have e35 : A.eval (.tmp 35) = (.bool true) := by have h := depL hdeps 15 (by kernel_rfl) 35 (by kernel_rfl); exact h
      have e39 : A.eval (.tmp 39) = (.bool true) := by have h := depL hdeps 19 (by kernel_rfl) 39 (by kernel_rfl); exact h
      refine ifw_none rfl ?_
      with_reducible refine shown_q (Value.bool true) ?qq_2_20 (fun _ _ => ?qr_2_20)
      case qr_2_20 => exact (rfl : (Value.bool true) = (Value.bool true))
      with_reducible refine quietAt_pick (.tmp 35) (.tmp 39) (.const (.bool false)) true (Value.bool true) ?h0_2_20 ?h1_2_20 ?h2_2_20
      case h0_2_20 => rfl
      case h1_2_20 => exact e35
      case h2_2_20 => rw [if_pos rfl]; exact e39
    · intro A u hu hpu hsz hout hdeps
      have e40 : A.eval (.tmp 40) = (.bool true) := by have h := depL hdeps 20 (by kernel_rfl) 40 (by kernel_rfl); exact h
      refine ifw_none rfl ?_
      with_reducible refine shown_q (Value.bool true) ?qq_2_21 (fun _ _ => ?qr_2_21)
      case qr_2_21 => exact (rfl : (Value.bool true) = (Value.bool true))
      with_reducible refine quietAt_mv (.tmp 40) (Value.bool true) ?h0_2_21 ?h1_2_21
      case h0_2_21 => rfl
      case h1_2_21 => exact e40
    · intro A u hu hpu hsz hout hdeps
      have e41 : A.eval (.tmp 41) = (.bool true) := by have h := depL hdeps 21 (by kernel_rfl) 41 (by kernel_rfl); exact h
      have e3 : A.eval (.tmp 3) = (.int .i64 6) := (hout 3 (by kernel_rfl)).trans rfl
      refine ifw_want 21 true 41 rfl rfl e41 ?_
      with_reducible refine shown_q (Value.int .i64 6) ?qq_2_22 (fun _ _ => ?qr_2_22)
      case qr_2_22 => exact (rfl : (Value.int .i64 6) = (Value.int .i64 6))
      with_reducible refine quietAt_mv (.tmp 3) (Value.int .i64 6) ?h0_2_22 ?h1_2_22
      case h0_2_22 => rfl
      case h1_2_22 => exact e3
    · intro A u hu hpu hsz hout hdeps
      have e41 : A.eval (.tmp 41) = (.bool true) := by have h := depL hdeps 21 (by kernel_rfl) 41 (by kernel_rfl); exact h
      have e42 : A.eval (.tmp 42) = (.int .i64 6) := by have h := depL hdeps 22 (by kernel_rfl) 42 (by kernel_rfl); exact h
      refine ifw_want 21 true 41 rfl rfl e41 ?_
      with_reducible refine shown_q (Value.bool true) ?qq_2_23 (fun _ _ => ?qr_2_23)
      case qr_2_23 => exact (rfl : (Value.bool true) = (Value.bool true))
      with_reducible refine quietAt_bin .eql 2 (.tmp 42) (.const (.int .i64 6)) 2 (Value.int .i64 6) (Value.int .i64 6) (Value.bool true) ?h0_2_23 ?h1_2_23 ?h2_2_23 ?h3_2_23
      case h0_2_23 => rfl
      case h1_2_23 => exact e42
      case h2_2_23 => exact rfl
      case h3_2_23 => exact (by go_simp)
    · intro A u hu hpu hsz hout hdeps
      have e41 : A.eval (.tmp 41) = (.bool true) := by have h := depL hdeps 21 (by kernel_rfl) 41 (by kernel_rfl); exact h
      have e43 : A.eval (.tmp 43) = (.bool true) := by have h := depL hdeps 23 (by kernel_rfl) 43 (by kernel_rfl); exact h
      refine ifw_none rfl ?_
      with_reducible refine shown_q (Value.bool true) ?qq_2_24 (fun _ _ => ?qr_2_24)
      case qr_2_24 => exact (rfl : (Value.bool true) = (Value.bool true))
      with_reducible refine quietAt_pick (.tmp 41) (.tmp 43) (.const (.bool false)) true (Value.bool true) ?h0_2_24 ?h1_2_24 ?h2_2_24
      case h0_2_24 => rfl
      case h1_2_24 => exact e41
      case h2_2_24 => rw [if_pos rfl]; exact e43
    · intro A u hu hpu hsz hout hdeps
      have e44 : A.eval (.tmp 44) = (.bool true) := by have h := depL hdeps 24 (by kernel_rfl) 44 (by kernel_rfl); exact h
      refine ifw_none rfl ?_
      with_reducible refine shown_q (Value.bool true) ?qq_2_25 (fun _ _ => ?qr_2_25)
      case qr_2_25 => exact (rfl : (Value.bool true) = (Value.bool true))
      with_reducible refine quietAt_mv (.tmp 44) (Value.bool true) ?h0_2_25 ?h1_2_25
      case h0_2_25 => rfl
      case h1_2_25 => exact e44
    · intro A u hu hpu hsz hout hdeps
      have e45 : A.eval (.tmp 45) = (.bool true) := by have h := depL hdeps 25 (by kernel_rfl) 45 (by kernel_rfl); exact h
      have e4 : A.eval (.tmp 4) = (.bool true) := (hout 4 (by kernel_rfl)).trans rfl
      refine ifw_want 25 true 45 rfl rfl e45 ?_
      with_reducible refine shown_q (Value.bool true) ?qq_2_26 (fun _ _ => ?qr_2_26)
      case qr_2_26 => exact (rfl : (Value.bool true) = (Value.bool true))
      with_reducible refine quietAt_mv (.tmp 4) (Value.bool true) ?h0_2_26 ?h1_2_26
      case h0_2_26 => rfl
      case h1_2_26 => exact e4
    · intro A u hu hpu hsz hout hdeps
      have e45 : A.eval (.tmp 45) = (.bool true) := by have h := depL hdeps 25 (by kernel_rfl) 45 (by kernel_rfl); exact h
      have e46 : A.eval (.tmp 46) = (.bool true) := by have h := depL hdeps 26 (by kernel_rfl) 46 (by kernel_rfl); exact h
      refine ifw_none rfl ?_
      with_reducible refine shown_q (Value.bool true) ?qq_2_27 (fun _ _ => ?qr_2_27)
      case qr_2_27 => exact (rfl : (Value.bool true) = (Value.bool true))
      with_reducible refine quietAt_pick (.tmp 45) (.tmp 46) (.const (.bool false)) true (Value.bool true) ?h0_2_27 ?h1_2_27 ?h2_2_27
      case h0_2_27 => rfl
      case h1_2_27 => exact e45
      case h2_2_27 => rw [if_pos rfl]; exact e46
    · intro A u hu hpu hsz hout hdeps
      have e47 : A.eval (.tmp 47) = (.bool true) := by have h := depL hdeps 27 (by kernel_rfl) 47 (by kernel_rfl); exact h
      refine ifw_none rfl ?_
      with_reducible refine shown_q (Value.bool true) ?qq_2_28 (fun _ _ => ?qr_2_28)
      case qr_2_28 => exact (rfl : (Value.bool true) = (Value.bool true))
      with_reducible refine quietAt_as (.tmp 47) (Value.bool true) ?h0_2_28 ?h1_2_28
      case h0_2_28 => rfl
      case h1_2_28 => exact e47
    · intro A w6 listed hh hall
      have hA := hh.frame
      have HU := hid hh.grown
      obtain ⟨x20, hx20⟩ : ∃ x, A.eval (.tmp 20) = x := ⟨_, rfl⟩
      have f20 : (fun v _ => v = (Value.agg [Value.int .i64 10, Value.int .u64 4613937818241073152].toArray)) x20 w6 := by rw [← hx20]; exact hh.got 0 _ 20 rfl rfl (hall 0 (by decide))
      obtain ⟨x21, hx21⟩ : ∃ x, A.eval (.tmp 21) = x := ⟨_, rfl⟩
      have f21 : (fun v _ => v = (Value.int .i64 0)) x21 w6 := by rw [← hx21]; exact hh.got 1 _ 21 rfl rfl (hall 1 (by decide))
      obtain ⟨x22, hx22⟩ : ∃ x, A.eval (.tmp 22) = x := ⟨_, rfl⟩
      have f22 : (fun v _ => v = (Value.int .i64 0)) x22 w6 := by rw [← hx22]; exact hh.got 2 _ 22 rfl rfl (hall 2 (by decide))
      obtain ⟨x23, hx23⟩ : ∃ x, A.eval (.tmp 23) = x := ⟨_, rfl⟩
      have f23 : (fun v _ => v = (Value.bool true)) x23 w6 := by rw [← hx23]; exact hh.got 3 _ 23 rfl rfl (hall 3 (by decide))
      obtain ⟨x24, hx24⟩ : ∃ x, A.eval (.tmp 24) = x := ⟨_, rfl⟩
      have f24 : (fun v _ => v = (Value.bool true)) x24 w6 := by rw [← hx24]; exact hh.got 4 _ 24 rfl rfl (hall 4 (by decide))
      obtain ⟨x25, hx25⟩ : ∃ x, A.eval (.tmp 25) = x := ⟨_, rfl⟩
      have f25 : (fun v _ => v = (Value.agg [Value.int .u64 4613937818241073152, Value.int .i64 0].toArray)) x25 w6 := by rw [← hx25]; exact hh.got 5 _ 25 rfl rfl (hall 5 (by decide))
      obtain ⟨x26, hx26⟩ : ∃ x, A.eval (.tmp 26) = x := ⟨_, rfl⟩
      have f26 : (fun v _ => v = (Value.int .u64 4613937818241073152)) x26 w6 := by rw [← hx26]; exact hh.got 6 _ 26 rfl rfl (hall 6 (by decide))
      obtain ⟨x27, hx27⟩ : ∃ x, A.eval (.tmp 27) = x := ⟨_, rfl⟩
      have f27 : (fun v _ => v = (Value.agg [Value.int .u64 4613937818241073152, Value.int .i64 0].toArray)) x27 w6 := by rw [← hx27]; exact hh.got 7 _ 27 rfl rfl (hall 7 (by decide))
      obtain ⟨x28, hx28⟩ : ∃ x, A.eval (.tmp 28) = x := ⟨_, rfl⟩
      have f28 : (fun v _ => v = (Value.bool true)) x28 w6 := by rw [← hx28]; exact hh.got 8 _ 28 rfl rfl (hall 8 (by decide))
      obtain ⟨x29, hx29⟩ : ∃ x, A.eval (.tmp 29) = x := ⟨_, rfl⟩
      have f29 : (fun v _ => v = (Value.bool true)) x29 w6 := by rw [← hx29]; exact hh.got 9 _ 29 rfl rfl (hall 9 (by decide))
      obtain ⟨x30, hx30⟩ : ∃ x, A.eval (.tmp 30) = x := ⟨_, rfl⟩
      have f30 : (fun v _ => v = (Value.bool true)) x30 w6 := by rw [← hx30]; exact hh.got 10 _ 30 rfl rfl (hall 10 (by decide))
      obtain ⟨x31, hx31⟩ : ∃ x, A.eval (.tmp 31) = x := ⟨_, rfl⟩
      have f31 : (fun v _ => v = (Value.agg [Value.int .i64 10, Value.int .u64 4613937818241073152].toArray)) x31 w6 := by rw [← hx31]; exact hh.got 11 _ 31 rfl rfl (hall 11 (by decide))
      obtain ⟨x32, hx32⟩ : ∃ x, A.eval (.tmp 32) = x := ⟨_, rfl⟩
      have f32 : (fun v _ => v = (Value.agg [Value.int .u64 4613937818241073152, Value.int .i64 0].toArray)) x32 w6 := by rw [← hx32]; exact hh.got 12 _ 32 rfl rfl (hall 12 (by decide))
      obtain ⟨x33, hx33⟩ : ∃ x, A.eval (.tmp 33) = x := ⟨_, rfl⟩
      have f33 : (fun v _ => v = (Value.bool true)) x33 w6 := by rw [← hx33]; exact hh.got 13 _ 33 rfl rfl (hall 13 (by decide))
      obtain ⟨x34, hx34⟩ : ∃ x, A.eval (.tmp 34) = x := ⟨_, rfl⟩
      have f34 : (fun v _ => v = (Value.bool true)) x34 w6 := by rw [← hx34]; exact hh.got 14 _ 34 rfl rfl (hall 14 (by decide))
      obtain ⟨x35, hx35⟩ : ∃ x, A.eval (.tmp 35) = x := ⟨_, rfl⟩
      have f35 : (fun v _ => v = (Value.bool true)) x35 w6 := by rw [← hx35]; exact hh.got 15 _ 35 rfl rfl (hall 15 (by decide))
      obtain ⟨x36, hx36⟩ : ∃ x, A.eval (.tmp 36) = x := ⟨_, rfl⟩
      have f36 : (fun v _ => v = (Value.agg [Value.int .i64 10, Value.int .u64 4613937818241073152].toArray)) x36 w6 := by rw [← hx36]; exact hh.got 16 _ 36 rfl rfl (hall 16 (by decide))
      obtain ⟨x37, hx37⟩ : ∃ x, A.eval (.tmp 37) = x := ⟨_, rfl⟩
      have f37 : (fun v _ => v = (Value.agg [Value.int .u64 4613937818241073152, Value.int .i64 0].toArray)) x37 w6 := by rw [← hx37]; exact hh.got 17 _ 37 rfl rfl (hall 17 (by decide))
      obtain ⟨x38, hx38⟩ : ∃ x, A.eval (.tmp 38) = x := ⟨_, rfl⟩
      have f38 : (fun v _ => v = (Value.bool false)) x38 w6 := by rw [← hx38]; exact hh.got 18 _ 38 rfl rfl (hall 18 (by decide))
      obtain ⟨x39, hx39⟩ : ∃ x, A.eval (.tmp 39) = x := ⟨_, rfl⟩
      have f39 : (fun v _ => v = (Value.bool true)) x39 w6 := by rw [← hx39]; exact hh.got 19 _ 39 rfl rfl (hall 19 (by decide))
      obtain ⟨x40, hx40⟩ : ∃ x, A.eval (.tmp 40) = x := ⟨_, rfl⟩
      have f40 : (fun v _ => v = (Value.bool true)) x40 w6 := by rw [← hx40]; exact hh.got 20 _ 40 rfl rfl (hall 20 (by decide))
      obtain ⟨x41, hx41⟩ : ∃ x, A.eval (.tmp 41) = x := ⟨_, rfl⟩
      have f41 : (fun v _ => v = (Value.bool true)) x41 w6 := by rw [← hx41]; exact hh.got 21 _ 41 rfl rfl (hall 21 (by decide))
      obtain ⟨x42, hx42⟩ : ∃ x, A.eval (.tmp 42) = x := ⟨_, rfl⟩
      have f42 : (fun v _ => v = (Value.int .i64 6)) x42 w6 := by rw [← hx42]; exact hh.got 22 _ 42 rfl rfl (hall 22 (by decide))
      obtain ⟨x43, hx43⟩ : ∃ x, A.eval (.tmp 43) = x := ⟨_, rfl⟩
      have f43 : (fun v _ => v = (Value.bool true)) x43 w6 := by rw [← hx43]; exact hh.got 23 _ 43 rfl rfl (hall 23 (by decide))
      obtain ⟨x44, hx44⟩ : ∃ x, A.eval (.tmp 44) = x := ⟨_, rfl⟩
      have f44 : (fun v _ => v = (Value.bool true)) x44 w6 := by rw [← hx44]; exact hh.got 24 _ 44 rfl rfl (hall 24 (by decide))
      obtain ⟨x45, hx45⟩ : ∃ x, A.eval (.tmp 45) = x := ⟨_, rfl⟩
      have f45 : (fun v _ => v = (Value.bool true)) x45 w6 := by rw [← hx45]; exact hh.got 25 _ 45 rfl rfl (hall 25 (by decide))
      obtain ⟨x46, hx46⟩ : ∃ x, A.eval (.tmp 46) = x := ⟨_, rfl⟩
      have f46 : (fun v _ => v = (Value.bool true)) x46 w6 := by rw [← hx46]; exact hh.got 26 _ 46 rfl rfl (hall 26 (by decide))
      obtain ⟨x47, hx47⟩ : ∃ x, A.eval (.tmp 47) = x := ⟨_, rfl⟩
      have f47 : (fun v _ => v = (Value.bool true)) x47 w6 := by rw [← hx47]; exact hh.got 27 _ 47 rfl rfl (hall 27 (by decide))
      obtain ⟨x0, hx0⟩ : ∃ x, A.eval (.tmp 0) = x := ⟨_, rfl⟩
      have f0 : (fun v _ => v = (Value.bool true)) x0 w6 := by rw [← hx0]; exact hh.got 28 _ 0 rfl rfl (hall 28 (by decide))
      dsimp only [wrote, List.foldl] at hA
      rw [hx20, hx21, hx22, hx23, hx24, hx25, hx26, hx27, hx28, hx29, hx30, hx31, hx32, hx33, hx34, hx35, hx36, hx37, hx38, hx39, hx40, hx41, hx42, hx43, hx44, hx45, hx46, hx47, hx0] at hA
      clear hh hall hx20 hx21 hx22 hx23 hx24 hx25 hx26 hx27 hx28 hx29 hx30 hx31 hx32 hx33 hx34 hx35 hx36 hx37 hx38 hx39 hx40 hx41 hx42 hx43 hx44 hx45 hx46 hx47 hx0
      replace f20 := (f20 : x20 = (.agg [.int .i64 10, .int .u64 4613937818241073152].toArray))
      subst f20
      replace f21 := (f21 : x21 = (.int .i64 0))
      subst f21
      replace f22 := (f22 : x22 = (.int .i64 0))
      subst f22
      replace f23 := (f23 : x23 = (.bool true))
      subst f23
      replace f24 := (f24 : x24 = (.bool true))
      subst f24
      replace f25 := (f25 : x25 = (.agg [.int .u64 4613937818241073152, .int .i64 0].toArray))
      subst f25
      replace f26 := (f26 : x26 = (.int .u64 4613937818241073152))
      subst f26
      replace f27 := (f27 : x27 = (.agg [.int .u64 4613937818241073152, .int .i64 0].toArray))
      subst f27
      replace f28 := (f28 : x28 = (.bool true))
      subst f28
      replace f29 := (f29 : x29 = (.bool true))
      subst f29
      replace f30 := (f30 : x30 = (.bool true))
      subst f30
      replace f31 := (f31 : x31 = (.agg [.int .i64 10, .int .u64 4613937818241073152].toArray))
      subst f31
      replace f32 := (f32 : x32 = (.agg [.int .u64 4613937818241073152, .int .i64 0].toArray))
      subst f32
      replace f33 := (f33 : x33 = (.bool true))
      subst f33
      replace f34 := (f34 : x34 = (.bool true))
      subst f34
      replace f35 := (f35 : x35 = (.bool true))
      subst f35
      replace f36 := (f36 : x36 = (.agg [.int .i64 10, .int .u64 4613937818241073152].toArray))
      subst f36
      replace f37 := (f37 : x37 = (.agg [.int .u64 4613937818241073152, .int .i64 0].toArray))
      subst f37
      replace f38 := (f38 : x38 = (.bool false))
      subst f38
      replace f39 := (f39 : x39 = (.bool true))
      subst f39
      replace f40 := (f40 : x40 = (.bool true))
      subst f40
      replace f41 := (f41 : x41 = (.bool true))
      subst f41
      replace f42 := (f42 : x42 = (.int .i64 6))
      subst f42
      replace f43 := (f43 : x43 = (.bool true))
      subst f43
      replace f44 := (f44 : x44 = (.bool true))
      subst f44
      replace f45 := (f45 : x45 = (.bool true))
      subst f45
      replace f46 := (f46 : x46 = (.bool true))
      subst f46
      replace f47 := (f47 : x47 = (.bool true))
      subst f47
      replace f0 := (f0 : x0 = (.bool true))
      subst f0
      subst hA
      show wpList _ _ _ [] _ _
      unfold wpList
      simp only [Act.put, List.setIfInBounds_toArray, List.set_cons_succ, List.set_cons_zero]
      go_wp2_with fail
      go_ret
      exact ⟨rfl, gtrans HG5.out HU.out⟩
end Go.Proofs.Ytnbcplpmpocbpaa
