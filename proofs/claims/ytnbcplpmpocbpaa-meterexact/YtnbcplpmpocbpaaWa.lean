/- Leaves: bits and floats, times. What a call tells of a score that is no finite float is left open. -/
import Derived.Test.YtnbcplpmpocbpaaBase
import Derived.Test.YtnbcplpmpocbpaaFl2
import Derived.Laws.Externs
import Derived.Laws.NewFold
namespace Go.Proofs.Ytnbcplpmpocbpaa
open Go Go.RowKit
open Go.RowKit (wrap32 wrap64)

@[go_sem] theorem call25 (n : Int) (w : World) : (callFunc 25 #[.int .u64 n]).run Try.prog w = .ok (.value (.float .f64 n.toNat)) w := by
  rw [run_callFunc_extern Try.func25 (by kernel_rfl) (by kernel_rfl) (by kernel_rfl) (e := Extern.MathFloatBits.float64frombits) (by kernel_rfl)]
  rfl
@[go_sem] theorem call26 (n : Nat) (w : World) : (callFunc 26 #[.float .f64 n]).run Try.prog w = .ok (.value (.int .u64 n)) w := by
  rw [run_callFunc_extern Try.func26 (by kernel_rfl) (by kernel_rfl) (by kernel_rfl) (e := Extern.MathFloatBits.float64bits) (by kernel_rfl)]
  rfl
/-- The bits of a finite float that is not below 0. -/
def Fnt (b : Nat) : Prop := b < 9218868437227405312
def hfN : Nat → Nat → Nat
  | 0, b => b
  | k + 1, b => hf (hfN k b)
theorem hf_fin {b : Nat} (h : Fnt b) : Fnt (hf b) := by
  unfold Fnt hf at *
  split
  · omega
  · split <;> omega
theorem hfN_fin {b : Nat} (h : Fnt b) : ∀ k, Fnt (hfN k b)
  | 0 => h
  | k + 1 => hf_fin (hfN_fin h k)

theorem arith_any (op : BinOp) (ho : op = .add ∨ op = .mul) (b c : Nat) : ∃ (r : World → Nat) (n : World → Nat), ∀ t u, (binOp op t (.float .f64 b) (.float .f64 c)).run Try.prog u = .ok (.float .f64 (r u)) (u.drewN (n u)) := by
  cases hr : floatBits op .f64 b c with
  | some r => exact ⟨fun _ => r, fun _ => 0, fun t u => run_float_arith u op t .f64 b c r hr⟩
  | none =>
    have : ∀ u : World, ∃ r n, ∀ t, (binOp op t (.float .f64 b) (.float .f64 c)).run Try.prog u = .ok (.float .f64 r) (u.drewN n) := by
      intro u
      rcases ho with rfl | rfl
      · have hr' : FloatKind.f64.format.add b c = none := hr
        by_cases hq : (Question.nanBits .f64 b c).forced = true
        · exact ⟨0, 0, fun t => by simp [binOp, Op.floatArith, hr', hq]; rfl⟩
        · exact ⟨(Question.nanBits .f64 b c).cut (u.tape u.drawn (.nanBits .f64 b c)), 1, fun t => by simp [binOp, Op.floatArith, hr', hq]; rfl⟩
      · have hr' : FloatKind.f64.format.mul b c = none := hr
        by_cases hq : (Question.nanBits .f64 b c).forced = true
        · exact ⟨0, 0, fun t => by simp [binOp, Op.floatArith, hr', hq]; rfl⟩
        · exact ⟨(Question.nanBits .f64 b c).cut (u.tape u.drawn (.nanBits .f64 b c)), 1, fun t => by simp [binOp, Op.floatArith, hr', hq]; rfl⟩
    exact ⟨fun u => Classical.choose (this u), fun u => Classical.choose (Classical.choose_spec (this u)), fun t u => Classical.choose_spec (Classical.choose_spec (this u)) t⟩

theorem u64w (x : Int) : IntKind.u64.wrap x = x % 18446744073709551616 := by simp [IntKind.wrap, IntKind.signed, IntKind.bits]
theorem i64w {x : Int} (h1 : -9223372036854775808 ≤ x) (h2 : x ≤ 9223372036854775807) : wrap64 (x % 18446744073709551616) = x := by
  unfold wrap64
  omega
theorem bet_eq {a b : Int} (ha : -9223372036854775808 ≤ a) (hb : b ≤ 9223372036854775807) (hab : a ≤ b) : IntKind.u64.wrap (IntKind.u64.wrap b - IntKind.u64.wrap a) = b - a := by
  rw [u64w, u64w, u64w]; omega
theorem beh_eq {a f : Int} (ha : -9223372036854775808 ≤ a) (hf : 0 ≤ f) (hb : a + f ≤ 9223372036854775807) : wrap64 (IntKind.u64.wrap (IntKind.u64.wrap a + f)) = a + f := by
  rw [u64w, u64w, show (a % 18446744073709551616 + f) % 18446744073709551616 = (a + f) % 18446744073709551616 by omega, i64w (by omega) hb]
theorem sgn_eq {s : Nat} (hs : s < 18446744073709551616) : decide (wrap64 (s : Int) < 0) = decide (9223372036854775808 ≤ s) := by
  refine decide_eq_decide.2 ?_
  unfold wrap64
  omega
theorem Try.zero37 : (Try.prog.info? 37).map (fun i => i.zero) = some (some (.agg [Value.int .u64 0, .int .i64 0].toArray)) := by kernel_rfl
theorem Try.zero28 : (Try.prog.info? 28).map (fun i => i.zero) = some (some (.agg [Value.int .i64 0, .int .u64 0].toArray)) := by kernel_rfl
theorem Try.size37 : (Try.prog.info? 37).map (·.size) = some 2 := by kernel_rfl
theorem Try.size28 : (Try.prog.info? 28).map (·.size) = some 2 := by kernel_rfl
theorem built37 (s a : Int) : Try.prog.built 37 [(0, .int .u64 s), (1, .int .i64 a)] = some [Value.int .u64 s, .int .i64 a].toArray := by kernel_rfl
theorem one2 (k q : IntKind) (s a : Int) : ∀ v ∈ [Value.int k s, .int q a], v.oneCell' = true := by
  intro v hv
  simp at hv
  rcases hv with rfl | rfl <;> rfl
section
variable {P : Program} {ops : Array Oper} {rest : List Oper} {o : Oper} {a : Act} {w : World} {Q : Exit → Act → World → Prop}
theorem wpList_want (hw : Region.wanted o (yielded ops a.tmps) = true) (h : ∀ K : Act → World → Prop, (∀ a w, wpList P ops Q rest a w → K a w) → o.wp P a w K Q) : wpList P ops Q (o :: rest) a w :=   wpList_step fun K hK => by rw [if_pos hw]; exact h K hK
theorem wpList_build_of (hgd : o.guard = none) (t : TypeId) (xs : Array (Nat × Operand)) (ho : o.op = .build t xs) (vs : List (Nat × Value)) (hx : (xs.map fun (i, x) => (i, a.eval x)).toList = vs) (z : List Value) (hz : P.built t vs = some z.toArray)
    (h : wpList P ops Q rest (a.put o.dst (.agg z.toArray)) w) : wpList P ops Q (o :: rest) a w := by
  have e : P.built t (xs.map fun (i, x) => (i, a.eval x)).toList = some z.toArray := by rw [hx]; exact hz
  refine wpList_build hgd t xs ho (by rw [e]; rfl) ?_
  rw [e]
  exact h
end
theorem num_any (e : Int) (w : World) : Calls Try.prog 8 #[.int .i64 e] w fun r w' => r = .returned (.int .i64 e) ∧ w' = w := by
  go_enter Try.func8, Try.ntmps8
  go_wp2
  go_ret
  exact ⟨rfl, rfl⟩
theorem halve_any (b : Nat) (w : World) : Calls Try.prog 38 #[.float .f64 b] w fun e w' => ∃ r, e = .returned (.float .f64 r) ∧ (Fnt b → r = hf b) ∧ w.grownBy w' none := by
  obtain ⟨r, n, hr⟩ := arith_any .mul (.inr rfl) b 4602678819172646912
  have HF : Hid (∀ u, Fnt b → r u = hf b) := hid fun u h => by
    have h1 := run_float_arith (P := Try.prog) u .mul 0 .f64 b _ _ (mul_half b h)
    rw [hr] at h1
    injection h1 with h1
    injection h1
  go_enter Try.func38, Try.ntmps38
  go_wp2
  go_ret
  exact ⟨_, rfl, HF.out _, gdrew _ _ _⟩
theorem scoreOf_any (s a : Int) (w : World) : Calls Try.prog 32 #[.agg #[.int .u64 s, .int .i64 a]] w fun r w' => r = .returned (.float .f64 s.toNat) ∧ w.grownBy w' none := by
  go_enter Try.func32, Try.ntmps32
  go_wp2
  go_ret
  exact ⟨rfl, galloc _ _ _⟩
theorem halfLife_any (h l : Int) (w : World) (hh : h ≤ 9223372036854775807) : Calls Try.prog 29 #[.agg #[.int .i64 h, .int .u64 l]] w fun r w' => r = .returned (.int .u64 (max h 1)) ∧ w.grownBy w' none := by
  by_cases h1 : 1 ≤ h
  · rw [Int.max_eq_left h1]
    go_enter Try.func29, Try.ntmps29
    go_wp2
    all_goals (try omega)
    all_goals (go_ret; exact ⟨rfl, galloc _ _ _⟩)
  · rw [Int.max_eq_right (by omega)]
    go_enter Try.func29, Try.ntmps29
    go_wp2
    all_goals (try omega)
    all_goals (go_ret; exact ⟨rfl, galloc _ _ _⟩)
theorem between_any (a b : Int) (w : World) (ha : -9223372036854775808 ≤ a) (hb : b ≤ 9223372036854775807) (hab : a ≤ b) : Calls Try.prog 28 #[.int .i64 a, .int .i64 b] w fun r w' => r = .returned (.int .u64 (b - a)) ∧ w' = w := by
  go_enter Try.func28, Try.ntmps28
  go_wp2
  go_ret
  exact ⟨ret_int (bet_eq ha hb hab), rfl⟩
theorem behind_any (a f : Int) (w : World) (ha : -9223372036854775808 ≤ a) (hf : 0 ≤ f) (hb : a + f ≤ 9223372036854775807) : Calls Try.prog 33 #[.int .i64 a, .int .u64 f] w fun r w' => r = .returned (.int .i64 (a + f)) ∧ w' = w := by
  go_enter Try.func33, Try.ntmps33
  go_wp2
  go_ret
  exact ⟨ret_int (beh_eq ha hf hb), rfl⟩
theorem meterOf_any (s : Nat) (a : Int) (w : World) : Calls Try.prog 30 #[.float .f64 s, .int .i64 a] w fun r w' => r = .returned (.agg #[.int .u64 s, .int .i64 a]) ∧ w.grownBy w' none := by
  go_enter Try.func30, Try.ntmps30
  go_wp2_with (first
    | ((with_reducible refine wpList_alloc_row (by with_unfolding_all rfl) 37 (by with_unfolding_all rfl) [.int .u64 0, .int .i64 0] Try.zero37 ?_); intro w1 B1 s1 g1; have HB1 := hid B1; have HG1 := hid g1; clear B1 s1 g1)
    | (with_reducible refine wpList_build_of (by with_unfolding_all rfl) 37 _ (by with_unfolding_all rfl) [(0, .int .u64 (s : Int)), (1, .int .i64 a)] (by with_unfolding_all rfl) [.int .u64 (s : Int), .int .i64 a] (built37 s a) ?_)
    | ((with_reducible refine wpList_store_all (by with_unfolding_all rfl) 37 _ _ (by with_unfolding_all rfl) _ [.int .u64 0, .int .i64 0] [.int .u64 (s : Int), .int .i64 a] 37 (by with_unfolding_all rfl) (by with_unfolding_all rfl) HB1.out (by with_unfolding_all rfl) (by with_unfolding_all exact Try.size37) (one2 _ _ _ _) ?_); intro w2 B2 g2 s2; have HB2 := hid B2; have HG2 := hid (HG1.out.andThen g2 (fun j hj => .inl (by injection hj with hj; omega))); clear B2 g2 s2))
  refine bodyPost_ret (results_blk rfl _ w.heap.size 37 [.int .u64 (s : Int), .int .i64 a] _ rfl HB2.out Try.underlying37 rfl Try.size37) rfl ?_
  exact ⟨rfl, HG2.out⟩
theorem signbit_any (s : Nat) (hs : s < 18446744073709551616) (w : World) : Calls Try.prog 37 #[.float .f64 s] w fun r w' => r = .returned (.bool (decide (9223372036854775808 ≤ s))) ∧ w' = w := by
  go_enter Try.func37, Try.ntmps37
  go_wp2
  go_ret
  rw [← sgn_eq hs]
  exact ⟨rfl, rfl⟩
end Go.Proofs.Ytnbcplpmpocbpaa
