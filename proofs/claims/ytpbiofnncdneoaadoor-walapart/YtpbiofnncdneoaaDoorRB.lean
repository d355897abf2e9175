/- The walks of appendNumber, Clone, Copy and of small functions. -/
import Derived.Test.YtpbiofnncdneoaaDoorRA
import Derived.Lib.LazyBuf
namespace Go.Proofs.YtpbiofnncdneoaaDoor
open Go Go.RowKit
open Go.RowKit (wrap32 wrap64)

theorem rbelow_grown {w w' : World} {row : Option Nat} {B : Nat} (hg : w.grownBy w' row) (hB : B ≤ w.heap.size) (hr : ∀ k, row = some k → B ≤ k) : Below B w w' :=
  ⟨hg.os, hg.tape, hg.output, hg.size, fun k hk => hg.block k (by omega) (fun e => by have := hr k e.symm; omega)⟩
theorem Below.size' {B : Nat} {w w' : World} (h : Below B w w') (hB : B ≤ w.heap.size) : B ≤ w'.heap.size := Nat.le_trans hB h.size
theorem lay_byte (N J : Nat) : (N : Int) / 2 ^ (8 * J) % 256 = ((UInt8.ofNat (N / 2 ^ (8 * J))).toNat : Int) := by
  simp

set_option maxRecDepth 100000 in
set_option maxHeartbeats 1000000 in
theorem appendNumber_any (B N k : Nat) (v : Value) (acc : List UInt8) (w : World) (_hN : N < 18446744073709551616) (hk : k ≤ 8) (ho : Out B w v acc) (hB : B ≤ w.heap.size) (hacc : acc.length ≤ 17592186044416) :
    Calls Tryd.prog 45 #[v, .int .u64 N, .int .i64 k] w fun e w' => ∃ v', e = .returned v' ∧ Out B w' v' (acc ++ layL N k) ∧ Below B w w' := by
  have HO := hid ho
  clear ho
  go_enter Tryd.func45, Tryd.ntmps45
  go_wp2_with fail
  go_loopw [0, 7] (fun ov iv wr => ∃ j : Nat, j ≤ k ∧ iv = .int .i64 ((j : Int) - 1) ∧ Hid (Out B wr ov (acc ++ layP N k (k - j))) ∧ Hid (Below B w wr) ∧ B ≤ wr.heap.size) (fun _ iv _ => (intOf iv + 1).toNat)
  case atStart => exact ⟨k, Nat.le_refl _, rfl, by rw [Nat.sub_self]; show Hid (Out B w v (acc ++ [])); rw [List.append_nil]; exact HO, Below.refl _ _, hB⟩
  case round =>
    obtain ⟨j, hj, rfl, HW, HL, hBr⟩ := hrel
    by_cases hj0 : j = 0
    · subst hj0
      have hd : decide ((0 : Int) ≤ ((0 : Nat) : Int) - 1) = false := by decide
      go_wp2_with fail
      go_ret
      exact ⟨_, rfl, HW.out, HL.out⟩
    · obtain ⟨J, rfl⟩ : ∃ J, j = J + 1 := ⟨j - 1, by omega⟩
      have e0 : ((J + 1 : Nat) : Int) - 1 = (J : Int) := by omega
      rw [e0]
      have eb := lay_byte N J
      obtain ⟨c, HC⟩ : ∃ c, Hid (UInt8.ofNat (N / 2 ^ (8 * J)) = c) := ⟨_, hid rfl⟩
      rw [HC.out] at eb
      have t8 : (8 * (J : Int)).toNat = 8 * J := by omega
      have HS := hid (layP_succ N k (k - (J + 1)))
      have HK : Hid (k - 1 - (k - (J + 1)) = J) := hid (by omega)
      have hll : (acc ++ layP N k (k - (J + 1))).length ≤ 17592186044416 + 8 := by rw [List.length_append, layP_length]; omega
      go_wp2_with (at_builtin; refine wpList_append_byte rfl _ _ rfl B wr.heap.size _ c (HW.out.keep (galloc wr _ none)) rfl (litL wr _) (by omega) (by simp; omega) ?_; intro v2 w2 hO2 hg2)
      refine ⟨⟨J, by omega, rfl, ?_, ?_, ?_⟩, by simp only [intOf]; omega⟩
      · rw [show k - J = k - (J + 1) + 1 by omega, HS.out, HK.out, HC.out, ← List.append_assoc]
        exact hid hO2
      · exact hid ((HL.out.trans ((Below.refl _ _).alloc hBr _)).trans (rbelow_grown hg2 (by simp; omega) (fun j hj => HW.out.block j hj)))
      · have := hg2.size
        simp at this
        omega

theorem Rd.eval_own {w : World} {F : Nat → Prop} {v : Value} {l : List UInt8} (h : Rd w F v l) : ∃ a c, v = .slice a l.length c := by
  obtain ⟨a, b, off, c, e, _⟩ := h
  exact ⟨a, c, e⟩
theorem made0 (w : World) : Out w.heap.size (w.alloc (.cells #[] 5)) (.slice (some ⟨w.heap.size, 0, none⟩) 0 0) [] :=
  ⟨rfl, .inr ⟨w.heap.size, 0, #[], rfl, Nat.le_refl _, heap_new w _ _, Nat.le_refl _, by decide, rfl, rfl⟩⟩

set_option maxRecDepth 100000 in
set_option maxHeartbeats 1000000 in
/-- bytes.Clone: the same bytes in a row of its own; nil of nil. -/
theorem rclone_any (l : List UInt8) (F : Nat → Prop) (v : Value) (w : World) (hl : l.length ≤ 17592186044416) (hr : Rd w F v l) :
    Calls Tryd.prog 34 #[v] w fun e w' => ∃ v', e = .returned v' ∧ Out w.heap.size w' v' l ∧ w.grownBy w' none := by
  have HR := hid hr
  obtain ⟨a, b, off, c, rfl, hc, hn, ha, hcell⟩ := hr
  clear hcell
  have hnil := fun w a l c => Go.run_eql_slice_nil (P := Tryd.prog) w 36 5 a l c Tryd.underlying36
  cases a with
  | none =>
    have c0 := hn rfl
    have hl0 : l = [] := List.eq_nil_of_length_eq_zero (by omega)
    subst hl0
    subst c0
    go_enter Tryd.func34, Tryd.ntmps34
    go_wp2_with fail
    go_ret
    exact ⟨_, rfl, Out.nil _ _, grefl _ _⟩
  | some q =>
    clear ha hn
    go_enter Tryd.func34, Tryd.ntmps34
    go_wp2_with (at_builtin; refine wpList_append_rd rfl _ _ rfl w.heap.size F [] l (made0 w) (HR.out.keep (galloc w _ none)) (by simp; omega) (by simp) ?_; intro v2 w2 hO2 hg2 _)
    go_ret
    exact ⟨_, rfl, hO2, (galloc w _ none).andThen hg2 (fun j hj => .inl ((made0 w).block j hj))⟩

set_option maxHeartbeats 400000 in
theorem isSum_any (l m : List UInt8) (F G : Nat → Prop) (v u : Value) (w : World) (hl : l.length ≤ 8) (hm : m.length ≤ 140737488355328) (hv : Rd w F v l) (hu : Rd w G u m) (ht : Tab w) :
    Calls Tryd.prog 53 #[v, u] w fun e w' => e = .returned (.bool (decide (numL l = sumL m))) ∧ w' = w := by
  have H1 := hid (number_any l F v w hl hv)
  have H2 := hid (sum_any m G u w hm hu ht)
  have hb := sumL_lt m
  clear hv hu ht
  generalize sumL m = S at H2 hb
  generalize numL l = N at H1
  have HD : Hid (decide (N = S) = ((N : Int) == (S : Int))) := hid (by by_cases h : N = S <;> simp [h, Int.ofNat_inj])
  go_enter Tryd.func53, Tryd.ntmps53
  go_wp2_with (first
    | (go_at_call 65; refine (H1.out).mono ?_; rintro e w' ⟨rfl, hw⟩; have hw' := hw.symm; clear hw; subst hw')
    | (go_at_call 62; refine (H2.out).mono ?_; rintro e w' ⟨rfl, hw⟩; have hw' := hw.symm; clear hw; subst hw'))
  go_ret
  exact ⟨by rw [HD.out]; rfl, rfl⟩

set_option maxRecDepth 100000 in
set_option maxHeartbeats 1000000 in
theorem appendSum_any (B : Nat) (m : List UInt8) (F : Nat → Prop) (v u : Value) (acc : List UInt8) (w : World) (ho : Out B w v acc) (hB : B ≤ w.heap.size) (hacc : acc.length ≤ 17592186044416) (hm : m.length ≤ 140737488355328) (hu : Rd w F u m) (ht : Tab w) :
    Calls Tryd.prog 46 #[v, u] w fun e w' => ∃ v', e = .returned v' ∧ Out B w' v' (acc ++ layL (sumL m) 4) ∧ Below B w w' := by
  have H2 := hid (sum_any m F u w hm hu ht)
  have hb := sumL_lt m
  have H1 := hid (appendNumber_any B (sumL m) 4 v acc w (by omega) (by decide) ho hB hacc)
  clear hu ht ho
  generalize sumL m = S at H2 hb H1 ⊢
  go_enter Tryd.func46, Tryd.ntmps46
  go_wp2_with (first
    | (go_at_call 62; refine (H2.out).mono ?_; rintro e w' ⟨rfl, hw⟩; have hw' := hw.symm; clear hw; subst hw')
    | (go_at_call 45; refine (H1.out).mono ?_; rintro e w' ⟨v', rfl, hO, hb⟩))
  go_ret
  exact ⟨_, rfl, hO, hb⟩
end Go.Proofs.YtpbiofnncdneoaaDoor
