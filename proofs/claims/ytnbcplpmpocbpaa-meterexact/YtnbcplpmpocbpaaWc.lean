/- Now. -/
import Derived.Test.YtnbcplpmpocbpaaGrow2
import Derived.Deep.Cut
import Derived.Test.YtnbcplpmpocbpaaWb
namespace Go.Proofs.Ytnbcplpmpocbpaa
open Go Go.RowKit
open Go.RowKit (wrap32 wrap64)

theorem map3 (f : Operand → Value) (x y z : Operand) (u v t : Value) (hx : f x = u) (hy : f y = v) (hz : f z = t) : #[x, y, z].map f = #[u, v, t] := by simp [hx, hy, hz]
theorem quietAt_fd {P : Program} {C : World → Prop} {o : Oper} {a : Act} {u : World} (t : TypeId) (x : Operand) (i : Nat) (vx v : Value) (ho : o.op = .field t x i) (hx : a.eval x = vx) (hr : (Instr.field t vx i).run P u = .ok v u) : o.quietAt P a C u v := by
  subst hx
  unfold Oper.quietAt execOp
  simp only [ho]
  rw [Sem.run_bind, hr]
  exact ⟨rfl, rfl⟩
section
variable {P : Program} {C : World → Prop} {o : Oper} {a : Act} {u : World}
theorem quietAt_ext (f : FuncId) (xs : Array Operand) (ts : Array TypeId) (ho : o.op = .call { callee := .value (.func f), args := xs, argTypes := ts }) (v : Value) (args : Array Value) (hargs : xs.map a.eval = args) (hr : (callFunc f args).run P u = .ok (.value v) u) : o.quietAt P a C u v := by
  unfold Oper.quietAt execOp
  simp [ho, resolve, Deferred.ofValue, Act.eval, invoke]
  rw [hargs, hr]
  exact ⟨rfl, rfl⟩
theorem shown_bin {Q : Exit → Act → World → Prop} {Ψ : Value → World → Prop} {row : Option Nat} (op : BinOp) (t : TypeId) (x y : Operand) (ty : TypeId) (vx vy : Value) (ho : o.op = .binOp op t x y ty) (hx : a.eval x = vx) (hy : a.eval y = vy) (v : Value) (n : Nat)
    (hr : (do eqGuard op t x y vx vy; binOp op t vx vy : Sem Value).run P u = .ok v (u.drewN n)) (hΦ : Ψ v (u.drewN n)) : o.wp P a u (fun ta' u' => ∃ v, ta' = a.put o.dst v ∧ u.grownBy u' row ∧ Ψ v u') Q := by
  subst hx hy
  unfold Oper.wp execOp
  simp only [ho]
  rw [Sem.run_bind, hr]
  exact ⟨v, rfl, gdrew _ _ _, hΦ⟩
end
theorem quo64 {x y : Operand} {D M : Int} (h0 : 0 ≤ D) (h1 : 0 < M) (h2 : D < 18446744073709551616) (u : World) : (do eqGuard .quo 26 x y (.int .u64 D) (.int .u64 M); binOp .quo 26 (.int .u64 D) (.int .u64 M) : Sem Value).run Try.prog u = .ok (.int .u64 (D / M)) u := by
  have hM : ¬ M = 0 := by omega
  have hd : D.tdiv M = D / M := Int.tdiv_eq_ediv_of_nonneg h0
  have hw : IntKind.u64.wrap (D / M) = D / M := by
    rw [u64w]
    have := Int.ediv_nonneg h0 (by omega : 0 ≤ M)
    have := Int.ediv_le_self M h0
    omega
  go_simp
theorem mul64 {x y : Operand} {D M : Int} (h0 : 0 ≤ D * M) (h2 : D * M < 18446744073709551616) (u : World) : (do eqGuard .mul 26 x y (.int .u64 D) (.int .u64 M); binOp .mul 26 (.int .u64 D) (.int .u64 M) : Sem Value).run Try.prog u = .ok (.int .u64 (D * M)) u := by
  have hw : IntKind.u64.wrap (D * M) = D * M := by rw [u64w]; omega
  go_simp
theorem ld2 {p : Addr} {ta : Int} {u : World} (h : u.cell? p = some (.int .i64 ta)) : (Instr.loadAt 2 (.pointer (some p))).run Try.prog u = .ok (.int .i64 ta) u := by
  go_simp
theorem ld26 {p : Addr} {ta : Int} {u : World} (h : u.cell? p = some (.int .u64 ta)) : (Instr.loadAt 26 (.pointer (some p))).run Try.prog u = .ok (.int .u64 ta) u := by
  go_simp
theorem scoreOf_nat (s : Nat) (a : Int) (w : World) : Calls Try.prog 32 #[.agg #[.int .u64 s, .int .i64 a]] w fun r w' => r = .returned (.float .f64 s) ∧ w.grownBy w' none := by
  have := scoreOf_any s a w
  rw [Int.toNat_natCast] at this
  exact this

def nowK (H ta now : Int) : Int := (now - ta) / max H 1
def nowS (H : Int) (s : Nat) (ta now : Int) : Nat := if now ≤ ta then s else hfN (nowK H ta now).toNat s
def nowA (H ta now : Int) : Int := if now ≤ ta then ta else ta + nowK H ta now * max H 1
theorem nowK_bd {H ta now : Int} (h : ta < now) : 0 ≤ nowK H ta now ∧ 0 ≤ nowK H ta now * max H 1 ∧ nowK H ta now * max H 1 ≤ now - ta ∧ now - ta < nowK H ta now * max H 1 + max H 1 ∧ nowK H ta now ≤ now - ta := by
  unfold nowK
  have hM : 0 < max H 1 := by omega
  generalize max H 1 = M at *
  have h1 := Int.ediv_nonneg (show 0 ≤ now - ta by omega) (show 0 ≤ M by omega)
  have h2 := Int.mul_ediv_add_emod (now - ta) M
  have h3 := Int.emod_nonneg (now - ta) (show M ≠ 0 by omega)
  have h4 := Int.emod_lt_of_pos (now - ta) hM
  have h5 := Int.mul_nonneg h1 (show 0 ≤ M by omega)
  have h6 := Int.ediv_le_self M (show 0 ≤ now - ta by omega)
  rw [Int.mul_comm] at h2
  refine ⟨h1, h5, by omega, by omega, h6⟩

set_option maxRecDepth 100000 in
set_option maxHeartbeats 800000 in
theorem now_any (H L : Int) (s : Nat) (ta now : Int) (w : World) (hH : H ≤ 9223372036854775807) (hA : -9223372036854775808 ≤ ta) (hA2 : ta ≤ 9223372036854775807) (hn : now ≤ 9223372036854775807) :
    Calls Try.prog 14 #[.agg #[.int .i64 H, .int .u64 L], .agg #[.int .u64 s, .int .i64 ta], .int .i64 now] w fun e w' => ∃ r : Nat, e = .returned (.agg #[.int .u64 r, .int .i64 (nowA H ta now)]) ∧ (Fnt s → r = nowS H s ta now) ∧ w.grownBy w' none := by
  by_cases hle : now ≤ ta
  · have e1 : nowA H ta now = ta := by unfold nowA; rw [if_pos hle]
    have e2 : nowS H s ta now = s := by unfold nowS; rw [if_pos hle]
    rw [e1, e2]
    clear e1 e2 hH hA hA2 hn
    go_enter Try.func14, Try.ntmps14
    go_wp2_with (first
      | ((with_reducible refine wpList_store_all (by with_unfolding_all rfl) 37 _ _ (by with_unfolding_all rfl) _ [.int .u64 0, .int .i64 0] [.int .u64 (s : Int), .int .i64 ta] 37 (by with_unfolding_all rfl) (by with_unfolding_all rfl) HB3.out (by with_unfolding_all rfl) (by with_unfolding_all exact Try.size37) (one2 _ _ _ _) ?_); intro w4 B4 g4 s4; have HB4 := hid B4; have HG4 := hid (HG3.out.andThen g4 (fun j hj => .inl (by injection hj with hj; have := HG2.out.size; omega))); clear B4 g4 s4)
      | (with_reducible refine wpList_load_part (by with_unfolding_all rfl) 37 _ (by with_unfolding_all rfl) _ 0 [.int .u64 (s : Int), .int .i64 ta] _ (by with_unfolding_all rfl) HM3.out.whole Try.underlying37 (by with_unfolding_all rfl) (by with_unfolding_all exact Try.size37) ?_)
      | (have := HG2; clear this; (with_reducible refine wpList_alloc_row (by with_unfolding_all rfl) 37 (by with_unfolding_all rfl) [.int .u64 0, .int .i64 0] Try.zero37 ?_); intro w3 B3 s3 g3; have HB3 := hid B3; have HC3 := hid (HC2.out.keep g3); have HM3 := hid (HB2.out.keep g3); have HG3 := hid (gtrans HG2.out g3); clear B3 s3 g3; have y0 := HM3.out.cell 0; have y1 := HM3.out.cell 1)
      | (have := HG1; clear this; (with_reducible refine wpList_box_row (by with_unfolding_all rfl) 37 _ (by with_unfolding_all rfl) [.int .u64 (s : Int), .int .i64 ta] (by with_unfolding_all rfl) ?_); intro w2 B2 s2 g2; have HB2 := hid B2; have HC2 := hid (HB1.out.keep g2); have HG2 := hid (gtrans HG1.out g2); clear B2 s2 g2)
      | ((with_reducible refine wpList_box_row (by with_unfolding_all rfl) 28 _ (by with_unfolding_all rfl) [.int .i64 H, .int .u64 L] (by with_unfolding_all rfl) ?_); intro w1 B1 s1 g1; have HB1 := hid B1; have HG1 := hid g1; clear B1 s1 g1))
    refine bodyPost_ret (results_blk rfl _ w2.heap.size 37 [.int .u64 (s : Int), .int .i64 ta] _ rfl HB4.out Try.underlying37 rfl Try.size37) rfl ?_
    exact ⟨s, rfl, fun _ => rfl, HG4.out⟩
  · have hK := nowK_bd (H := H) (show ta < now by omega)
    have e1 : nowA H ta now = ta + nowK H ta now * max H 1 := by unfold nowA; rw [if_neg hle]
    have e2 : nowS H s ta now = hfN (nowK H ta now).toNat s := by unfold nowS; rw [if_neg hle]
    rw [e1, e2]
    have HCh := fun u => halfLife_any H L u hH
    have HCb := fun u => between_any ta now u hA hn (by omega)
    have hq : (now - ta) / max H 1 = nowK H ta now := rfl
    obtain ⟨M, hM⟩ : ∃ M, max H 1 = M := ⟨_, rfl⟩
    have hM0 : 0 < M := by omega
    obtain ⟨K, hKK⟩ : ∃ K : Int, nowK H ta now = K := ⟨_, rfl⟩
    rw [hM] at HCh hK hq ⊢
    rw [hKK] at hK hq ⊢
    obtain ⟨k, hk⟩ : ∃ k : Nat, K = k := ⟨K.toNat, by omega⟩
    have HCd := fun u => halved_any s k u (by omega)
    have HCe := fun u => behind_any ta (K * M) u hA (by omega) (by omega)
    have HQ : Hid (∀ (x y : Operand) (u : World), (do eqGuard .quo 26 x y (.int .u64 (now - ta)) (.int .u64 M); binOp .quo 26 (.int .u64 (now - ta)) (.int .u64 M) : Sem Value).run Try.prog u = .ok (.int .u64 K) u) := hid (fun x y u => by have := quo64 (x := x) (y := y) (D := now - ta) (M := M) (by omega) hM0 (by omega) u; rw [hq] at this; exact this)
    have HMu : Hid (∀ (x y : Operand) (u : World), (do eqGuard .mul 26 x y (.int .u64 K) (.int .u64 M); binOp .mul 26 (.int .u64 K) (.int .u64 M) : Sem Value).run Try.prog u = .ok (.int .u64 (K * M)) u) := hid (fun x y u => mul64 (by omega) (by omega) u)
    rw [show K.toNat = k by omega]
    rw [← hk] at HCd
    obtain ⟨D, hD⟩ : ∃ D, now - ta = D := ⟨_, rfl⟩
    obtain ⟨F, hF⟩ : ∃ F, K * M = F := ⟨_, rfl⟩
    obtain ⟨T, hT⟩ : ∃ T, ta + F = T := ⟨_, rfl⟩
    rw [hD] at HCb HQ
    rw [hF] at HCe HMu ⊢
    rw [hT] at HCe ⊢
    have HCH := hid HCh
    have HCB := hid HCb
    have HCD := hid HCd
    have HCE := hid HCe
    clear e1 e2 hK hq hM hKK hk hD hF hT hM0 hH hA hA2 hn HCh HCb HCd HCe
    go_enter Try.func14, Try.ntmps14
    go_upto_region 3 with (first
      | (have := HG2; clear this; (with_reducible refine wpList_alloc_row (by with_unfolding_all rfl) 37 (by with_unfolding_all rfl) [.int .u64 0, .int .i64 0] Try.zero37 ?_); intro w3 B3 s3 g3; have HB3 := hid B3; have HC3 := hid (HC2.out.keep g3); have HM3 := hid (HB2.out.keep g3); have HG3 := hid (gtrans HG2.out g3); clear B3 s3 g3; have y0 := HM3.out.cell 0; have y1 := HM3.out.cell 1)
      | (have := HG1; clear this; (with_reducible refine wpList_box_row (by with_unfolding_all rfl) 37 _ (by with_unfolding_all rfl) [.int .u64 (s : Int), .int .i64 ta] (by with_unfolding_all rfl) ?_); intro w2 B2 s2 g2; have HB2 := hid B2; have HC2 := hid (HB1.out.keep g2); have HG2 := hid (gtrans HG1.out g2); clear B2 s2 g2)
      | ((with_reducible refine wpList_box_row (by with_unfolding_all rfl) 28 _ (by with_unfolding_all rfl) [.int .i64 H, .int .u64 L] (by with_unfolding_all rfl) ?_); intro w1 B1 s1 g1; have HB1 := hid B1; have HG1 := hid g1; clear B1 s1 g1))
    clear y0 y1
    obtain ⟨p3, hp3⟩ : ∃ x, w.heap.size = x := ⟨_, rfl⟩
    obtain ⟨p4, hp4⟩ : ∃ x, w1.heap.size = x := ⟨_, rfl⟩
    obtain ⟨p6, hp6⟩ : ∃ x, w2.heap.size = x := ⟨_, rfl⟩
    rw [hp3] at HC3
    rw [hp4] at HM3
    rw [hp6] at HB3
    simp only [hp3, hp4, hp6]
    have HPn : Hid (w.heap.size ≤ p6 ∧ p6 ≠ p3 ∧ p6 ≠ p4) := hid (by have h1 := HG2.out.size; have h2 := HB1.out.lt; have h3 := HB2.out.lt; have h4 := HC2.out.lt; omega)
    clear hp3 hp4 hp6 HB1 HB2 HC2 HG1 HG2
    go_wp2_with fail
    refine wp_region_list (by kernel_rfl) [fun v _ => v = (Value.pointer (some ⟨p4, 1, none⟩)), fun v _ => v = (Value.int .i64 ta), fun v _ => v = (Value.int .i64 now), fun v _ => v = (Value.int .u64 D), fun v _ => v = (Value.agg [Value.int .i64 H, Value.int .u64 L].toArray), fun v _ => v = (Value.int .u64 M), fun v _ => v = (Value.int .u64 K), fun v _ => v = (Value.int .u64 K)] (none) (fun _ => none) 8 (by kernel_rfl) (by kernel_rfl) (by kernel_rfl) (by kernel_rfl) (by decide) noRow_one (fun _ => .inl rfl) ⟨fun i v u u' hki h hg => h, fun i v u u' hki h hg => h, fun i v u u' hki h hg => h, fun i v u u' hki h hg => h, fun i v u u' hki h hg => h, fun i v u u' hki h hg => h, fun i v u u' hki h hg => h, fun i v u u' hki h hg => h, trivial⟩ ⟨?_, ?_, ?_, ?_, ?_, ?_, ?_, ?_, trivial⟩ ?_
    · intro A u hu hpu hsz hout hdeps
      have e4 : A.eval (.tmp 4) = (.pointer (some ⟨p4, 0, none⟩)) := (hout 4 (by kernel_rfl)).trans rfl
      refine ifw_none rfl ?_
      with_reducible refine shown_q (Value.pointer (some ⟨p4, 1, none⟩)) ?qq_1_0 (fun _ _ => ?qr_1_0)
      case qr_1_0 => exact (rfl : (Value.pointer (some ⟨p4, 1, none⟩)) = (Value.pointer (some ⟨p4, 1, none⟩)))
      with_reducible refine quietAt_field 37 (.tmp 4) 1 ?h0_1_0 ⟨p4, 0, none⟩ ⟨p4, 1, none⟩ ?h1_1_0 ?h2_1_0
      case h0_1_0 => rfl
      case h1_1_0 => exact e4
      case h2_1_0 => kernel_rfl
    · intro A u hu hpu hsz hout hdeps
      have e13 : A.eval (.tmp 13) = (.pointer (some ⟨p4, 1, none⟩)) := by have h := depL hdeps 0 (by kernel_rfl) 13 (by kernel_rfl); exact h
      refine ifw_none rfl ?_
      with_reducible refine shown_q (Value.int .i64 ta) ?qq_1_1 (fun _ _ => ?qr_1_1)
      case qr_1_1 => exact (rfl : (Value.int .i64 ta) = (Value.int .i64 ta))
      with_reducible refine quietAt_ld 2 (.tmp 13) (Value.pointer (some ⟨p4, 1, none⟩)) (Value.int .i64 ta) ?h0_1_1 ?h1_1_1 ?h2_1_1
      case h0_1_1 => rfl
      case h1_1_1 => exact e13
      case h2_1_1 => exact ld2 ((HM3.out.keep hu).cell 1)
    · intro A u hu hpu hsz hout hdeps
      have e2 : A.eval (.tmp 2) = (.int .i64 now) := (hout 2 (by kernel_rfl)).trans rfl
      refine ifw_none rfl ?_
      with_reducible refine shown_q (Value.int .i64 now) ?qq_1_2 (fun _ _ => ?qr_1_2)
      case qr_1_2 => exact (rfl : (Value.int .i64 now) = (Value.int .i64 now))
      with_reducible refine quietAt_mv (.tmp 2) (Value.int .i64 now) ?h0_1_2 ?h1_1_2
      case h0_1_2 => rfl
      case h1_1_2 => exact e2
    · intro A u hu hpu hsz hout hdeps
      have e14 : A.eval (.tmp 14) = (.int .i64 ta) := by have h := depL hdeps 1 (by kernel_rfl) 14 (by kernel_rfl); exact h
      have e15 : A.eval (.tmp 15) = (.int .i64 now) := by have h := depL hdeps 2 (by kernel_rfl) 15 (by kernel_rfl); exact h
      refine ifw_none rfl ?_
      with_reducible refine shown_q (Value.int .u64 D) ?qq_1_3 (fun _ _ => ?qr_1_3)
      case qr_1_3 => exact (rfl : (Value.int .u64 D) = (Value.int .u64 D))
      with_reducible refine quietAt_call 28 Try.f28 ?h0_1_3 ?h1_1_3 ?h2_1_3 #[.tmp 14, .tmp 15] #[2, 2] ?h3_1_3 (Value.int .u64 D) #[(Value.int .i64 ta), (Value.int .i64 now)] ?h4_1_3 ?h5_1_3
      case h0_1_3 => exact Try.func28
      case h1_1_3 => kernel_rfl
      case h2_1_3 => kernel_rfl
      case h3_1_3 => rfl
      case h4_1_3 => exact map2 _ _ _ _ _ e14 e15
      case h5_1_3 => exact HCB.out u |>.mono (fun e w' h => ⟨h.1, by rw [h.2]; exact grefl _ _⟩)
    · intro A u hu hpu hsz hout hdeps
      have e3 : A.eval (.tmp 3) = (.pointer (some ⟨p3, 0, none⟩)) := (hout 3 (by kernel_rfl)).trans rfl
      refine ifw_none rfl ?_
      with_reducible refine shown_q (Value.agg [Value.int .i64 H, Value.int .u64 L].toArray) ?qq_1_4 (fun _ _ => ?qr_1_4)
      case qr_1_4 => exact (rfl : (Value.agg [Value.int .i64 H, Value.int .u64 L].toArray) = (Value.agg [Value.int .i64 H, Value.int .u64 L].toArray))
      with_reducible refine quietAt_load 28 (.tmp 3) ?h0_1_4 p3 0 [Value.int .i64 H, Value.int .u64 L] (.struct (Try.prog.fieldsOf 28)) ?h1_1_4 ?h2_1_4 ?h3_1_4 ?h4_1_4 ?h5_1_4
      case h0_1_4 => rfl
      case h1_1_4 => exact e3
      case h2_1_4 => exact (HC3.out.keep hu).whole
      case h3_1_4 => exact Try.underlying28
      case h4_1_4 => rfl
      case h5_1_4 => exact Try.size28
    · intro A u hu hpu hsz hout hdeps
      have e17 : A.eval (.tmp 17) = (.agg [.int .i64 H, .int .u64 L].toArray) := by have h := depL hdeps 4 (by kernel_rfl) 17 (by kernel_rfl); exact h
      refine ifw_none rfl ?_
      with_reducible refine shown_q (Value.int .u64 M) ?qq_1_5 (fun _ _ => ?qr_1_5)
      case qr_1_5 => exact (rfl : (Value.int .u64 M) = (Value.int .u64 M))
      with_reducible refine quietAt_call 29 Try.f29 ?h0_1_5 ?h1_1_5 ?h2_1_5 #[.tmp 17] #[28] ?h3_1_5 (Value.int .u64 M) #[(Value.agg [Value.int .i64 H, Value.int .u64 L].toArray)] ?h4_1_5 ?h5_1_5
      case h0_1_5 => exact Try.func29
      case h1_1_5 => kernel_rfl
      case h2_1_5 => kernel_rfl
      case h3_1_5 => rfl
      case h4_1_5 => exact map1 _ _ _ e17
      case h5_1_5 => exact HCH.out u
    · intro A u hu hpu hsz hout hdeps
      have e16 : A.eval (.tmp 16) = (.int .u64 D) := by have h := depL hdeps 3 (by kernel_rfl) 16 (by kernel_rfl); exact h
      have e18 : A.eval (.tmp 18) = (.int .u64 M) := by have h := depL hdeps 5 (by kernel_rfl) 18 (by kernel_rfl); exact h
      refine ifw_none rfl ?_
      with_reducible refine shown_q (Value.int .u64 K) ?qq_1_6 (fun _ _ => ?qr_1_6)
      case qr_1_6 => exact (rfl : (Value.int .u64 K) = (Value.int .u64 K))
      with_reducible refine quietAt_bin .quo 26 (.tmp 16) (.tmp 18) 26 (Value.int .u64 D) (Value.int .u64 M) (Value.int .u64 K) ?h0_1_6 ?h1_1_6 ?h2_1_6 ?h3_1_6
      case h0_1_6 => rfl
      case h1_1_6 => exact e16
      case h2_1_6 => exact e18
      case h3_1_6 => exact HQ.out _ _ u
    · intro A u hu hpu hsz hout hdeps
      have e19 : A.eval (.tmp 19) = (.int .u64 K) := by have h := depL hdeps 6 (by kernel_rfl) 19 (by kernel_rfl); exact h
      refine ifw_none rfl ?_
      with_reducible refine shown_q (Value.int .u64 K) ?qq_1_7 (fun _ _ => ?qr_1_7)
      case qr_1_7 => exact (rfl : (Value.int .u64 K) = (Value.int .u64 K))
      with_reducible refine quietAt_as (.tmp 19) (Value.int .u64 K) ?h0_1_7 ?h1_1_7
      case h0_1_7 => rfl
      case h1_1_7 => exact e19
    · intro A w4 listed hh hall
      have hA := hh.frame
      have HU := hid hh.grown
      obtain ⟨x13, hx13⟩ : ∃ x, A.eval (.tmp 13) = x := ⟨_, rfl⟩
      have f13 : (fun v _ => v = (Value.pointer (some ⟨p4, 1, none⟩))) x13 w4 := by rw [← hx13]; exact hh.got 0 _ 13 rfl rfl (hall 0 (by decide))
      obtain ⟨x14, hx14⟩ : ∃ x, A.eval (.tmp 14) = x := ⟨_, rfl⟩
      have f14 : (fun v _ => v = (Value.int .i64 ta)) x14 w4 := by rw [← hx14]; exact hh.got 1 _ 14 rfl rfl (hall 1 (by decide))
      obtain ⟨x15, hx15⟩ : ∃ x, A.eval (.tmp 15) = x := ⟨_, rfl⟩
      have f15 : (fun v _ => v = (Value.int .i64 now)) x15 w4 := by rw [← hx15]; exact hh.got 2 _ 15 rfl rfl (hall 2 (by decide))
      obtain ⟨x16, hx16⟩ : ∃ x, A.eval (.tmp 16) = x := ⟨_, rfl⟩
      have f16 : (fun v _ => v = (Value.int .u64 D)) x16 w4 := by rw [← hx16]; exact hh.got 3 _ 16 rfl rfl (hall 3 (by decide))
      obtain ⟨x17, hx17⟩ : ∃ x, A.eval (.tmp 17) = x := ⟨_, rfl⟩
      have f17 : (fun v _ => v = (Value.agg [Value.int .i64 H, Value.int .u64 L].toArray)) x17 w4 := by rw [← hx17]; exact hh.got 4 _ 17 rfl rfl (hall 4 (by decide))
      obtain ⟨x18, hx18⟩ : ∃ x, A.eval (.tmp 18) = x := ⟨_, rfl⟩
      have f18 : (fun v _ => v = (Value.int .u64 M)) x18 w4 := by rw [← hx18]; exact hh.got 5 _ 18 rfl rfl (hall 5 (by decide))
      obtain ⟨x19, hx19⟩ : ∃ x, A.eval (.tmp 19) = x := ⟨_, rfl⟩
      have f19 : (fun v _ => v = (Value.int .u64 K)) x19 w4 := by rw [← hx19]; exact hh.got 6 _ 19 rfl rfl (hall 6 (by decide))
      obtain ⟨x7, hx7⟩ : ∃ x, A.eval (.tmp 7) = x := ⟨_, rfl⟩
      have f7 : (fun v _ => v = (Value.int .u64 K)) x7 w4 := by rw [← hx7]; exact hh.got 7 _ 7 rfl rfl (hall 7 (by decide))
      dsimp only [wrote, List.foldl] at hA
      rw [hx13, hx14, hx15, hx16, hx17, hx18, hx19, hx7] at hA
      clear hh hall hx13 hx14 hx15 hx16 hx17 hx18 hx19 hx7
      replace f13 := (f13 : x13 = (.pointer (some ⟨p4, 1, none⟩)))
      subst f13
      replace f14 := (f14 : x14 = (.int .i64 ta))
      subst f14
      replace f15 := (f15 : x15 = (.int .i64 now))
      subst f15
      replace f16 := (f16 : x16 = (.int .u64 D))
      subst f16
      replace f17 := (f17 : x17 = (.agg [.int .i64 H, .int .u64 L].toArray))
      subst f17
      replace f18 := (f18 : x18 = (.int .u64 M))
      subst f18
      replace f19 := (f19 : x19 = (.int .u64 K))
      subst f19
      replace f7 := (f7 : x7 = (.int .u64 K))
      subst f7
      subst hA
      show wpList _ _ _ [] _ _
      unfold wpList
      simp only [Act.put, List.setIfInBounds_toArray, List.set_cons_succ, List.set_cons_zero]
      have HC4 := hid (HC3.out.keep HU.out)
      have HM4 := hid (HM3.out.keep HU.out)
      have HB4 := hid (HB3.out.keep HU.out)
      have HG4 := hid (gtrans HG3.out HU.out)
      clear HC3 HM3 HB3 HG3 HU
      go_wp2_with fail
      refine wp_region_list (by kernel_rfl) [fun v _ => v = (Value.agg [Value.int .u64 (s : Int), Value.int .i64 ta].toArray), fun v _ => v = (Value.float .f64 s), fun v _ => v = (Value.int .u64 K), fun v _ => ∃ r : Nat, v = Value.float .f64 r ∧ (Fnt s → r = hfN k s), fun v _ => v = (Value.pointer (some ⟨p4, 1, none⟩)), fun v _ => v = (Value.int .i64 ta), fun v _ => v = (Value.int .u64 K), fun v _ => v = (Value.agg [Value.int .i64 H, Value.int .u64 L].toArray), fun v _ => v = (Value.int .u64 M), fun v _ => v = (Value.int .u64 F), fun v _ => v = (Value.int .i64 T), fun v _ => ∃ r : Nat, v = Value.agg [Value.int .u64 (r : Int), Value.int .i64 T].toArray ∧ (Fnt s → r = hfN k s)] (none) (fun _ => none) 12 (by kernel_rfl) (by kernel_rfl) (by kernel_rfl) (by kernel_rfl) (by decide) noRow_one (fun _ => .inl rfl) ⟨fun i v u u' hki h hg => h, fun i v u u' hki h hg => h, fun i v u u' hki h hg => h, fun i v u u' hki h hg => h, fun i v u u' hki h hg => h, fun i v u u' hki h hg => h, fun i v u u' hki h hg => h, fun i v u u' hki h hg => h, fun i v u u' hki h hg => h, fun i v u u' hki h hg => h, fun i v u u' hki h hg => h, fun i v u u' hki h hg => h, trivial⟩ ⟨?_, ?_, ?_, ?_, ?_, ?_, ?_, ?_, ?_, ?_, ?_, ?_, trivial⟩ ?_
      · intro A u hu hpu hsz hout hdeps
        have e4 : A.eval (.tmp 4) = (.pointer (some ⟨p4, 0, none⟩)) := (hout 4 (by kernel_rfl)).trans rfl
        refine ifw_none rfl ?_
        with_reducible refine shown_q (Value.agg [Value.int .u64 (s : Int), Value.int .i64 ta].toArray) ?qq_2_0 (fun _ _ => ?qr_2_0)
        case qr_2_0 => exact (rfl : (Value.agg [Value.int .u64 (s : Int), Value.int .i64 ta].toArray) = (Value.agg [Value.int .u64 (s : Int), Value.int .i64 ta].toArray))
        with_reducible refine quietAt_load 37 (.tmp 4) ?h0_2_0 p4 0 [Value.int .u64 (s : Int), Value.int .i64 ta] (.struct (Try.prog.fieldsOf 37)) ?h1_2_0 ?h2_2_0 ?h3_2_0 ?h4_2_0 ?h5_2_0
        case h0_2_0 => rfl
        case h1_2_0 => exact e4
        case h2_2_0 => exact (HM4.out.keep hu).whole
        case h3_2_0 => exact Try.underlying37
        case h4_2_0 => rfl
        case h5_2_0 => exact Try.size37
      · intro A u hu hpu hsz hout hdeps
        have e20 : A.eval (.tmp 20) = (.agg [.int .u64 (s : Int), .int .i64 ta].toArray) := by have h := depL hdeps 0 (by kernel_rfl) 20 (by kernel_rfl); exact h
        refine ifw_none rfl ?_
        with_reducible refine shown_q (Value.float .f64 s) ?qq_2_1 (fun _ _ => ?qr_2_1)
        case qr_2_1 => exact (rfl : (Value.float .f64 s) = (Value.float .f64 s))
        with_reducible refine quietAt_call 32 Try.f32 ?h0_2_1 ?h1_2_1 ?h2_2_1 #[.tmp 20] #[37] ?h3_2_1 (Value.float .f64 s) #[(Value.agg [Value.int .u64 (s : Int), Value.int .i64 ta].toArray)] ?h4_2_1 ?h5_2_1
        case h0_2_1 => exact Try.func32
        case h1_2_1 => kernel_rfl
        case h2_2_1 => kernel_rfl
        case h3_2_1 => rfl
        case h4_2_1 => exact map1 _ _ _ e20
        case h5_2_1 => exact scoreOf_nat s ta u
      · intro A u hu hpu hsz hout hdeps
        have e7 : A.eval (.tmp 7) = (.int .u64 K) := (hout 7 (by kernel_rfl)).trans rfl
        refine ifw_none rfl ?_
        with_reducible refine shown_q (Value.int .u64 K) ?qq_2_2 (fun _ _ => ?qr_2_2)
        case qr_2_2 => exact (rfl : (Value.int .u64 K) = (Value.int .u64 K))
        with_reducible refine quietAt_mv (.tmp 7) (Value.int .u64 K) ?h0_2_2 ?h1_2_2
        case h0_2_2 => rfl
        case h1_2_2 => exact e7
      · intro A u hu hpu hsz hout hdeps
        have e21 : A.eval (.tmp 21) = (.float .f64 s) := by have h := depL hdeps 1 (by kernel_rfl) 21 (by kernel_rfl); exact h
        have e22 : A.eval (.tmp 22) = (.int .u64 K) := by have h := depL hdeps 2 (by kernel_rfl) 22 (by kernel_rfl); exact h
        refine ifw_none rfl ?_
        with_reducible refine shown_call 31 Try.f31 ?h0_2_3 ?h1_2_3 ?h2_2_3 #[.tmp 21, .tmp 22] #[49, 26] ?h3_2_3 #[(Value.float .f64 s), (Value.int .u64 K)] ?h4_2_3 ?h5_2_3
        case h0_2_3 => exact Try.func31
        case h1_2_3 => kernel_rfl
        case h2_2_3 => kernel_rfl
        case h3_2_3 => rfl
        case h4_2_3 => exact map2 _ _ _ _ _ e21 e22
        case h5_2_3 => exact (HCD.out u).mono (fun e w' h => by obtain ⟨r, h1, h2, h3⟩ := h; exact ⟨_, h1, h3, r, rfl, h2⟩)
      · intro A u hu hpu hsz hout hdeps
        have e4 : A.eval (.tmp 4) = (.pointer (some ⟨p4, 0, none⟩)) := (hout 4 (by kernel_rfl)).trans rfl
        refine ifw_none rfl ?_
        with_reducible refine shown_q (Value.pointer (some ⟨p4, 1, none⟩)) ?qq_2_4 (fun _ _ => ?qr_2_4)
        case qr_2_4 => exact (rfl : (Value.pointer (some ⟨p4, 1, none⟩)) = (Value.pointer (some ⟨p4, 1, none⟩)))
        with_reducible refine quietAt_field 37 (.tmp 4) 1 ?h0_2_4 ⟨p4, 0, none⟩ ⟨p4, 1, none⟩ ?h1_2_4 ?h2_2_4
        case h0_2_4 => rfl
        case h1_2_4 => exact e4
        case h2_2_4 => kernel_rfl
      · intro A u hu hpu hsz hout hdeps
        have e24 : A.eval (.tmp 24) = (.pointer (some ⟨p4, 1, none⟩)) := by have h := depL hdeps 4 (by kernel_rfl) 24 (by kernel_rfl); exact h
        refine ifw_none rfl ?_
        with_reducible refine shown_q (Value.int .i64 ta) ?qq_2_5 (fun _ _ => ?qr_2_5)
        case qr_2_5 => exact (rfl : (Value.int .i64 ta) = (Value.int .i64 ta))
        with_reducible refine quietAt_ld 2 (.tmp 24) (Value.pointer (some ⟨p4, 1, none⟩)) (Value.int .i64 ta) ?h0_2_5 ?h1_2_5 ?h2_2_5
        case h0_2_5 => rfl
        case h1_2_5 => exact e24
        case h2_2_5 => exact ld2 ((HM4.out.keep hu).cell 1)
      · intro A u hu hpu hsz hout hdeps
        have e7 : A.eval (.tmp 7) = (.int .u64 K) := (hout 7 (by kernel_rfl)).trans rfl
        refine ifw_none rfl ?_
        with_reducible refine shown_q (Value.int .u64 K) ?qq_2_6 (fun _ _ => ?qr_2_6)
        case qr_2_6 => exact (rfl : (Value.int .u64 K) = (Value.int .u64 K))
        with_reducible refine quietAt_mv (.tmp 7) (Value.int .u64 K) ?h0_2_6 ?h1_2_6
        case h0_2_6 => rfl
        case h1_2_6 => exact e7
      · intro A u hu hpu hsz hout hdeps
        have e3 : A.eval (.tmp 3) = (.pointer (some ⟨p3, 0, none⟩)) := (hout 3 (by kernel_rfl)).trans rfl
        refine ifw_none rfl ?_
        with_reducible refine shown_q (Value.agg [Value.int .i64 H, Value.int .u64 L].toArray) ?qq_2_7 (fun _ _ => ?qr_2_7)
        case qr_2_7 => exact (rfl : (Value.agg [Value.int .i64 H, Value.int .u64 L].toArray) = (Value.agg [Value.int .i64 H, Value.int .u64 L].toArray))
        with_reducible refine quietAt_load 28 (.tmp 3) ?h0_2_7 p3 0 [Value.int .i64 H, Value.int .u64 L] (.struct (Try.prog.fieldsOf 28)) ?h1_2_7 ?h2_2_7 ?h3_2_7 ?h4_2_7 ?h5_2_7
        case h0_2_7 => rfl
        case h1_2_7 => exact e3
        case h2_2_7 => exact (HC4.out.keep hu).whole
        case h3_2_7 => exact Try.underlying28
        case h4_2_7 => rfl
        case h5_2_7 => exact Try.size28
      · intro A u hu hpu hsz hout hdeps
        have e27 : A.eval (.tmp 27) = (.agg [.int .i64 H, .int .u64 L].toArray) := by have h := depL hdeps 7 (by kernel_rfl) 27 (by kernel_rfl); exact h
        refine ifw_none rfl ?_
        with_reducible refine shown_q (Value.int .u64 M) ?qq_2_8 (fun _ _ => ?qr_2_8)
        case qr_2_8 => exact (rfl : (Value.int .u64 M) = (Value.int .u64 M))
        with_reducible refine quietAt_call 29 Try.f29 ?h0_2_8 ?h1_2_8 ?h2_2_8 #[.tmp 27] #[28] ?h3_2_8 (Value.int .u64 M) #[(Value.agg [Value.int .i64 H, Value.int .u64 L].toArray)] ?h4_2_8 ?h5_2_8
        case h0_2_8 => exact Try.func29
        case h1_2_8 => kernel_rfl
        case h2_2_8 => kernel_rfl
        case h3_2_8 => rfl
        case h4_2_8 => exact map1 _ _ _ e27
        case h5_2_8 => exact HCH.out u
      · intro A u hu hpu hsz hout hdeps
        have e26 : A.eval (.tmp 26) = (.int .u64 K) := by have h := depL hdeps 6 (by kernel_rfl) 26 (by kernel_rfl); exact h
        have e28 : A.eval (.tmp 28) = (.int .u64 M) := by have h := depL hdeps 8 (by kernel_rfl) 28 (by kernel_rfl); exact h
        refine ifw_none rfl ?_
        with_reducible refine shown_q (Value.int .u64 F) ?qq_2_9 (fun _ _ => ?qr_2_9)
        case qr_2_9 => exact (rfl : (Value.int .u64 F) = (Value.int .u64 F))
        with_reducible refine quietAt_bin .mul 26 (.tmp 26) (.tmp 28) 26 (Value.int .u64 K) (Value.int .u64 M) (Value.int .u64 F) ?h0_2_9 ?h1_2_9 ?h2_2_9 ?h3_2_9
        case h0_2_9 => rfl
        case h1_2_9 => exact e26
        case h2_2_9 => exact e28
        case h3_2_9 => exact HMu.out _ _ u
      · intro A u hu hpu hsz hout hdeps
        have e25 : A.eval (.tmp 25) = (.int .i64 ta) := by have h := depL hdeps 5 (by kernel_rfl) 25 (by kernel_rfl); exact h
        have e29 : A.eval (.tmp 29) = (.int .u64 F) := by have h := depL hdeps 9 (by kernel_rfl) 29 (by kernel_rfl); exact h
        refine ifw_none rfl ?_
        with_reducible refine shown_q (Value.int .i64 T) ?qq_2_10 (fun _ _ => ?qr_2_10)
        case qr_2_10 => exact (rfl : (Value.int .i64 T) = (Value.int .i64 T))
        with_reducible refine quietAt_call 33 Try.f33 ?h0_2_10 ?h1_2_10 ?h2_2_10 #[.tmp 25, .tmp 29] #[2, 26] ?h3_2_10 (Value.int .i64 T) #[(Value.int .i64 ta), (Value.int .u64 F)] ?h4_2_10 ?h5_2_10
        case h0_2_10 => exact Try.func33
        case h1_2_10 => kernel_rfl
        case h2_2_10 => kernel_rfl
        case h3_2_10 => rfl
        case h4_2_10 => exact map2 _ _ _ _ _ e25 e29
        case h5_2_10 => exact HCE.out u |>.mono (fun e w' h => ⟨h.1, by rw [h.2]; exact grefl _ _⟩)
      · intro A u hu hpu hsz hout hdeps
        have f23 : (fun v _ => ∃ r : Nat, v = Value.float .f64 r ∧ (Fnt s → r = hfN k s)) (A.eval (.tmp 23)) u := by have h := depL hdeps 3 (by kernel_rfl) 23 (by kernel_rfl); exact h
        obtain ⟨r, e23, hr⟩ := f23
        have e30 : A.eval (.tmp 30) = (.int .i64 T) := by have h := depL hdeps 10 (by kernel_rfl) 30 (by kernel_rfl); exact h
        refine ifw_none rfl ?_
        with_reducible refine shown_call 30 Try.f30 ?h0_2_11 ?h1_2_11 ?h2_2_11 #[.tmp 23, .tmp 30] #[49, 2] ?h3_2_11 #[(Value.float .f64 r), (Value.int .i64 T)] ?h4_2_11 ?h5_2_11
        case h0_2_11 => exact Try.func30
        case h1_2_11 => kernel_rfl
        case h2_2_11 => kernel_rfl
        case h3_2_11 => rfl
        case h4_2_11 => exact map2 _ _ _ _ _ e23 e30
        case h5_2_11 => exact (meterOf_any r T u).mono (fun e w' h => ⟨_, h.1, h.2, r, rfl, hr⟩)
      · intro A w5 listed hh hall
        have hA := hh.frame
        have HU := hid hh.grown
        obtain ⟨x20, hx20⟩ : ∃ x, A.eval (.tmp 20) = x := ⟨_, rfl⟩
        have f20 : (fun v _ => v = (Value.agg [Value.int .u64 (s : Int), Value.int .i64 ta].toArray)) x20 w5 := by rw [← hx20]; exact hh.got 0 _ 20 rfl rfl (hall 0 (by decide))
        obtain ⟨x21, hx21⟩ : ∃ x, A.eval (.tmp 21) = x := ⟨_, rfl⟩
        have f21 : (fun v _ => v = (Value.float .f64 s)) x21 w5 := by rw [← hx21]; exact hh.got 1 _ 21 rfl rfl (hall 1 (by decide))
        obtain ⟨x22, hx22⟩ : ∃ x, A.eval (.tmp 22) = x := ⟨_, rfl⟩
        have f22 : (fun v _ => v = (Value.int .u64 K)) x22 w5 := by rw [← hx22]; exact hh.got 2 _ 22 rfl rfl (hall 2 (by decide))
        obtain ⟨x23, hx23⟩ : ∃ x, A.eval (.tmp 23) = x := ⟨_, rfl⟩
        have f23 : (fun v _ => ∃ r : Nat, v = Value.float .f64 r ∧ (Fnt s → r = hfN k s)) x23 w5 := by rw [← hx23]; exact hh.got 3 _ 23 rfl rfl (hall 3 (by decide))
        obtain ⟨x24, hx24⟩ : ∃ x, A.eval (.tmp 24) = x := ⟨_, rfl⟩
        have f24 : (fun v _ => v = (Value.pointer (some ⟨p4, 1, none⟩))) x24 w5 := by rw [← hx24]; exact hh.got 4 _ 24 rfl rfl (hall 4 (by decide))
        obtain ⟨x25, hx25⟩ : ∃ x, A.eval (.tmp 25) = x := ⟨_, rfl⟩
        have f25 : (fun v _ => v = (Value.int .i64 ta)) x25 w5 := by rw [← hx25]; exact hh.got 5 _ 25 rfl rfl (hall 5 (by decide))
        obtain ⟨x26, hx26⟩ : ∃ x, A.eval (.tmp 26) = x := ⟨_, rfl⟩
        have f26 : (fun v _ => v = (Value.int .u64 K)) x26 w5 := by rw [← hx26]; exact hh.got 6 _ 26 rfl rfl (hall 6 (by decide))
        obtain ⟨x27, hx27⟩ : ∃ x, A.eval (.tmp 27) = x := ⟨_, rfl⟩
        have f27 : (fun v _ => v = (Value.agg [Value.int .i64 H, Value.int .u64 L].toArray)) x27 w5 := by rw [← hx27]; exact hh.got 7 _ 27 rfl rfl (hall 7 (by decide))
        obtain ⟨x28, hx28⟩ : ∃ x, A.eval (.tmp 28) = x := ⟨_, rfl⟩
        have f28 : (fun v _ => v = (Value.int .u64 M)) x28 w5 := by rw [← hx28]; exact hh.got 8 _ 28 rfl rfl (hall 8 (by decide))
        obtain ⟨x29, hx29⟩ : ∃ x, A.eval (.tmp 29) = x := ⟨_, rfl⟩
        have f29 : (fun v _ => v = (Value.int .u64 F)) x29 w5 := by rw [← hx29]; exact hh.got 9 _ 29 rfl rfl (hall 9 (by decide))
        obtain ⟨x30, hx30⟩ : ∃ x, A.eval (.tmp 30) = x := ⟨_, rfl⟩
        have f30 : (fun v _ => v = (Value.int .i64 T)) x30 w5 := by rw [← hx30]; exact hh.got 10 _ 30 rfl rfl (hall 10 (by decide))
        obtain ⟨x31, hx31⟩ : ∃ x, A.eval (.tmp 31) = x := ⟨_, rfl⟩
        have f31 : (fun v _ => ∃ r : Nat, v = Value.agg [Value.int .u64 (r : Int), Value.int .i64 T].toArray ∧ (Fnt s → r = hfN k s)) x31 w5 := by rw [← hx31]; exact hh.got 11 _ 31 rfl rfl (hall 11 (by decide))
        dsimp only [wrote, List.foldl] at hA
        rw [hx20, hx21, hx22, hx23, hx24, hx25, hx26, hx27, hx28, hx29, hx30, hx31] at hA
        clear hh hall hx20 hx21 hx22 hx23 hx24 hx25 hx26 hx27 hx28 hx29 hx30 hx31
        replace f20 := (f20 : x20 = (.agg [.int .u64 (s : Int), .int .i64 ta].toArray))
        subst f20
        replace f21 := (f21 : x21 = (.float .f64 s))
        subst f21
        replace f22 := (f22 : x22 = (.int .u64 K))
        subst f22
        obtain ⟨r, e23, hr⟩ := f23
        subst e23
        replace f24 := (f24 : x24 = (.pointer (some ⟨p4, 1, none⟩)))
        subst f24
        replace f25 := (f25 : x25 = (.int .i64 ta))
        subst f25
        replace f26 := (f26 : x26 = (.int .u64 K))
        subst f26
        replace f27 := (f27 : x27 = (.agg [.int .i64 H, .int .u64 L].toArray))
        subst f27
        replace f28 := (f28 : x28 = (.int .u64 M))
        subst f28
        replace f29 := (f29 : x29 = (.int .u64 F))
        subst f29
        replace f30 := (f30 : x30 = (.int .i64 T))
        subst f30
        obtain ⟨q, e31, hq⟩ := f31
        subst e31
        subst hA
        show wpList _ _ _ [_] _ _
        simp only [Act.put, List.setIfInBounds_toArray, List.set_cons_succ, List.set_cons_zero]
        have HG5 := hid (gtrans HG4.out HU.out)
        go_wp2_with (first
          | ((with_reducible refine wpList_store_all (by with_unfolding_all rfl) 37 _ _ (by with_unfolding_all rfl) _ [.int .u64 0, .int .i64 0] _ 37 (by with_unfolding_all rfl) (by with_unfolding_all rfl) (HB4.out.keep HU.out) (by with_unfolding_all rfl) (by with_unfolding_all exact Try.size37) (one2 _ _ _ _) ?_); intro w6 B6 g6 s6; have HB6 := hid B6; have HG6 := hid (HG5.out.andThen g6 (fun j hj => .inl (by injection hj with hj; have := HPn.out; omega))); clear B6 g6 s6))
        refine bodyPost_ret (results_blk rfl _ p6 37 _ _ rfl HB6.out Try.underlying37 rfl Try.size37) rfl ?_
        exact ⟨q, rfl, hq, HG6.out⟩
end Go.Proofs.Ytnbcplpmpocbpaa
