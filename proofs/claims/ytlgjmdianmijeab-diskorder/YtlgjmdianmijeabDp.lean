/- Eq, Copy; files looked up; files compared. -/
import Derived.Test.YtlgjmdianmijeabDo
import Derived.BigQuiet
namespace Go.Proofs.Ytlgjmdianmijeab
open Go Go.RowKit Go.MapKept Go.MuLone
open Go.RowKit (wrap32 wrap64)

theorem u8_neq {x y : UInt8} (h : ¬ x = y) : ¬ (x.toNat : Int) = (y.toNat : Int) := fun e => h (UInt8.toNat_inj.1 (by omega))
theorem take_step {x y : List UInt8} {i : Nat} (hl : x.length = y.length) (hi : i < x.length) (h : x.take i = y.take i) (he : x[i] = y[i]'(by omega)) : x.take (i + 1) = y.take (i + 1) := by
  rw [List.take_succ_eq_append_getElem hi, List.take_succ_eq_append_getElem (by omega), h, he]

set_option maxRecDepth 100000 in
set_option maxHeartbeats 800000 in
theorem eq_any (w : World) (va vb : Value) (F G : Nat → Prop) (x y : List UInt8) (hx : Rd w F va x) (hy : Rd w G vb y) (hxl : x.length ≤ 140737488355328) :
    Calls Try.prog 44 #[va, vb] w fun e w' => e = .returned (.bool (decide (x = y))) ∧ ∃ k, w' = w.drewN k := by
  obtain ⟨a, b0, off, c, rfl, _, _, ha, hca⟩ := hx
  obtain ⟨a', b0', off', c', rfl, _, _, ha', hcb⟩ := hy
  by_cases hl : x.length = y.length
  · have HL := hid hl
    have HA := hid ha
    have HA' := hid ha'
    have HCA := hid hca
    have HCB := hid hcb
    obtain ⟨n, HN⟩ : ∃ n, Hid (x.length = n) := ⟨_, hid rfl⟩
    obtain ⟨D, HD⟩ : ∃ D, Hid (decide (x = y) = D) := ⟨_, hid rfl⟩
    rw [HD.out, ← hl, HN.out]
    rw [HN.out] at hxl
    clear hl ha ha' hca hcb
    go_enter Try.func44, Try.ntmps44
    go_wp2_with fail
    go_loopw [5] (fun iv wr => ∃ i : Nat, iv = .int .i64 i ∧ i ≤ n ∧ Hid (x.take i = y.take i) ∧ ∃ k, Hid (wr = w.drewN k)) (fun iv _ => n - (intOf iv).toNat)
    case atStart => exact ⟨0, rfl, Nat.zero_le _, hid rfl, 0, hid rfl⟩
    case round =>
      obtain ⟨i, rfl, hi, HT, d, HDr⟩ := hrel
      by_cases hlt : i < n
      · have hix : i < x.length := by rw [HN.out]; exact hlt
        have hiy : i < y.length := by rw [← HL.out]; exact hix
        obtain ⟨rfl, r1, _⟩ := HA.out (by omega)
        obtain ⟨rfl, r2, _⟩ := HA'.out (by omega)
        obtain ⟨xi, HXI⟩ : ∃ z, Hid (x[i] = z) := ⟨_, hid rfl⟩
        obtain ⟨yi, HYI⟩ : ∃ z, Hid (y[i] = z) := ⟨_, hid rfl⟩
        have q1 : wr.cell? ⟨b0, off + i, none⟩ = some (.int .u8 xi.toNat) := by rw [HDr.out, ← HXI.out]; exact HCA.out i hix
        have q2 : wr.cell? ⟨b0', off' + i, none⟩ = some (.int .u8 yi.toNat) := by rw [HDr.out, ← HYI.out]; exact HCB.out i hiy
        have s1 : b0 < wr.heap.size := by rw [HDr.out]; exact r1
        have s2 : b0' < wr.heap.size := by rw [HDr.out]; exact r2
        have hlt' : (i : Int) < (n : Int) := by omega
        clear r1 r2
        by_cases he : xi = yi
        · have HTN : Hid (x.take (i + 1) = y.take (i + 1)) := hid (take_step HL.out hix HT.out (by rw [HXI.out, HYI.out]; exact he))
          subst he
          obtain ⟨z, HZ⟩ : ∃ z : Int, Hid ((xi.toNat : Int) = z) := ⟨_, hid rfl⟩
          rw [HZ.out] at q1 q2
          clear HXI HYI hix hiy
          go_wp2_with fail
          go_quiet (fail)
          rename_i nq
          go_wp2_with fail
          go_roundw
          case rel => exact ⟨i + 1, by go_num, by omega, HTN, d + nq, hid (by rw [HDr.out, World.drewN_drewN])⟩
          case measure => simp [intOf]; omega
        · have hne := u8_neq he
          have HDf : Hid (D = false) := hid (by rw [← HD.out]; exact decide_eq_false (fun e => he (by rw [← HXI.out, ← HYI.out]; simp only [e])))
          obtain ⟨z, HZ⟩ : ∃ z : Int, Hid ((xi.toNat : Int) = z) := ⟨_, hid rfl⟩
          obtain ⟨z', HZ'⟩ : ∃ z : Int, Hid ((yi.toNat : Int) = z) := ⟨_, hid rfl⟩
          rw [HZ.out] at q1 hne
          rw [HZ'.out] at q2 hne
          clear HXI HYI he hix hiy
          go_wp2_with fail
          go_quiet (fail)
          rename_i nq
          go_wp2_with fail
          go_ret
          exact ⟨by rw [HDf.out]; rfl, d + nq, by rw [HDr.out, World.drewN_drewN]⟩
      · have he : i = n := by omega
        subst he
        have HDt : Hid (D = true) := hid (by
          rw [← HD.out]
          refine decide_eq_true ?_
          have := HT.out
          rw [List.take_of_length_le (by rw [HN.out]; exact Nat.le_refl _), List.take_of_length_le (by rw [← HL.out, HN.out]; exact Nat.le_refl _)] at this
          exact this)
        go_wp2_with fail
        go_ret
        exact ⟨by rw [HDt.out]; rfl, d, HDr.out⟩
  · have hb : ¬ (x.length : Int) = (y.length : Int) := by omega
    have HDf : Hid (decide (x = y) = false) := hid (decide_eq_false (fun e => hl (by rw [e])))
    rw [HDf.out]
    obtain ⟨n, HN⟩ : ∃ n, Hid (x.length = n) := ⟨_, hid rfl⟩
    obtain ⟨m, HM⟩ : ∃ n, Hid (y.length = n) := ⟨_, hid rfl⟩
    rw [HN.out, HM.out] at hb ⊢
    clear hl ha ha' hca hcb
    go_enter Try.func44, Try.ntmps44
    go_wp2_with fail
    go_ret
    exact ⟨rfl, 0, rfl⟩


set_option maxRecDepth 100000 in
theorem copyR_any (w : World) (v : Value) (F : Nat → Prop) (l : List UInt8) (hb : Rd w F v l) (hl : l.length ≤ 140737488355328) :
    Calls Try.prog 36 #[v] w fun e w' => ∃ v', e = .returned v' ∧ Out w.heap.size w' v' l ∧ w.grownBy w' none := by
  have HR := hid hb
  have HL := hid hl
  clear hb hl
  go_enter Try.func36, Try.ntmps36
  go_wp2_with (at_builtin; refine wpList_append_at rfl _ _ rfl w.heap.size F [] l (Out.nil _ _) HR.out (by have := HL.out; simp; omega) (Nat.le_refl _) ?_; intro v2 w2 hO2 hg2 _)
  go_ret
  exact ⟨_, rfl, by simpa using hO2, (grefl w none).andThen hg2 (fun j hj => by simp [Act.eval, Value.ownBlock] at hj)⟩
theorem ba_dec (a b : ByteArray) : (a.toList == b.toList) = decide (a = b) := by
  rw [Lib.toList_data, Lib.toList_data]
  by_cases h : a = b
  · subst h; simp
  · rw [decide_eq_false h]
    refine beq_eq_false_iff_ne.2 (fun e => h ?_)
    cases a; cases b
    simpa using e
end Go.Proofs.Ytlgjmdianmijeab
