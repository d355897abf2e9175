/- The walks of radix's Lay and the reference's at every number and width. -/
import Derived.Test.YtipjjhccbgbdiaaGreatDoorLateC
namespace Go.Proofs.YtipjjhccbgbdiaaGreatDoor
open Go Go.RowKit
open Go.RowKit (wrap32 wrap64)

/-- What Lay tells, and its error's number. -/
def layOut (n : Nat) (wd : Int) : List UInt8 × Nat := if 1 ≤ wd ∧ wd ≤ 8 then (if n < 2 ^ (8 * wd.toNat) then (layL n wd.toNat, 0) else ([], 14)) else ([], 11)

theorem row_own {w : World} {b k : Nat} {f : Nat → Value} {l : List UInt8} (h : w.rowIs b 5 k f) (hl : l.length = k) (hk : k ≤ 8) (hf : ∀ i (hi : i < k), f i = .int .u8 (l[i]'(by omega)).toNat) (B : Nat) (hB : B ≤ b) : w.ownsRow B 5 1 (.slice (some ⟨b, 0, none⟩) k k) l.length (cb l) := by
  obtain ⟨c, hb, hn, hc⟩ := h
  refine ⟨by rw [cb_length]; omega, Or.inr ⟨b, k, c, by rw [hl], hB, hb, by omega, by unfold maxLen; omega, by omega, ?_⟩⟩
  apply List.ext_getElem?
  intro i
  rw [List.getElem?_take]
  by_cases hi : i < k
  · rw [if_pos (by omega)]
    have h1 := hc i hi
    rw [hf i hi] at h1
    simp only [Array.getElem?_toList, h1]
    simp [cb, List.getElem?_eq_getElem (show i < l.length by omega)]
  · rw [if_neg (by omega)]
    symm
    apply List.getElem?_eq_none
    rw [cb_length]
    omega

set_option maxRecDepth 100000 in
set_option maxHeartbeats 400000 in
/-- Lay: a number in a width that it fits, as a row of its own. -/
theorem lay_own (n k : Nat) (w : World) (h1 : 1 ≤ k) (h8 : k ≤ 8) (hfit : ((n : Int) / 2 ^ (8 * k) != 0) = false) : Calls Tryz.prog 39 #[.int .u64 n, .int .i64 k] w fun e w' =>
    e = .returned (.tuple #[.slice (some ⟨w.heap.size, 0, none⟩) k k, .int .i64 0]) ∧ w'.rowIs w.heap.size 5 k (layF n k k) ∧ Below w.heap.size w w' := by
  have hmk := fun w => run_make_row' (P := Tryz.prog) 58 5 (.int .u8 0) 1 Tryz.underlying58 Tryz.info5 rfl .i64 .i64 k (by omega) (by omega) w
  have hrow0 := World.rowIs_made w (.int .u8 0) k 5
  go_enter Tryz.func39, Tryz.ntmps39
  go_wp2
  go_loopw [23] (fun iv wr => ∃ j : Nat, j ≤ k ∧ iv = .int .i64 j ∧ wr.rowIs w.heap.size 5 k (layF n k j) ∧ w.heap.size < wr.heap.size ∧ Below w.heap.size w wr) (fun iv _ => k - (intOf iv).toNat)
  case atStart => exact ⟨0, Nat.zero_le _, rfl, hrow0, by simp, (Below.refl _ _).alloc (Nat.le_refl _) _⟩
  case round =>
    obtain ⟨j, hj, rfl, hrow, hlt, hbel⟩ := hrel
    by_cases hjk : j < k
    · have hc := hrow.cell hjk
      have hf := hrow.frozen j
      go_wp2
      refine ⟨⟨j + 1, hjk, by go_num, (hrow.set j _).congr fun i hi => ?_, by simpa [World.setCell] using hlt, hbel.setCell (Nat.le_refl _) _⟩, by simp [intOf]; omega⟩
      unfold layF
      by_cases e : i = j
      · rw [if_pos e, if_pos (by omega), e]
      · rw [if_neg e]
        by_cases e2 : i < j
        · rw [if_pos e2, if_pos (by omega)]
        · rw [if_neg e2, if_neg (by omega)]
    · have he : j = k := by omega
      subst he
      go_wp2
      go_ret2
      exact ⟨rfl, hrow, hbel⟩

set_option maxRecDepth 100000 in
set_option maxHeartbeats 400000 in
theorem lay_bad (f : Nat) (hf : f = 39 ∨ f = 40) (n : Nat) (wd : Int) (w : World) (h : ¬ (1 ≤ wd ∧ wd ≤ 8)) (h0 : -9223372036854775808 ≤ wd) (h1 : wd ≤ 9223372036854775807) : Calls Tryz.prog f #[.int .u64 n, .int .i64 wd] w fun e w' =>
    e = .returned (.tuple #[.slice none 0 0, .int .i64 11]) ∧ w' = w := by
  rcases hf with rfl | rfl
  · by_cases hb : wd < 1
    · go_enter Tryz.func39, Tryz.ntmps39
      go_wp2
      go_ret2
      exact ⟨rfl, rfl⟩
    · have hb2 : 8 < wd := by omega
      have hb3 : 1 ≤ wd := by omega
      clear h hb
      go_enter Tryz.func39, Tryz.ntmps39
      go_wp2
      go_ret2
      exact ⟨rfl, rfl⟩
  · by_cases hb : wd < 1
    · go_enter Tryz.func40, Tryz.ntmps40
      go_wp2
      go_ret2
      exact ⟨rfl, rfl⟩
    · have hb2 : 8 < wd := by omega
      have hb3 : 1 ≤ wd := by omega
      clear h hb
      go_enter Tryz.func40, Tryz.ntmps40
      go_wp2
      go_ret2
      exact ⟨rfl, rfl⟩

theorem fit_iff (n k : Nat) : ((n : Int) / 2 ^ (8 * k) != 0) = decide (¬ n < 2 ^ (8 * k)) := by
  have hP : 0 < 2 ^ (8 * k) := Nat.two_pow_pos _
  have e : (n : Int) / 2 ^ (8 * k) = ((n / 2 ^ (8 * k) : Nat) : Int) := by push_cast; rfl
  rw [e]
  by_cases h : n < 2 ^ (8 * k)
  · rw [Nat.div_eq_of_lt h]
    simp [h]
  · have h2 : 0 < n / 2 ^ (8 * k) := Nat.div_pos (by omega) hP
    rw [decide_eq_true h, bne_iff_ne]
    omega

/-- radix's Lay. -/
theorem layAll (n : Nat) (wd : Int) (w : World) (h0 : -9223372036854775808 ≤ wd) (h1 : wd ≤ 9223372036854775807) : Calls Tryz.prog 39 #[.int .u64 n, .int .i64 wd] w fun e w' =>
    ∃ v, e = .returned (.tuple #[v, .int .i64 (layOut n wd).2]) ∧ Below w.heap.size w w' ∧ w'.ownsRow w.heap.size 5 1 v (layOut n wd).1.length (cb (layOut n wd).1) := by
  by_cases hr : 1 ≤ wd ∧ wd ≤ 8
  · obtain ⟨k, rfl⟩ : ∃ k : Nat, wd = (k : Int) := ⟨wd.toNat, by omega⟩
    have hf := fit_iff n k
    by_cases hfit : n < 2 ^ (8 * k)
    · have ho : layOut n k = (layL n k, 0) := by unfold layOut; rw [if_pos hr]; simp [hfit]
      rw [ho]
      rw [decide_eq_false (fun k => k hfit)] at hf
      refine (lay_own n k w (by omega) (by omega) hf).mono ?_
      rintro e w' ⟨rfl, hrow, hb⟩
      refine ⟨_, rfl, hb, row_own hrow (layL_length n k) (by omega) (fun i hi => layF_at n k i hi) _ (Nat.le_refl _)⟩
    · have ho : layOut n k = ([], 14) := by unfold layOut; rw [if_pos hr]; simp [hfit]
      rw [ho]
      rw [decide_eq_true hfit] at hf
      refine (lay_no n k w (by omega) (by omega) hf).mono ?_
      rintro e w' ⟨rfl, rfl⟩
      exact ⟨_, rfl, Below.refl _ _, World.ownsRow_nil _ _ _ _⟩
  · have ho : layOut n wd = ([], 11) := by unfold layOut; rw [if_neg hr]
    rw [ho]
    refine (lay_bad 39 (Or.inl rfl) n wd w hr h0 h1).mono ?_
    rintro e w' ⟨rfl, rfl⟩
    exact ⟨_, rfl, Below.refl _ _, World.ownsRow_nil _ _ _ _⟩

/-- The reference's cells behind j steps. -/
def refF (n k j i : Nat) : Value := if k ≤ i + j then .int .u8 ((n : Int) / 2 ^ (8 * (k - 1 - i)) % 256) else .int .u8 0

theorem div_step (n j : Nat) : ((n : Int) / 2 ^ (8 * j)) / 256 = (n : Int) / 2 ^ (8 * (j + 1)) := by
  have e : (2 : Int) ^ (8 * (j + 1)) = 2 ^ (8 * j) * 256 := by
    rw [Nat.mul_add, Int.pow_add]
    rfl
  rw [e, Int.ediv_ediv_of_nonneg (Int.le_of_lt (Int.pow_pos (by decide)))]

set_option maxRecDepth 100000 in
set_option maxHeartbeats 800000 in
theorem refLay_in (n k : Nat) (w : World) (hn : n < 18446744073709551616) (h1 : 1 ≤ k) (h8 : k ≤ 8) : Calls Tryz.prog 40 #[.int .u64 n, .int .i64 k] w fun e w' =>
    (Hid (((n : Int) / 2 ^ (8 * k) != 0) = false) ∧ e = .returned (.tuple #[.slice (some ⟨w.heap.size, 0, none⟩) k k, .int .i64 0]) ∧ w'.rowIs w.heap.size 5 k (refF n k k) ∧ Below w.heap.size w w') ∨ (Hid (((n : Int) / 2 ^ (8 * k) != 0) = true) ∧ e = .returned (.tuple #[.slice none 0 0, .int .i64 14]) ∧ Below w.heap.size w w') := by
  have hmk := fun w => run_make_row' (P := Tryz.prog) 58 5 (.int .u8 0) 1 Tryz.underlying58 Tryz.info5 rfl .i64 .i64 k (by omega) (by omega) w
  have hrow0 := World.rowIs_made w (.int .u8 0) k 5
  obtain ⟨N, hN⟩ : ∃ N : Int, (n : Int) = N := ⟨_, rfl⟩
  have hN0 : 0 ≤ N := by omega
  have hN1 : N < 18446744073709551616 := by omega
  have HNN := hid hN
  have HR0 := hid hrow0
  rw [hN]
  clear hN hn hrow0
  go_enter Tryz.func40, Tryz.ntmps40
  go_wp2
  go_loopw [0, 7] (fun nv iv wr => ∃ (j : Nat) (y z : Int), nv = .int .u64 y ∧ iv = .int .i64 z ∧ -1 ≤ z ∧ z ≤ 7 ∧ 0 ≤ y ∧ y < 18446744073709551616 ∧ Hid (j ≤ k ∧ z = (k : Int) - 1 - (j : Int) ∧ y = (n : Int) / 2 ^ (8 * j)) ∧ Hid (wr.rowIs w.heap.size 5 k (refF n k j)) ∧ Hid (Below w.heap.size w wr)) (fun _ iv _ => (intOf iv + 1).toNat)
  case atStart =>
    refine ⟨0, N, (k : Int) - 1, rfl, by go_num, by omega, by omega, hN0, hN1, hid ⟨Nat.zero_le _, by omega, ?_⟩, hid (HR0.out.congr fun i hi => ?_), hid ((Below.refl _ _).alloc (Nat.le_refl _) _)⟩
    · rw [← HNN.out]; simp
    · unfold refF
      rw [if_neg (by omega)]
  case round =>
    as_aux_lemma =>
    clear HR0
    obtain ⟨j, y, z, rfl, rfl, hz0, hz1, hy0, hy1, HJ, HR, HB⟩ := hrel
    by_cases hz : 0 ≤ z
    · obtain ⟨m, rfl⟩ : ∃ m : Nat, z = (m : Int) := ⟨z.toNat, by omega⟩
      have hmk2 : m < k := by have := HJ.out; omega
      have hc := HR.out.cell hmk2
      have hf := HR.out.frozen m
      have hlt := HR.out.lt
      obtain ⟨u0, HU0⟩ : ∃ u0, Hid (refF n k j m = u0) := ⟨_, hid rfl⟩
      rw [HU0.out] at hc
      have hy2 : 0 ≤ y / 256 := by omega
      have hy3 : y / 256 < 18446744073709551616 := by omega
      go_wp2
      refine ⟨⟨j + 1, y / 256, (m : Int) - 1, by go_num, by go_num, by omega, by omega, hy2, hy3, hid ⟨by have := HJ.out; omega, by have := HJ.out; omega, ?_⟩, hid ((HR.out.set m _).congr fun i hi => ?_), hid (HB.out.setCell (Nat.le_refl _) _)⟩, by simp [intOf]⟩
      · rw [HJ.out.2.2, div_step]
      · unfold refF
        by_cases e : i = m
        · rw [if_pos e, if_pos (by have := HJ.out; omega), e]
          have h9 : k - 1 - m = j := by have := HJ.out; omega
          rw [h9, ← HJ.out.2.2]
        · rw [if_neg e]
          by_cases e2 : k ≤ i + j
          · rw [if_pos e2, if_pos (by omega)]
          · rw [if_neg e2, if_neg (by have := HJ.out; omega)]
    · have hz3 : z = -1 := by omega
      subst hz3
      have hjk : j = k := by have := HJ.out; omega
      by_cases hy : 0 < y
      · go_wp2
        go_ret2
        refine Or.inr ⟨hid ?_, rfl, HB.out⟩
        have h9 := HJ.out.2.2
        rw [hjk, HNN.out] at h9
        first
          | (rw [HNN.out, ← h9, bne_iff_ne]; omega)
          | (rw [← h9]; omega)
      · have hy' : y = 0 := by omega
        subst hy'
        go_wp2
        go_ret2
        refine Or.inl ⟨hid ?_, rfl, by have := HR.out; rw [hjk] at this; exact this, HB.out⟩
        have h9 := HJ.out.2.2
        rw [hjk, HNN.out] at h9
        first
          | (rw [HNN.out, ← h9]; rfl)
          | (rw [← h9])

theorem refF_at (n k i : Nat) (h : i < k) : refF n k k i = .int .u8 ((layL n k)[i]'(by rw [layL_length]; exact h)).toNat := by
  rw [← layF_at n k i h]
  unfold refF layF
  rw [if_pos (by omega), if_pos h]

/-- The reference's Lay. -/
theorem refLayAll (n : Nat) (wd : Int) (w : World) (hn : n < 18446744073709551616) (h0 : -9223372036854775808 ≤ wd) (h1 : wd ≤ 9223372036854775807) : Calls Tryz.prog 40 #[.int .u64 n, .int .i64 wd] w fun e w' =>
    ∃ v, e = .returned (.tuple #[v, .int .i64 (layOut n wd).2]) ∧ Below w.heap.size w w' ∧ w'.ownsRow w.heap.size 5 1 v (layOut n wd).1.length (cb (layOut n wd).1) := by
  by_cases hr : 1 ≤ wd ∧ wd ≤ 8
  · obtain ⟨k, rfl⟩ : ∃ k : Nat, wd = (k : Int) := ⟨wd.toNat, by omega⟩
    have hf := fit_iff n k
    refine (refLay_in n k w hn (by omega) (by omega)).mono ?_
    rintro e w' (⟨hq, rfl, hrow, hb⟩ | ⟨hq, rfl, hb⟩)
    · have hfit : n < 2 ^ (8 * k) := Decidable.byContradiction (fun h => by rw [hq.out, decide_eq_true h] at hf; cases hf)
      have ho : layOut n k = (layL n k, 0) := by unfold layOut; rw [if_pos hr]; simp [hfit]
      rw [ho]
      exact ⟨_, rfl, hb, row_own hrow (layL_length n k) (by omega) (fun i hi => refF_at n k i hi) _ (Nat.le_refl _)⟩
    · have hfit : ¬ n < 2 ^ (8 * k) := fun h => by rw [hq.out, decide_eq_false (fun k => k h)] at hf; cases hf
      have ho : layOut n k = ([], 14) := by unfold layOut; rw [if_pos hr]; simp [hfit]
      rw [ho]
      exact ⟨_, rfl, hb, World.ownsRow_nil _ _ _ _⟩
  · have ho : layOut n wd = ([], 11) := by unfold layOut; rw [if_neg hr]
    rw [ho]
    refine (lay_bad 40 (Or.inr rfl) n wd w hr h0 h1).mono ?_
    rintro e w' ⟨rfl, rfl⟩
    exact ⟨_, rfl, Below.refl _ _, World.ownsRow_nil _ _ _ _⟩
end Go.Proofs.YtipjjhccbgbdiaaGreatDoor
