/- The reference's Number, Of, sum, Head, Frame; Eq. -/
import Derived.Test.YtfalgjdhdgkbfaaGreatDoorRrA
import Derived.Deep.RegionHeld3
import Derived.Lib.SmallJoins
import Derived.OwnWalk
import Derived.Deep.Cut
namespace Go.Proofs.YtfalgjdhdgkbfaaGreatDoor
open Go Go.RowKit
open Go.RowKit (wrap32 wrap64)

theorem Out.form {B : Nat} {w : World} {v : Value} {l : List UInt8} (h : Out B w v l) (h0 : 0 < l.length) : ∃ g c, v = .slice (some ⟨g, 0, none⟩) l.length c ∧ l.length ≤ c ∧ B ≤ g ∧ g < w.heap.size ∧ ∀ i (hi : i < l.length), w.cell? ⟨g, i, none⟩ = some (.int .u8 l[i].toNat) := by
  have hcs := fun (g : Nat) (hg : v.ownBlock = some g) => h.cells (g := g) hg
  have hlt := fun (g : Nat) (hg : v.ownBlock = some g) => (h.lt g hg).2
  rcases h.2 with ⟨rfl, h1⟩ | ⟨g, cap, cur, rfl, hb, hg, hle, hm, hs, ht⟩
  · omega
  · refine ⟨g, cap, rfl, hle, hb, hlt g rfl, fun i hi => ?_⟩
    have := hcs g rfl i (.int .u8 l[i].toNat) (by simp [Lib.byteCells, List.getElem?_eq_getElem hi])
    rw [Addr.add_lit, Nat.zero_add] at this
    exact this
theorem Rd.pre {w : World} {F : Nat → Prop} {q : Addr} {n c : Nat} {l : List UInt8} (h : Rd w F (.slice (some q) n c) l) (k : Nat) (hk : k ≤ l.length) : Rd w F (.slice (some q) k k) (l.take k) := by
  obtain ⟨a, b, off, c', e, hc, hn, ha, hcell⟩ := h
  injection e with e1 e2 e3
  have hl : (l.take k).length = k := by rw [List.length_take]; omega
  refine ⟨some q, b, off, k, by rw [hl], by rw [hl]; exact Nat.le_refl _, (fun h => by cases h), fun h0 => ?_, fun i hi => ?_⟩
  · obtain ⟨h1, h2⟩ := ha (by omega)
    exact ⟨by rw [e1]; exact h1, h2⟩
  · have := hcell i (by omega)
    rw [this]
    simp
theorem Out.free {B : Nat} {w : World} {g n c : Nat} {l : List UInt8} (h : Out B w (.slice (some ⟨g, 0, none⟩) n c) l) (i : Nat) : w.frozen? ⟨g, i, none⟩ = false := by
  rcases h.2 with ⟨e, _⟩ | ⟨g', cap, cur, e, hb, hg, _⟩
  · cases e
  · injection e with e1 e2 e3
    injection e1 with e1
    injection e1 with e1 _ _
    subst e1
    simp [World.frozen?, hg]
/-- One byte of a row of the call's own is stored. -/
theorem Out.set {B : Nat} {w : World} {g n c : Nat} {l : List UInt8} (h : Out B w (.slice (some ⟨g, 0, none⟩) n c) l) (i : Nat) (x : UInt8) : Out B (w.setCell ⟨g, i, none⟩ (.int .u8 x.toNat)) (.slice (some ⟨g, 0, none⟩) n c) (l.set i x) := by
  rcases h.2 with ⟨e, _⟩ | ⟨g', cap, cur, e, hb, hg, hle, hm, hs, ht⟩
  · cases e
  · injection e with e1 e2 e3
    injection e1 with e1
    injection e1 with e1 _ _
    subst e1
    subst e3
    refine ⟨by rw [byteCells_length, Nat.mul_one], .inr ⟨g, c, cur.setIfInBounds i (.int .u8 x.toNat), by rw [List.length_set, e2], hb, ?_, by rw [List.length_set]; exact hle, hm, by simpa using hs, ?_⟩⟩
    · exact Go.Joins.block_setCell hg _
    · rw [Array.toList_setIfInBounds, List.length_set]
      rw [List.take_set, ht]
      unfold Lib.byteCells
      rw [List.map_set]
/-- make: a row of zeros of the call's own. -/
theorem makeO (w : World) (n : Nat) (hn : n ≤ 140737488355328) : ∃ w', (Instr.makeSlice 28 (.int .i64 (n : Int)) (.int .i64 (n : Int))).run Tryz.prog w = .ok (.slice (some ⟨w.heap.size, 0, none⟩) n n) w' ∧ Out w.heap.size w' (.slice (some ⟨w.heap.size, 0, none⟩) n n) (List.replicate n 0) ∧ w.grownBy w' none := by
  obtain ⟨inf, hi, hz0, hz1, hz2⟩ := info_parts Tryz.info5
  obtain ⟨w', h1, h2, h3⟩ := run_make_full (P := Tryz.prog) w w.heap.size 28 5 inf (.int .u8 0) 1 Tryz.underlying28 hi hz0 hz1 .i64 .i64 n (by rw [hz2]; omega) (by unfold maxLen; omega) (Nat.le_refl _)
  refine ⟨w', h1, ?_, h3⟩
  unfold Out
  rw [List.length_replicate]
  have e : (madeCells (Value.int .u8 0).cells (n * 1)).toList = Lib.byteCells (List.replicate n 0) := by
    have hc : (Value.int .u8 0).cells = #[Value.int .u8 0] := rfl
    rw [hc, Nat.mul_one]
    unfold madeCells Lib.byteCells
    apply List.ext_getElem?
    intro i
    by_cases hi : i < n
    · simp [hi, Nat.mod_one]
    · simp [hi]
  rw [e] at h2
  exact h2
theorem layL_get (n k i : Nat) (h : i < k) : (layL n k)[i]? = some (UInt8.ofNat (n / 2 ^ (8 * (k - 1 - i)))) := by
  unfold layL layP
  rw [List.getElem?_map, List.getElem?_range h]
  rfl
theorem pow256 (j : Nat) : 256 ^ j = 2 ^ (8 * j) := by rw [Nat.pow_mul]
theorem row_step (n k j : Nat) (h : j < k) : (List.replicate (j + 1) (0 : UInt8) ++ (layL n k).drop (j + 1)).set j (UInt8.ofNat (n / 256 ^ (k - (j + 1)))) = List.replicate j 0 ++ (layL n k).drop j := by
  have hl : j < (layL n k).length := by rw [layL_length]; exact h
  have hg : (layL n k)[j] = UInt8.ofNat (n / 256 ^ (k - (j + 1))) := by
    have := layL_get n k j h
    rw [List.getElem?_eq_getElem hl] at this
    injection this with this
    rw [this, pow256, show k - 1 - j = k - (j + 1) by omega]
  rw [List.drop_eq_getElem_cons hl, hg, List.replicate_succ', List.append_assoc, List.set_append_right _ _ (by simp), List.length_replicate, Nat.sub_self]
  rfl
set_option maxRecDepth 100000 in
set_option maxHeartbeats 800000 in
theorem numbR_any (w : World) (n k : Nat) (hn : n < 18446744073709551616) (hk : k ≤ 8) :
    Calls Tryz.prog 71 #[.int .u64 n, .int .i64 k] w fun e w' => ∃ v, e = .returned (.tuple #[v, .bool (decide (n < 256 ^ k))]) ∧ Out w.heap.size w' v (layL n k) ∧ w.grownBy w' none := by
  obtain ⟨w1, hmk, hO1, hg1⟩ := makeO w k (by omega)
  have HO1 : Hid (Out w.heap.size w1 (.slice (some ⟨w.heap.size, 0, none⟩) k k) (List.replicate k 0 ++ (layL n k).drop k)) := hid (by rw [List.drop_of_length_le (by rw [layL_length]; exact Nat.le_refl _), List.append_nil]; exact hO1)
  have HG1 := hid hg1
  have HNn := hid hn
  obtain ⟨RB, HRB⟩ : ∃ x, Hid (decide (n < 256 ^ k) = x) := ⟨_, hid rfl⟩
  rw [HRB.out]
  clear hO1 hg1 hn
  obtain ⟨g, hgg⟩ : ∃ x, w.heap.size = x := ⟨_, rfl⟩
  rw [hgg] at hmk
  have HGg := hid hgg
  clear hgg
  rw [HGg.out] at HO1
  go_enter Tryz.func71, Tryz.ntmps71
  go_wp2
  clear hmk
  go_loopw [0, 7] (fun nv iv wr => ∃ (j m : Nat), nv = .int .u64 m ∧ iv = .int .i64 ((j : Int) - 1) ∧ j ≤ k ∧ m < 18446744073709551616 ∧ Hid (m = n / 256 ^ (k - j)) ∧ Hid (Out g wr (.slice (some ⟨g, 0, none⟩) k k) (List.replicate j 0 ++ (layL n k).drop j)) ∧ Hid (w.grownBy wr none)) (fun _ iv _ => (intOf iv + 1).toNat)
  case atStart => exact ⟨k, n, rfl, rfl, Nat.le_refl _, HNn.out, hid (by rw [Nat.sub_self, Nat.pow_zero, Nat.div_one]), HO1, HG1⟩
  case round =>
    clear HO1 HG1
    obtain ⟨j, m, rfl, rfl, hj, hm, HM, HO, HG⟩ := hrel
    cases j with
    | zero =>
      have h0 : ¬ (0 : Int) ≤ ((0 : Nat) : Int) - 1 := by omega
      have HRe : Hid (RB = decide (m = 0)) := hid (by
        rw [← HRB.out, HM.out, Nat.sub_zero, Bool.eq_iff_iff, decide_eq_true_eq, decide_eq_true_eq]
        constructor
        · intro h; exact Nat.div_eq_of_lt h
        · intro h
          have := Nat.lt_mul_div_succ n (show 0 < 256 ^ k from Nat.pow_pos (by decide))
          rw [h] at this
          omega)
      by_cases hm0 : m = 0
      · subst hm0
        obtain rfl : RB = true := by rw [HRe.out]; rfl
        go_wp2
        go_ret2
        exact ⟨_, rfl, by rw [HGg.out]; exact HO.out, HG.out⟩
      · obtain rfl : RB = false := by rw [HRe.out, decide_eq_false hm0]
        have hm1 : ¬ (m : Int) = 0 := by omega
        have hm2 : ((m : Int) == 0) = false := beq_eq_false_iff_ne.2 hm1
        clear hm0
        go_wp2
        go_ret2
        exact ⟨_, rfl, by rw [HGg.out]; exact HO.out, HG.out⟩
    | succ j =>
      have h0 : (((j + 1 : Nat) : Int) - 1) = (j : Int) := by omega
      rw [h0]
      clear h0
      have hj' : (j : Int) < (k : Int) := by omega
      have hz := HO.out.free j
      obtain ⟨g', c', e', -, -, -, hcl⟩ := HO.out.form (by rw [List.length_append, List.length_replicate]; omega)
      have hlt : j < (List.replicate (j + 1) (0 : UInt8) ++ (layL n k).drop (j + 1)).length := by rw [List.length_append, List.length_replicate]; omega
      have hc0 := hcl j hlt
      injection e' with e1 e2 e3
      clear e2 e3
      injection e1 with e1
      injection e1 with e1
      rw [← e1] at hc0
      obtain ⟨y0, hy0⟩ : ∃ y : Value, wr.cell? ⟨g, j, none⟩ = some y := ⟨_, hc0⟩
      clear hcl e1 hc0 hlt
      have hcv : IntKind.u8.wrap ((m : Int) % 256) = ((UInt8.ofNat m).toNat : Int) := by
        rw [IntKind.wrap_u8, UInt8.toNat_ofNat']
        omega
      have hcv2 : ((m : Int) % 256) = ((UInt8.ofNat m).toNat : Int) := by
        rw [UInt8.toNat_ofNat']
        omega
      have HSt := hid (row_step n k j (by omega))
      rw [← HM.out] at HSt
      obtain ⟨x, hx⟩ : ∃ x, UInt8.ofNat m = x := ⟨_, rfl⟩
      rw [hx] at hcv hcv2 HSt
      obtain ⟨xi, hxi⟩ : ∃ z : Int, (x.toNat : Int) = z := ⟨_, rfl⟩
      have hxb := u8_bd x
      rw [hxi] at hcv2 hxb
      have hcv3 : IntKind.u8.wrap xi = xi := by rw [IntKind.wrap_u8]; omega
      have HXI := hid hxi
      clear hx hcv hxi
      have hwm : IntKind.u64.wrap ((m : Int) / 256) = (m : Int) / 256 := by rw [IntKind.wrap_u64]; omega
      have hj8 : j ≤ 8 := by omega
      have Hm := hid hm
      clear hm
      go_upto_region 6 with fail
      obtain ⟨w5, hw5⟩ : ∃ y, wr.setCell ⟨g, j, none⟩ (.int .u8 xi) = y := ⟨_, rfl⟩
      rw [hw5]
      rw [← HXI.out] at hw5
      have HO5 : Hid (Out g w5 (.slice (some ⟨g, 0, none⟩) k k) (List.replicate j 0 ++ (layL n k).drop j)) := hid (by rw [← hw5, ← HSt.out]; exact HO.out.set j x)
      have HG5 : Hid (w.grownBy w5 none) := hid (by rw [← hw5]; exact HG.out.andThen (gset _ _ _) (fun i hi => .inl (by injection hi with hi; have := HGg.out; have hi' : g = i := hi; omega)))
      clear hw5 hy0 hz
      go_wp2_with fail
      go_roundw
      case rel => exact ⟨j, m / 256, by go_num, by go_num, by omega, by have := Hm.out; omega, hid (by rw [HM.out, Nat.div_div_eq_div_mul, show k - j = k - (j + 1) + 1 by omega, Nat.pow_succ]), HO5, HG5⟩
      case measure => simp [intOf]
set_option maxRecDepth 100000 in
set_option maxHeartbeats 800000 in
theorem ofR_any (l : List UInt8) (F : Nat → Prop) (v : Value) (w : World) (hl : l.length ≤ 8) (hr : Rd w F v l) :
    Calls Tryz.prog 114 #[v] w fun e w' => e = .returned (.int .u64 (numL l)) ∧ w' = w := by
  obtain ⟨a, b, off, c, rfl, hc, hn, ha, hcell⟩ := hr
  have HC := hid hcell
  have HA := hid ha
  clear hcell ha hn hc
  have HS : Hid (numL l = numL (l.take l.length)) := by rw [List.take_length]; exact rfl
  generalize numL l = R at HS
  obtain ⟨n, HN⟩ : ∃ n, Hid (l.length = n) := ⟨_, hid rfl⟩
  rw [HN.out] at hl HS ⊢
  go_enter Tryz.func114, Tryz.ntmps114
  go_wp2
  go_loop [3, 4] (fun sv iv => ∃ k : Nat, k ≤ n ∧ iv = .int .i64 k ∧ sv = .int .u64 (numL (l.take k))) (fun _ iv => n - (intOf iv).toNat)
  case atStart => exact ⟨0, Nat.zero_le _, rfl, rfl⟩
  case round =>
    obtain ⟨k, hk, rfl, rfl⟩ := hrel
    by_cases hlt : k < n
    · have hlt' : (k : Int) < (n : Int) := by omega
      have hil : k < l.length := by rw [HN.out]; exact hlt
      have hs : numL (l.take k) < 256 ^ k := numL_lt k _ (by rw [List.length_take]; omega)
      have hs7 : (256 : Nat) ^ k ≤ 256 ^ 7 := Nat.pow_le_pow_right (by decide) (by omega)
      obtain ⟨rfl, hb, _⟩ := HA.out (by omega)
      have hck := HC.out k hil
      have HB := hid (show numL (l.take (k + 1)) = numL (l.take k) * 256 + (l[k]).toNat by rw [take_snocL l k hil, numL_snoc])
      obtain ⟨x, HX⟩ : ∃ x, Hid (l[k] = x) := ⟨_, hid rfl⟩
      rw [HX.out] at hck HB
      obtain ⟨S, HSS⟩ : ∃ S, Hid (numL (l.take k) = S) := ⟨_, hid rfl⟩
      rw [HSS.out] at hs HB ⊢
      have hS7 : S < 72057594037927936 := by omega
      have hxb := u8_bd x
      obtain ⟨X, hX⟩ : ∃ z : Int, (x.toNat : Int) = z := ⟨_, rfl⟩
      obtain ⟨SS, hSS⟩ : ∃ z : Int, (S : Int) = z := ⟨_, rfl⟩
      have w1 : IntKind.u64.wrap (256 * SS) = 256 * SS := by rw [IntKind.wrap_u64]; omega
      have w2 : IntKind.u64.wrap (256 * SS + X) = 256 * SS + X := by rw [IntKind.wrap_u64]; omega
      have w3 : IntKind.u64.wrap X = X := by rw [IntKind.wrap_u64]; omega
      have HXi := hid hX
      have HSi := hid hSS
      rw [hX] at hck hxb
      rw [hSS]
      clear HX hil hs hs7 hS7 hX hSS HSS
      go_wp2
      go_round
      case rel => exact ⟨k + 1, by omega, by go_num, by rw [HB.out]; show Value.int .u64 (256 * SS + X) = _; rw [← HXi.out, ← HSi.out]; congr 1; omega⟩
      case measure => simp [intOf]; omega
    · have hlt' : ¬ (k : Int) < (n : Int) := by omega
      obtain rfl : k = n := by omega
      obtain ⟨S, HSS⟩ : ∃ S, Hid (numL (l.take k) = S) := ⟨_, hid rfl⟩
      rw [HSS.out] at HS ⊢
      go_wp2
      go_ret
      exact ⟨by rw [HS.out]; rfl, rfl⟩
set_option maxRecDepth 100000 in
set_option maxHeartbeats 800000 in
theorem ssumR_any (l : List UInt8) (F : Nat → Prop) (v : Value) (w : World) (hl : l.length ≤ 140737488355328) (hr : Rd w F v l) :
    Calls Tryz.prog 118 #[v] w fun e w' => ∃ v', e = .returned v' ∧ Out w.heap.size w' v' (layL (sumL l) 4) ∧ w.grownBy w' none := by
  have HS := hid (sumR_any l F v w hl hr)
  have hlt := sumL_lt l
  have HNu0 := numbR_any w (sumL l) 4 (by omega) (by decide)
  rw [show (((4 : Nat) : Int)) = 4 from rfl] at HNu0
  have HNu := hid HNu0; clear HNu0
  obtain ⟨S, HSS⟩ : ∃ S, Hid (sumL l = S) := ⟨_, hid rfl⟩
  rw [HSS.out] at HS HNu hlt ⊢
  obtain ⟨a, b, off, c, rfl, -⟩ := hr
  have w1 : IntKind.u64.wrap (S : Int) = (S : Int) := by rw [IntKind.wrap_u64]; omega
  clear hlt
  go_enter Tryz.func118, Tryz.ntmps118
  go_wp2_with (first
    | (go_at_call 64; (with_reducible refine HS.out.mono ?_); rintro e w' ⟨rfl, hw⟩; have hw' := hw.symm; clear hw; subst hw')
    | (go_at_call 71; (with_reducible refine HNu.out.mono ?_); rintro e w2 ⟨v2, rfl, hO2, hg2⟩; have HO2 := hid hO2; have HG2 := hid hg2; clear hO2 hg2))
  go_ret
  exact ⟨_, rfl, HO2.out, HG2.out⟩
end Go.Proofs.YtfalgjdhdgkbfaaGreatDoor
