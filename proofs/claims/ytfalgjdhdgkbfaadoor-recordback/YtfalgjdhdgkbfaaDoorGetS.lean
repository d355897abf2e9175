/- The walk of gets: a field with a byte less is too short. -/
import Derived.Test.YtfalgjdhdgkbfaaDoorGetJ
import Derived.Deep.RegionHeld3
namespace Go.Proofs.YtfalgjdhdgkbfaaDoor
open Go Go.RowKit
open Go.RowKit (wrap32 wrap64)

set_option maxRecDepth 100000 in
set_option maxHeartbeats 8000000 in
theorem gets_sh (w : World) (b : Nat) (F G : Nat → Prop) (dd on : Int) (N : Nat) (wd ii : Int) (fl : Bool) (ba : Option Addr) (LB bc : Nat) (B : List UInt8) (y0 y1 y2 y3 y4 y5 y6 y7 y8 y9 y10 y11 y12 y13 y14 y15 : UInt8)
    (h : Rr w b F (encOp dd N wd ii fl B [y0, y1, y2, y3, y4, y5, y6, y7, y8, y9, y10, y11, y12, y13, y14, y15]).dropLast 0) (hok : okOp dd N wd LB = true) (hB : Rd w G (.slice ba LB bc) B) (hLB : B.length = LB) (hG : ¬ G b) :
    Calls Tryd.prog 13 #[.pointer (some ⟨b, 0, none⟩), .agg #[.int .i64 dd, .int .i64 on, .int .u64 N, .int .i64 wd, .int .i64 ii, .bool fl, .slice ba LB bc, .int .u8 y0.toNat, .int .u8 y1.toNat, .int .u8 y2.toNat, .int .u8 y3.toNat, .int .u8 y4.toNat, .int .u8 y5.toNat, .int .u8 y6.toNat, .int .u8 y7.toNat, .int .u8 y8.toNat, .int .u8 y9.toNat, .int .u8 y10.toNat, .int .u8 y11.toNat, .int .u8 y12.toNat, .int .u8 y13.toNat, .int .u8 y14.toNat, .int .u8 y15.toNat]] w fun e w' => (∃ c, e = .returned (.bool c)) ∧ Rr w' b F (encOp dd N wd ii fl B [y0, y1, y2, y3, y4, y5, y6, y7, y8, y9, y10, y11, y12, y13, y14, y15]).dropLast 30 ∧ w.grownBy w' (some b) := by
  by_cases h6 : dd = 6
  · subst h6
    have h7 := gets_ids w b F _ on N wd ii fl ba LB bc [y0, y1, y2, y3, y4, y5, y6, y7, y8, y9, y10, y11, y12, y13, y14, y15] rfl (by simp [encOp]) h
    exact h7
  obtain ⟨W0, hW0⟩ : ∃ x, w.alloc (.cells #[.int .i64 dd, .int .i64 on, .int .u64 N, .int .i64 wd, .int .i64 ii, .bool fl, .slice ba LB bc, .int .u8 y0.toNat, .int .u8 y1.toNat, .int .u8 y2.toNat, .int .u8 y3.toNat, .int .u8 y4.toNat, .int .u8 y5.toNat, .int .u8 y6.toNat, .int .u8 y7.toNat, .int .u8 y8.toNat, .int .u8 y9.toNat, .int .u8 y10.toNat, .int .u8 y11.toNat, .int .u8 y12.toNat, .int .u8 y13.toNat, .int .u8 y14.toNat, .int .u8 y15.toNat] 33) = x := ⟨_, rfl⟩
  have hP := heap_new w #[.int .i64 dd, .int .i64 on, .int .u64 N, .int .i64 wd, .int .i64 ii, .bool fl, .slice ba LB bc, .int .u8 y0.toNat, .int .u8 y1.toNat, .int .u8 y2.toNat, .int .u8 y3.toNat, .int .u8 y4.toNat, .int .u8 y5.toNat, .int .u8 y6.toNat, .int .u8 y7.toNat, .int .u8 y8.toNat, .int .u8 y9.toNat, .int .u8 y10.toNat, .int .u8 y11.toNat, .int .u8 y12.toNat, .int .u8 y13.toNat, .int .u8 y14.toNat, .int .u8 y15.toNat] 33
  rw [hW0] at hP
  have hg0 : w.grownBy W0 none := by rw [← hW0]; exact galloc _ _ _
  have hlt := h.lt
  have HP : Hid (∀ u, W0.grownBy u (some b) → u.heap[w.heap.size]? = some (.cells #[.int .i64 dd, .int .i64 on, .int .u64 N, .int .i64 wd, .int .i64 ii, .bool fl, .slice ba LB bc, .int .u8 y0.toNat, .int .u8 y1.toNat, .int .u8 y2.toNat, .int .u8 y3.toNat, .int .u8 y4.toNat, .int .u8 y5.toNat, .int .u8 y6.toNat, .int .u8 y7.toNat, .int .u8 y8.toNat, .int .u8 y9.toNat, .int .u8 y10.toNat, .int .u8 y11.toNat, .int .u8 y12.toNat, .int .u8 y13.toNat, .int .u8 y14.toNat, .int .u8 y15.toNat] 33 (0, 0))) := hid (fun u hu => heap_at hu (by simp; omega) hP)
  obtain ⟨⟨x0, x1, x2, x3, x4, x5, x6, x7, x8, x9, x10, x11, x12, x13, x14, x15, x16, x17, x18, x19, x20, x21, x22⟩, xf⟩ := cells23 hP
  have HW0 := hid (h.keep hg0)
  have HB0 : Hid (∀ u, W0.grownBy u (some b) → Rd u G (.slice ba LB bc) B) := hid (fun u hu => (hB.keep hg0).on hu (notb hG))
  have HG0 := hid (gsome hg0 (some b))
  clear hP hB h
  by_cases h1 : dd = 1
  · subst h1
    unfold okOp at hok
    rw [if_pos rfl] at hok
    have hok' := of_decide_eq_true hok
    obtain ⟨k, rfl⟩ : ∃ k : Nat, wd = k := ⟨wd.toNat, by omega⟩
    rw [Int.toNat_natCast] at hok'
    have hk1 : 1 ≤ k := by omega
    have hk8 : k ≤ 8 := by omega
    have HC : Hid (∀ u, Rr u b F (layL N k).dropLast 0 → Calls Tryd.prog 27 #[.pointer (some ⟨b, 0, none⟩), .int .i64 k] u fun e w' => e = .returned (.int .u64 (numL [])) ∧ Rr w' b F (layL N k).dropLast 30 ∧ u.grownBy w' (some b)) := hid (fun u hu => by
      have h2 := rnum_ok u b F _ 0 k hu hk1 hk8
      obtain ⟨e1, e2, e3⟩ := num_sh (l := (layL N k).dropLast) (k := k) (by simp [layL_length]; omega)
      rw [e1, e2, e3] at h2
      exact h2)
    have e2 : encOp 1 N (k : Int) ii fl B [y0, y1, y2, y3, y4, y5, y6, y7, y8, y9, y10, y11, y12, y13, y14, y15] = layL N k := by unfold encOp; rw [if_pos rfl, Int.toNat_natCast]
    rw [e2] at HW0 ⊢
    clear hok hok' e2
    go_enter Tryd.func13, Tryd.ntmps13
    go_wp2_with fail
    go_region_held3 (fun u => u.cell? ⟨w.heap.size, 3, none⟩ = some (.int .i64 k) ∧ u.cell? ⟨w.heap.size, 2, none⟩ = some (.int .u64 N)) (first | assumption | exact ⟨x3, x2⟩) (first
      | (go_at_call 27; refine (HC.out _ (HW0.out.keep (gdrew1 _ _))).mono ?_; rintro e w1 ⟨rfl, hR1, hg1⟩; have HR1 := hid hR1; have HG1 := hid (gtrans (gdrew1 _ _) hg1); have hS1 := (cells23 (HP.out w1 HG1.out)).1; have hS2 : w1.cell? ⟨w.heap.size, 3, none⟩ = some (.int .i64 k) ∧ w1.cell? ⟨w.heap.size, 2, none⟩ = some (.int .u64 N) := ⟨hS1.2.2.2.1, hS1.2.2.1⟩; clear hR1 hg1 hS1))
    all_goals
      go_wp2_with fail
      go_ret
      exact ⟨⟨_, rfl⟩, HR1.out, gtrans HG0.out HG1.out⟩
  · by_cases h2 : dd = 2
    · subst h2
      have HC : Hid (∀ u, Rr u b F (layL (i64u ii) 8).dropLast 0 → Calls Tryd.prog 30 #[.pointer (some ⟨b, 0, none⟩)] u fun e w' => e = .returned (.int .i64 (u64i (numL []))) ∧ Rr w' b F (layL (i64u ii) 8).dropLast 30 ∧ u.grownBy w' (some b)) := hid (fun u hu => by
        have h2 := rint_any u b F _ 0 hu
        obtain ⟨e1, e2, e3⟩ := num_sh (l := (layL (i64u ii) 8).dropLast) (k := 8) (by simp [layL_length])
        rw [e1, e2, e3] at h2
        exact h2)
      have e2 : encOp 2 N wd ii fl B [y0, y1, y2, y3, y4, y5, y6, y7, y8, y9, y10, y11, y12, y13, y14, y15] = layL (i64u ii) 8 := rfl
      rw [e2] at HW0 ⊢
      clear hok e2 h1
      go_enter Tryd.func13, Tryd.ntmps13
      go_wp2_with fail
      go_region_held3 (fun u => u.cell? ⟨w.heap.size, 4, none⟩ = some (.int .i64 ii)) (first | assumption) (first
        | (go_at_call 30; refine (HC.out _ (HW0.out.keep (gdrew1 _ _))).mono ?_; rintro e w1 ⟨rfl, hR1, hg1⟩; have HR1 := hid hR1; have HG1 := hid (gtrans (gdrew1 _ _) hg1); have hS2 := (cells23 (HP.out w1 HG1.out)).1.2.2.2.2.1; clear hR1 hg1))
      all_goals
        go_wp2_with fail
        go_ret
        exact ⟨⟨_, rfl⟩, HR1.out, gtrans HG0.out HG1.out⟩
    · by_cases h3 : dd = 3
      · subst h3
        have HC : Hid (∀ u, Rr u b F (layL fl.toNat 1).dropLast 0 → Calls Tryd.prog 15 #[.pointer (some ⟨b, 0, none⟩)] u fun e w' => (∃ c, e = .returned (.bool c)) ∧ Rr w' b F (layL fl.toNat 1).dropLast 30 ∧ u.grownBy w' (some b)) := hid (fun u hu => by
          have h2 := rflag_any u b F _ 0 hu
          obtain ⟨e2, e3⟩ := flag_sh (l := (layL fl.toNat 1).dropLast) (by simp [layL_length])
          rw [e2, e3] at h2
          exact h2.mono (fun _ _ h => ⟨⟨_, h.1⟩, h.2⟩))
        have e2 : encOp 3 N wd ii fl B [y0, y1, y2, y3, y4, y5, y6, y7, y8, y9, y10, y11, y12, y13, y14, y15] = layL fl.toNat 1 := rfl
        rw [e2] at HW0 ⊢
        clear hok e2 h1 h2
        go_enter Tryd.func13, Tryd.ntmps13
        go_wp2_with fail
        go_region_held3 (fun u => u.cell? ⟨w.heap.size, 5, none⟩ = some (.bool fl)) (first | assumption) (first
          | (go_at_call 15; refine (HC.out _ (HW0.out.keep (gdrew1 _ _))).mono ?_; rintro e w1 ⟨⟨c1, rfl⟩, hR1, hg1⟩; have HR1 := hid hR1; have HG1 := hid (gtrans (gdrew1 _ _) hg1); have hS2 := (cells23 (HP.out w1 HG1.out)).1.2.2.2.2.2.1; clear hR1 hg1))
        all_goals
          go_wp2_with fail
          go_ret
          exact ⟨⟨_, rfl⟩, HR1.out, gtrans HG0.out HG1.out⟩
      · by_cases h4 : dd = 4
        · subst h4
          have hlen : B.length ≤ 1048576 := by unfold okOp at hok; simp at hok; omega
          have HC : Hid (∀ u, Rr u b F (layL B.length 4 ++ B).dropLast 0 → Calls Tryd.prog 22 #[.pointer (some ⟨b, 0, none⟩)] u fun e w' => ∃ v, e = .returned v ∧ Out u.heap.size w' v (rowT (layL B.length 4 ++ B).dropLast 0) ∧ Rr w' b F (layL B.length 4 ++ B).dropLast 30 ∧ u.grownBy w' (some b)) := hid (fun u hu => by
            have h2 := rbytes_any u b F _ 0 hu
            obtain ⟨e2, e3⟩ := row_sh B hlen
            rw [e2, e3] at h2
            exact h2)
          have e2 : encOp 4 N wd ii fl B [y0, y1, y2, y3, y4, y5, y6, y7, y8, y9, y10, y11, y12, y13, y14, y15] = layL B.length 4 ++ B := rfl
          rw [e2] at HW0 ⊢
          have hcv0 : (convert 29 9 (.slice ba LB bc)).run Tryd.prog W0.drew = .ok (.string ⟨B.toArray⟩) W0.drew := (HB0.out W0.drew (gdrew1 _ _)).convert
          have HLB := hid hLB
          clear hok e2 h1 h2 h3 hlen hLB
          go_enter Tryd.func13, Tryd.ntmps13
          go_wp2_with fail
          go_region_held (fun u => u.cell? ⟨w.heap.size, 6, none⟩ = some (.slice ba LB bc)) (first | assumption) (first
            | (go_at_call 22; refine (HC.out _ (HW0.out.keep (gdrew1 _ _))).mono ?_; rintro e w1 ⟨v1, rfl, hO1, hR1, hg1⟩; have HR1 := hid hR1; have HG1 := hid (gtrans (gdrew1 _ _) hg1); have hS2 := (cells23 (HP.out w1 HG1.out)).1.2.2.2.2.2.2.1; have hcv1 := hO1.rd.convert; have hcv2 := (HB0.out w1 HG1.out).convert; clear hR1 hg1 hO1))
          all_goals
            go_wp2_with fail
            go_ret
            exact ⟨⟨_, rfl⟩, HR1.out, gtrans HG0.out HG1.out⟩
        · by_cases h5 : dd = 5
          · subst h5
            have hlen : B.length ≤ 1048576 := by unfold okOp at hok; simp at hok; omega
            have HC : Hid (∀ u, Rr u b F (layL B.length 4 ++ B).dropLast 0 → Calls Tryd.prog 28 #[.pointer (some ⟨b, 0, none⟩)] u fun e w' => ∃ z, e = .returned (.string z) ∧ Rr w' b F (layL B.length 4 ++ B).dropLast 30 ∧ u.grownBy w' (some b)) := hid (fun u hu => by
              have h2 := rtext_any u b F _ 0 hu
              obtain ⟨e2, e3⟩ := row_sh B hlen
              rw [e2, e3] at h2
              exact h2.mono (fun _ _ h => ⟨_, h.1, h.2⟩))
            have e2 : encOp 5 N wd ii fl B [y0, y1, y2, y3, y4, y5, y6, y7, y8, y9, y10, y11, y12, y13, y14, y15] = layL B.length 4 ++ B := rfl
            rw [e2] at HW0 ⊢
            have hcv0 : (convert 29 9 (.slice ba LB bc)).run Tryd.prog W0.drew = .ok (.string ⟨B.toArray⟩) W0.drew := (HB0.out W0.drew (gdrew1 _ _)).convert
            have HLB := hid hLB
            clear hok e2 h1 h2 h3 h4 hlen hLB
            go_enter Tryd.func13, Tryd.ntmps13
            go_wp2_with fail
            go_region_held (fun u => u.cell? ⟨w.heap.size, 6, none⟩ = some (.slice ba LB bc)) (first | assumption) (first
              | (go_at_call 28; refine (HC.out _ (HW0.out.keep (gdrew1 _ _))).mono ?_; rintro e w1 ⟨z1, rfl, hR1, hg1⟩; have HR1 := hid hR1; have HG1 := hid (gtrans (gdrew1 _ _) hg1); have hS2 := (cells23 (HP.out w1 HG1.out)).1.2.2.2.2.2.2.1; have hcv2 := (HB0.out w1 HG1.out).convert; clear hR1 hg1))
            all_goals
              go_wp2_with fail
              go_ret
              exact ⟨⟨_, rfl⟩, HR1.out, gtrans HG0.out HG1.out⟩
          · exfalso
            unfold okOp at hok
            rw [if_neg h1, if_neg (by omega), if_neg (by omega)] at hok
            cases hok
end Go.Proofs.YtfalgjdhdgkbfaaDoor
