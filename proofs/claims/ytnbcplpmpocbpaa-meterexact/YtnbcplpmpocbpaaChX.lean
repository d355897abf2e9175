/- MeterChecks: its walk. -/
import Derived.Test.YtnbcplpmpocbpaaOp8
namespace Go.Proofs.Ytnbcplpmpocbpaa
open Go Go.RowKit
open Go.RowKit (wrap32 wrap64)

theorem idx22 (b o n c i : Nat) (h : i < n) (u : World) : (Instr.indexAt 22 (.slice (some ⟨b, o, none⟩) n c) (.int .i64 (i : Nat))).run Try.prog u = .ok (.pointer (some ⟨b, o + i * 2, none⟩)) u := by
  have h' : (i : Int) < (n : Int) := by omega
  go_simp
theorem range_at {w u : World} {row : Option Nat} (hg : w.grownBy u row) {b off : Nat} {cs : List Value} (hb : b < w.heap.size) (hr : row ≠ some b) (h : w.rangeAt b off cs) : u.rangeAt b off cs := fun j v hv => by
  rw [cell_at hg hb hr]; exact h j v hv
set_option maxRecDepth 100000 in
set_option maxHeartbeats 800000 in
theorem checks_walk (w : World) (a : Option Addr) (b off n c : Nat) (f : Nat → Int × Nat) (hn : n ≤ 140737488355328) (hr : RowsL w a b off n f) :
    Calls Try.prog 3 #[.slice a n c] w fun e w' => e = .returned (.bool true) ∧ w.grownBy w' none := by
  have HR := hid hr
  clear hr
  go_enter Try.func3, Try.ntmps3
  go_wp2_with fail
  go_loopw [3] (fun iv wr => ∃ i : Nat, iv = .int .i64 i ∧ i ≤ n ∧ Hid (w.grownBy wr none)) (fun iv _ => n - (intOf iv).toNat)
  case atStart => exact ⟨0, rfl, Nat.zero_le _, hid (grefl _ _)⟩
  case round =>
    obtain ⟨i, rfl, hi, HG⟩ := hrel
    by_cases hlt : i < n
    · have hlt' : (i : Int) < (n : Int) := by omega
      obtain ⟨⟨H, l⟩, hp⟩ : ∃ p, f i = p := ⟨_, rfl⟩
      obtain ⟨hra, hok⟩ := HR.out.2 i hlt
      obtain ⟨rfl, hbl⟩ := HR.out.1 (by omega)
      rw [hp] at hra hok
      have HRa : Hid (∀ u, wr.grownBy u none → u.rangeAt b (off + i * 2) [.int .i64 H, .int .u64 (l : Int)]) := hid (fun u hu => range_at (gtrans HG.out hu) hbl (by simp) hra)
      have HCk := hid (fun u => check_any H l hok.2.2 u)
      have HRk := hid (fun u => rcheck_any H l u)
      obtain ⟨R, hR⟩ : ∃ R, ckR H l = R := ⟨_, rfl⟩
      rw [hR] at HCk HRk
      have HNe : Hid (∀ (x y : Operand) (u : World), (do eqGuard .neq 3 x y (.int .i64 R) (.int .i64 R); binOp .neq 3 (.int .i64 R) (.int .i64 R) : Sem Value).run Try.prog u = .ok (.bool false) u) := hid (fun x y u => by go_simp)
      clear hp hra hok hR hbl
      go_wp2_with fail
      refine wp_region_list (by kernel_rfl) [fun v _ => v = (Value.slice (some ⟨b, off, none⟩) n c), fun v _ => v = (Value.int .i64 (i : Nat)), fun v _ => v = (Value.pointer (some ⟨b, off + i * 2, none⟩)), fun v _ => v = (Value.agg [Value.int .i64 H, Value.int .u64 (l : Int)].toArray), fun v _ => v = (Value.int .i64 R), fun v _ => v = (Value.int .i64 R), fun v _ => v = (Value.slice (some ⟨b, off, none⟩) n c), fun v _ => v = (Value.int .i64 (i : Nat)), fun v _ => v = (Value.pointer (some ⟨b, off + i * 2, none⟩)), fun v _ => v = (Value.agg [Value.int .i64 H, Value.int .u64 (l : Int)].toArray), fun v _ => v = (Value.int .i64 R), fun v _ => v = (Value.bool false)] (none) (fun _ => none) 12 (by kernel_rfl) (by kernel_rfl) (by kernel_rfl) (by kernel_rfl) (by decide) noRow_one (fun _ => .inl rfl) ⟨fun i v u u' hki h hg => h, fun i v u u' hki h hg => h, fun i v u u' hki h hg => h, fun i v u u' hki h hg => h, fun i v u u' hki h hg => h, fun i v u u' hki h hg => h, fun i v u u' hki h hg => h, fun i v u u' hki h hg => h, fun i v u u' hki h hg => h, fun i v u u' hki h hg => h, fun i v u u' hki h hg => h, fun i v u u' hki h hg => h, trivial⟩ ⟨?_, ?_, ?_, ?_, ?_, ?_, ?_, ?_, ?_, ?_, ?_, ?_, trivial⟩ ?_
      · intro A u hu hpu hsz hout hdeps
        have e0 : A.eval (.tmp 0) = (.slice (some ⟨b, off, none⟩) n c) := (hout 0 (by kernel_rfl)).trans rfl
        refine ifw_none rfl ?_
        with_reducible refine shown_q (Value.slice (some ⟨b, off, none⟩) n c) ?qq_1_0 (fun _ _ => ?qr_1_0)
        case qr_1_0 => exact (rfl : (Value.slice (some ⟨b, off, none⟩) n c) = (Value.slice (some ⟨b, off, none⟩) n c))
        with_reducible refine quietAt_mv (.tmp 0) (Value.slice (some ⟨b, off, none⟩) n c) ?h0_1_0 ?h1_1_0
        case h0_1_0 => rfl
        case h1_1_0 => exact e0
      · intro A u hu hpu hsz hout hdeps
        have e3 : A.eval (.tmp 3) = (.int .i64 (i : Nat)) := (hout 3 (by kernel_rfl)).trans rfl
        refine ifw_none rfl ?_
        with_reducible refine shown_q (Value.int .i64 (i : Nat)) ?qq_1_1 (fun _ _ => ?qr_1_1)
        case qr_1_1 => exact (rfl : (Value.int .i64 (i : Nat)) = (Value.int .i64 (i : Nat)))
        with_reducible refine quietAt_mv (.tmp 3) (Value.int .i64 (i : Nat)) ?h0_1_1 ?h1_1_1
        case h0_1_1 => rfl
        case h1_1_1 => exact e3
      · intro A u hu hpu hsz hout hdeps
        have e10 : A.eval (.tmp 10) = (.slice (some ⟨b, off, none⟩) n c) := by have h := depL hdeps 0 (by kernel_rfl) 10 (by kernel_rfl); exact h
        have e11 : A.eval (.tmp 11) = (.int .i64 (i : Nat)) := by have h := depL hdeps 1 (by kernel_rfl) 11 (by kernel_rfl); exact h
        refine ifw_none rfl ?_
        with_reducible refine shown_q (Value.pointer (some ⟨b, off + i * 2, none⟩)) ?qq_1_2 (fun _ _ => ?qr_1_2)
        case qr_1_2 => exact (rfl : (Value.pointer (some ⟨b, off + i * 2, none⟩)) = (Value.pointer (some ⟨b, off + i * 2, none⟩)))
        with_reducible refine quietAt_idx 22 (.tmp 10) (.tmp 11) (Value.slice (some ⟨b, off, none⟩) n c) (Value.int .i64 (i : Nat)) (Value.pointer (some ⟨b, off + i * 2, none⟩)) ?h0_1_2 ?h1_1_2 ?h2_1_2 ?h3_1_2
        case h0_1_2 => rfl
        case h1_1_2 => exact e10
        case h2_1_2 => exact e11
        case h3_1_2 => exact idx22 b off n c i hlt u
      · intro A u hu hpu hsz hout hdeps
        have e12 : A.eval (.tmp 12) = (.pointer (some ⟨b, off + i * 2, none⟩)) := by have h := depL hdeps 2 (by kernel_rfl) 12 (by kernel_rfl); exact h
        refine ifw_none rfl ?_
        with_reducible refine shown_q (Value.agg [Value.int .i64 H, Value.int .u64 (l : Int)].toArray) ?qq_1_3 (fun _ _ => ?qr_1_3)
        case qr_1_3 => exact (rfl : (Value.agg [Value.int .i64 H, Value.int .u64 (l : Int)].toArray) = (Value.agg [Value.int .i64 H, Value.int .u64 (l : Int)].toArray))
        with_reducible refine quietAt_load 28 (.tmp 12) ?h0_1_3 b (off + i * 2) [Value.int .i64 H, Value.int .u64 (l : Int)] (.struct (Try.prog.fieldsOf 28)) ?h1_1_3 ?h2_1_3 ?h3_1_3 ?h4_1_3 ?h5_1_3
        case h0_1_3 => rfl
        case h1_1_3 => exact e12
        case h2_1_3 => exact (HRa.out u hu)
        case h3_1_3 => exact Try.underlying28
        case h4_1_3 => rfl
        case h5_1_3 => exact Try.size28
      · intro A u hu hpu hsz hout hdeps
        have e13 : A.eval (.tmp 13) = (.agg [.int .i64 H, .int .u64 (l : Int)].toArray) := by have h := depL hdeps 3 (by kernel_rfl) 13 (by kernel_rfl); exact h
        refine ifw_none rfl ?_
        with_reducible refine shown_q (Value.int .i64 R) ?qq_1_4 (fun _ _ => ?qr_1_4)
        case qr_1_4 => exact (rfl : (Value.int .i64 R) = (Value.int .i64 R))
        with_reducible refine quietAt_call 9 Try.f9 ?h0_1_4 ?h1_1_4 ?h2_1_4 #[.tmp 13] #[28] ?h3_1_4 (Value.int .i64 R) #[(Value.agg [Value.int .i64 H, Value.int .u64 (l : Int)].toArray)] ?h4_1_4 ?h5_1_4
        case h0_1_4 => exact Try.func9
        case h1_1_4 => kernel_rfl
        case h2_1_4 => kernel_rfl
        case h3_1_4 => rfl
        case h4_1_4 => exact map1 _ _ _ e13
        case h5_1_4 => exact HCk.out u
      · intro A u hu hpu hsz hout hdeps
        have e14 : A.eval (.tmp 14) = (.int .i64 R) := by have h := depL hdeps 4 (by kernel_rfl) 14 (by kernel_rfl); exact h
        refine ifw_none rfl ?_
        with_reducible refine shown_q (Value.int .i64 R) ?qq_1_5 (fun _ _ => ?qr_1_5)
        case qr_1_5 => exact (rfl : (Value.int .i64 R) = (Value.int .i64 R))
        with_reducible refine quietAt_call 8 Try.f8 ?h0_1_5 ?h1_1_5 ?h2_1_5 #[.tmp 14] #[24] ?h3_1_5 (Value.int .i64 R) #[(Value.int .i64 R)] ?h4_1_5 ?h5_1_5
        case h0_1_5 => exact Try.func8
        case h1_1_5 => kernel_rfl
        case h2_1_5 => kernel_rfl
        case h3_1_5 => rfl
        case h4_1_5 => exact map1 _ _ _ e14
        case h5_1_5 => exact (num_any R u).mono (fun e w' h => ⟨h.1, by rw [h.2]; exact grefl _ _⟩)
      · intro A u hu hpu hsz hout hdeps
        have e0 : A.eval (.tmp 0) = (.slice (some ⟨b, off, none⟩) n c) := (hout 0 (by kernel_rfl)).trans rfl
        refine ifw_none rfl ?_
        with_reducible refine shown_q (Value.slice (some ⟨b, off, none⟩) n c) ?qq_1_6 (fun _ _ => ?qr_1_6)
        case qr_1_6 => exact (rfl : (Value.slice (some ⟨b, off, none⟩) n c) = (Value.slice (some ⟨b, off, none⟩) n c))
        with_reducible refine quietAt_mv (.tmp 0) (Value.slice (some ⟨b, off, none⟩) n c) ?h0_1_6 ?h1_1_6
        case h0_1_6 => rfl
        case h1_1_6 => exact e0
      · intro A u hu hpu hsz hout hdeps
        have e3 : A.eval (.tmp 3) = (.int .i64 (i : Nat)) := (hout 3 (by kernel_rfl)).trans rfl
        refine ifw_none rfl ?_
        with_reducible refine shown_q (Value.int .i64 (i : Nat)) ?qq_1_7 (fun _ _ => ?qr_1_7)
        case qr_1_7 => exact (rfl : (Value.int .i64 (i : Nat)) = (Value.int .i64 (i : Nat)))
        with_reducible refine quietAt_mv (.tmp 3) (Value.int .i64 (i : Nat)) ?h0_1_7 ?h1_1_7
        case h0_1_7 => rfl
        case h1_1_7 => exact e3
      · intro A u hu hpu hsz hout hdeps
        have e16 : A.eval (.tmp 16) = (.slice (some ⟨b, off, none⟩) n c) := by have h := depL hdeps 6 (by kernel_rfl) 16 (by kernel_rfl); exact h
        have e17 : A.eval (.tmp 17) = (.int .i64 (i : Nat)) := by have h := depL hdeps 7 (by kernel_rfl) 17 (by kernel_rfl); exact h
        refine ifw_none rfl ?_
        with_reducible refine shown_q (Value.pointer (some ⟨b, off + i * 2, none⟩)) ?qq_1_8 (fun _ _ => ?qr_1_8)
        case qr_1_8 => exact (rfl : (Value.pointer (some ⟨b, off + i * 2, none⟩)) = (Value.pointer (some ⟨b, off + i * 2, none⟩)))
        with_reducible refine quietAt_idx 22 (.tmp 16) (.tmp 17) (Value.slice (some ⟨b, off, none⟩) n c) (Value.int .i64 (i : Nat)) (Value.pointer (some ⟨b, off + i * 2, none⟩)) ?h0_1_8 ?h1_1_8 ?h2_1_8 ?h3_1_8
        case h0_1_8 => rfl
        case h1_1_8 => exact e16
        case h2_1_8 => exact e17
        case h3_1_8 => exact idx22 b off n c i hlt u
      · intro A u hu hpu hsz hout hdeps
        have e18 : A.eval (.tmp 18) = (.pointer (some ⟨b, off + i * 2, none⟩)) := by have h := depL hdeps 8 (by kernel_rfl) 18 (by kernel_rfl); exact h
        refine ifw_none rfl ?_
        with_reducible refine shown_q (Value.agg [Value.int .i64 H, Value.int .u64 (l : Int)].toArray) ?qq_1_9 (fun _ _ => ?qr_1_9)
        case qr_1_9 => exact (rfl : (Value.agg [Value.int .i64 H, Value.int .u64 (l : Int)].toArray) = (Value.agg [Value.int .i64 H, Value.int .u64 (l : Int)].toArray))
        with_reducible refine quietAt_load 28 (.tmp 18) ?h0_1_9 b (off + i * 2) [Value.int .i64 H, Value.int .u64 (l : Int)] (.struct (Try.prog.fieldsOf 28)) ?h1_1_9 ?h2_1_9 ?h3_1_9 ?h4_1_9 ?h5_1_9
        case h0_1_9 => rfl
        case h1_1_9 => exact e18
        case h2_1_9 => exact (HRa.out u hu)
        case h3_1_9 => exact Try.underlying28
        case h4_1_9 => rfl
        case h5_1_9 => exact Try.size28
      · intro A u hu hpu hsz hout hdeps
        have e19 : A.eval (.tmp 19) = (.agg [.int .i64 H, .int .u64 (l : Int)].toArray) := by have h := depL hdeps 9 (by kernel_rfl) 19 (by kernel_rfl); exact h
        refine ifw_none rfl ?_
        with_reducible refine shown_q (Value.int .i64 R) ?qq_1_10 (fun _ _ => ?qr_1_10)
        case qr_1_10 => exact (rfl : (Value.int .i64 R) = (Value.int .i64 R))
        with_reducible refine quietAt_call 10 Try.f10 ?h0_1_10 ?h1_1_10 ?h2_1_10 #[.tmp 19] #[28] ?h3_1_10 (Value.int .i64 R) #[(Value.agg [Value.int .i64 H, Value.int .u64 (l : Int)].toArray)] ?h4_1_10 ?h5_1_10
        case h0_1_10 => exact Try.func10
        case h1_1_10 => kernel_rfl
        case h2_1_10 => kernel_rfl
        case h3_1_10 => rfl
        case h4_1_10 => exact map1 _ _ _ e19
        case h5_1_10 => exact HRk.out u
      · intro A u hu hpu hsz hout hdeps
        have e15 : A.eval (.tmp 15) = (.int .i64 R) := by have h := depL hdeps 5 (by kernel_rfl) 15 (by kernel_rfl); exact h
        have e20 : A.eval (.tmp 20) = (.int .i64 R) := by have h := depL hdeps 10 (by kernel_rfl) 20 (by kernel_rfl); exact h
        refine ifw_none rfl ?_
        with_reducible refine shown_q (Value.bool false) ?qq_1_11 (fun _ _ => ?qr_1_11)
        case qr_1_11 => exact (rfl : (Value.bool false) = (Value.bool false))
        with_reducible refine quietAt_bin .neq 3 (.tmp 15) (.tmp 20) 3 (Value.int .i64 R) (Value.int .i64 R) (Value.bool false) ?h0_1_11 ?h1_1_11 ?h2_1_11 ?h3_1_11
        case h0_1_11 => rfl
        case h1_1_11 => exact e15
        case h2_1_11 => exact e20
        case h3_1_11 => exact HNe.out _ _ u
      · intro A w2 listed hh hall
        have hA := hh.frame
        have HU := hid hh.grown
        obtain ⟨x10, hx10⟩ : ∃ x, A.eval (.tmp 10) = x := ⟨_, rfl⟩
        have f10 : (fun v _ => v = (Value.slice (some ⟨b, off, none⟩) n c)) x10 w2 := by rw [← hx10]; exact hh.got 0 _ 10 rfl rfl (hall 0 (by decide))
        obtain ⟨x11, hx11⟩ : ∃ x, A.eval (.tmp 11) = x := ⟨_, rfl⟩
        have f11 : (fun v _ => v = (Value.int .i64 (i : Nat))) x11 w2 := by rw [← hx11]; exact hh.got 1 _ 11 rfl rfl (hall 1 (by decide))
        obtain ⟨x12, hx12⟩ : ∃ x, A.eval (.tmp 12) = x := ⟨_, rfl⟩
        have f12 : (fun v _ => v = (Value.pointer (some ⟨b, off + i * 2, none⟩))) x12 w2 := by rw [← hx12]; exact hh.got 2 _ 12 rfl rfl (hall 2 (by decide))
        obtain ⟨x13, hx13⟩ : ∃ x, A.eval (.tmp 13) = x := ⟨_, rfl⟩
        have f13 : (fun v _ => v = (Value.agg [Value.int .i64 H, Value.int .u64 (l : Int)].toArray)) x13 w2 := by rw [← hx13]; exact hh.got 3 _ 13 rfl rfl (hall 3 (by decide))
        obtain ⟨x14, hx14⟩ : ∃ x, A.eval (.tmp 14) = x := ⟨_, rfl⟩
        have f14 : (fun v _ => v = (Value.int .i64 R)) x14 w2 := by rw [← hx14]; exact hh.got 4 _ 14 rfl rfl (hall 4 (by decide))
        obtain ⟨x15, hx15⟩ : ∃ x, A.eval (.tmp 15) = x := ⟨_, rfl⟩
        have f15 : (fun v _ => v = (Value.int .i64 R)) x15 w2 := by rw [← hx15]; exact hh.got 5 _ 15 rfl rfl (hall 5 (by decide))
        obtain ⟨x16, hx16⟩ : ∃ x, A.eval (.tmp 16) = x := ⟨_, rfl⟩
        have f16 : (fun v _ => v = (Value.slice (some ⟨b, off, none⟩) n c)) x16 w2 := by rw [← hx16]; exact hh.got 6 _ 16 rfl rfl (hall 6 (by decide))
        obtain ⟨x17, hx17⟩ : ∃ x, A.eval (.tmp 17) = x := ⟨_, rfl⟩
        have f17 : (fun v _ => v = (Value.int .i64 (i : Nat))) x17 w2 := by rw [← hx17]; exact hh.got 7 _ 17 rfl rfl (hall 7 (by decide))
        obtain ⟨x18, hx18⟩ : ∃ x, A.eval (.tmp 18) = x := ⟨_, rfl⟩
        have f18 : (fun v _ => v = (Value.pointer (some ⟨b, off + i * 2, none⟩))) x18 w2 := by rw [← hx18]; exact hh.got 8 _ 18 rfl rfl (hall 8 (by decide))
        obtain ⟨x19, hx19⟩ : ∃ x, A.eval (.tmp 19) = x := ⟨_, rfl⟩
        have f19 : (fun v _ => v = (Value.agg [Value.int .i64 H, Value.int .u64 (l : Int)].toArray)) x19 w2 := by rw [← hx19]; exact hh.got 9 _ 19 rfl rfl (hall 9 (by decide))
        obtain ⟨x20, hx20⟩ : ∃ x, A.eval (.tmp 20) = x := ⟨_, rfl⟩
        have f20 : (fun v _ => v = (Value.int .i64 R)) x20 w2 := by rw [← hx20]; exact hh.got 10 _ 20 rfl rfl (hall 10 (by decide))
        obtain ⟨x21, hx21⟩ : ∃ x, A.eval (.tmp 21) = x := ⟨_, rfl⟩
        have f21 : (fun v _ => v = (Value.bool false)) x21 w2 := by rw [← hx21]; exact hh.got 11 _ 21 rfl rfl (hall 11 (by decide))
        dsimp only [wrote, List.foldl] at hA
        rw [hx10, hx11, hx12, hx13, hx14, hx15, hx16, hx17, hx18, hx19, hx20, hx21] at hA
        clear hh hall hx10 hx11 hx12 hx13 hx14 hx15 hx16 hx17 hx18 hx19 hx20 hx21
        replace f10 := (f10 : x10 = (.slice (some ⟨b, off, none⟩) n c))
        subst f10
        replace f11 := (f11 : x11 = (.int .i64 (i : Nat)))
        subst f11
        replace f12 := (f12 : x12 = (.pointer (some ⟨b, off + i * 2, none⟩)))
        subst f12
        replace f13 := (f13 : x13 = (.agg [.int .i64 H, .int .u64 (l : Int)].toArray))
        subst f13
        replace f14 := (f14 : x14 = (.int .i64 R))
        subst f14
        replace f15 := (f15 : x15 = (.int .i64 R))
        subst f15
        replace f16 := (f16 : x16 = (.slice (some ⟨b, off, none⟩) n c))
        subst f16
        replace f17 := (f17 : x17 = (.int .i64 (i : Nat)))
        subst f17
        replace f18 := (f18 : x18 = (.pointer (some ⟨b, off + i * 2, none⟩)))
        subst f18
        replace f19 := (f19 : x19 = (.agg [.int .i64 H, .int .u64 (l : Int)].toArray))
        subst f19
        replace f20 := (f20 : x20 = (.int .i64 R))
        subst f20
        replace f21 := (f21 : x21 = (.bool false))
        subst f21
        subst hA
        show wpList _ _ _ [] _ _
        unfold wpList
        simp only [Act.put, List.setIfInBounds_toArray, List.set_cons_succ, List.set_cons_zero]
        have HG2 := hid (gtrans HG.out HU.out)
        go_wp2_with fail
        go_roundw
        case rel => exact ⟨i + 1, by go_num, by omega, HG2⟩
        case measure => simp [intOf]; omega
    · have hlt' : ¬ (i : Int) < (n : Int) := by omega
      go_wp2_with fail
      refine (wakes_any _).mono ?_
      rintro e w2 ⟨rfl, hg2⟩
      have HG2 := hid (gtrans HG.out hg2)
      go_wp2_with fail
      go_ret
      exact ⟨rfl, HG2.out⟩
end Go.Proofs.Ytnbcplpmpocbpaa
