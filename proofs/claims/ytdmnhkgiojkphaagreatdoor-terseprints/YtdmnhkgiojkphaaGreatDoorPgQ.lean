/- Values that were lent come back: BackValues, BackValue. -/
import Derived.Test.YtdmnhkgiojkphaaGreatDoorX34
import Derived.Test.YtdmnhkgiojkphaaGreatDoorX37
namespace Go.Proofs.YtdmnhkgiojkphaaGreatDoor
open Go Go.RowKit
open Go.RowKit (wrap32 wrap64)

theorem idx22 (b o n c i : Nat) (h : i < n) (u : World) : (Instr.indexAt 22 (.slice (some ⟨b, o, none⟩) n c) (.int .i64 (i : Nat))).run Tryz.prog u = .ok (.pointer (some ⟨b, o + i * 6, none⟩)) u := by
  have h' : (i : Int) < (n : Int) := by omega
  go_simp
theorem range6 {u : World} {b o : Nat} {a0 a1 a2 a3 a4 a5 : Value} (y0 : u.cell? ⟨b, o, none⟩ = some a0) (y1 : u.cell? ⟨b, o + 1, none⟩ = some a1) (y2 : u.cell? ⟨b, o + 2, none⟩ = some a2) (y3 : u.cell? ⟨b, o + 3, none⟩ = some a3) (y4 : u.cell? ⟨b, o + 4, none⟩ = some a4) (y5 : u.cell? ⟨b, o + 5, none⟩ = some a5) : u.rangeAt b o [a0, a1, a2, a3, a4, a5] := by
  intro j v hv
  match j, hv with
  | 0, hv => simp at hv; subst hv; exact y0
  | 1, hv => simp at hv; subst hv; exact y1
  | 2, hv => simp at hv; subst hv; exact y2
  | 3, hv => simp at hv; subst hv; exact y3
  | 4, hv => simp at hv; subst hv; exact y4
  | 5, hv => simp at hv; subst hv; exact y5
  | j + 6, hv => simp at hv
theorem LentIs.row {w : World} {F : Nat → Prop} {g : Nat} : ∀ (l : List Tree) {o : Nat}, LentIs w F g o l → ∀ (i : Nat) (hi : i < l.length), ∃ cs, cs.length = 6 ∧ w.rangeAt g (o + i * 6) cs ∧ LentT w F l[i] (.agg cs.toArray)
  | [], _, _, i, hi => by simp at hi
  | x :: r, o, h, 0, _ => by
    rw [LentIs] at h
    obtain ⟨⟨a, b, c, d, e, f, h0, h1, h2, h3, h4, h5, ht⟩, _⟩ := h
    exact ⟨[a, b, c, d, e, f], rfl, by rw [Nat.zero_mul]; exact range6 h0 h1 h2 h3 h4 h5, ht⟩
  | x :: r, o, h, i + 1, hi => by
    rw [LentIs] at h
    obtain ⟨cs, h1, h2, h3⟩ := LentIs.row r h.2 i (by simpa using hi)
    exact ⟨cs, h1, by rw [show o + (i + 1) * 6 = o + 6 + i * 6 by omega]; exact h2, h3⟩
theorem RdIs.row {w : World} {F : Nat → Prop} {g : Nat} : ∀ (l : List Tree) {o : Nat}, RdIs w F g o l → ∀ (i : Nat) (hi : i < l.length), ∃ cs, cs.length = 6 ∧ w.rangeAt g (o + i * 6) cs ∧ RdT w F l[i] (.agg cs.toArray)
  | [], _, _, i, hi => by simp at hi
  | x :: r, o, h, 0, _ => by
    rw [RdIs] at h
    obtain ⟨⟨a, b, c, d, e, f, h0, h1, h2, h3, h4, h5, ht⟩, _⟩ := h
    exact ⟨[a, b, c, d, e, f], rfl, by rw [Nat.zero_mul]; exact range6 h0 h1 h2 h3 h4 h5, ht⟩
  | x :: r, o, h, i + 1, hi => by
    rw [RdIs] at h
    obtain ⟨cs, h1, h2, h3⟩ := RdIs.row r h.2 i (by simpa using hi)
    exact ⟨cs, h1, by rw [show o + (i + 1) * 6 = o + 6 + i * 6 by omega]; exact h2, h3⟩
theorem range_grown {w u : World} {g o : Nat} {cs : List Value} (h : w.rangeAt g o cs) (hg : w.grownBy u none) (hlt : g < w.heap.size) : u.rangeAt g o cs := fun j v hv => by
  rw [World.cell?_of_block (w := w) (a := ⟨g, o + j, none⟩) (hg.block g hlt (by simp))]
  exact h j v hv
/-- What BackValue promises of trees that hold no more than m. -/
def BackOk (m : Nat) : Prop := ∀ (t : Tree), cntT t ≤ m → ∀ (w : World) (F F' : Nat → Prop) (x v : Value), LentT w F t x → RdT w F' t v →
  Calls Tryz.prog 16 #[x, v] w fun e w' => e = .returned (.bool true) ∧ w.grownBy w' none
set_option maxRecDepth 100000 in
set_option maxHeartbeats 4000000 in
theorem backValues_any (m : Nat) (hm : m ≤ 1099511627776) (hB : BackOk m) (l : List Tree) (hl : cntL l ≤ m) (w : World) (F F' : Nat → Prop) (x v : Value) (hx : LentR w F l x) (hv : RdS w F' l v) :
    Calls Tryz.prog 44 #[x, v] w fun e w' => e = .returned (.bool true) ∧ w.grownBy w' none := by
  obtain ⟨g, c, rfl, hc, hg, hFg, hr, hmk⟩ := hx
  obtain ⟨a, cv, rfl, hcv, hk⟩ := hv
  have hll := cntL_length l
  have HM : Hid (∀ u : World, w.grownBy u none → ∀ j, j < 9 → u.rangeAt g ((l.length + j) * 6) mk6) := hid (fun u hu j hj => range_grown (hmk j hj) hu hg)
  have HI : Hid (∀ i (hi : i < l.length), ∃ (b o : Nat) (X6 V6 : List Value), a = some ⟨b, o, none⟩ ∧ X6.length = 6 ∧ V6.length = 6 ∧ ∀ u : World, w.grownBy u none → u.rangeAt g (0 + i * 6) X6 ∧ u.rangeAt b (o + i * 6) V6 ∧ Calls Tryz.prog 16 #[.agg X6.toArray, .agg V6.toArray] u fun e w' => e = .returned (.bool true) ∧ u.grownBy w' none) := hid (fun i hi => by
    obtain ⟨b, o, e, hb, hFb, hrv⟩ := hk (by omega)
    obtain ⟨cs, h1, h2, h3⟩ := LentIs.row l hr i hi
    obtain ⟨ds, h4, h5, h6⟩ := RdIs.row l hrv i hi
    exact ⟨b, o, cs, ds, e, h1, h4, fun u hu => ⟨range_grown h2 hu hg, range_grown h5 hu hb, hB l[i] (by have := cntL_mem (List.getElem_mem hi); omega) u F F' _ _ (LentT.kept (Stays.none hu) (fun _ h _ => h) _ h3) (h6.on (Stays.none hu))⟩⟩)
  obtain ⟨n, HN⟩ : ∃ n, Hid (l.length = n) := ⟨_, hid rfl⟩
  have hnb : n ≤ 1099511627776 := by have := HN.out; omega
  rw [HN.out] at HM hc ⊢
  have hn9 : (n : Int) + 9 ≤ (c : Int) := by omega
  have hn9' : ((n + 9 : Nat) : Int) ≤ (c : Int) := by omega
  clear hr hmk hk hB hl hll hm hg hFg hcv
  go_enter Tryz.func44, Tryz.ntmps44
  go_wp2_with fail
  go_loopw [5] (fun iv wr => ∃ i : Nat, iv = .int .i64 i ∧ i ≤ n ∧ Hid (w.grownBy wr none)) (fun iv _ => n - (intOf iv).toNat)
  case atStart => exact ⟨0, rfl, Nat.zero_le _, hid (grefl _ _)⟩
  case round =>
    obtain ⟨i, rfl, hi, HG⟩ := hrel
    by_cases hlt : i < n
    · have hlt' : (i : Int) < (n : Int) := by omega
      have hil : i < l.length := by rw [HN.out]; exact hlt
      obtain ⟨b, o, X6, V6, rfl, hXL, hVL, hcell⟩ := HI.out i hil
      have HXL := hid hXL
      have HVL := hid hVL
      have HX6 := hid (fun u hu => (hcell u hu).1)
      have HV6 := hid (fun u hu => (hcell u hu).2.1)
      have HCB := hid (fun u hu => (hcell u hu).2.2)
      clear hcell hXL hVL HM HI
      go_upto_region 6 with fail
      refine wp_region_listX (by kernel_rfl) [fun v _ => v = (Value.slice (some ⟨g, 0, none⟩) n c), fun v _ => v = (Value.int .i64 (i : Nat)), fun v _ => v = (Value.pointer (some ⟨g, 0 + i * 6, none⟩)), fun v _ => v = (Value.agg X6.toArray), fun v _ => v = (Value.slice (some ⟨b, o, none⟩) n cv), fun v _ => v = (Value.int .i64 (i : Nat)), fun v _ => v = (Value.pointer (some ⟨b, o + i * 6, none⟩)), fun v _ => v = (Value.agg V6.toArray)] (none) (fun _ => none) 8 (by kernel_rfl) (by kernel_rfl) (by kernel_rfl) (by kernel_rfl) (by decide) noRow_one (fun _ => .inl rfl) ⟨fun i v u u' hki h hg => h, fun i v u u' hki h hg => h, fun i v u u' hki h hg => h, fun i v u u' hki h hg => h, fun i v u u' hki h hg => h, fun i v u u' hki h hg => h, fun i v u u' hki h hg => h, fun i v u u' hki h hg => h, trivial⟩ ⟨?_, ?_, ?_, ?_, ?_, ?_, ?_, ?_, trivial⟩ ?_
      · intro A u hu hpu hsz hout hdeps
        have e0 : A.eval (.tmp 0) = (.slice (some ⟨g, 0, none⟩) n c) := (hout 0 (by kernel_rfl)).trans rfl
        refine ifw_none rfl ?_
        with_reducible refine shown_q (Value.slice (some ⟨g, 0, none⟩) n c) ?qq_1_0 (fun _ _ => ?qr_1_0)
        case qr_1_0 => exact (rfl : (Value.slice (some ⟨g, 0, none⟩) n c) = (Value.slice (some ⟨g, 0, none⟩) n c))
        with_reducible refine quietAt_mv (.tmp 0) (Value.slice (some ⟨g, 0, none⟩) n c) ?h0_1_0 ?h1_1_0
        case h0_1_0 => rfl
        case h1_1_0 => exact e0
      · intro A u hu hpu hsz hout hdeps
        have e5 : A.eval (.tmp 5) = (.int .i64 (i : Nat)) := (hout 5 (by kernel_rfl)).trans rfl
        refine ifw_none rfl ?_
        with_reducible refine shown_q (Value.int .i64 (i : Nat)) ?qq_1_1 (fun _ _ => ?qr_1_1)
        case qr_1_1 => exact (rfl : (Value.int .i64 (i : Nat)) = (Value.int .i64 (i : Nat)))
        with_reducible refine quietAt_mv (.tmp 5) (Value.int .i64 (i : Nat)) ?h0_1_1 ?h1_1_1
        case h0_1_1 => rfl
        case h1_1_1 => exact e5
      · intro A u hu hpu hsz hout hdeps
        have e19 : A.eval (.tmp 19) = (.slice (some ⟨g, 0, none⟩) n c) := by have h := depL hdeps 0 (by kernel_rfl) 19 (by kernel_rfl); exact h
        have e20 : A.eval (.tmp 20) = (.int .i64 (i : Nat)) := by have h := depL hdeps 1 (by kernel_rfl) 20 (by kernel_rfl); exact h
        refine ifw_none rfl ?_
        with_reducible refine shown_q (Value.pointer (some ⟨g, 0 + i * 6, none⟩)) ?qq_1_2 (fun _ _ => ?qr_1_2)
        case qr_1_2 => exact (rfl : (Value.pointer (some ⟨g, 0 + i * 6, none⟩)) = (Value.pointer (some ⟨g, 0 + i * 6, none⟩)))
        with_reducible refine quietAt_idx 22 (.tmp 19) (.tmp 20) (Value.slice (some ⟨g, 0, none⟩) n c) (Value.int .i64 (i : Nat)) (Value.pointer (some ⟨g, 0 + i * 6, none⟩)) ?h0_1_2 ?h1_1_2 ?h2_1_2 ?h3_1_2
        case h0_1_2 => rfl
        case h1_1_2 => exact e19
        case h2_1_2 => exact e20
        case h3_1_2 => exact idx22 g 0 n c i hlt u
      · intro A u hu hpu hsz hout hdeps
        have e21 : A.eval (.tmp 21) = (.pointer (some ⟨g, 0 + i * 6, none⟩)) := by have h := depL hdeps 2 (by kernel_rfl) 21 (by kernel_rfl); exact h
        refine ifw_none rfl ?_
        with_reducible refine shown_q (Value.agg X6.toArray) ?qq_1_3 (fun _ _ => ?qr_1_3)
        case qr_1_3 => exact (rfl : (Value.agg X6.toArray) = (Value.agg X6.toArray))
        with_reducible refine quietAt_load 26 (.tmp 21) ?h0_1_3 g (0 + i * 6) X6 (.struct (Tryz.prog.fieldsOf 26)) ?h1_1_3 ?h2_1_3 ?h3_1_3 ?h4_1_3 ?h5_1_3
        case h0_1_3 => rfl
        case h1_1_3 => exact e21
        case h2_1_3 => exact (HX6.out u (gtrans HG.out hu))
        case h3_1_3 => exact Tryz.underlying26
        case h4_1_3 => rfl
        case h5_1_3 => exact (by rw [HXL.out]; exact Tryz.size26)
      · intro A u hu hpu hsz hout hdeps
        have e1 : A.eval (.tmp 1) = (.slice (some ⟨b, o, none⟩) n cv) := (hout 1 (by kernel_rfl)).trans rfl
        refine ifw_none rfl ?_
        with_reducible refine shown_q (Value.slice (some ⟨b, o, none⟩) n cv) ?qq_1_4 (fun _ _ => ?qr_1_4)
        case qr_1_4 => exact (rfl : (Value.slice (some ⟨b, o, none⟩) n cv) = (Value.slice (some ⟨b, o, none⟩) n cv))
        with_reducible refine quietAt_mv (.tmp 1) (Value.slice (some ⟨b, o, none⟩) n cv) ?h0_1_4 ?h1_1_4
        case h0_1_4 => rfl
        case h1_1_4 => exact e1
      · intro A u hu hpu hsz hout hdeps
        have e5 : A.eval (.tmp 5) = (.int .i64 (i : Nat)) := (hout 5 (by kernel_rfl)).trans rfl
        refine ifw_none rfl ?_
        with_reducible refine shown_q (Value.int .i64 (i : Nat)) ?qq_1_5 (fun _ _ => ?qr_1_5)
        case qr_1_5 => exact (rfl : (Value.int .i64 (i : Nat)) = (Value.int .i64 (i : Nat)))
        with_reducible refine quietAt_mv (.tmp 5) (Value.int .i64 (i : Nat)) ?h0_1_5 ?h1_1_5
        case h0_1_5 => rfl
        case h1_1_5 => exact e5
      · intro A u hu hpu hsz hout hdeps
        have e23 : A.eval (.tmp 23) = (.slice (some ⟨b, o, none⟩) n cv) := by have h := depL hdeps 4 (by kernel_rfl) 23 (by kernel_rfl); exact h
        have e24 : A.eval (.tmp 24) = (.int .i64 (i : Nat)) := by have h := depL hdeps 5 (by kernel_rfl) 24 (by kernel_rfl); exact h
        refine ifw_none rfl ?_
        with_reducible refine shown_q (Value.pointer (some ⟨b, o + i * 6, none⟩)) ?qq_1_6 (fun _ _ => ?qr_1_6)
        case qr_1_6 => exact (rfl : (Value.pointer (some ⟨b, o + i * 6, none⟩)) = (Value.pointer (some ⟨b, o + i * 6, none⟩)))
        with_reducible refine quietAt_idx 22 (.tmp 23) (.tmp 24) (Value.slice (some ⟨b, o, none⟩) n cv) (Value.int .i64 (i : Nat)) (Value.pointer (some ⟨b, o + i * 6, none⟩)) ?h0_1_6 ?h1_1_6 ?h2_1_6 ?h3_1_6
        case h0_1_6 => rfl
        case h1_1_6 => exact e23
        case h2_1_6 => exact e24
        case h3_1_6 => exact idx22 b o n cv i hlt u
      · intro A u hu hpu hsz hout hdeps
        have e25 : A.eval (.tmp 25) = (.pointer (some ⟨b, o + i * 6, none⟩)) := by have h := depL hdeps 6 (by kernel_rfl) 25 (by kernel_rfl); exact h
        refine ifw_none rfl ?_
        with_reducible refine shown_q (Value.agg V6.toArray) ?qq_1_7 (fun _ _ => ?qr_1_7)
        case qr_1_7 => exact (rfl : (Value.agg V6.toArray) = (Value.agg V6.toArray))
        with_reducible refine quietAt_load 26 (.tmp 25) ?h0_1_7 b (o + i * 6) V6 (.struct (Tryz.prog.fieldsOf 26)) ?h1_1_7 ?h2_1_7 ?h3_1_7 ?h4_1_7 ?h5_1_7
        case h0_1_7 => rfl
        case h1_1_7 => exact e25
        case h2_1_7 => exact (HV6.out u (gtrans HG.out hu))
        case h3_1_7 => exact Tryz.underlying26
        case h4_1_7 => rfl
        case h5_1_7 => exact (by rw [HVL.out]; exact Tryz.size26)
      · intro A u8 listed hh hall
        have hA := hh.frame
        have HU := hid hh.grown
        obtain ⟨x19, hx19⟩ : ∃ x, A.eval (.tmp 19) = x := ⟨_, rfl⟩
        have f19 : (fun v _ => v = (Value.slice (some ⟨g, 0, none⟩) n c)) x19 u8 := by rw [← hx19]; exact hh.got 0 _ 19 rfl rfl (hall 0 (by decide))
        obtain ⟨x20, hx20⟩ : ∃ x, A.eval (.tmp 20) = x := ⟨_, rfl⟩
        have f20 : (fun v _ => v = (Value.int .i64 (i : Nat))) x20 u8 := by rw [← hx20]; exact hh.got 1 _ 20 rfl rfl (hall 1 (by decide))
        obtain ⟨x21, hx21⟩ : ∃ x, A.eval (.tmp 21) = x := ⟨_, rfl⟩
        have f21 : (fun v _ => v = (Value.pointer (some ⟨g, 0 + i * 6, none⟩))) x21 u8 := by rw [← hx21]; exact hh.got 2 _ 21 rfl rfl (hall 2 (by decide))
        obtain ⟨x22, hx22⟩ : ∃ x, A.eval (.tmp 22) = x := ⟨_, rfl⟩
        have f22 : (fun v _ => v = (Value.agg X6.toArray)) x22 u8 := by rw [← hx22]; exact hh.got 3 _ 22 rfl rfl (hall 3 (by decide))
        obtain ⟨x23, hx23⟩ : ∃ x, A.eval (.tmp 23) = x := ⟨_, rfl⟩
        have f23 : (fun v _ => v = (Value.slice (some ⟨b, o, none⟩) n cv)) x23 u8 := by rw [← hx23]; exact hh.got 4 _ 23 rfl rfl (hall 4 (by decide))
        obtain ⟨x24, hx24⟩ : ∃ x, A.eval (.tmp 24) = x := ⟨_, rfl⟩
        have f24 : (fun v _ => v = (Value.int .i64 (i : Nat))) x24 u8 := by rw [← hx24]; exact hh.got 5 _ 24 rfl rfl (hall 5 (by decide))
        obtain ⟨x25, hx25⟩ : ∃ x, A.eval (.tmp 25) = x := ⟨_, rfl⟩
        have f25 : (fun v _ => v = (Value.pointer (some ⟨b, o + i * 6, none⟩))) x25 u8 := by rw [← hx25]; exact hh.got 6 _ 25 rfl rfl (hall 6 (by decide))
        obtain ⟨x26, hx26⟩ : ∃ x, A.eval (.tmp 26) = x := ⟨_, rfl⟩
        have f26 : (fun v _ => v = (Value.agg V6.toArray)) x26 u8 := by rw [← hx26]; exact hh.got 7 _ 26 rfl rfl (hall 7 (by decide))
        obtain ⟨x27, hx27⟩ : ∃ x, A.eval (.tmp 27) = x := ⟨_, rfl⟩
        obtain ⟨x28, hx28⟩ : ∃ x, A.eval (.tmp 28) = x := ⟨_, rfl⟩
        dsimp only [wrote, List.foldl] at hA
        rw [hx19, hx20, hx21, hx22, hx23, hx24, hx25, hx26, hx27, hx28] at hA
        clear hh hall hx19 hx20 hx21 hx22 hx23 hx24 hx25 hx26 hx27 hx28
        replace f19 := (f19 : x19 = (.slice (some ⟨g, 0, none⟩) n c))
        subst f19
        replace f20 := (f20 : x20 = (.int .i64 (i : Nat)))
        subst f20
        replace f21 := (f21 : x21 = (.pointer (some ⟨g, 0 + i * 6, none⟩)))
        subst f21
        replace f22 := (f22 : x22 = (.agg X6.toArray))
        subst f22
        replace f23 := (f23 : x23 = (.slice (some ⟨b, o, none⟩) n cv))
        subst f23
        replace f24 := (f24 : x24 = (.int .i64 (i : Nat)))
        subst f24
        replace f25 := (f25 : x25 = (.pointer (some ⟨b, o + i * 6, none⟩)))
        subst f25
        replace f26 := (f26 : x26 = (.agg V6.toArray))
        subst f26
        subst hA
        show wpList _ _ _ [_, _] _ _
        simp only [Act.put, List.setIfInBounds_toArray, List.set_cons_succ, List.set_cons_zero]
        have HC := hid (HCB.out _ (gtrans HG.out HU.out))
        go_wp2_with (go_at_call 16; (with_reducible refine HC.out.mono ?_); rintro e w9 ⟨rfl, hg9⟩; have HG9 := hid (gtrans (gtrans HG.out HU.out) hg9); clear hg9)
        go_roundw
        case rel => exact ⟨i + 1, by go_num, by omega, HG9⟩
        case measure => simp [intOf]; omega
    · have hlt' : ¬ (i : Int) < (n : Int) := by omega
      clear HI
      go_wp2_with fail
      go_loopw [7] (fun jv wr => ∃ j : Nat, jv = .int .i64 j ∧ n ≤ j ∧ j ≤ n + 9 ∧ Hid (w.grownBy wr none)) (fun jv _ => n + 9 - (intOf jv).toNat)
      case atStart => exact ⟨n, rfl, Nat.le_refl _, by omega, HG⟩
      case round =>
        clear HG
        obtain ⟨j, rfl, hj1, hj2, HG⟩ := hrel
        by_cases hjl : j < n + 9
        · have hj3 : (j : Int) < (n : Int) + 9 := by omega
          have hm6 := HM.out wr HG.out (j - n) (by omega)
          rw [show (n + (j - n)) * 6 = j * 6 by omega] at hm6
          have z0 : wr.cell? ⟨g, j * 6, none⟩ = some (.int .i64 777) := by have := hm6 0 _ rfl; exact this
          have z2 : wr.cell? ⟨g, j * 6 + 2, none⟩ = some (.int .i64 0) := by have := hm6 2 _ rfl; exact this
          have z4 : wr.cell? ⟨g, j * 6 + 4, none⟩ = some (.slice none 0 0) := by have := hm6 4 _ rfl; exact this
          have z5 : wr.cell? ⟨g, j * 6 + 5, none⟩ = some (.slice none 0 0) := by have := hm6 5 _ rfl; exact this
          clear hm6
          go_wp2_with fail
          go_roundw
          case rel => exact ⟨j + 1, by go_num, by omega, by omega, HG⟩
          case measure => simp [intOf]; omega
        · have hj3 : ¬ (j : Int) < (n : Int) + 9 := by omega
          go_wp2_with fail
          go_ret
          exact ⟨rfl, HG.out⟩
set_option maxRecDepth 100000 in
set_option maxHeartbeats 4000000 in
theorem backValue_any : ∀ m, m ≤ 1099511627776 → BackOk m
  | 0, _, t, ht, w, F, F', x, v, _, _ => by rw [cntT_eq] at ht; omega
  | m + 1, hm, t, ht, w, F, F', x, v, hx, hv => by
    obtain ⟨kx, ix, rfl, hkx, hix⟩ := (LentT_eq _ _ _ _).1 hx
    obtain ⟨kv, iv, rfl, hkv, hiv⟩ := RdT_split hv
    have hcl : cntL t.items ≤ m := by rw [cntT_eq] at ht; omega
    have hkl : t.keys.length ≤ 1099511627776 := by have := keyN_length t.keys; rw [cntT_eq] at ht; omega
    have HKs : Hid (∀ u : World, w.grownBy u none → Calls Tryz.prog 43 #[kx, kv] u fun e w' => e = .returned (.bool true) ∧ u.grownBy w' none) := hid (fun u hu => backTexts_any t.keys u F F' kx kv (hkx.kept (Stays.none hu) (fun _ h _ => h)) (hkv.kept (Stays.none hu) (fun _ h _ => h)) hkl)
    have HVs : Hid (∀ u : World, w.grownBy u none → Calls Tryz.prog 44 #[ix, iv] u fun e w' => e = .returned (.bool true) ∧ u.grownBy w' none) := hid (fun u hu => backValues_any m (by omega) (backValue_any m (by omega)) t.items hcl u F F' ix iv (hix.kept (Stays.none hu) (fun _ h _ => h)) (hiv.on (Stays.none hu)))
    obtain ⟨kg, kc, rfl, -⟩ := hkx
    obtain ⟨ig, ic, rfl, -⟩ := hix
    obtain ⟨ka, kc', rfl, -⟩ := hkv
    obtain ⟨ia, ic', rfl, -⟩ := hiv
    obtain ⟨K, HK⟩ : ∃ z, Hid (t.kind = z) := ⟨_, hid rfl⟩
    obtain ⟨f, Hf⟩ : ∃ z, Hid (t.flag = z) := ⟨_, hid rfl⟩
    obtain ⟨N, HN⟩ : ∃ z, Hid (t.n = z) := ⟨_, hid rfl⟩
    obtain ⟨X, HX⟩ : ∃ z, Hid (t.text = z) := ⟨_, hid rfl⟩
    obtain ⟨kn, Hkn⟩ : ∃ z, Hid (t.keys.length = z) := ⟨_, hid rfl⟩
    obtain ⟨il, Hil⟩ : ∃ z, Hid (t.items.length = z) := ⟨_, hid rfl⟩
    rw [HK.out, Hf.out, HN.out, HX.out, Hkn.out, Hil.out]
    rw [Hkn.out] at HKs
    rw [Hil.out] at HVs
    have hq : (X.toList == X.toList) = true := by simp
    clear hv hx ht hm hcl hkl
    obtain ⟨W1, hW1⟩ : ∃ W, w.alloc (.cells #[.int .i64 K, .bool f, .int .i64 N, .string X, .slice (some ⟨kg, 0, none⟩) kn kc, .slice (some ⟨ig, 0, none⟩) il ic] 26) = W := ⟨_, rfl⟩
    have c1 := boxed w (.int .i64 K) (.bool f) (.int .i64 N) (.string X) (.slice (some ⟨kg, 0, none⟩) kn kc) (.slice (some ⟨ig, 0, none⟩) il ic)
    have g1 : w.grownBy W1 none := by rw [← hW1]; exact galloc _ _ none
    rw [hW1] at c1
    obtain ⟨W2, hW2⟩ : ∃ W, W1.alloc (.cells #[.int .i64 K, .bool f, .int .i64 N, .string X, .slice ka kn kc', .slice ia il ic'] 26) = W := ⟨_, rfl⟩
    have c2 := boxed W1 (.int .i64 K) (.bool f) (.int .i64 N) (.string X) (.slice ka kn kc') (.slice ia il ic')
    have g2 : W1.grownBy W2 none := by rw [← hW2]; exact galloc _ _ none
    rw [hW2] at c2
    have HB1 : Hid (∀ u : World, W2.grownBy u none → u.heap[w.heap.size]? = some (.cells #[.int .i64 K, .bool f, .int .i64 N, .string X, .slice (some ⟨kg, 0, none⟩) kn kc, .slice (some ⟨ig, 0, none⟩) il ic] 26 (0, 0))) := fun u hu => ((gtrans g2 hu).block _ (Array.getElem?_eq_some_iff.1 c1).1 (by simp)).trans c1
    have HB2 : Hid (∀ u : World, W2.grownBy u none → u.heap[W1.heap.size]? = some (.cells #[.int .i64 K, .bool f, .int .i64 N, .string X, .slice ka kn kc', .slice ia il ic'] 26 (0, 0))) := fun u hu => (hu.block _ (Array.getElem?_eq_some_iff.1 c2).1 (by simp)).trans c2
    have HG2 := hid (gtrans g1 g2)
    obtain ⟨⟨x0, x1, x2, x3, x4, x5⟩, xf⟩ := cells6 (HB1.out W2 (grefl _ _))
    obtain ⟨⟨y0, y1, y2, y3, y4, y5⟩, yf⟩ := cells6 (HB2.out W2 (grefl _ _))
    clear c1 c2 g1 g2
    go_enter Tryz.func16, Tryz.ntmps16
    go_wp2_with (first
      | (go_at_call 43; (with_reducible refine (HKs.out _ HG2.out).mono ?_); rintro e w5 ⟨rfl, hg5⟩; have HG5 := hid hg5; obtain ⟨⟨x0, x1, x2, x3, x4, x5⟩, xf⟩ := cells6 (HB1.out _ hg5); obtain ⟨⟨y0, y1, y2, y3, y4, y5⟩, yf⟩ := cells6 (HB2.out _ hg5); clear hg5)
      | (go_at_call 44; (with_reducible refine (HVs.out _ (gtrans HG2.out HG5.out)).mono ?_); rintro e w6 ⟨rfl, hg6⟩; have HG6 := hid hg6; clear hg6))
    go_ret
    exact ⟨rfl, gtrans HG2.out (gtrans HG5.out HG6.out)⟩
end Go.Proofs.YtdmnhkgiojkphaaGreatDoor
