/- placed. -/
import Derived.Test.YtmpcpakdocaieaaSeB
namespace Go.Proofs.Ytmpcpakdocaieaa.Bk
open Go Go.RowKit
open Go.RowKit (wrap32 wrap64)

theorem KS.pre {w w1 w2 : World} {sb : Nat} {v : Value} (hg : w.grownBy w1 none) (h : KS w1 w2 sb v) : KS w w2 sb v :=
  ⟨h.os.trans hg.os, h.tape.trans hg.tape, h.output.trans hg.output, Nat.le_trans hg.size h.size, fun k hk h1 h2 => (h.block k (Nat.lt_of_lt_of_le hk hg.size) h1 h2).trans (hg.block k hk (by simp))⟩
theorem KS.post {w w1 w2 : World} {sb : Nat} {v : Value} (h : KS w w1 sb v) (hg : w1.grownBy w2 none) : KS w w2 sb v :=
  ⟨hg.os.trans h.os, hg.tape.trans h.tape, hg.output.trans h.output, Nat.le_trans h.size hg.size, fun k hk h1 h2 => (hg.block k (Nat.lt_of_lt_of_le hk h.size) (by simp)).trans (h.block k hk h1 h2)⟩
set_option maxRecDepth 100000 in
set_option maxHeartbeats 3200000 in
theorem placed_any (w : World) (B sb : Nat) (F : Nat → Prop) (cs : List Value) (va : Option Addr) (vn vc : Nat) (lk l : List Ky) (a : Option Addr) (n c : Nat) (nx : Nat) (hb : Blk w sb cs 66) (h4 : cs[4]? = some (.slice va vn vc)) (ho : OutK B w (.slice va vn vc) lk) (hB : B ≤ w.heap.size) (hr : ∀ u, KS w u sb (.slice va vn vc) → RdK u F (.slice a n c) l) (hl : l.length ≤ 1000000) :
    Calls Try.prog 24 #[.pointer (some ⟨sb, 0, none⟩), .agg #[.slice a n c, .int .u64 nx]] w fun e w' => e = .returned (.bool true) ∧ ∃ na nn nc, OutK B w' (.slice na nn nc) l ∧ Blk w' sb (cs.set 4 (.slice na nn nc)) 66 ∧ ((Value.slice na nn nc).ownBlock = (Value.slice va vn vc).ownBlock ∨ ∃ k, w.heap.size ≤ k ∧ (Value.slice na nn nc).ownBlock = some k) ∧ KS w w' sb (.slice va vn vc) := by
  have HR0 : Hid (RdK w F (.slice a n c) l) := hid (hr w ⟨rfl, rfl, rfl, Nat.le_refl _, fun _ _ _ _ => rfl⟩)
  have HOk := hid HR0.out.open.1
  have HLe : Hid (l.length ≤ 1000000) := hid hl
  have HRr := hid hr
  have HSs : Hid (sb < w.heap.size) := hid hb.lt
  have HSR : Hid (∀ u, w.grownBy u none → Calls Try.prog 45 #[.pointer (some ⟨sb, 0, none⟩), .agg #[.slice a n c, .int .u64 nx]] u fun e w' => ∃ na nn nc, e = .returned (.agg #[.slice na nn nc, .int .u64 nx]) ∧ OutK B w' (.slice na nn nc) l ∧ Blk w' sb (cs.set 4 (.slice na nn nc)) 66 ∧ ((Value.slice na nn nc).ownBlock = (Value.slice va vn vc).ownBlock ∨ ∃ k, w.heap.size ≤ k ∧ (Value.slice na nn nc).ownBlock = some k) ∧ KS w w' sb (.slice va vn vc) ∧ KS u w' sb (.slice va vn vc)) := fun u hu => by
    refine (seatRing_any u B sb F cs va vn vc lk l a n c nx (hb.keep hu) h4 (ho.keep hu) (Nat.le_trans hB hu.size) (HR0.out.keep hu) hl).mono ?_
    rintro e w' ⟨na, nn, nc, rfl, h1, h2, h3, h5⟩
    refine ⟨na, nn, nc, rfl, h1, h2, ?_, KS.pre hu h5, h5⟩
    rcases h3 with h3 | ⟨k, h3, h6⟩
    · exact .inl h3
    · exact .inr ⟨k, Nat.le_trans hu.size h3, h6⟩
  have HNx : Hid (∀ (q : Nat) (u : World), Blk u q [.slice a n c, .int .u64 nx] 69 → (Value.slice va vn vc).ownBlock = some q → w.heap.size ≤ q → False) := hid (fun q u _ h1 h2 => by
    have := (ho.2.lt q h1).2
    omega)
  clear hb h4 ho hB hr hl
  go_enter Try.func24, Try.ntmps24
  go_upto_region 2 with (first
    | ((with_reducible refine wpList_box_row (by with_unfolding_all rfl) 69 _ (by with_unfolding_all rfl) [.slice a n c, .int .u64 nx] (by with_unfolding_all rfl) ?_); intro w1 B1 s1 g1; have HB1 := hid B1; have HG1 := hid g1; clear B1 s1 g1)
    | (with_reducible refine wpList_load_part (by with_unfolding_all rfl) 69 _ (by with_unfolding_all rfl) w.heap.size 0 [.slice a n c, .int .u64 nx] _ (by with_unfolding_all rfl) HB1.out.whole Try.underlying69 (by with_unfolding_all rfl) (by with_unfolding_all exact Try.size69) ?_)
    | (go_at_call 45; (with_reducible refine (HSR.out _ HG1.out).mono ?_); rintro e w2 ⟨na, nn, nc, rfl, hO2, hS2, hA2, hK2, hk2⟩; have HOx2 := hid hO2; have HSe2 := hid hS2; have HAt := hid hA2; have HKS2 := hid hK2; have HB2 : Hid (Blk w2 w.heap.size [.slice a n c, .int .u64 nx] 69) := hid ((hk2.block _ HB1.out.lt (by have := HSs.out; omega) (fun e => HNx.out _ _ HB1.out e (Nat.le_refl _))).trans HB1.out); clear hO2 hS2 hA2 hK2 hk2)
    | ((with_reducible refine wpList_alloc_row (by with_unfolding_all rfl) 69 (by with_unfolding_all rfl) [.slice none 0 0, .int .u64 0] Try.zero69 ?_); intro w3 B3 s3 g3; have HX3 := hid B3; have HOx3 := hid (HOx2.out.keep g3); have HSe3 := hid (HSe2.out.keep g3); have HB3 := hid (HB2.out.keep g3); have HKS3 := hid (KS.post HKS2.out g3); clear B3 s3 g3)
    | ((with_reducible refine wpList_store_all (by with_unfolding_all rfl) 69 _ _ (by with_unfolding_all rfl) _ [.slice none 0 0, .int .u64 0] [.slice na nn nc, .int .u64 nx] 69 (by with_unfolding_all rfl) (by with_unfolding_all rfl) HX3.out (by with_unfolding_all rfl) (by with_unfolding_all exact Try.size69) (ring_one _ _ _ _) ?_); intro w4 B4 g4 s4; have HX4 := hid B4; have HOx := hid (HOx3.out.offB g4 HX3.out (by decide)); have HSe := hid (HSe3.out.on g4 (by have := HSe2.out.lt; simp; omega)); have HB4 := hid (HB3.out.on g4 (by have := HB2.out.lt; simp; omega)); have HKS : Hid (KS w w4 sb (.slice va vn vc)) := hid ⟨g4.os.trans HKS3.out.os, g4.tape.trans HKS3.out.tape, g4.output.trans HKS3.out.output, Nat.le_trans HKS3.out.size g4.size, fun k hk q1 q2 => (g4.block k (Nat.lt_of_lt_of_le hk HKS3.out.size) (by have := HKS2.out.size; simp; omega)).trans (HKS3.out.block k hk q1 q2)⟩; clear B4 g4 s4))
  obtain ⟨p3, hp3⟩ : ∃ x, w.heap.size = x := ⟨_, rfl⟩
  obtain ⟨p5, hp5⟩ : ∃ x, w2.heap.size = x := ⟨_, rfl⟩
  rw [hp3] at HB4
  rw [hp5] at HX4
  simp only [hp3, hp5]
  clear hp5 HB1 HB2 HB3 HX3 HOx2 HOx3 HSe2 HSe3 HKS2 HKS3 HG1 HSR HNx HSs
  obtain ⟨CK, HCKe⟩ : ∃ x, Hid (chk l nx = x) := ⟨_, hid rfl⟩
  obtain ⟨KC, HKCe⟩ : ∃ x, Hid ((if isRing l nx = true then lastK l else zky).cells = x) := ⟨_, hid rfl⟩
  obtain ⟨KB, HKBe⟩ : ∃ x, Hid (isRing l nx = x) := ⟨_, hid rfl⟩
  have HKok : Hid ((if isRing l nx = true then lastK l else zky).sec.length = 32) := hid (by
    by_cases h : isRing l nx = true
    · rw [if_pos h]
      have hp := goodL_pos (isRing_good h).1
      obtain ⟨m, hm⟩ : ∃ m, l.length = m + 1 := ⟨l.length - 1, by omega⟩
      exact (HOk.out _ (List.mem_of_getElem? (last_at hm))).2.1
    · rw [if_neg h]; exact zky_ok.2.1)
  have HLKC : Hid (KC.length = 34) := hid (by rw [← HKCe.out]; exact Ky.cells_length HKok.out)
  have H1KC : Hid (∀ v ∈ KC, v.oneCell' = true) := hid (by rw [← HKCe.out]; exact Ky.one _)
  have HNk : Hid (∀ (x y : Operand) (u : World), (do eqGuard .eql 107 x y (.agg KC.toArray) (.agg KC.toArray); binOp .eql 107 (.agg KC.toArray) (.agg KC.toArray) : Sem Value).run Try.prog u = .ok (.bool true) u) := fun x y u => by
    have := eql_key HKok.out HKok.out (x := x) (y := y) u
    rw [beq_self_eq_true, HKCe.out] at this
    exact this
  have HNz : Hid (∀ (x y : Operand) (u : World), (do eqGuard .eql 3 x y (.int .i64 CK) (.int .i64 CK); binOp .eql 3 (.int .i64 CK) (.int .i64 CK) : Sem Value).run Try.prog u = .ok (.bool true) u) := fun x y u => by go_simp
  have HNb : Hid (∀ (x y : Operand) (u : World), (do eqGuard .eql 4 x y (.bool KB) (.bool KB); binOp .eql 4 (.bool KB) (.bool KB) : Sem Value).run Try.prog u = .ok (.bool true) u) := fun x y u => by cases KB <;> go_simp
  have HNq : Hid (∀ u : World, Calls Try.prog 22 #[.int .i64 CK] u fun r w' => r = .returned (.int .i64 CK) ∧ u.grownBy w' none) := fun u => (num_any CK u).mono fun e w' ⟨h1, h2⟩ => ⟨h1, by rw [h2]; exact grefl _ _⟩
  have HNl : Hid (nn = l.length) := hid (by obtain ⟨x1, x2, x3⟩ := HOx.out.slice; injection x3)
  have HRx : Hid (∀ u, w4.grownBy u none → RdK u (fun k => B ≤ k) (.slice na nn nc) l) := hid (fun u hu => (HOx.out.keep hu).rd)
  have HRv : Hid (∀ u, w4.grownBy u none → RdK u F (.slice a n c) l) := hid (fun u hu => HRr.out u (KS.post HKS.out hu))
  have HLb : Hid (l.length ≤ 1099511627776) := hid (by have := HLe.out; omega)
  have HC31 : Hid (∀ u, w4.grownBy u none → Calls Try.prog 31 #[.agg #[.slice na nn nc, .int .u64 nx]] u fun e w' => ∃ v, e = .returned v ∧ u.grownBy w' none ∧ v = Value.int .i64 CK) := fun u hu => by
    have h := check_any u _ _ l nx (HRx.out u hu) HLb.out
    rw [HCKe.out] at h
    exact h.mono fun e w' ⟨he, hg⟩ => ⟨_, he, hg, rfl⟩
  have HC34 : Hid (∀ u, w4.grownBy u none → Calls Try.prog 34 #[.agg #[.slice a n c, .int .u64 nx]] u fun e w' => ∃ v, e = .returned v ∧ u.grownBy w' none ∧ v = Value.int .i64 CK) := fun u hu => by
    have h := rchk_any u _ _ l nx (HRv.out u hu) HLb.out
    rw [HCKe.out] at h
    exact h.mono fun e w' ⟨he, hg⟩ => ⟨_, he, hg, rfl⟩
  have HCu : Hid (∀ u, w4.grownBy u none → Calls Try.prog 29 #[.agg #[.slice na nn nc, .int .u64 nx]] u fun e w' => e = .returned (.tuple #[.agg KC.toArray, .bool KB]) ∧ u.grownBy w' none) := fun u hu => by
    have h := current_any u _ _ l nx (HRx.out u hu) HLb.out
    rw [HKCe.out, HKBe.out] at h
    exact h
  have HCr : Hid (∀ u, w4.grownBy u none → Calls Try.prog 41 #[.agg #[.slice a n c, .int .u64 nx]] u fun e w' => e = .returned (.tuple #[.agg KC.toArray, .bool KB]) ∧ u.grownBy w' none) := fun u hu => by
    have h := rcur_any u _ _ l nx (HRv.out u hu) HLb.out
    rw [HKCe.out, HKBe.out] at h
    exact h
  have HU4 := hid (grefl w4 none)
  clear HKok HKCe HCKe HKBe HRx HRv HR0 HOk HRr
  go_upto_region 3 with (first
    | ((with_reducible refine wpList_store_all (by with_unfolding_all rfl) 107 _ _ (by with_unfolding_all rfl) _ zky.cells KC 107 (by with_unfolding_all rfl) (by with_unfolding_all rfl) HZ7b.out (by rw [HLKC.out]; with_unfolding_all rfl) (by rw [HLKC.out]; exact Try.size107) H1KC.out ?_); intro w7c BB gg ss; have HK6_7c := hid BB; have HX7c := hid (HX7b.out.on gg (by have := HX7a.out.lt; simp; omega)); have HB7c := hid (HB7b.out.on gg (by have := HB7a.out.lt; simp; omega)); have HU7c := hid (HU7b.out.andThen gg (fun j hj => .inl (by injection hj with hj; have := HU7a.out.size; omega))); clear BB gg ss)
    | (have := HU7a; clear this; (with_reducible refine wpList_alloc_row (by with_unfolding_all rfl) 107 (by with_unfolding_all rfl) zky.cells Try.zero107 ?_); intro w7b BB ss gg; have HZ7b := hid BB; have HX7b := hid (HX7a.out.keep gg); have HB7b := hid (HB7a.out.keep gg); have HU7b := hid (gtrans HU7a.out gg); clear BB ss gg)
    | (with_reducible refine wpList_load_part (by with_unfolding_all rfl) 69 _ (by with_unfolding_all rfl) p5 0 [.slice na nn nc, .int .u64 nx] _ (by with_unfolding_all rfl) HX4.out.whole Try.underlying69 (by with_unfolding_all rfl) (by with_unfolding_all exact Try.size69) ?_)
    | (go_at_call 29; (with_reducible refine (HCu.out _ HU4.out).mono ?_); rintro e w7a ⟨rfl, gg⟩; have HX7a := hid (HX4.out.keep gg); have HB7a := hid (HB4.out.keep gg); have HU7a := hid (gtrans HU4.out gg); clear gg))
  obtain ⟨p6, hp6⟩ : ∃ x, w7a.heap.size = x := ⟨_, rfl⟩
  rw [hp6] at HK6_7c ⊢
  clear hp6
  go_upto_region 4 with (first
    | ((with_reducible refine wpList_store_all (by with_unfolding_all rfl) 107 _ _ (by with_unfolding_all rfl) _ zky.cells KC 107 (by with_unfolding_all rfl) (by with_unfolding_all rfl) HZ8b.out (by rw [HLKC.out]; with_unfolding_all rfl) (by rw [HLKC.out]; exact Try.size107) H1KC.out ?_); intro w8c BB gg ss; have HK8_8c := hid BB; have HX8c := hid (HX8b.out.on gg (by have := HX8a.out.lt; simp; omega)); have HB8c := hid (HB8b.out.on gg (by have := HB8a.out.lt; simp; omega)); have HK6_8c := hid (HK6_8b.out.on gg (by have := HK6_8a.out.lt; simp; omega)); have HU8c := hid (HU8b.out.andThen gg (fun j hj => .inl (by injection hj with hj; have := HU8a.out.size; omega))); clear BB gg ss)
    | (have := HU8a; clear this; (with_reducible refine wpList_alloc_row (by with_unfolding_all rfl) 107 (by with_unfolding_all rfl) zky.cells Try.zero107 ?_); intro w8b BB ss gg; have HZ8b := hid BB; have HX8b := hid (HX8a.out.keep gg); have HB8b := hid (HB8a.out.keep gg); have HK6_8b := hid (HK6_8a.out.keep gg); have HU8b := hid (gtrans HU8a.out gg); clear BB ss gg)
    | (with_reducible refine wpList_load_part (by with_unfolding_all rfl) 69 _ (by with_unfolding_all rfl) p3 0 [.slice a n c, .int .u64 nx] _ (by with_unfolding_all rfl) HB7c.out.whole Try.underlying69 (by with_unfolding_all rfl) (by with_unfolding_all exact Try.size69) ?_)
    | (go_at_call 41; (with_reducible refine (HCr.out _ HU7c.out).mono ?_); rintro e w8a ⟨rfl, gg⟩; have HX8a := hid (HX7c.out.keep gg); have HB8a := hid (HB7c.out.keep gg); have HK6_8a := hid (HK6_7c.out.keep gg); have HU8a := hid (gtrans HU7c.out gg); clear gg))
  obtain ⟨p8, hp8⟩ : ∃ x, w8a.heap.size = x := ⟨_, rfl⟩
  rw [hp8] at HK8_8c ⊢
  clear hp8
  have HX9 := hid HX8c.out
  have HB9 := hid HB8c.out
  have HK6 := hid HK6_8c.out
  have HK8 := hid HK8_8c.out
  have HU9 := hid HU8c.out
  clear HX4 HB4 HX7a HX7b HX7c HX8a HX8b HX8c HB7a HB7b HB7c HB8a HB8b HB8c HK6_7c HK6_8a HK6_8b HK6_8c HK8_8c HZ7b HZ8b HU7a HU7b HU7c HU8a HU8b HU8c HU4
  refine wp_region_listX (by kernel_rfl) [fun v _ => v = (Value.agg [Value.slice na nn nc, Value.int .u64 nx].toArray), fun v _ => v = Value.int .i64 CK, fun v _ => v = (Value.int .i64 CK), fun v _ => v = (Value.agg [Value.slice a n c, Value.int .u64 nx].toArray), fun v _ => v = Value.int .i64 CK, fun v _ => v = (Value.bool true), fun v _ => v = (Value.bool true), fun v _ => v = (Value.agg KC.toArray), fun v _ => v = (Value.agg KC.toArray), fun v _ => v = (Value.bool true), fun v _ => v = (Value.bool true), fun v _ => v = (Value.bool true), fun v _ => v = (Value.bool KB), fun v _ => v = (Value.bool KB), fun v _ => v = (Value.bool true), fun v _ => v = (Value.bool true), fun v _ => v = (Value.bool true)] (none) (fun _ => none) 17 (by kernel_rfl) (by kernel_rfl) (by kernel_rfl) (by kernel_rfl) (by decide) noRow_one (fun _ => .inl rfl) ⟨fun i v u u' hki h hg => h, fun i v u u' hki h hg => h, fun i v u u' hki h hg => h, fun i v u u' hki h hg => h, fun i v u u' hki h hg => h, fun i v u u' hki h hg => h, fun i v u u' hki h hg => h, fun i v u u' hki h hg => h, fun i v u u' hki h hg => h, fun i v u u' hki h hg => h, fun i v u u' hki h hg => h, fun i v u u' hki h hg => h, fun i v u u' hki h hg => h, fun i v u u' hki h hg => h, fun i v u u' hki h hg => h, fun i v u u' hki h hg => h, fun i v u u' hki h hg => h, trivial⟩ ⟨?_, ?_, ?_, ?_, ?_, ?_, ?_, ?_, ?_, ?_, ?_, ?_, ?_, ?_, ?_, ?_, ?_, trivial⟩ ?_
  · intro A u hu hpu hsz hout hdeps
    have e5 : A.eval (.tmp 5) = (.pointer (some ⟨p5, 0, none⟩)) := (hout 5 (by kernel_rfl)).trans rfl
    refine ifw_none rfl ?_
    with_reducible refine shown_q (Value.agg [Value.slice na nn nc, Value.int .u64 nx].toArray) ?qq_1pl_0 (fun _ _ => ?qr_1pl_0)
    case qr_1pl_0 => exact (rfl : (Value.agg [Value.slice na nn nc, Value.int .u64 nx].toArray) = (Value.agg [Value.slice na nn nc, Value.int .u64 nx].toArray))
    with_reducible refine quietAt_load 69 (.tmp 5) ?h0_1pl_0 p5 0 [Value.slice na nn nc, Value.int .u64 nx] (.struct (Try.prog.fieldsOf 69)) ?h1_1pl_0 ?h2_1pl_0 ?h3_1pl_0 ?h4_1pl_0 ?h5_1pl_0
    case h0_1pl_0 => rfl
    case h1_1pl_0 => exact e5
    case h2_1pl_0 => exact (HX9.out.keep hu).whole
    case h3_1pl_0 => exact Try.under69
    case h4_1pl_0 => rfl
    case h5_1pl_0 => exact Try.size69
  · intro A u hu hpu hsz hout hdeps
    have e23 : A.eval (.tmp 23) = (.agg [.slice na nn nc, .int .u64 nx].toArray) := by have h := depL hdeps 0 (by kernel_rfl) 23 (by kernel_rfl); exact h
    refine ifw_none rfl ?_
    with_reducible refine shown_call 31 Try.f31 ?h0_1pl_1 ?h1_1pl_1 ?h2_1pl_1 #[.tmp 23] #[69] ?h3_1pl_1 #[(Value.agg [Value.slice na nn nc, Value.int .u64 nx].toArray)] ?h4_1pl_1 ?h5_1pl_1
    case h0_1pl_1 => exact Try.func31
    case h1_1pl_1 => kernel_rfl
    case h2_1pl_1 => kernel_rfl
    case h3_1pl_1 => rfl
    case h4_1pl_1 => exact map1 _ _ _ e23
    case h5_1pl_1 => exact HC31.out u (gtrans HU9.out hu)
  · intro A u hu hpu hsz hout hdeps
    have f24 : (fun v _ => v = Value.int .i64 CK) (A.eval (.tmp 24)) u := by have h := depL hdeps 1 (by kernel_rfl) 24 (by kernel_rfl); exact h
    have e24 := (f24 : _ = Value.int .i64 CK)
    refine ifw_none rfl ?_
    with_reducible refine shown_q (Value.int .i64 CK) ?qq_1pl_2 (fun _ _ => ?qr_1pl_2)
    case qr_1pl_2 => exact (rfl : (Value.int .i64 CK) = (Value.int .i64 CK))
    with_reducible refine quietAt_call 22 Try.f22 ?h0_1pl_2 ?h1_1pl_2 ?h2_1pl_2 #[.tmp 24] #[74] ?h3_1pl_2 (Value.int .i64 CK) #[(Value.int .i64 CK)] ?h4_1pl_2 ?h5_1pl_2
    case h0_1pl_2 => exact Try.func22
    case h1_1pl_2 => kernel_rfl
    case h2_1pl_2 => kernel_rfl
    case h3_1pl_2 => rfl
    case h4_1pl_2 => exact map1 _ _ _ e24
    case h5_1pl_2 => exact HNq.out u
  · intro A u hu hpu hsz hout hdeps
    have e3 : A.eval (.tmp 3) = (.pointer (some ⟨p3, 0, none⟩)) := (hout 3 (by kernel_rfl)).trans rfl
    refine ifw_none rfl ?_
    with_reducible refine shown_q (Value.agg [Value.slice a n c, Value.int .u64 nx].toArray) ?qq_1pl_3 (fun _ _ => ?qr_1pl_3)
    case qr_1pl_3 => exact (rfl : (Value.agg [Value.slice a n c, Value.int .u64 nx].toArray) = (Value.agg [Value.slice a n c, Value.int .u64 nx].toArray))
    with_reducible refine quietAt_load 69 (.tmp 3) ?h0_1pl_3 p3 0 [Value.slice a n c, Value.int .u64 nx] (.struct (Try.prog.fieldsOf 69)) ?h1_1pl_3 ?h2_1pl_3 ?h3_1pl_3 ?h4_1pl_3 ?h5_1pl_3
    case h0_1pl_3 => rfl
    case h1_1pl_3 => exact e3
    case h2_1pl_3 => exact (HB9.out.keep hu).whole
    case h3_1pl_3 => exact Try.under69
    case h4_1pl_3 => rfl
    case h5_1pl_3 => exact Try.size69
  · intro A u hu hpu hsz hout hdeps
    have e26 : A.eval (.tmp 26) = (.agg [.slice a n c, .int .u64 nx].toArray) := by have h := depL hdeps 3 (by kernel_rfl) 26 (by kernel_rfl); exact h
    refine ifw_none rfl ?_
    with_reducible refine shown_call 34 Try.f34 ?h0_1pl_4 ?h1_1pl_4 ?h2_1pl_4 #[.tmp 26] #[69] ?h3_1pl_4 #[(Value.agg [Value.slice a n c, Value.int .u64 nx].toArray)] ?h4_1pl_4 ?h5_1pl_4
    case h0_1pl_4 => exact Try.func34
    case h1_1pl_4 => kernel_rfl
    case h2_1pl_4 => kernel_rfl
    case h3_1pl_4 => rfl
    case h4_1pl_4 => exact map1 _ _ _ e26
    case h5_1pl_4 => exact HC34.out u (gtrans HU9.out hu)
  · intro A u hu hpu hsz hout hdeps
    have e25 : A.eval (.tmp 25) = (.int .i64 CK) := by have h := depL hdeps 2 (by kernel_rfl) 25 (by kernel_rfl); exact h
    have f27 : (fun v _ => v = Value.int .i64 CK) (A.eval (.tmp 27)) u := by have h := depL hdeps 4 (by kernel_rfl) 27 (by kernel_rfl); exact h
    have e27 := (f27 : _ = Value.int .i64 CK)
    refine ifw_none rfl ?_
    with_reducible refine shown_q (Value.bool true) ?qq_1pl_5 (fun _ _ => ?qr_1pl_5)
    case qr_1pl_5 => exact (rfl : (Value.bool true) = (Value.bool true))
    with_reducible refine quietAt_bin .eql 3 (.tmp 25) (.tmp 27) 3 (Value.int .i64 CK) (Value.int .i64 CK) (Value.bool true) ?h0_1pl_5 ?h1_1pl_5 ?h2_1pl_5 ?h3_1pl_5
    case h0_1pl_5 => rfl
    case h1_1pl_5 => exact e25
    case h2_1pl_5 => exact e27
    case h3_1pl_5 => exact HNz.out _ _ u
  · intro A u hu hpu hsz hout hdeps
    have e28 : A.eval (.tmp 28) = (.bool true) := by have h := depL hdeps 5 (by kernel_rfl) 28 (by kernel_rfl); exact h
    refine ifw_none rfl ?_
    with_reducible refine shown_q (Value.bool true) ?qq_1pl_6 (fun _ _ => ?qr_1pl_6)
    case qr_1pl_6 => exact (rfl : (Value.bool true) = (Value.bool true))
    with_reducible refine quietAt_mv (.tmp 28) (Value.bool true) ?h0_1pl_6 ?h1_1pl_6
    case h0_1pl_6 => rfl
    case h1_1pl_6 => exact e28
  · intro A u hu hpu hsz hout hdeps
    have e29 : A.eval (.tmp 29) = (.bool true) := by have h := depL hdeps 6 (by kernel_rfl) 29 (by kernel_rfl); exact h
    have e6 : A.eval (.tmp 6) = (.pointer (some ⟨p6, 0, none⟩)) := (hout 6 (by kernel_rfl)).trans rfl
    refine ifw_want 6 true 29 rfl rfl e29 ?_
    with_reducible refine shown_q (Value.agg KC.toArray) ?qq_1pl_7 (fun _ _ => ?qr_1pl_7)
    case qr_1pl_7 => exact (rfl : (Value.agg KC.toArray) = (Value.agg KC.toArray))
    with_reducible refine quietAt_load 107 (.tmp 6) ?h0_1pl_7 p6 0 KC (.struct (Try.prog.fieldsOf 107)) ?h1_1pl_7 ?h2_1pl_7 ?h3_1pl_7 ?h4_1pl_7 ?h5_1pl_7
    case h0_1pl_7 => rfl
    case h1_1pl_7 => exact e6
    case h2_1pl_7 => exact (HK6.out.keep hu).whole
    case h3_1pl_7 => exact Try.under107
    case h4_1pl_7 => rfl
    case h5_1pl_7 => exact (by rw [HLKC.out]; exact Try.size107)
  · intro A u hu hpu hsz hout hdeps
    have e29 : A.eval (.tmp 29) = (.bool true) := by have h := depL hdeps 6 (by kernel_rfl) 29 (by kernel_rfl); exact h
    have e8 : A.eval (.tmp 8) = (.pointer (some ⟨p8, 0, none⟩)) := (hout 8 (by kernel_rfl)).trans rfl
    refine ifw_want 6 true 29 rfl rfl e29 ?_
    with_reducible refine shown_q (Value.agg KC.toArray) ?qq_1pl_8 (fun _ _ => ?qr_1pl_8)
    case qr_1pl_8 => exact (rfl : (Value.agg KC.toArray) = (Value.agg KC.toArray))
    with_reducible refine quietAt_load 107 (.tmp 8) ?h0_1pl_8 p8 0 KC (.struct (Try.prog.fieldsOf 107)) ?h1_1pl_8 ?h2_1pl_8 ?h3_1pl_8 ?h4_1pl_8 ?h5_1pl_8
    case h0_1pl_8 => rfl
    case h1_1pl_8 => exact e8
    case h2_1pl_8 => exact (HK8.out.keep hu).whole
    case h3_1pl_8 => exact Try.under107
    case h4_1pl_8 => rfl
    case h5_1pl_8 => exact (by rw [HLKC.out]; exact Try.size107)
  · intro A u hu hpu hsz hout hdeps
    have e29 : A.eval (.tmp 29) = (.bool true) := by have h := depL hdeps 6 (by kernel_rfl) 29 (by kernel_rfl); exact h
    have e30 : A.eval (.tmp 30) = (.agg KC.toArray) := by have h := depL hdeps 7 (by kernel_rfl) 30 (by kernel_rfl); exact h
    have e31 : A.eval (.tmp 31) = (.agg KC.toArray) := by have h := depL hdeps 8 (by kernel_rfl) 31 (by kernel_rfl); exact h
    refine ifw_want 6 true 29 rfl rfl e29 ?_
    with_reducible refine shown_q (Value.bool true) ?qq_1pl_9 (fun _ _ => ?qr_1pl_9)
    case qr_1pl_9 => exact (rfl : (Value.bool true) = (Value.bool true))
    with_reducible refine quietAt_bin .eql 107 (.tmp 30) (.tmp 31) 107 (Value.agg KC.toArray) (Value.agg KC.toArray) (Value.bool true) ?h0_1pl_9 ?h1_1pl_9 ?h2_1pl_9 ?h3_1pl_9
    case h0_1pl_9 => rfl
    case h1_1pl_9 => exact e30
    case h2_1pl_9 => exact e31
    case h3_1pl_9 => exact HNk.out _ _ u
  · intro A u hu hpu hsz hout hdeps
    have e29 : A.eval (.tmp 29) = (.bool true) := by have h := depL hdeps 6 (by kernel_rfl) 29 (by kernel_rfl); exact h
    have e32 : A.eval (.tmp 32) = (.bool true) := by have h := depL hdeps 9 (by kernel_rfl) 32 (by kernel_rfl); exact h
    refine ifw_none rfl ?_
    with_reducible refine shown_q (Value.bool true) ?qq_1pl_10 (fun _ _ => ?qr_1pl_10)
    case qr_1pl_10 => exact (rfl : (Value.bool true) = (Value.bool true))
    with_reducible refine quietAt_pick (.tmp 29) (.tmp 32) (.const (.bool false)) true (Value.bool true) ?h0_1pl_10 ?h1_1pl_10 ?h2_1pl_10
    case h0_1pl_10 => rfl
    case h1_1pl_10 => exact e29
    case h2_1pl_10 => rw [if_pos rfl]; exact e32
  · intro A u hu hpu hsz hout hdeps
    have e33 : A.eval (.tmp 33) = (.bool true) := by have h := depL hdeps 10 (by kernel_rfl) 33 (by kernel_rfl); exact h
    refine ifw_none rfl ?_
    with_reducible refine shown_q (Value.bool true) ?qq_1pl_11 (fun _ _ => ?qr_1pl_11)
    case qr_1pl_11 => exact (rfl : (Value.bool true) = (Value.bool true))
    with_reducible refine quietAt_mv (.tmp 33) (Value.bool true) ?h0_1pl_11 ?h1_1pl_11
    case h0_1pl_11 => rfl
    case h1_1pl_11 => exact e33
  · intro A u hu hpu hsz hout hdeps
    have e34 : A.eval (.tmp 34) = (.bool true) := by have h := depL hdeps 11 (by kernel_rfl) 34 (by kernel_rfl); exact h
    have e7 : A.eval (.tmp 7) = (.bool KB) := (hout 7 (by kernel_rfl)).trans rfl
    refine ifw_want 11 true 34 rfl rfl e34 ?_
    with_reducible refine shown_q (Value.bool KB) ?qq_1pl_12 (fun _ _ => ?qr_1pl_12)
    case qr_1pl_12 => exact (rfl : (Value.bool KB) = (Value.bool KB))
    with_reducible refine quietAt_mv (.tmp 7) (Value.bool KB) ?h0_1pl_12 ?h1_1pl_12
    case h0_1pl_12 => rfl
    case h1_1pl_12 => exact e7
  · intro A u hu hpu hsz hout hdeps
    have e34 : A.eval (.tmp 34) = (.bool true) := by have h := depL hdeps 11 (by kernel_rfl) 34 (by kernel_rfl); exact h
    have e9 : A.eval (.tmp 9) = (.bool KB) := (hout 9 (by kernel_rfl)).trans rfl
    refine ifw_want 11 true 34 rfl rfl e34 ?_
    with_reducible refine shown_q (Value.bool KB) ?qq_1pl_13 (fun _ _ => ?qr_1pl_13)
    case qr_1pl_13 => exact (rfl : (Value.bool KB) = (Value.bool KB))
    with_reducible refine quietAt_mv (.tmp 9) (Value.bool KB) ?h0_1pl_13 ?h1_1pl_13
    case h0_1pl_13 => rfl
    case h1_1pl_13 => exact e9
  · intro A u hu hpu hsz hout hdeps
    have e34 : A.eval (.tmp 34) = (.bool true) := by have h := depL hdeps 11 (by kernel_rfl) 34 (by kernel_rfl); exact h
    have e35 : A.eval (.tmp 35) = (.bool KB) := by have h := depL hdeps 12 (by kernel_rfl) 35 (by kernel_rfl); exact h
    have e36 : A.eval (.tmp 36) = (.bool KB) := by have h := depL hdeps 13 (by kernel_rfl) 36 (by kernel_rfl); exact h
    refine ifw_want 11 true 34 rfl rfl e34 ?_
    with_reducible refine shown_q (Value.bool true) ?qq_1pl_14 (fun _ _ => ?qr_1pl_14)
    case qr_1pl_14 => exact (rfl : (Value.bool true) = (Value.bool true))
    with_reducible refine quietAt_bin .eql 4 (.tmp 35) (.tmp 36) 4 (Value.bool KB) (Value.bool KB) (Value.bool true) ?h0_1pl_14 ?h1_1pl_14 ?h2_1pl_14 ?h3_1pl_14
    case h0_1pl_14 => rfl
    case h1_1pl_14 => exact e35
    case h2_1pl_14 => exact e36
    case h3_1pl_14 => exact HNb.out _ _ u
  · intro A u hu hpu hsz hout hdeps
    have e34 : A.eval (.tmp 34) = (.bool true) := by have h := depL hdeps 11 (by kernel_rfl) 34 (by kernel_rfl); exact h
    have e37 : A.eval (.tmp 37) = (.bool true) := by have h := depL hdeps 14 (by kernel_rfl) 37 (by kernel_rfl); exact h
    refine ifw_none rfl ?_
    with_reducible refine shown_q (Value.bool true) ?qq_1pl_15 (fun _ _ => ?qr_1pl_15)
    case qr_1pl_15 => exact (rfl : (Value.bool true) = (Value.bool true))
    with_reducible refine quietAt_pick (.tmp 34) (.tmp 37) (.const (.bool false)) true (Value.bool true) ?h0_1pl_15 ?h1_1pl_15 ?h2_1pl_15
    case h0_1pl_15 => rfl
    case h1_1pl_15 => exact e34
    case h2_1pl_15 => rw [if_pos rfl]; exact e37
  · intro A u hu hpu hsz hout hdeps
    have e38 : A.eval (.tmp 38) = (.bool true) := by have h := depL hdeps 15 (by kernel_rfl) 38 (by kernel_rfl); exact h
    refine ifw_none rfl ?_
    with_reducible refine shown_q (Value.bool true) ?qq_1pl_16 (fun _ _ => ?qr_1pl_16)
    case qr_1pl_16 => exact (rfl : (Value.bool true) = (Value.bool true))
    with_reducible refine quietAt_as (.tmp 38) (Value.bool true) ?h0_1pl_16 ?h1_1pl_16
    case h0_1pl_16 => rfl
    case h1_1pl_16 => exact e38
  · intro A u8 listed hh hall
    have hA := hh.frame
    have HU := hid hh.grown
    obtain ⟨x23, hx23⟩ : ∃ x, A.eval (.tmp 23) = x := ⟨_, rfl⟩
    have f23 : (fun v _ => v = (Value.agg [Value.slice na nn nc, Value.int .u64 nx].toArray)) x23 u8 := by rw [← hx23]; exact hh.got 0 _ 23 rfl rfl (hall 0 (by decide))
    obtain ⟨x24, hx24⟩ : ∃ x, A.eval (.tmp 24) = x := ⟨_, rfl⟩
    have f24 : (fun v _ => v = Value.int .i64 CK) x24 u8 := by rw [← hx24]; exact hh.got 1 _ 24 rfl rfl (hall 1 (by decide))
    obtain ⟨x25, hx25⟩ : ∃ x, A.eval (.tmp 25) = x := ⟨_, rfl⟩
    have f25 : (fun v _ => v = (Value.int .i64 CK)) x25 u8 := by rw [← hx25]; exact hh.got 2 _ 25 rfl rfl (hall 2 (by decide))
    obtain ⟨x26, hx26⟩ : ∃ x, A.eval (.tmp 26) = x := ⟨_, rfl⟩
    have f26 : (fun v _ => v = (Value.agg [Value.slice a n c, Value.int .u64 nx].toArray)) x26 u8 := by rw [← hx26]; exact hh.got 3 _ 26 rfl rfl (hall 3 (by decide))
    obtain ⟨x27, hx27⟩ : ∃ x, A.eval (.tmp 27) = x := ⟨_, rfl⟩
    have f27 : (fun v _ => v = Value.int .i64 CK) x27 u8 := by rw [← hx27]; exact hh.got 4 _ 27 rfl rfl (hall 4 (by decide))
    obtain ⟨x28, hx28⟩ : ∃ x, A.eval (.tmp 28) = x := ⟨_, rfl⟩
    have f28 : (fun v _ => v = (Value.bool true)) x28 u8 := by rw [← hx28]; exact hh.got 5 _ 28 rfl rfl (hall 5 (by decide))
    obtain ⟨x29, hx29⟩ : ∃ x, A.eval (.tmp 29) = x := ⟨_, rfl⟩
    have f29 : (fun v _ => v = (Value.bool true)) x29 u8 := by rw [← hx29]; exact hh.got 6 _ 29 rfl rfl (hall 6 (by decide))
    obtain ⟨x30, hx30⟩ : ∃ x, A.eval (.tmp 30) = x := ⟨_, rfl⟩
    have f30 : (fun v _ => v = (Value.agg KC.toArray)) x30 u8 := by rw [← hx30]; exact hh.got 7 _ 30 rfl rfl (hall 7 (by decide))
    obtain ⟨x31, hx31⟩ : ∃ x, A.eval (.tmp 31) = x := ⟨_, rfl⟩
    have f31 : (fun v _ => v = (Value.agg KC.toArray)) x31 u8 := by rw [← hx31]; exact hh.got 8 _ 31 rfl rfl (hall 8 (by decide))
    obtain ⟨x32, hx32⟩ : ∃ x, A.eval (.tmp 32) = x := ⟨_, rfl⟩
    have f32 : (fun v _ => v = (Value.bool true)) x32 u8 := by rw [← hx32]; exact hh.got 9 _ 32 rfl rfl (hall 9 (by decide))
    obtain ⟨x33, hx33⟩ : ∃ x, A.eval (.tmp 33) = x := ⟨_, rfl⟩
    have f33 : (fun v _ => v = (Value.bool true)) x33 u8 := by rw [← hx33]; exact hh.got 10 _ 33 rfl rfl (hall 10 (by decide))
    obtain ⟨x34, hx34⟩ : ∃ x, A.eval (.tmp 34) = x := ⟨_, rfl⟩
    have f34 : (fun v _ => v = (Value.bool true)) x34 u8 := by rw [← hx34]; exact hh.got 11 _ 34 rfl rfl (hall 11 (by decide))
    obtain ⟨x35, hx35⟩ : ∃ x, A.eval (.tmp 35) = x := ⟨_, rfl⟩
    have f35 : (fun v _ => v = (Value.bool KB)) x35 u8 := by rw [← hx35]; exact hh.got 12 _ 35 rfl rfl (hall 12 (by decide))
    obtain ⟨x36, hx36⟩ : ∃ x, A.eval (.tmp 36) = x := ⟨_, rfl⟩
    have f36 : (fun v _ => v = (Value.bool KB)) x36 u8 := by rw [← hx36]; exact hh.got 13 _ 36 rfl rfl (hall 13 (by decide))
    obtain ⟨x37, hx37⟩ : ∃ x, A.eval (.tmp 37) = x := ⟨_, rfl⟩
    have f37 : (fun v _ => v = (Value.bool true)) x37 u8 := by rw [← hx37]; exact hh.got 14 _ 37 rfl rfl (hall 14 (by decide))
    obtain ⟨x38, hx38⟩ : ∃ x, A.eval (.tmp 38) = x := ⟨_, rfl⟩
    have f38 : (fun v _ => v = (Value.bool true)) x38 u8 := by rw [← hx38]; exact hh.got 15 _ 38 rfl rfl (hall 15 (by decide))
    obtain ⟨x4, hx4⟩ : ∃ x, A.eval (.tmp 4) = x := ⟨_, rfl⟩
    have f4 : (fun v _ => v = (Value.bool true)) x4 u8 := by rw [← hx4]; exact hh.got 16 _ 4 rfl rfl (hall 16 (by decide))
    dsimp only [wrote, List.foldl] at hA
    rw [hx23, hx24, hx25, hx26, hx27, hx28, hx29, hx30, hx31, hx32, hx33, hx34, hx35, hx36, hx37, hx38, hx4] at hA
    clear hh hall hx23 hx24 hx25 hx26 hx27 hx28 hx29 hx30 hx31 hx32 hx33 hx34 hx35 hx36 hx37 hx38 hx4
    replace f23 := (f23 : x23 = (.agg [.slice na nn nc, .int .u64 nx].toArray))
    subst f23
    have e24 := (f24 : _ = Value.int .i64 CK)
    subst e24
    replace f25 := (f25 : x25 = (.int .i64 CK))
    subst f25
    replace f26 := (f26 : x26 = (.agg [.slice a n c, .int .u64 nx].toArray))
    subst f26
    have e27 := (f27 : _ = Value.int .i64 CK)
    subst e27
    replace f28 := (f28 : x28 = (.bool true))
    subst f28
    replace f29 := (f29 : x29 = (.bool true))
    subst f29
    replace f30 := (f30 : x30 = (.agg KC.toArray))
    subst f30
    replace f31 := (f31 : x31 = (.agg KC.toArray))
    subst f31
    replace f32 := (f32 : x32 = (.bool true))
    subst f32
    replace f33 := (f33 : x33 = (.bool true))
    subst f33
    replace f34 := (f34 : x34 = (.bool true))
    subst f34
    replace f35 := (f35 : x35 = (.bool KB))
    subst f35
    replace f36 := (f36 : x36 = (.bool KB))
    subst f36
    replace f37 := (f37 : x37 = (.bool true))
    subst f37
    replace f38 := (f38 : x38 = (.bool true))
    subst f38
    replace f4 := (f4 : x4 = (.bool true))
    subst f4
    subst hA
    show wpList _ _ _ [] _ _
    unfold wpList
    simp only [Act.put, List.setIfInBounds_toArray, List.set_cons_succ, List.set_cons_zero]
    have HKz := hid (KS.post HKS.out (gtrans HU9.out HU.out))
    have HSz := hid (HSe.out.keep (gtrans HU9.out HU.out))
    have HOz := hid (HOx.out.keep (gtrans HU9.out HU.out))
    go_wp2_with fail
    go_ret
    exact ⟨rfl, na, nn, nc, HOz.out, HSz.out, HAt.out, HKz.out⟩
end Go.Proofs.Ytmpcpakdocaieaa.Bk
