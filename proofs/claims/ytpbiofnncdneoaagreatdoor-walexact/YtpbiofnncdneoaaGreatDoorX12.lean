/- Rows of slices that can be read; rows, size. -/
import Derived.Test.YtpbiofnncdneoaaGreatDoorX11
import Derived.Test.YtpbiofnncdneoaaGreatDoorX08
namespace Go.Proofs.YtpbiofnncdneoaaGreatDoor
open Go Go.RowKit Go.MapKept Go.MuLone
open Go.RowKit (wrap32 wrap64)

structure RowS (w : World) (F : Nat → Prop) (a : Option Addr) (g off : Nat) (ls : List (List UInt8)) : Prop where
  at_ : 0 < ls.length → a = some ⟨g, off, none⟩ ∧ g < w.heap.size ∧ F g
  each : ∀ i (h : i < ls.length), ∃ v, w.cell? ⟨g, off + i, none⟩ = some v ∧ Rd w F v ls[i]
theorem RowS.keep {w w' : World} {F : Nat → Prop} {a : Option Addr} {g off : Nat} {ls : List (List UInt8)} (h : RowS w F a g off ls) (hg : w.grownBy w' none) : RowS w' F a g off ls :=
  ⟨fun h0 => ⟨(h.at_ h0).1, Nat.lt_of_lt_of_le (h.at_ h0).2.1 hg.size, (h.at_ h0).2.2⟩, fun i hi => by
    obtain ⟨v, h1, h2⟩ := h.each i hi
    exact ⟨v, (cell_at hg (h.at_ (by omega)).2.1 (by simp)).trans h1, h2.keep hg⟩⟩
theorem RowS.df {w w' : World} {F P : Nat → Prop} {a : Option Addr} {g off : Nat} {ls : List (List UInt8)} (h : RowS w F a g off ls) (hd : DF w w' P) (hp : ∀ k, F k → ¬ P k) : RowS w' F a g off ls :=
  ⟨fun h0 => ⟨(h.at_ h0).1, Nat.lt_of_lt_of_le (h.at_ h0).2.1 hd.size, (h.at_ h0).2.2⟩, fun i hi => by
    obtain ⟨v, h1, h2⟩ := h.each i hi
    have hb := h.at_ (by omega)
    exact ⟨v, (World.cell?_of_block (hd.block g hb.2.1 (hp g hb.2.2))).trans h1, h2.df hd hp⟩⟩
theorem Rd.wide {w : World} {F G : Nat → Prop} {v : Value} {l : List UInt8} (h : Rd w F v l) (hf : ∀ k, F k → G k) : Rd w G v l := by
  obtain ⟨a, b, o, c, e, hc, hn, ha, hcell⟩ := h
  exact ⟨a, b, o, c, e, hc, hn, fun h0 => ⟨(ha h0).1, (ha h0).2.1, hf _ (ha h0).2.2⟩, hcell⟩
theorem RowS.mono {w : World} {F G : Nat → Prop} {a : Option Addr} {g off : Nat} {ls : List (List UInt8)} (h : RowS w F a g off ls) (hf : ∀ k, F k → G k) : RowS w G a g off ls :=
  ⟨fun h0 => ⟨(h.at_ h0).1, (h.at_ h0).2.1, hf _ (h.at_ h0).2.2⟩, fun i hi => by
    obtain ⟨v, h1, h2⟩ := h.each i hi
    exact ⟨v, h1, h2.wide hf⟩⟩
theorem OutS.row {B C : Nat} {w : World} {v : Value} {ls : List (List UInt8)} (h : OutS B C w v ls) : ∃ a g c, v = .slice a ls.length c ∧ RowS w (fun k => B ≤ k ∨ k < C) a g 0 ls := by
  obtain ⟨vs, h1, h2⟩ := h.ex
  rcases h1.2 with ⟨e1, e2⟩ | ⟨g, cap, cur, e1, hB, hg, hle, hm, hs, ht⟩
  · have : ls = [] := List.eq_nil_of_length_eq_zero e2
    subst this
    exact ⟨none, 0, 0, e1, (fun h => absurd h (by decide)), (fun i hi => absurd hi (by simp))⟩
  · have hlt := (Array.getElem?_eq_some_iff.1 hg).1
    refine ⟨_, g, cap, e1, fun _ => ⟨rfl, hlt, .inl hB⟩, fun i hi => ?_⟩
    obtain ⟨x, h3, h4⟩ := h2.get i hi
    refine ⟨x, ?_, ?_⟩
    · have h5 := h3
      rw [← ht] at h5
      have hj : i < ls.length * 1 := by omega
      rw [List.getElem?_take, if_pos hj] at h5
      have h6 : cur[i]? = some x := by rw [← Array.getElem?_toList]; exact h5
      simp [World.cell?, hg, h6]
    · rcases h4 with q | q
      · exact q.wide (fun k hk => .inr hk)
      · exact q.rd.wide (fun k hk => .inl hk)
theorem idx22 (b o n c i : Nat) (h : i < n) (u : World) : (Instr.indexAt 37 (.slice (some ⟨b, o, none⟩) n c) (.int .i64 (i : Nat))).run Tryz.prog u = .ok (.pointer (some ⟨b, o + i, none⟩)) u := by
  have h' : (i : Int) < (n : Int) := by omega
  go_simp
theorem ld36 (b i n c : Nat) (a : Option Addr) (u : World) (h : u.cell? ⟨b, i, none⟩ = some (.slice a n c)) : (Instr.loadAt 74 (.pointer (some ⟨b, i, none⟩))).run Tryz.prog u = .ok (.slice a n c) u := by go_simp
theorem neqS (s : ByteArray) (x y : Operand) (u : World) : (do eqGuard .neq 9 x y (.string s) (.string s); binOp .neq 9 (.string s) (.string s) : Sem Value).run Tryz.prog u = .ok (.bool false) u := by
  have hb : (s.toList == s.toList) = true := by simp
  go_simp
set_option maxRecDepth 100000 in
set_option maxHeartbeats 4000000 in
theorem rows_same (w : World) (F G : Nat → Prop) (a a' : Option Addr) (g o c g' o' c' : Nat) (ls : List (List UInt8)) (hA : RowS w F a g o ls) (hB : RowS w G a' g' o' ls) (hl : ls.length ≤ 1000000) :
    Calls Tryz.prog 22 #[.slice a ls.length c, .slice a' ls.length c'] w fun e w' => e = .returned (.bool true) ∧ w.grownBy w' none := by
  have HA := hid hA
  have HB := hid hB
  obtain ⟨n, HN⟩ : ∃ n, Hid (ls.length = n) := ⟨_, hid rfl⟩
  rw [HN.out] at hl ⊢
  clear hA hB
  go_enter Tryz.func22, Tryz.ntmps22
  go_wp2_with fail
  go_loopw [5] (fun iv wr => ∃ i : Nat, iv = .int .i64 i ∧ i ≤ n ∧ Hid (w.grownBy wr none)) (fun iv _ => n - (intOf iv).toNat)
  case atStart => exact ⟨0, rfl, by omega, hid (grefl _ _)⟩
  case round =>
    obtain ⟨i, rfl, hi, HG⟩ := hrel
    obtain ⟨w0, hw0⟩ : ∃ x : World, x = wr := ⟨_, rfl⟩
    rw [← hw0] at HG ⊢
    clear hw0
    by_cases hlt : i < n
    · have hlt' : (i : Int) < (n : Int) := by omega
      obtain ⟨l, hl1⟩ : ∃ l, ls[i]'(by rw [HN.out]; exact hlt) = l := ⟨_, rfl⟩
      obtain ⟨rfl, -, -⟩ := HA.out.at_ (by rw [HN.out]; omega)
      obtain ⟨rfl, -, -⟩ := HB.out.at_ (by rw [HN.out]; omega)
      obtain ⟨vx, -, hx⟩ := HA.out.each i (by rw [HN.out]; exact hlt)
      obtain ⟨vy, -, hy⟩ := HB.out.each i (by rw [HN.out]; exact hlt)
      obtain ⟨vx, hx1, hx2⟩ := (HA.out.keep HG.out).each i (by rw [HN.out]; exact hlt)
      obtain ⟨vy, hy1, hy2⟩ := (HB.out.keep HG.out).each i (by rw [HN.out]; exact hlt)
      have hga := ((HA.out.keep HG.out).at_ (by rw [HN.out]; omega)).2.1
      have hgb := ((HB.out.keep HG.out).at_ (by rw [HN.out]; omega)).2.1
      rw [hl1] at hx2 hy2
      have HX2 := hid hx2
      have HY2 := hid hy2
      obtain ⟨xa, xb, xo, xc, rfl, -⟩ := hx2
      obtain ⟨ya, yb, yo, yc, rfl, -⟩ := hy2
      obtain ⟨yn, hyn⟩ : ∃ x, l.length = x := ⟨_, rfl⟩
      rw [hyn] at hx1 hy1 HX2 HY2
      have HCa : Hid (∀ u, w0.grownBy u none → u.cell? ⟨g, o + i, none⟩ = some (.slice xa yn xc)) := hid (fun u hu => (cell_at hu hga (by simp)).trans hx1)
      have HCb : Hid (∀ u, w0.grownBy u none → u.cell? ⟨g', o' + i, none⟩ = some (.slice ya yn yc)) := hid (fun u hu => (cell_at hu hgb (by simp)).trans hy1)
      have HVa : Hid (∀ u, w0.grownBy u none → (convert 74 9 (.slice xa yn xc)).run Tryz.prog u = .ok (.string ⟨l.toArray⟩) u) := hid (fun u hu => (HX2.out.keep hu).convert)
      have HVb : Hid (∀ u, w0.grownBy u none → (convert 74 9 (.slice ya yn yc)).run Tryz.prog u = .ok (.string ⟨l.toArray⟩) u) := hid (fun u hu => (HY2.out.keep hu).convert)
      clear hx1 hy1 hl1 hyn hx hy hga hgb
      go_upto_region 6 with fail
      refine wp_region_listX (by kernel_rfl) [fun v _ => v = (Value.slice (some ⟨g, o, none⟩) n c), fun v _ => v = (Value.int .i64 (i : Nat)), fun v _ => v = (Value.pointer (some ⟨g, o + i, none⟩)), fun v _ => v = (Value.slice xa yn xc), fun v _ => v = (Value.string ⟨l.toArray⟩), fun v _ => v = (Value.slice (some ⟨g', o', none⟩) n c'), fun v _ => v = (Value.int .i64 (i : Nat)), fun v _ => v = (Value.pointer (some ⟨g', o' + i, none⟩)), fun v _ => v = (Value.slice ya yn yc), fun v _ => v = (Value.string ⟨l.toArray⟩), fun v _ => v = (Value.bool false)] (none) (fun _ => none) 11 (by kernel_rfl) (by kernel_rfl) (by kernel_rfl) (by kernel_rfl) (by decide) noRow_one (fun _ => .inl rfl) ⟨fun i v u u' hki h hg => h, fun i v u u' hki h hg => h, fun i v u u' hki h hg => h, fun i v u u' hki h hg => h, fun i v u u' hki h hg => h, fun i v u u' hki h hg => h, fun i v u u' hki h hg => h, fun i v u u' hki h hg => h, fun i v u u' hki h hg => h, fun i v u u' hki h hg => h, fun i v u u' hki h hg => h, trivial⟩ ⟨?_, ?_, ?_, ?_, ?_, ?_, ?_, ?_, ?_, ?_, ?_, trivial⟩ ?_
      · intro A u hu hpu hsz hout hdeps
        have e0 : A.eval (.tmp 0) = (.slice (some ⟨g, o, none⟩) n c) := (hout 0 (by kernel_rfl)).trans rfl
        refine ifw_none rfl ?_
        with_reducible refine shown_q (Value.slice (some ⟨g, o, none⟩) n c) ?qq_1_0 (fun _ _ => ?qr_1_0)
        case qr_1_0 => exact (rfl : (Value.slice (some ⟨g, o, none⟩) n c) = (Value.slice (some ⟨g, o, none⟩) n c))
        with_reducible refine quietAt_mv (.tmp 0) (Value.slice (some ⟨g, o, none⟩) n c) ?h0_1_0 ?h1_1_0
        case h0_1_0 => rfl
        case h1_1_0 => exact e0
      · intro A u hu hpu hsz hout hdeps
        have e5 : A.eval (.tmp 5) = (.int .i64 (i : Nat)) := (hout 5 (by kernel_rfl)).trans rfl
        refine ifw_none rfl ?_
        with_reducible refine shown_q (Value.int .i64 (i : Nat)) ?qq_1_1 (fun _ _ => ?qr_1_1)
        case qr_1_1 => exact (rfl : (Value.int .i64 (i : Nat)) = (Value.int .i64 (i : Nat)))
        with_reducible refine quietAt_mv (.tmp 5) (Value.int .i64 (i : Nat)) ?h0_1_1 ?h1_1_1
        case h0_1_1 => rfl
        case h1_1_1 => exact e5
      · intro A u hu hpu hsz hout hdeps
        have e17 : A.eval (.tmp 17) = (.slice (some ⟨g, o, none⟩) n c) := by have h := depL hdeps 0 (by kernel_rfl) 17 (by kernel_rfl); exact h
        have e18 : A.eval (.tmp 18) = (.int .i64 (i : Nat)) := by have h := depL hdeps 1 (by kernel_rfl) 18 (by kernel_rfl); exact h
        refine ifw_none rfl ?_
        with_reducible refine shown_q (Value.pointer (some ⟨g, o + i, none⟩)) ?qq_1_2 (fun _ _ => ?qr_1_2)
        case qr_1_2 => exact (rfl : (Value.pointer (some ⟨g, o + i, none⟩)) = (Value.pointer (some ⟨g, o + i, none⟩)))
        with_reducible refine quietAt_idx 37 (.tmp 17) (.tmp 18) (Value.slice (some ⟨g, o, none⟩) n c) (Value.int .i64 (i : Nat)) (Value.pointer (some ⟨g, o + i, none⟩)) ?h0_1_2 ?h1_1_2 ?h2_1_2 ?h3_1_2
        case h0_1_2 => rfl
        case h1_1_2 => exact e17
        case h2_1_2 => exact e18
        case h3_1_2 => exact idx22 g o n c i hlt u
      · intro A u hu hpu hsz hout hdeps
        have e19 : A.eval (.tmp 19) = (.pointer (some ⟨g, o + i, none⟩)) := by have h := depL hdeps 2 (by kernel_rfl) 19 (by kernel_rfl); exact h
        refine ifw_none rfl ?_
        with_reducible refine shown_q (Value.slice xa yn xc) ?qq_1_3 (fun _ _ => ?qr_1_3)
        case qr_1_3 => exact (rfl : (Value.slice xa yn xc) = (Value.slice xa yn xc))
        with_reducible refine quietAt_ld 74 (.tmp 19) (Value.pointer (some ⟨g, o + i, none⟩)) (Value.slice xa yn xc) ?h0_1_3 ?h1_1_3 ?h2_1_3
        case h0_1_3 => rfl
        case h1_1_3 => exact e19
        case h2_1_3 => exact ld36 g (o + i) yn xc xa u (HCa.out u hu)
      · intro A u hu hpu hsz hout hdeps
        have e20 : A.eval (.tmp 20) = (.slice xa yn xc) := by have h := depL hdeps 3 (by kernel_rfl) 20 (by kernel_rfl); exact h
        refine ifw_none rfl ?_
        with_reducible refine shown_q (Value.string ⟨l.toArray⟩) ?qq_1_4 (fun _ _ => ?qr_1_4)
        case qr_1_4 => exact (rfl : (Value.string ⟨l.toArray⟩) = (Value.string ⟨l.toArray⟩))
        with_reducible refine quietAt_cv 74 9 (.tmp 20) (Value.slice xa yn xc) (Value.string ⟨l.toArray⟩) ?h0_1_4 ?h1_1_4 ?h2_1_4
        case h0_1_4 => rfl
        case h1_1_4 => exact e20
        case h2_1_4 => exact (HVa.out u hu)
      · intro A u hu hpu hsz hout hdeps
        have e1 : A.eval (.tmp 1) = (.slice (some ⟨g', o', none⟩) n c') := (hout 1 (by kernel_rfl)).trans rfl
        refine ifw_none rfl ?_
        with_reducible refine shown_q (Value.slice (some ⟨g', o', none⟩) n c') ?qq_1_5 (fun _ _ => ?qr_1_5)
        case qr_1_5 => exact (rfl : (Value.slice (some ⟨g', o', none⟩) n c') = (Value.slice (some ⟨g', o', none⟩) n c'))
        with_reducible refine quietAt_mv (.tmp 1) (Value.slice (some ⟨g', o', none⟩) n c') ?h0_1_5 ?h1_1_5
        case h0_1_5 => rfl
        case h1_1_5 => exact e1
      · intro A u hu hpu hsz hout hdeps
        have e5 : A.eval (.tmp 5) = (.int .i64 (i : Nat)) := (hout 5 (by kernel_rfl)).trans rfl
        refine ifw_none rfl ?_
        with_reducible refine shown_q (Value.int .i64 (i : Nat)) ?qq_1_6 (fun _ _ => ?qr_1_6)
        case qr_1_6 => exact (rfl : (Value.int .i64 (i : Nat)) = (Value.int .i64 (i : Nat)))
        with_reducible refine quietAt_mv (.tmp 5) (Value.int .i64 (i : Nat)) ?h0_1_6 ?h1_1_6
        case h0_1_6 => rfl
        case h1_1_6 => exact e5
      · intro A u hu hpu hsz hout hdeps
        have e22 : A.eval (.tmp 22) = (.slice (some ⟨g', o', none⟩) n c') := by have h := depL hdeps 5 (by kernel_rfl) 22 (by kernel_rfl); exact h
        have e23 : A.eval (.tmp 23) = (.int .i64 (i : Nat)) := by have h := depL hdeps 6 (by kernel_rfl) 23 (by kernel_rfl); exact h
        refine ifw_none rfl ?_
        with_reducible refine shown_q (Value.pointer (some ⟨g', o' + i, none⟩)) ?qq_1_7 (fun _ _ => ?qr_1_7)
        case qr_1_7 => exact (rfl : (Value.pointer (some ⟨g', o' + i, none⟩)) = (Value.pointer (some ⟨g', o' + i, none⟩)))
        with_reducible refine quietAt_idx 37 (.tmp 22) (.tmp 23) (Value.slice (some ⟨g', o', none⟩) n c') (Value.int .i64 (i : Nat)) (Value.pointer (some ⟨g', o' + i, none⟩)) ?h0_1_7 ?h1_1_7 ?h2_1_7 ?h3_1_7
        case h0_1_7 => rfl
        case h1_1_7 => exact e22
        case h2_1_7 => exact e23
        case h3_1_7 => exact idx22 g' o' n c' i hlt u
      · intro A u hu hpu hsz hout hdeps
        have e24 : A.eval (.tmp 24) = (.pointer (some ⟨g', o' + i, none⟩)) := by have h := depL hdeps 7 (by kernel_rfl) 24 (by kernel_rfl); exact h
        refine ifw_none rfl ?_
        with_reducible refine shown_q (Value.slice ya yn yc) ?qq_1_8 (fun _ _ => ?qr_1_8)
        case qr_1_8 => exact (rfl : (Value.slice ya yn yc) = (Value.slice ya yn yc))
        with_reducible refine quietAt_ld 74 (.tmp 24) (Value.pointer (some ⟨g', o' + i, none⟩)) (Value.slice ya yn yc) ?h0_1_8 ?h1_1_8 ?h2_1_8
        case h0_1_8 => rfl
        case h1_1_8 => exact e24
        case h2_1_8 => exact ld36 g' (o' + i) yn yc ya u (HCb.out u hu)
      · intro A u hu hpu hsz hout hdeps
        have e25 : A.eval (.tmp 25) = (.slice ya yn yc) := by have h := depL hdeps 8 (by kernel_rfl) 25 (by kernel_rfl); exact h
        refine ifw_none rfl ?_
        with_reducible refine shown_q (Value.string ⟨l.toArray⟩) ?qq_1_9 (fun _ _ => ?qr_1_9)
        case qr_1_9 => exact (rfl : (Value.string ⟨l.toArray⟩) = (Value.string ⟨l.toArray⟩))
        with_reducible refine quietAt_cv 74 9 (.tmp 25) (Value.slice ya yn yc) (Value.string ⟨l.toArray⟩) ?h0_1_9 ?h1_1_9 ?h2_1_9
        case h0_1_9 => rfl
        case h1_1_9 => exact e25
        case h2_1_9 => exact (HVb.out u hu)
      · intro A u hu hpu hsz hout hdeps
        have e21 : A.eval (.tmp 21) = (.string ⟨l.toArray⟩) := by have h := depL hdeps 4 (by kernel_rfl) 21 (by kernel_rfl); exact h
        have e26 : A.eval (.tmp 26) = (.string ⟨l.toArray⟩) := by have h := depL hdeps 9 (by kernel_rfl) 26 (by kernel_rfl); exact h
        refine ifw_none rfl ?_
        with_reducible refine shown_q (Value.bool false) ?qq_1_10 (fun _ _ => ?qr_1_10)
        case qr_1_10 => exact (rfl : (Value.bool false) = (Value.bool false))
        with_reducible refine quietAt_bin .neq 9 (.tmp 21) (.tmp 26) 9 (Value.string ⟨l.toArray⟩) (Value.string ⟨l.toArray⟩) (Value.bool false) ?h0_1_10 ?h1_1_10 ?h2_1_10 ?h3_1_10
        case h0_1_10 => rfl
        case h1_1_10 => exact e21
        case h2_1_10 => exact e26
        case h3_1_10 => exact neqS _ _ _ u
      · intro A u8 listed hh hall
        have hA := hh.frame
        have HU := hid hh.grown
        obtain ⟨x17, hx17⟩ : ∃ x, A.eval (.tmp 17) = x := ⟨_, rfl⟩
        have f17 : (fun v _ => v = (Value.slice (some ⟨g, o, none⟩) n c)) x17 u8 := by rw [← hx17]; exact hh.got 0 _ 17 rfl rfl (hall 0 (by decide))
        obtain ⟨x18, hx18⟩ : ∃ x, A.eval (.tmp 18) = x := ⟨_, rfl⟩
        have f18 : (fun v _ => v = (Value.int .i64 (i : Nat))) x18 u8 := by rw [← hx18]; exact hh.got 1 _ 18 rfl rfl (hall 1 (by decide))
        obtain ⟨x19, hx19⟩ : ∃ x, A.eval (.tmp 19) = x := ⟨_, rfl⟩
        have f19 : (fun v _ => v = (Value.pointer (some ⟨g, o + i, none⟩))) x19 u8 := by rw [← hx19]; exact hh.got 2 _ 19 rfl rfl (hall 2 (by decide))
        obtain ⟨x20, hx20⟩ : ∃ x, A.eval (.tmp 20) = x := ⟨_, rfl⟩
        have f20 : (fun v _ => v = (Value.slice xa yn xc)) x20 u8 := by rw [← hx20]; exact hh.got 3 _ 20 rfl rfl (hall 3 (by decide))
        obtain ⟨x21, hx21⟩ : ∃ x, A.eval (.tmp 21) = x := ⟨_, rfl⟩
        have f21 : (fun v _ => v = (Value.string ⟨l.toArray⟩)) x21 u8 := by rw [← hx21]; exact hh.got 4 _ 21 rfl rfl (hall 4 (by decide))
        obtain ⟨x22, hx22⟩ : ∃ x, A.eval (.tmp 22) = x := ⟨_, rfl⟩
        have f22 : (fun v _ => v = (Value.slice (some ⟨g', o', none⟩) n c')) x22 u8 := by rw [← hx22]; exact hh.got 5 _ 22 rfl rfl (hall 5 (by decide))
        obtain ⟨x23, hx23⟩ : ∃ x, A.eval (.tmp 23) = x := ⟨_, rfl⟩
        have f23 : (fun v _ => v = (Value.int .i64 (i : Nat))) x23 u8 := by rw [← hx23]; exact hh.got 6 _ 23 rfl rfl (hall 6 (by decide))
        obtain ⟨x24, hx24⟩ : ∃ x, A.eval (.tmp 24) = x := ⟨_, rfl⟩
        have f24 : (fun v _ => v = (Value.pointer (some ⟨g', o' + i, none⟩))) x24 u8 := by rw [← hx24]; exact hh.got 7 _ 24 rfl rfl (hall 7 (by decide))
        obtain ⟨x25, hx25⟩ : ∃ x, A.eval (.tmp 25) = x := ⟨_, rfl⟩
        have f25 : (fun v _ => v = (Value.slice ya yn yc)) x25 u8 := by rw [← hx25]; exact hh.got 8 _ 25 rfl rfl (hall 8 (by decide))
        obtain ⟨x26, hx26⟩ : ∃ x, A.eval (.tmp 26) = x := ⟨_, rfl⟩
        have f26 : (fun v _ => v = (Value.string ⟨l.toArray⟩)) x26 u8 := by rw [← hx26]; exact hh.got 9 _ 26 rfl rfl (hall 9 (by decide))
        obtain ⟨x27, hx27⟩ : ∃ x, A.eval (.tmp 27) = x := ⟨_, rfl⟩
        have f27 : (fun v _ => v = (Value.bool false)) x27 u8 := by rw [← hx27]; exact hh.got 10 _ 27 rfl rfl (hall 10 (by decide))
        dsimp only [wrote, List.foldl] at hA
        rw [hx17, hx18, hx19, hx20, hx21, hx22, hx23, hx24, hx25, hx26, hx27] at hA
        clear hh hall hx17 hx18 hx19 hx20 hx21 hx22 hx23 hx24 hx25 hx26 hx27
        replace f17 := (f17 : x17 = (.slice (some ⟨g, o, none⟩) n c))
        subst f17
        replace f18 := (f18 : x18 = (.int .i64 (i : Nat)))
        subst f18
        replace f19 := (f19 : x19 = (.pointer (some ⟨g, o + i, none⟩)))
        subst f19
        replace f20 := (f20 : x20 = (.slice xa yn xc))
        subst f20
        replace f21 := (f21 : x21 = (.string ⟨l.toArray⟩))
        subst f21
        replace f22 := (f22 : x22 = (.slice (some ⟨g', o', none⟩) n c'))
        subst f22
        replace f23 := (f23 : x23 = (.int .i64 (i : Nat)))
        subst f23
        replace f24 := (f24 : x24 = (.pointer (some ⟨g', o' + i, none⟩)))
        subst f24
        replace f25 := (f25 : x25 = (.slice ya yn yc))
        subst f25
        replace f26 := (f26 : x26 = (.string ⟨l.toArray⟩))
        subst f26
        replace f27 := (f27 : x27 = (.bool false))
        subst f27
        subst hA
        show wpList _ _ _ [] _ _
        unfold wpList
        simp only [Act.put, List.setIfInBounds_toArray, List.set_cons_succ, List.set_cons_zero]
        go_wp2_with fail
        go_roundw
        case rel => exact ⟨i + 1, by go_num, by omega, hid (gtrans HG.out HU.out)⟩
        case measure => simp [intOf]; omega
    · have hge : ¬ (i : Int) < (n : Int) := by omega
      go_wp2_with fail
      go_ret
      exact ⟨rfl, HG.out⟩
end Go.Proofs.YtpbiofnncdneoaaGreatDoor

namespace Go.Proofs.YtpbiofnncdneoaaGreatDoor
open Go Go.RowKit Go.MapKept Go.MuLone
open Go.RowKit (wrap32 wrap64)

theorem ifw_undef {o : Oper} {ops : Array Oper} {A : Act} {X Y : Prop} (j : Nat) (b : Bool) (d : Tmp) (hg : o.guard = some (j, b)) (hd : ((ops[j]?).bind (·.dst)) = some d) (hb : A.eval (.tmp d) = undef) (h : Y) : if Region.wanted o (yielded ops A.tmps) = true then X else Y := by
  have hy : yielded ops A.tmps j = none := by
    unfold yielded
    rw [hd]
    have h2 : A.tmps.getD d undef = undef := hb
    rw [Array.getD_eq_getD_getElem?] at h2
    show (match A.tmps[d]? with | some (.bool b) => some b | _ => none) = none
    cases e : A.tmps[d]? with
    | none => rfl
    | some v => rw [e] at h2; have h3 : v = undef := h2; subst h3; rfl
  rw [if_neg (by simp [Region.wanted, hg, hy])]
  exact h
def SI (i : Nat) : List UInt8 := 170 :: UInt8.ofNat i :: List.replicate 30 0
theorem idx34 (b o n c i : Nat) (h : i < n) (u : World) : (Instr.indexAt 110 (.slice (some ⟨b, o, none⟩) n c) (.int .i64 (i : Nat))).run Tryz.prog u = .ok (.pointer (some ⟨b, o + i * 2, none⟩)) u := by
  have h' : (i : Int) < (n : Int) := by omega
  go_simp
theorem gdrewN (w : World) (k : Nat) (row : Option Nat) : w.grownBy (w.drewN k) row := ⟨rfl, rfl, rfl, Nat.le_refl _, fun _ _ _ => rfl⟩
theorem two_range {w : World} {b o : Nat} {x y : Value} (h1 : w.cell? ⟨b, o, none⟩ = some x) (h2 : w.cell? ⟨b, o + 1, none⟩ = some y) : w.rangeAt b o [x, y] := fun j v hv => by
  rcases (show j = 0 ∨ j = 1 ∨ 2 ≤ j by omega) with rfl | rfl | h3
  · have := Option.some.inj hv; subst this; exact h1
  · have := Option.some.inj hv; subst this; exact h2
  · have : ([x, y] : List Value)[j]? = none := by simp; omega
    rw [this] at hv; cases hv
set_option maxRecDepth 100000 in
set_option maxHeartbeats 4000000 in
theorem eqFile_same (w : World) (s : ByteArray) (ba ca : Option Addr) (bn bc cc : Nat) (F G : Nat → Prop) (l : List UInt8) (hx : Rd w F (.slice ba bn bc) l) (hy : Rd w G (.slice ca bn cc) l) (hl : l.length ≤ 140737488355328) :
    Calls Tryz.prog 62 #[.agg [Value.string s, .slice ba bn bc].toArray, .agg [Value.string s, .slice ca bn cc].toArray] w fun e w' => e = .returned (.bool true) ∧ w.grownBy w' none := by
  have HE : Hid (∀ u, w.grownBy u none → Calls Tryz.prog 121 #[.slice ba bn bc, .slice ca bn cc] u fun e w' => e = .returned (.bool true) ∧ u.grownBy w' none) := hid (fun u hu => (eq_any u _ _ F G l l (hx.keep hu) (hy.keep hu) hl).mono fun e w' ⟨h1, k, h2⟩ => ⟨by rw [h1]; simp, by rw [h2]; exact gdrewN _ _ _⟩)
  have hss : (s.toList == s.toList) = true := by simp
  clear hx hy
  go_enter Tryz.func62, Tryz.ntmps62
  go_wp2_with (first
    | ((with_reducible refine wpList_box_row (by with_unfolding_all rfl) 117 _ (by with_unfolding_all rfl) [Value.string s, .slice ba bn bc] (by with_unfolding_all rfl) ?_); intro w1 B1 s1 g1; have HB1 := hid B1; have HG1 := hid g1; clear B1 s1 g1)
    | ((with_reducible refine wpList_box_row (by with_unfolding_all rfl) 117 _ (by with_unfolding_all rfl) [Value.string s, .slice ca bn cc] (by with_unfolding_all rfl) ?_); intro w2 B2 s2 g2; have HB2 := hid B2; have HG2 := hid g2; have c1 := (HB1.out.keep g2).cell 0; have c2 := (HB1.out.keep g2).cell 1; have c3 := B2.cell 0; have c4 := B2.cell 1; clear B2 s2 g2)
    | (go_at_call 121; refine (HE.out _ (gtrans HG1.out HG2.out)).mono ?_; rintro e w3 ⟨rfl, hg⟩; have HG3 := hid hg; clear hg))
  go_ret
  exact ⟨rfl, gtrans HG1.out (gtrans HG2.out HG3.out)⟩
set_option maxRecDepth 100000 in
set_option maxHeartbeats 4000000 in
theorem eqFiles_same (w : World) (Fa Fb : Nat → Prop) (a a' : Option Addr) (fa fo fc fb go gc : Nat) (L : Cn) (hA : ArF w Fa a fa fo L) (hB : ArF w Fb a' fb go L) (hL : L.length ≤ 1000000) (hb : ∀ p ∈ L, p.2.length ≤ 140737488355328) :
    Calls Tryz.prog 32 #[.slice a L.length fc, .slice a' L.length gc] w fun e w' => e = .returned (.bool true) ∧ w.grownBy w' none := by
  have HAa : Hid (∀ u, w.grownBy u none → ArF u Fa a fa fo L) := hid (fun u hu => hA.keep hu)
  have HAb : Hid (∀ u, w.grownBy u none → ArF u Fb a' fb go L) := hid (fun u hu => hB.keep hu)
  have HBl := hid hb
  obtain ⟨n, HN⟩ : ∃ n, Hid (L.length = n) := ⟨_, hid rfl⟩
  rw [HN.out] at hL ⊢
  clear hA hB hb
  go_enter Tryz.func32, Tryz.ntmps32
  go_wp2_with fail
  go_loopw [5] (fun iv wr => ∃ i : Nat, iv = .int .i64 i ∧ i ≤ n ∧ Hid (w.grownBy wr none)) (fun iv _ => n - (intOf iv).toNat)
  case atStart => exact ⟨0, rfl, by omega, hid (grefl _ _)⟩
  case round =>
    obtain ⟨i, rfl, hi, HG⟩ := hrel
    obtain ⟨w0, hw0⟩ : ∃ x : World, x = wr := ⟨_, rfl⟩
    rw [← hw0] at HG ⊢
    clear hw0
    by_cases hlt : i < n
    · as_aux_lemma =>
      have hlt' : (i : Int) < (n : Int) := by omega
      have hiL : i < L.length := by rw [HN.out]; exact hlt
      obtain ⟨rfl, -⟩ := (HAa.out w0 HG.out).at_ (by omega)
      obtain ⟨rfl, -⟩ := (HAb.out w0 HG.out).at_ (by omega)
      obtain ⟨q, Hq⟩ : ∃ x, Hid (L[i] = x) := ⟨_, hid rfl⟩
      obtain ⟨s, l⟩ := q
      have HC : Hid (w0.cell? ⟨fa, fo + i * 2, none⟩ = some (.string s) ∧ ∃ v, w0.cell? ⟨fa, fo + i * 2 + 1, none⟩ = some v ∧ Rd w0 Fa v l) := hid (by have := (HAa.out w0 HG.out).each i hiL; rw [Hq.out] at this; exact this)
      obtain ⟨v, hv1, hv2⟩ := HC.out.2
      have HV := hid hv2
      obtain ⟨ba, -, -, bc, rfl, -⟩ := hv2
      obtain ⟨bn, HBn⟩ : ∃ x, Hid (l.length = x) := ⟨_, hid rfl⟩
      rw [HBn.out] at HV hv1
      have HD : Hid (w0.cell? ⟨fb, go + i * 2, none⟩ = some (.string s) ∧ ∃ v, w0.cell? ⟨fb, go + i * 2 + 1, none⟩ = some v ∧ Rd w0 Fb v l) := hid (by have := (HAb.out w0 HG.out).each i hiL; rw [Hq.out] at this; exact this)
      obtain ⟨v', hu1, hu2⟩ := HD.out.2
      have HV' := hid hu2
      obtain ⟨ca, -, -, cc, rfl, -⟩ := hu2
      rw [HBn.out] at HV' hu1
      have HLl : Hid (l.length ≤ 140737488355328) := hid (HBl.out (s, l) (by rw [← Hq.out]; exact List.getElem_mem _))
      have HRA : Hid (∀ u, w0.grownBy u none → u.rangeAt fa (fo + i * 2) [.string s, .slice ba bn bc]) := hid (fun u hu => by
        have hb := ((HAa.out w0 HG.out).at_ (by omega)).2.1
        exact two_range ((cell_at hu hb (by simp)).trans HC.out.1) ((cell_at hu hb (by simp)).trans hv1))
      have HRB : Hid (∀ u, w0.grownBy u none → u.rangeAt fb (go + i * 2) [.string s, .slice ca bn cc]) := hid (fun u hu => by
        have hb := ((HAb.out w0 HG.out).at_ (by omega)).2.1
        exact two_range ((cell_at hu hb (by simp)).trans HD.out.1) ((cell_at hu hb (by simp)).trans hu1))
      have HEq : Hid (∀ u, w0.grownBy u none → Calls Tryz.prog 62 #[.agg [Value.string s, .slice ba bn bc].toArray, .agg [Value.string s, .slice ca bn cc].toArray] u fun e w' => ∃ v, e = .returned v ∧ u.grownBy w' none ∧ v = Value.bool true) := hid (fun u hu => (eqFile_same u s ba ca bn bc cc Fa Fb l (HV.out.keep hu) (HV'.out.keep hu) HLl.out).mono fun e w' ⟨h1, h2⟩ => ⟨_, h1, h2, rfl⟩)
      clear hv1 hu1 HC HD Hq
      go_upto_region 6 with fail
      refine wp_region_listX (by kernel_rfl) [fun v _ => v = (Value.slice (some ⟨fa, fo, none⟩) n fc), fun v _ => v = (Value.int .i64 (i : Nat)), fun v _ => v = (Value.pointer (some ⟨fa, fo + i * 2, none⟩)), fun v _ => v = (Value.agg [Value.string s, Value.slice ba bn bc].toArray), fun v _ => v = (Value.slice (some ⟨fb, go, none⟩) n gc), fun v _ => v = (Value.int .i64 (i : Nat)), fun v _ => v = (Value.pointer (some ⟨fb, go + i * 2, none⟩)), fun v _ => v = (Value.agg [Value.string s, Value.slice ca bn cc].toArray), fun v _ => v = Value.bool true, fun v _ => v = (Value.bool false)] (none) (fun _ => none) 10 (by kernel_rfl) (by kernel_rfl) (by kernel_rfl) (by kernel_rfl) (by decide) noRow_one (fun _ => .inl rfl) ⟨fun i v u u' hki h hg => h, fun i v u u' hki h hg => h, fun i v u u' hki h hg => h, fun i v u u' hki h hg => h, fun i v u u' hki h hg => h, fun i v u u' hki h hg => h, fun i v u u' hki h hg => h, fun i v u u' hki h hg => h, fun i v u u' hki h hg => h, fun i v u u' hki h hg => h, trivial⟩ ⟨?_, ?_, ?_, ?_, ?_, ?_, ?_, ?_, ?_, ?_, trivial⟩ ?_
      · intro A u hu hpu hsz hout hdeps
        have e0 : A.eval (.tmp 0) = (.slice (some ⟨fa, fo, none⟩) n fc) := (hout 0 (by kernel_rfl)).trans rfl
        refine ifw_none rfl ?_
        with_reducible refine shown_q (Value.slice (some ⟨fa, fo, none⟩) n fc) ?qq_1_0 (fun _ _ => ?qr_1_0)
        case qr_1_0 => exact (rfl : (Value.slice (some ⟨fa, fo, none⟩) n fc) = (Value.slice (some ⟨fa, fo, none⟩) n fc))
        with_reducible refine quietAt_mv (.tmp 0) (Value.slice (some ⟨fa, fo, none⟩) n fc) ?h0_1_0 ?h1_1_0
        case h0_1_0 => rfl
        case h1_1_0 => exact e0
      · intro A u hu hpu hsz hout hdeps
        have e5 : A.eval (.tmp 5) = (.int .i64 (i : Nat)) := (hout 5 (by kernel_rfl)).trans rfl
        refine ifw_none rfl ?_
        with_reducible refine shown_q (Value.int .i64 (i : Nat)) ?qq_1_1 (fun _ _ => ?qr_1_1)
        case qr_1_1 => exact (rfl : (Value.int .i64 (i : Nat)) = (Value.int .i64 (i : Nat)))
        with_reducible refine quietAt_mv (.tmp 5) (Value.int .i64 (i : Nat)) ?h0_1_1 ?h1_1_1
        case h0_1_1 => rfl
        case h1_1_1 => exact e5
      · intro A u hu hpu hsz hout hdeps
        have e17 : A.eval (.tmp 17) = (.slice (some ⟨fa, fo, none⟩) n fc) := by have h := depL hdeps 0 (by kernel_rfl) 17 (by kernel_rfl); exact h
        have e18 : A.eval (.tmp 18) = (.int .i64 (i : Nat)) := by have h := depL hdeps 1 (by kernel_rfl) 18 (by kernel_rfl); exact h
        refine ifw_none rfl ?_
        with_reducible refine shown_q (Value.pointer (some ⟨fa, fo + i * 2, none⟩)) ?qq_1_2 (fun _ _ => ?qr_1_2)
        case qr_1_2 => exact (rfl : (Value.pointer (some ⟨fa, fo + i * 2, none⟩)) = (Value.pointer (some ⟨fa, fo + i * 2, none⟩)))
        with_reducible refine quietAt_idx 110 (.tmp 17) (.tmp 18) (Value.slice (some ⟨fa, fo, none⟩) n fc) (Value.int .i64 (i : Nat)) (Value.pointer (some ⟨fa, fo + i * 2, none⟩)) ?h0_1_2 ?h1_1_2 ?h2_1_2 ?h3_1_2
        case h0_1_2 => rfl
        case h1_1_2 => exact e17
        case h2_1_2 => exact e18
        case h3_1_2 => exact idx34 fa fo n fc i hlt u
      · intro A u hu hpu hsz hout hdeps
        have e19 : A.eval (.tmp 19) = (.pointer (some ⟨fa, fo + i * 2, none⟩)) := by have h := depL hdeps 2 (by kernel_rfl) 19 (by kernel_rfl); exact h
        refine ifw_none rfl ?_
        with_reducible refine shown_q (Value.agg [Value.string s, Value.slice ba bn bc].toArray) ?qq_1_3 (fun _ _ => ?qr_1_3)
        case qr_1_3 => exact (rfl : (Value.agg [Value.string s, Value.slice ba bn bc].toArray) = (Value.agg [Value.string s, Value.slice ba bn bc].toArray))
        with_reducible refine quietAt_load 117 (.tmp 19) ?h0_1_3 fa (fo + i * 2) [Value.string s, Value.slice ba bn bc] (.struct (Tryz.prog.fieldsOf 117)) ?h1_1_3 ?h2_1_3 ?h3_1_3 ?h4_1_3 ?h5_1_3
        case h0_1_3 => rfl
        case h1_1_3 => exact e19
        case h2_1_3 => exact (HRA.out u hu)
        case h3_1_3 => exact Tryz.underlying117
        case h4_1_3 => rfl
        case h5_1_3 => exact Tryz.size117
      · intro A u hu hpu hsz hout hdeps
        have e1 : A.eval (.tmp 1) = (.slice (some ⟨fb, go, none⟩) n gc) := (hout 1 (by kernel_rfl)).trans rfl
        refine ifw_none rfl ?_
        with_reducible refine shown_q (Value.slice (some ⟨fb, go, none⟩) n gc) ?qq_1_4 (fun _ _ => ?qr_1_4)
        case qr_1_4 => exact (rfl : (Value.slice (some ⟨fb, go, none⟩) n gc) = (Value.slice (some ⟨fb, go, none⟩) n gc))
        with_reducible refine quietAt_mv (.tmp 1) (Value.slice (some ⟨fb, go, none⟩) n gc) ?h0_1_4 ?h1_1_4
        case h0_1_4 => rfl
        case h1_1_4 => exact e1
      · intro A u hu hpu hsz hout hdeps
        have e5 : A.eval (.tmp 5) = (.int .i64 (i : Nat)) := (hout 5 (by kernel_rfl)).trans rfl
        refine ifw_none rfl ?_
        with_reducible refine shown_q (Value.int .i64 (i : Nat)) ?qq_1_5 (fun _ _ => ?qr_1_5)
        case qr_1_5 => exact (rfl : (Value.int .i64 (i : Nat)) = (Value.int .i64 (i : Nat)))
        with_reducible refine quietAt_mv (.tmp 5) (Value.int .i64 (i : Nat)) ?h0_1_5 ?h1_1_5
        case h0_1_5 => rfl
        case h1_1_5 => exact e5
      · intro A u hu hpu hsz hout hdeps
        have e21 : A.eval (.tmp 21) = (.slice (some ⟨fb, go, none⟩) n gc) := by have h := depL hdeps 4 (by kernel_rfl) 21 (by kernel_rfl); exact h
        have e22 : A.eval (.tmp 22) = (.int .i64 (i : Nat)) := by have h := depL hdeps 5 (by kernel_rfl) 22 (by kernel_rfl); exact h
        refine ifw_none rfl ?_
        with_reducible refine shown_q (Value.pointer (some ⟨fb, go + i * 2, none⟩)) ?qq_1_6 (fun _ _ => ?qr_1_6)
        case qr_1_6 => exact (rfl : (Value.pointer (some ⟨fb, go + i * 2, none⟩)) = (Value.pointer (some ⟨fb, go + i * 2, none⟩)))
        with_reducible refine quietAt_idx 110 (.tmp 21) (.tmp 22) (Value.slice (some ⟨fb, go, none⟩) n gc) (Value.int .i64 (i : Nat)) (Value.pointer (some ⟨fb, go + i * 2, none⟩)) ?h0_1_6 ?h1_1_6 ?h2_1_6 ?h3_1_6
        case h0_1_6 => rfl
        case h1_1_6 => exact e21
        case h2_1_6 => exact e22
        case h3_1_6 => exact idx34 fb go n gc i hlt u
      · intro A u hu hpu hsz hout hdeps
        have e23 : A.eval (.tmp 23) = (.pointer (some ⟨fb, go + i * 2, none⟩)) := by have h := depL hdeps 6 (by kernel_rfl) 23 (by kernel_rfl); exact h
        refine ifw_none rfl ?_
        with_reducible refine shown_q (Value.agg [Value.string s, Value.slice ca bn cc].toArray) ?qq_1_7 (fun _ _ => ?qr_1_7)
        case qr_1_7 => exact (rfl : (Value.agg [Value.string s, Value.slice ca bn cc].toArray) = (Value.agg [Value.string s, Value.slice ca bn cc].toArray))
        with_reducible refine quietAt_load 117 (.tmp 23) ?h0_1_7 fb (go + i * 2) [Value.string s, Value.slice ca bn cc] (.struct (Tryz.prog.fieldsOf 117)) ?h1_1_7 ?h2_1_7 ?h3_1_7 ?h4_1_7 ?h5_1_7
        case h0_1_7 => rfl
        case h1_1_7 => exact e23
        case h2_1_7 => exact (HRB.out u hu)
        case h3_1_7 => exact Tryz.underlying117
        case h4_1_7 => rfl
        case h5_1_7 => exact Tryz.size117
      · intro A u hu hpu hsz hout hdeps
        have e20 : A.eval (.tmp 20) = (.agg [Value.string s, .slice ba bn bc].toArray) := by have h := depL hdeps 3 (by kernel_rfl) 20 (by kernel_rfl); exact h
        have e24 : A.eval (.tmp 24) = (.agg [Value.string s, .slice ca bn cc].toArray) := by have h := depL hdeps 7 (by kernel_rfl) 24 (by kernel_rfl); exact h
        refine ifw_none rfl ?_
        with_reducible refine shown_call 62 Tryz.f62 ?h0_1_8 ?h1_1_8 ?h2_1_8 #[.tmp 20, .tmp 24] #[117, 117] ?h3_1_8 #[(Value.agg [Value.string s, Value.slice ba bn bc].toArray), (Value.agg [Value.string s, Value.slice ca bn cc].toArray)] ?h4_1_8 ?h5_1_8
        case h0_1_8 => exact Tryz.func62
        case h1_1_8 => kernel_rfl
        case h2_1_8 => kernel_rfl
        case h3_1_8 => rfl
        case h4_1_8 => exact map2 _ _ _ _ _ e20 e24
        case h5_1_8 => exact HEq.out u hu
      · intro A u hu hpu hsz hout hdeps
        have f25 : (fun v _ => v = Value.bool true) (A.eval (.tmp 25)) u := by have h := depL hdeps 8 (by kernel_rfl) 25 (by kernel_rfl); exact h
        have e25 := (f25 : _ = Value.bool true)
        refine ifw_none rfl ?_
        with_reducible refine shown_q (Value.bool false) ?qq_1_9 (fun _ _ => ?qr_1_9)
        case qr_1_9 => exact (rfl : (Value.bool false) = (Value.bool false))
        with_reducible refine quietAt_un .not 4 (.tmp 25) (Value.bool true) (Value.bool false) ?h0_1_9 ?h1_1_9 ?h2_1_9
        case h0_1_9 => rfl
        case h1_1_9 => exact e25
        case h2_1_9 => rfl
      · intro A u8 listed hh hall
        have hA := hh.frame
        have HU := hid hh.grown
        obtain ⟨x17, hx17⟩ : ∃ x, A.eval (.tmp 17) = x := ⟨_, rfl⟩
        have f17 : (fun v _ => v = (Value.slice (some ⟨fa, fo, none⟩) n fc)) x17 u8 := by rw [← hx17]; exact hh.got 0 _ 17 rfl rfl (hall 0 (by decide))
        obtain ⟨x18, hx18⟩ : ∃ x, A.eval (.tmp 18) = x := ⟨_, rfl⟩
        have f18 : (fun v _ => v = (Value.int .i64 (i : Nat))) x18 u8 := by rw [← hx18]; exact hh.got 1 _ 18 rfl rfl (hall 1 (by decide))
        obtain ⟨x19, hx19⟩ : ∃ x, A.eval (.tmp 19) = x := ⟨_, rfl⟩
        have f19 : (fun v _ => v = (Value.pointer (some ⟨fa, fo + i * 2, none⟩))) x19 u8 := by rw [← hx19]; exact hh.got 2 _ 19 rfl rfl (hall 2 (by decide))
        obtain ⟨x20, hx20⟩ : ∃ x, A.eval (.tmp 20) = x := ⟨_, rfl⟩
        have f20 : (fun v _ => v = (Value.agg [Value.string s, Value.slice ba bn bc].toArray)) x20 u8 := by rw [← hx20]; exact hh.got 3 _ 20 rfl rfl (hall 3 (by decide))
        obtain ⟨x21, hx21⟩ : ∃ x, A.eval (.tmp 21) = x := ⟨_, rfl⟩
        have f21 : (fun v _ => v = (Value.slice (some ⟨fb, go, none⟩) n gc)) x21 u8 := by rw [← hx21]; exact hh.got 4 _ 21 rfl rfl (hall 4 (by decide))
        obtain ⟨x22, hx22⟩ : ∃ x, A.eval (.tmp 22) = x := ⟨_, rfl⟩
        have f22 : (fun v _ => v = (Value.int .i64 (i : Nat))) x22 u8 := by rw [← hx22]; exact hh.got 5 _ 22 rfl rfl (hall 5 (by decide))
        obtain ⟨x23, hx23⟩ : ∃ x, A.eval (.tmp 23) = x := ⟨_, rfl⟩
        have f23 : (fun v _ => v = (Value.pointer (some ⟨fb, go + i * 2, none⟩))) x23 u8 := by rw [← hx23]; exact hh.got 6 _ 23 rfl rfl (hall 6 (by decide))
        obtain ⟨x24, hx24⟩ : ∃ x, A.eval (.tmp 24) = x := ⟨_, rfl⟩
        have f24 : (fun v _ => v = (Value.agg [Value.string s, Value.slice ca bn cc].toArray)) x24 u8 := by rw [← hx24]; exact hh.got 7 _ 24 rfl rfl (hall 7 (by decide))
        obtain ⟨x25, hx25⟩ : ∃ x, A.eval (.tmp 25) = x := ⟨_, rfl⟩
        have f25 : (fun v _ => v = Value.bool true) x25 u8 := by rw [← hx25]; exact hh.got 8 _ 25 rfl rfl (hall 8 (by decide))
        obtain ⟨x26, hx26⟩ : ∃ x, A.eval (.tmp 26) = x := ⟨_, rfl⟩
        have f26 : (fun v _ => v = (Value.bool false)) x26 u8 := by rw [← hx26]; exact hh.got 9 _ 26 rfl rfl (hall 9 (by decide))
        dsimp only [wrote, List.foldl] at hA
        rw [hx17, hx18, hx19, hx20, hx21, hx22, hx23, hx24, hx25, hx26] at hA
        clear hh hall hx17 hx18 hx19 hx20 hx21 hx22 hx23 hx24 hx25 hx26
        replace f17 := (f17 : x17 = (.slice (some ⟨fa, fo, none⟩) n fc))
        subst f17
        replace f18 := (f18 : x18 = (.int .i64 (i : Nat)))
        subst f18
        replace f19 := (f19 : x19 = (.pointer (some ⟨fa, fo + i * 2, none⟩)))
        subst f19
        replace f20 := (f20 : x20 = (.agg [Value.string s, .slice ba bn bc].toArray))
        subst f20
        replace f21 := (f21 : x21 = (.slice (some ⟨fb, go, none⟩) n gc))
        subst f21
        replace f22 := (f22 : x22 = (.int .i64 (i : Nat)))
        subst f22
        replace f23 := (f23 : x23 = (.pointer (some ⟨fb, go + i * 2, none⟩)))
        subst f23
        replace f24 := (f24 : x24 = (.agg [Value.string s, .slice ca bn cc].toArray))
        subst f24
        have e25 := (f25 : _ = Value.bool true)
        subst e25
        replace f26 := (f26 : x26 = (.bool false))
        subst f26
        subst hA
        show wpList _ _ _ [] _ _
        unfold wpList
        simp only [Act.put, List.setIfInBounds_toArray, List.set_cons_succ, List.set_cons_zero]
        go_wp2_with fail
        go_roundw
        case rel => exact ⟨i + 1, by go_num, by omega, hid (gtrans HG.out HU.out)⟩
        case measure => simp [intOf]; omega
    · as_aux_lemma =>
      have hge : ¬ (i : Int) < (n : Int) := by omega
      go_wp2_with fail
      go_ret
      exact ⟨rfl, HG.out⟩
end Go.Proofs.YtpbiofnncdneoaaGreatDoor
