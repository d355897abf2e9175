/- The walk of TerseOne. -/
import Derived.Test.YtdmnhkgiojkphaaGreatDoorOneR
import Derived.BigQuiet
namespace Go.Proofs.YtdmnhkgiojkphaaGreatDoor
open Go Go.RowKit Go.Maps
open Go.RowKit (wrap32 wrap64)

abbrev Z26 : Obj := .cells #[.int .i64 0, .bool false, .int .i64 0, .string ⟨#[]⟩, .slice none 0 0, .slice none 0 0] 26
abbrev Z69 : Obj := .cells #[.int .i64 0, .int .i64 0] 69

set_option linter.unusedSimpArgs false in
set_option maxRecDepth 100000 in
set_option maxHeartbeats 20000000 in
theorem one_walk (w : World) (a : Option Addr) (b o A C : Nat) (S : Nat → ByteArray) (D : Nat → Int) (hG : Glob w) (hA : A ≤ 1099511627776) (ha : 0 < A → a = some ⟨b, o, none⟩ ∧ b < w.heap.size)
    (hc : ∀ i, i < A → w.cell? ⟨b, o + i * 2, none⟩ = some (.string (S i)) ∧ w.cell? ⟨b, o + i * 2 + 1, none⟩ = some (.int .i64 (D i)) ∧ (S i).size ≤ 1048576) :
    Calls Tryz.prog 8 #[.slice a A C] w fun e w' => e = .returned (.bool true) ∧ w.grownBy w' none := by
  have HG := hid hG
  have HA := hid ha
  have HC := hid hc
  clear hG ha hc
  go_enter Tryz.func8, Tryz.ntmps8
  go_wp2_with fail
  go_loopw [3] (fun iv wr => ∃ (i : Nat), iv = .int .i64 i ∧ i ≤ A ∧ Hid (w.grownBy wr none)) (fun iv _ => A - (intOf iv).toNat)
  case atStart => exact ⟨0, rfl, Nat.zero_le _, grefl _ _⟩
  case round =>
    obtain ⟨i, rfl, hi, HW⟩ := hrel
    by_cases hlt : i < A
    · have hd : decide ((i : Int) < (A : Int)) = true := decide_eq_true (by omega)
      have hlti : (i : Int) < (A : Int) := by omega
      obtain ⟨rfl, hb⟩ := HA.out (by omega)
      obtain ⟨z0, z1, hs⟩ := HC.out i hlt
      rw [← World.cell?_of_block (w := w) (a := ⟨b, o + i * 2, none⟩) (HW.out.block b hb (by simp))] at z0
      rw [← World.cell?_of_block (w := w) (a := ⟨b, o + i * 2 + 1, none⟩) (HW.out.block b hb (by simp))] at z1
      have hbr : b < wr.heap.size := Nat.lt_of_lt_of_le hb HW.out.size
      have hGr : Glob wr := HG.out.grown HW.out (fun k hk => by cases hk)
      obtain ⟨s, HS⟩ : ∃ s, Hid (S i = s) := ⟨_, hid rfl⟩
      obtain ⟨d, HD⟩ : ∃ s, Hid (D i = s) := ⟨_, hid rfl⟩
      rw [HS.out] at z0 hs
      rw [HD.out] at z1
      have HCE : Hid (∀ u : World, wr.grownBy u none → u.cell? ⟨b, o + i * 2, none⟩ = some (.string s) ∧ u.cell? ⟨b, o + i * 2 + 1, none⟩ = some (.int .i64 d)) := fun u hu => by
        rw [World.cell?_of_block (w := wr) (a := ⟨b, o + i * 2, none⟩) (hu.block b hbr (by simp)), World.cell?_of_block (w := wr) (a := ⟨b, o + i * 2 + 1, none⟩) (hu.block b hbr (by simp))]
        exact ⟨z0, z1⟩
      have HCE2 : Hid (∀ u : World, u.heap[b]? = wr.heap[b]? → u.cell? ⟨b, o + i * 2, none⟩ = some (.string s) ∧ u.cell? ⟨b, o + i * 2 + 1, none⟩ = some (.int .i64 d)) := fun u hu => by
        rw [World.cell?_of_block (w := wr) (a := ⟨b, o + i * 2, none⟩) hu, World.cell?_of_block (w := wr) (a := ⟨b, o + i * 2 + 1, none⟩) hu]
        exact ⟨z0, z1⟩
      have HGr := hid hGr
      clear hGr
      have hcur : wr.grownBy wr none := grefl _ _
      cases htl : toldOf s d with
      | no c p =>
        have hno := parse_no htl (by omega)
        have HNo := hid hno
        have hcp := (hno wr HGr.out).1
        clear htl hno
        go_upto_region 4 with fail
        go_cut [4, 5] from 10 to 128 (fun p4 p5 wc => Hid (Rel4 wr wc p4 p5 (.int .i64 0) (.bool false) (.int .i64 0) (.string ⟨#[]⟩) (.slice none 0 0) (.slice none 0 0) (.int .i64 c) (.int .i64 p)))
        case first =>
          unfold zeroV6 at HNo
          go_region_held (fun u => u.cell? ⟨b, o + i * 2, none⟩ = some (.string s) ∧ u.cell? ⟨b, o + i * 2 + 1, none⟩ = some (.int .i64 d))
            ((refine HCE2.out _ ?_; (try simp only [drew_heap]); repeat (first | (with_reducible rfl) | (with_reducible assumption) | (rw [hs_set _ _ _ _ _ (by omega)]) | (rw [hs_alloc _ _ _ (by first | (with_reducible assumption) | (simp <;> omega))]) | (exact rfl) | (exact hbb2))))
            (first
            | (
                      go_at_call 18
                      refine (HNo.out _ (HGr.out.grown (by first | exact hcur | exact galloc1 rfl rfl rfl rfl | exact galloc2 rfl rfl rfl rfl | exact gdrew1 _ none) (fun k hk => by cases hk))).2.mono ?_
                      rintro e w2 ⟨rfl, hg2⟩
                      have hbb2 : w2.heap[b]? = wr.heap[b]? := (hg2.block b (by first | exact hbr | (simp <;> omega)) (by simp)).trans (by first | (with_reducible rfl) | exact rfl | exact hs_alloc wr _ b hbr | (exact (hs_alloc (wr.alloc _) _ b (by simp <;> omega)).trans (hs_alloc wr _ b hbr)))
                      have hbz : b < w2.heap.size := Nat.lt_of_lt_of_le hbr (Nat.le_trans (by first | exact Nat.le_refl _ | (simp <;> omega)) hg2.size)
                      have hcur : wr.grownBy w2 none := gtrans (by first | exact galloc1 rfl rfl rfl rfl | exact galloc2 rfl rfl rfl rfl | exact gdrew1 _ none | exact grefl _ _) hg2
                      try (have n1 : wr.heap.size ≠ w2.heap.size := by (have := hg2.size; simp at this; omega))
                      try (have n2 : wr.heap.size + 1 ≠ w2.heap.size := by (have := hg2.size; simp at this; omega))
                      try (have n3 : w2.heap.size ≠ wr.heap.size := by (have := hg2.size; simp at this; omega))
                      first
                      | (have f4 : w2.heap[wr.heap.size]? = some (.cells #[.int .i64 0, .bool false, .int .i64 0, .string ⟨#[]⟩, .slice none 0 0, .slice none 0 0] 26 (0, 0)) := (hg2.block _ (by simp <;> omega) (by simp)).trans (by exact lit_old (lit_new _ _ _ _ rfl) _)
                         have f5 : w2.heap[wr.heap.size + 1]? = some (.cells #[.int .i64 0, .int .i64 0] 69 (0, 0)) := (hg2.block _ (by simp) (by simp)).trans (by exact lit_new _ _ _ _ (by simp))
                         obtain ⟨⟨k0, k1, k2, k3, k4, k5⟩, kf⟩ := cells6 f4
                         obtain ⟨⟨j0, j1⟩, jf⟩ := cells2 f5)
                      | (have f5 : w2.heap[wr.heap.size]? = some (.cells #[.int .i64 0, .int .i64 0] 69 (0, 0)) := (hg2.block _ (by simp <;> omega) (by simp)).trans (by exact lit_old (lit_new _ _ _ _ rfl) _)
                         have f4 : w2.heap[wr.heap.size + 1]? = some (.cells #[.int .i64 0, .bool false, .int .i64 0, .string ⟨#[]⟩, .slice none 0 0, .slice none 0 0] 26 (0, 0)) := (hg2.block _ (by simp) (by simp)).trans (by exact lit_new _ _ _ _ (by simp))
                         obtain ⟨⟨k0, k1, k2, k3, k4, k5⟩, kf⟩ := cells6 f4
                         obtain ⟨⟨j0, j1⟩, jf⟩ := cells2 f5)
                      | (have f4 : w2.heap[wr.heap.size]? = some (.cells #[.int .i64 0, .bool false, .int .i64 0, .string ⟨#[]⟩, .slice none 0 0, .slice none 0 0] 26 (0, 0)) := (hg2.block _ (by simp) (by simp)).trans (by exact lit_new _ _ _ _ rfl)
                         have k0 := fun x : Obj => (cells6 (lit_old f4 x)).1.1
                         have k1 := fun x : Obj => (cells6 (lit_old f4 x)).1.2.1
                         have k2 := fun x : Obj => (cells6 (lit_old f4 x)).1.2.2.1
                         have k3 := fun x : Obj => (cells6 (lit_old f4 x)).1.2.2.2.1
                         have k4 := fun x : Obj => (cells6 (lit_old f4 x)).1.2.2.2.2.1
                         have k5 := fun x : Obj => (cells6 (lit_old f4 x)).1.2.2.2.2.2
                         have kf := fun x : Obj => (cells6 (lit_old f4 x)).2)
                      | (have f5 : w2.heap[wr.heap.size]? = some (.cells #[.int .i64 0, .int .i64 0] 69 (0, 0)) := (hg2.block _ (by simp) (by simp)).trans (by exact lit_new _ _ _ _ rfl)
                         have j0 := fun x : Obj => (cells2 (lit_old f5 x)).1.1
                         have j1 := fun x : Obj => (cells2 (lit_old f5 x)).1.2
                         have jf := fun x : Obj => (cells2 (lit_old f5 x)).2)
                      | skip))
          all_goals
            clear HCE HCE2 HNo
            go_wp2_with fail
            go_meet
            first
            | with_reducible exact hid (rel_A1 hcur)
            | with_reducible exact hid (rel_A2 hcur)
            | with_reducible exact hid (rel_B hcur f4 f5 (by omega) (by omega) (by omega))
            | with_reducible exact hid (rel_B (gtrans hcur (galloc w2 _ none)) (lit_old f4 _) (lit_new w2 _ _ _ rfl) (by have := (Array.getElem?_eq_some_iff.1 f4).1; omega) (by omega) hcur.size)
            | with_reducible exact hid (rel_C (gtrans hcur (galloc w2 _ none)) (lit_new w2 _ _ _ rfl) (lit_old f5 _) (by have := (Array.getElem?_eq_some_iff.1 f5).1; omega) (by omega))
        case rest =>
          obtain ⟨b4, b5, rfl, rfl, hgc, h4, h5⟩ := hcut.out
          obtain ⟨⟨y0, y1, y2, y3, y4, y5⟩, yf⟩ := cells6 h4
          obtain ⟨⟨x0, x1⟩, xf⟩ := cells2 h5
          obtain ⟨r0, r1⟩ := HCE.out wc hgc
          have HGc := hid (gtrans HW.out hgc)
          have HS4 : Hid (∀ u : World, wc.grownBy u none → u.cell? ⟨b4, 0, none⟩ = some (.int .i64 0) ∧ u.cell? ⟨b4, 1, none⟩ = some (.bool false) ∧ u.cell? ⟨b4, 2, none⟩ = some (.int .i64 0) ∧ u.cell? ⟨b4, 3, none⟩ = some (.string ⟨#[]⟩) ∧ u.cell? ⟨b4, 4, none⟩ = some (.slice none 0 0) ∧ u.cell? ⟨b4, 5, none⟩ = some (.slice none 0 0) ∧ u.cell? ⟨b5, 0, none⟩ = some (.int .i64 c) ∧ u.cell? ⟨b5, 1, none⟩ = some (.int .i64 p) ∧ u.cell? ⟨b, o + i * 2, none⟩ = some (.string s)) := fun u hu => by
            have k4 := (hu.block b4 (Array.getElem?_eq_some_iff.1 h4).1 (by simp)).trans h4
            have k5 := (hu.block b5 (Array.getElem?_eq_some_iff.1 h5).1 (by simp)).trans h5
            have k := (HCE.out u (gtrans hgc hu)).1
            exact ⟨(cells6 k4).1.1, (cells6 k4).1.2.1, (cells6 k4).1.2.2.1, (cells6 k4).1.2.2.2.1, (cells6 k4).1.2.2.2.2.1, (cells6 k4).1.2.2.2.2.2, (cells2 k5).1.1, (cells2 k5).1.2, k⟩
          have HEq : Hid (∀ u : World, Calls Tryz.prog 20 #[.agg #[.int .i64 0, .bool false, .int .i64 0, .string ⟨#[]⟩, .slice none 0 0, .slice none 0 0], .agg #[.int .i64 0, .bool false, .int .i64 0, .string ⟨#[]⟩, .slice none 0 0, .slice none 0 0]] u fun e w' => e = .returned (.bool true) ∧ u.grownBy w' none) := fun u =>
            eqValue_same 1 (by decide) zeroT (by decide) u (fun _ => True) (fun _ => True) _ _ (RdT.leaf u _ 0 false 0 ⟨#[]⟩) (RdT.leaf u _ 0 false 0 ⟨#[]⟩)
          obtain ⟨q1, q2, q3⟩ := hcp
          have c0 : (c == 0) = false := beq_eq_false_iff_ne.2 (by omega)
          have c0n : (c != 0) = true := by simp; omega
          have c20 : decide (c < 20) = false := decide_eq_false (by omega)
          have c25 : decide (25 < c) = false := decide_eq_false (by omega)
          have p0 : decide ((p : Int) < 0) = false := decide_eq_false (by omega)
          have ps : decide ((s.size : Int) < (p : Int)) = false := decide_eq_false (by omega)
          have psn : ¬ (s.size < p) := by omega
          have hcur : wc.grownBy wc none := grefl _ _
          clear hcut HCE HCE2 HNo h4 h5
          go_wp2_with fail
          go_region_held (fun u => u.cell? ⟨b4, 0, none⟩ = some (.int .i64 0) ∧ u.cell? ⟨b4, 1, none⟩ = some (.bool false) ∧ u.cell? ⟨b4, 2, none⟩ = some (.int .i64 0) ∧ u.cell? ⟨b4, 3, none⟩ = some (.string ⟨#[]⟩) ∧ u.cell? ⟨b4, 4, none⟩ = some (.slice none 0 0) ∧ u.cell? ⟨b4, 5, none⟩ = some (.slice none 0 0) ∧ u.cell? ⟨b5, 0, none⟩ = some (.int .i64 c) ∧ u.cell? ⟨b5, 1, none⟩ = some (.int .i64 p) ∧ u.cell? ⟨b, o + i * 2, none⟩ = some (.string s))
            (exact HS4.out _ (by first | (with_reducible assumption) | exact gdrew1 _ none))
            (first | (go_at_call 20; refine (HEq.out _).mono ?_; rintro e w9 ⟨rfl, hg9⟩; have hcur : wc.grownBy w9 none := gtrans (gdrew1 _ none) hg9))
          all_goals
            have HG9 := hid (gtrans HGc.out hcur)
            go_wp2_with fail
            exact ⟨⟨i + 1, rfl, by omega, HG9⟩, by simp only [intOf]; omega⟩
      | yes t =>
        have hyes := fun u hu => parse_yes htl (by omega) u hu
        have HYes := hid hyes
        obtain ⟨g0, g1, g2, g3, g4, g5⟩ := told_good htl
        have hbf := bf_le s.data.toList
        rw [Array.length_toList] at hbf
        have hbf' : bf s.data.toList ≤ s.size := hbf
        have hpl : (pr t).length ≤ 1099511627776 := by omega
        have hcn : cntT t ≤ 1099511627776 := Nat.le_trans (cnt_pr _ t (Nat.le_refl _) 0 g1) hpl
        have HPl := hid g4
        have HYes2 : Hid (∀ u : World, Glob u → _) := fun u hu => parse_yes g5 (by rw [str_size]; omega) u hu
        have HPr : Hid (∀ (u : World) (F : Nat → Prop) (v : Value), RdT u F t v → Glob u → _) := fun u F v hv hu => print_ok t g1 g2 hcn hpl u F v hv hu
        have HCk : Hid (∀ (u : World) (F : Nat → Prop) (v : Value), RdT u F t v → Glob u → Calls Tryz.prog 15 #[v] u fun e w' => e = .returned (.int .i64 0) ∧ u.grownBy w' none) := fun u F v hv hu => by
          have := checkF_any t hcn u F v hv hu
          rw [g1] at this
          exact this
        have HDp : Hid (∀ (u : World) (F : Nat → Prop) (v : Value), RdT u F t v → _) := fun u F v hv => depth_any _ t (Nat.le_refl _) hcn u F v hv
        have HEq : Hid (∀ (u : World) (F G : Nat → Prop) (v x : Value), RdT u F t v → RdT u G t x → _) := fun u F G v x hv hx => eqValue_same _ hcn t (Nat.le_refl _) u F G v x hv hx
        obtain ⟨DT, HDT⟩ : ∃ D, Hid (depthT t = D) := ⟨_, hid rfl⟩
        rw [HDT.out] at g3 HDp
        obtain ⟨T, HTT⟩ : ∃ T, Hid (str (pr t) = T) := ⟨_, hid rfl⟩
        rw [HTT.out] at HYes2 HPr
        have hTs : T.size ≤ s.size + 4 * bf s.data.toList := by rw [← HTT.out, str_size]; exact g4
        have HTs := hid hTs
        clear htl hyes g0 g1 g2 g4 g5 hbf hbf' hpl hcn hTs
        go_upto_region 4 with fail
        go_cut [4, 5] from 10 to 128 (fun p4 p5 wc => ∃ (k : Int) (f : Bool) (n : Int) (x : ByteArray) (ka : Option Addr) (kn kc : Nat) (ia : Option Addr) (il ic : Nat), Hid (Rel4 wr wc p4 p5 (.int .i64 k) (.bool f) (.int .i64 n) (.string x) (.slice ka kn kc) (.slice ia il ic) (.int .i64 0) (.int .i64 0)) ∧ Hid (∃ F, RdT wc F t (.agg #[.int .i64 k, .bool f, .int .i64 n, .string x, .slice ka kn kc, .slice ia il ic])))
        case first =>
          go_region_held (fun u => u.cell? ⟨b, o + i * 2, none⟩ = some (.string s) ∧ u.cell? ⟨b, o + i * 2 + 1, none⟩ = some (.int .i64 d))
            ((refine HCE2.out _ ?_; (try simp only [drew_heap]); repeat (first | (with_reducible rfl) | (with_reducible assumption) | (rw [hs_set _ _ _ _ _ (by omega)]) | (rw [hs_alloc _ _ _ (by first | (with_reducible assumption) | (simp <;> omega))]) | (exact rfl) | (exact hbb2))))
            (first
            | (
                      go_at_call 18
                      refine (HYes.out _ (HGr.out.grown (by first | exact hcur | exact galloc1 rfl rfl rfl rfl | exact galloc2 rfl rfl rfl rfl | exact gdrew1 _ none) (fun k hk => by cases hk))).mono ?_
                      rintro e w2 ⟨vk, vf, vn, vx, vka, vkn, vkc, via, vil, vic, rfl, hT, hg2⟩
                      have hT2 := RdT.wide hT (fun g h1 h2 => And.intro h1 h2)
                      have hbb2 : w2.heap[b]? = wr.heap[b]? := (hg2.block b (by first | exact hbr | (simp <;> omega)) (by simp)).trans (by first | (with_reducible rfl) | exact rfl | exact hs_alloc wr _ b hbr | (exact (hs_alloc (wr.alloc _) _ b (by simp <;> omega)).trans (hs_alloc wr _ b hbr)))
                      have hbz : b < w2.heap.size := Nat.lt_of_lt_of_le hbr (Nat.le_trans (by first | exact Nat.le_refl _ | (simp <;> omega)) hg2.size)
                      have hcur : wr.grownBy w2 none := gtrans (by first | exact galloc1 rfl rfl rfl rfl | exact galloc2 rfl rfl rfl rfl | exact gdrew1 _ none | exact grefl _ _) hg2
                      try (have n1 : wr.heap.size ≠ w2.heap.size := by (have := hg2.size; simp at this; omega))
                      try (have n2 : wr.heap.size + 1 ≠ w2.heap.size := by (have := hg2.size; simp at this; omega))
                      try (have n3 : w2.heap.size ≠ wr.heap.size := by (have := hg2.size; simp at this; omega))
                      first
                      | (have f4 : w2.heap[wr.heap.size]? = some (.cells #[.int .i64 0, .bool false, .int .i64 0, .string ⟨#[]⟩, .slice none 0 0, .slice none 0 0] 26 (0, 0)) := (hg2.block _ (by simp <;> omega) (by simp)).trans (by exact lit_old (lit_new _ _ _ _ rfl) _)
                         have f5 : w2.heap[wr.heap.size + 1]? = some (.cells #[.int .i64 0, .int .i64 0] 69 (0, 0)) := (hg2.block _ (by simp) (by simp)).trans (by exact lit_new _ _ _ _ (by simp))
                         obtain ⟨⟨k0, k1, k2, k3, k4, k5⟩, kf⟩ := cells6 f4
                         obtain ⟨⟨j0, j1⟩, jf⟩ := cells2 f5)
                      | (have f5 : w2.heap[wr.heap.size]? = some (.cells #[.int .i64 0, .int .i64 0] 69 (0, 0)) := (hg2.block _ (by simp <;> omega) (by simp)).trans (by exact lit_old (lit_new _ _ _ _ rfl) _)
                         have f4 : w2.heap[wr.heap.size + 1]? = some (.cells #[.int .i64 0, .bool false, .int .i64 0, .string ⟨#[]⟩, .slice none 0 0, .slice none 0 0] 26 (0, 0)) := (hg2.block _ (by simp) (by simp)).trans (by exact lit_new _ _ _ _ (by simp))
                         obtain ⟨⟨k0, k1, k2, k3, k4, k5⟩, kf⟩ := cells6 f4
                         obtain ⟨⟨j0, j1⟩, jf⟩ := cells2 f5)
                      | (have f4 : w2.heap[wr.heap.size]? = some (.cells #[.int .i64 0, .bool false, .int .i64 0, .string ⟨#[]⟩, .slice none 0 0, .slice none 0 0] 26 (0, 0)) := (hg2.block _ (by simp) (by simp)).trans (by exact lit_new _ _ _ _ rfl)
                         have k0 := fun x : Obj => (cells6 (lit_old f4 x)).1.1
                         have k1 := fun x : Obj => (cells6 (lit_old f4 x)).1.2.1
                         have k2 := fun x : Obj => (cells6 (lit_old f4 x)).1.2.2.1
                         have k3 := fun x : Obj => (cells6 (lit_old f4 x)).1.2.2.2.1
                         have k4 := fun x : Obj => (cells6 (lit_old f4 x)).1.2.2.2.2.1
                         have k5 := fun x : Obj => (cells6 (lit_old f4 x)).1.2.2.2.2.2
                         have kf := fun x : Obj => (cells6 (lit_old f4 x)).2)
                      | (have f5 : w2.heap[wr.heap.size]? = some (.cells #[.int .i64 0, .int .i64 0] 69 (0, 0)) := (hg2.block _ (by simp) (by simp)).trans (by exact lit_new _ _ _ _ rfl)
                         have j0 := fun x : Obj => (cells2 (lit_old f5 x)).1.1
                         have j1 := fun x : Obj => (cells2 (lit_old f5 x)).1.2
                         have jf := fun x : Obj => (cells2 (lit_old f5 x)).2)
                      | skip))
          all_goals
            clear HCE HCE2 HYes hT
            go_wp2_with fail
            go_meet
            refine ⟨vk, vf, vn, vx, vka, vkn, vkc, via, vil, vic, ?_⟩
            first
            | with_reducible exact ⟨hid (rel_A1 hcur), hid ⟨_, hT2.on (Stays.none (gtrans (galloc _ _ none) (galloc _ _ none)))⟩⟩
            | with_reducible exact ⟨hid (rel_A2 hcur), hid ⟨_, hT2.on (Stays.none (gtrans (galloc _ _ none) (galloc _ _ none)))⟩⟩
            | with_reducible exact ⟨hid (rel_B hcur f4 f5 (by omega) (by omega) (by omega)), hid ⟨_, hT2.on ((two_B f4 f5 (by omega)).keeps (fun g hg => by have h0 := hg.1; simp at h0; omega))⟩⟩
            | with_reducible exact ⟨hid (rel_B (gtrans hcur (galloc w2 _ none)) (lit_old f4 _) (lit_new w2 _ _ _ rfl) (by have := (Array.getElem?_eq_some_iff.1 f4).1; omega) (by omega) hcur.size), hid ⟨_, (hT2.on (Stays.none (galloc w2 _ none))).on ((two_B (lit_old f4 _) (lit_new w2 _ _ _ rfl) (by have := (Array.getElem?_eq_some_iff.1 f4).1; omega)).keeps (fun g hg => by have h0 := hg.1; have h1 := hg.2; simp at h0; omega))⟩⟩
            | with_reducible exact ⟨hid (rel_C (gtrans hcur (galloc w2 _ none)) (lit_new w2 _ _ _ rfl) (lit_old f5 _) (by have := (Array.getElem?_eq_some_iff.1 f5).1; omega) (by omega)), hid ⟨_, (hT2.on (Stays.none (galloc w2 _ none))).on (Stays.grown two_C (fun g hg e => by injection e with e; have h0 := hg.1; simp at h0; omega))⟩⟩
        case rest =>
          obtain ⟨vk, vf, vn, vx, vka, vkn, vkc, via, vil, vic, hrl, hrd⟩ := hcut
          obtain ⟨b4, b5, rfl, rfl, hgc, h4, h5⟩ := hrl.out
          obtain ⟨F4, hT4⟩ := hrd.out
          have HT4 := hid hT4
          have HH4 := hid h4
          have HGc := hid (gtrans HW.out hgc)
          have HGL : Hid (Glob wc) := HGr.out.grown hgc (fun k hk => by cases hk)
          have HCR : Hid (∀ u : World, wc.grownBy u none → u.cell? ⟨b, o + i * 2, none⟩ = some (.string s) ∧ u.cell? ⟨b, o + i * 2 + 1, none⟩ = some (.int .i64 d)) := fun u hu => HCE.out u (gtrans hgc hu)
          obtain ⟨⟨y0, y1, y2, y3, y4, y5⟩, yf⟩ := cells6 h4
          obtain ⟨⟨x0, x1⟩, xf⟩ := cells2 h5
          clear hrl hrd HCE HCE2 HYes h4 h5 hT4 hgc z0 z1 hcur
          go_wp2_with fail
          refine (HPr.out wc F4 _ HT4.out HGL.out).mono ?_
          rintro e w5 ⟨rfl, hg5⟩
          have hgl5 : Glob w5 := HGL.out.grown hg5 (fun k hk => by cases hk)
          have HGL5 := hid hgl5
          have HG5 := hid hg5
          obtain ⟨r0, r1⟩ := HCR.out w5 hg5
          clear hg5 hgl5
          go_wp2_with fail
          refine (HYes2.out w5 HGL5.out).mono ?_
          rintro e w6 ⟨uk, uf, un, ux, uka, ukn, ukc, uia, uil, uic, rfl, hT6, hg6⟩
          have HT6 := hid hT6
          have HG6 := hid (gtrans HG5.out hg6)
          clear hT6 hg6
          have hg67 : w6.grownBy ((w6.alloc (.cells #[.int .i64 uk, .bool uf, .int .i64 un, .string ux, .slice uka ukn ukc, .slice uia uil uic] 26)).alloc (.cells #[.int .i64 0, .int .i64 0] 69)) none := gtrans (galloc _ _ none) (galloc _ _ none)
          have h8 : ((w6.alloc (.cells #[.int .i64 uk, .bool uf, .int .i64 un, .string ux, .slice uka ukn ukc, .slice uia uil uic] 26)).alloc (.cells #[.int .i64 0, .int .i64 0] 69)).heap[w6.heap.size]? = some (.cells #[.int .i64 uk, .bool uf, .int .i64 un, .string ux, .slice uka ukn ukc, .slice uia uil uic] 26 (0, 0)) := lit_old (lit_new _ _ _ _ rfl) _
          have h9 : ((w6.alloc (.cells #[.int .i64 uk, .bool uf, .int .i64 un, .string ux, .slice uka ukn ukc, .slice uia uil uic] 26)).alloc (.cells #[.int .i64 0, .int .i64 0] 69)).heap[w6.heap.size + 1]? = some (.cells #[.int .i64 0, .int .i64 0] 69 (0, 0)) := lit_new _ _ _ _ (by simp)
          go_wp2_with fail
          generalize (w6.alloc (.cells #[.int .i64 uk, .bool uf, .int .i64 un, .string ux, .slice uka ukn ukc, .slice uia uil uic] 26)).alloc (.cells #[.int .i64 0, .int .i64 0] 69) = W7 at hg67 h8 h9 ⊢
          generalize w6.heap.size = b8 at h8 h9 ⊢
          have HG7 : Hid (wc.grownBy W7 none) := gtrans HG6.out hg67
          have HT47 : Hid (RdT W7 F4 t (.agg #[.int .i64 vk, .bool vf, .int .i64 vn, .string vx, .slice vka vkn vkc, .slice via vil vic])) := HT4.out.on (Stays.none HG7.out)
          have HT67 := hid (HT6.out.on (Stays.none hg67))
          have HGL7 : Hid (Glob W7) := HGL.out.grown HG7.out (fun k hk => by cases hk)
          have HS7 : Hid (∀ u : World, W7.grownBy u none → u.cell? ⟨b4, 0, none⟩ = some (.int .i64 vk) ∧ u.cell? ⟨b4, 1, none⟩ = some (.bool vf) ∧ u.cell? ⟨b4, 2, none⟩ = some (.int .i64 vn) ∧ u.cell? ⟨b4, 3, none⟩ = some (.string vx) ∧ u.cell? ⟨b4, 4, none⟩ = some (.slice vka vkn vkc) ∧ u.cell? ⟨b4, 5, none⟩ = some (.slice via vil vic) ∧ u.cell? ⟨b8, 0, none⟩ = some (.int .i64 uk) ∧ u.cell? ⟨b8, 1, none⟩ = some (.bool uf) ∧ u.cell? ⟨b8, 2, none⟩ = some (.int .i64 un) ∧ u.cell? ⟨b8, 3, none⟩ = some (.string ux) ∧ u.cell? ⟨b8, 4, none⟩ = some (.slice uka ukn ukc) ∧ u.cell? ⟨b8, 5, none⟩ = some (.slice uia uil uic) ∧ u.cell? ⟨b8 + 1, 0, none⟩ = some (.int .i64 0) ∧ u.cell? ⟨b8 + 1, 1, none⟩ = some (.int .i64 0) ∧ u.cell? ⟨b, o + i * 2, none⟩ = some (.string s) ∧ u.cell? ⟨b, o + i * 2 + 1, none⟩ = some (.int .i64 d)) := fun u hu => by
            have k4 := ((gtrans HG7.out hu).block b4 (Array.getElem?_eq_some_iff.1 HH4.out).1 (by simp)).trans HH4.out
            have k8 := (hu.block b8 (Array.getElem?_eq_some_iff.1 h8).1 (by simp)).trans h8
            have k9 := (hu.block (b8 + 1) (Array.getElem?_eq_some_iff.1 h9).1 (by simp)).trans h9
            have k := HCR.out u (gtrans HG7.out hu)
            exact ⟨(cells6 k4).1.1, (cells6 k4).1.2.1, (cells6 k4).1.2.2.1, (cells6 k4).1.2.2.2.1, (cells6 k4).1.2.2.2.2.1, (cells6 k4).1.2.2.2.2.2, (cells6 k8).1.1, (cells6 k8).1.2.1, (cells6 k8).1.2.2.1, (cells6 k8).1.2.2.2.1, (cells6 k8).1.2.2.2.2.1, (cells6 k8).1.2.2.2.2.2, (cells2 k9).1.1, (cells2 k9).1.2, k.1, k.2⟩
          have HLg : Hid (∀ u : World, Calls Tryz.prog 36 #[.string s, .string T] u fun e w' => e = .returned (.bool true) ∧ w' = u) := fun u => by
            refine (longer_any s T u (by omega)).mono ?_
            rintro e w' ⟨rfl, rfl⟩
            rw [decide_eq_true (by have := HTs.out; omega)]
            exact ⟨rfl, rfl⟩
          have hdd : decide (d < (DT : Int)) = false := decide_eq_false (by omega)
          have hcur : W7.grownBy W7 none := grefl _ _
          clear hg67 h8 h9 HYes2 HPr HCR HH4 HT4 HT6 HG6 HGL HGL5 HG5 HG HA HC HGr y0 y1 y2 y3 y4 y5 yf x0 x1 xf r0 r1
          by_cases hgt : s.size < T.size
          · have hg1 : decide ((s.size : Int) < (T.size : Int)) = true := decide_eq_true (by omega)
            have hg2 : decide (s.size < T.size) = true := decide_eq_true hgt
            go_region_held (fun u => u.cell? ⟨b4, 0, none⟩ = some (.int .i64 vk) ∧ u.cell? ⟨b4, 1, none⟩ = some (.bool vf) ∧ u.cell? ⟨b4, 2, none⟩ = some (.int .i64 vn) ∧ u.cell? ⟨b4, 3, none⟩ = some (.string vx) ∧ u.cell? ⟨b4, 4, none⟩ = some (.slice vka vkn vkc) ∧ u.cell? ⟨b4, 5, none⟩ = some (.slice via vil vic) ∧ u.cell? ⟨b8, 0, none⟩ = some (.int .i64 uk) ∧ u.cell? ⟨b8, 1, none⟩ = some (.bool uf) ∧ u.cell? ⟨b8, 2, none⟩ = some (.int .i64 un) ∧ u.cell? ⟨b8, 3, none⟩ = some (.string ux) ∧ u.cell? ⟨b8, 4, none⟩ = some (.slice uka ukn ukc) ∧ u.cell? ⟨b8, 5, none⟩ = some (.slice uia uil uic) ∧ u.cell? ⟨b8 + 1, 0, none⟩ = some (.int .i64 0) ∧ u.cell? ⟨b8 + 1, 1, none⟩ = some (.int .i64 0) ∧ u.cell? ⟨b, o + i * 2, none⟩ = some (.string s) ∧ u.cell? ⟨b, o + i * 2 + 1, none⟩ = some (.int .i64 d))
              (exact HS7.out _ (by first | (with_reducible assumption) | exact gdrew1 _ none))
              (first
              | (go_at_call 15; refine (HCk.out _ F4 _ (HT47.out.on (Stays.none (by first | (with_reducible assumption) | exact gdrew1 _ none))) (HGL7.out.grown (by first | (with_reducible assumption) | exact gdrew1 _ none) (fun k hk => by cases hk))).mono ?_; rintro e u1 ⟨rfl, hq⟩; have hcur : W7.grownBy u1 none := gtrans (by first | (with_reducible assumption) | exact gdrew1 _ none) hq)
              | (go_at_call 14; refine (num_any _ _).mono ?_; rintro e u2 ⟨rfl, rfl⟩)
              | (go_at_call 33; refine (HDp.out _ F4 _ (HT47.out.on (Stays.none (by first | (with_reducible assumption) | exact gdrew1 _ none)))).mono ?_; rintro e u3 ⟨rfl, hq⟩; have hcur : W7.grownBy u3 none := gtrans (by first | (with_reducible assumption) | exact gdrew1 _ none) hq)
              | (go_at_call 20; refine (HEq.out _ F4 _ _ _ (HT47.out.on (Stays.none (by first | (with_reducible assumption) | exact gdrew1 _ none))) (HT67.out.on (Stays.none (by first | (with_reducible assumption) | exact gdrew1 _ none)))).mono ?_; rintro e u4 ⟨rfl, hq⟩; have hcur : W7.grownBy u4 none := gtrans (by first | (with_reducible assumption) | exact gdrew1 _ none) hq)
              | (go_at_call 36; refine (HLg.out _).mono ?_; rintro e u5 ⟨rfl, rfl⟩))
            all_goals
              have HG9 := hid (gtrans (gtrans HGc.out HG7.out) hcur)
              go_wp2_with fail
              exact ⟨⟨i + 1, rfl, by omega, HG9⟩, by simp only [intOf]; omega⟩
          · have hg1 : decide ((s.size : Int) < (T.size : Int)) = false := decide_eq_false (by omega)
            have hg2 : decide (s.size < T.size) = false := decide_eq_false hgt
            have hg3 : decide (T.size ≤ s.size) = true := decide_eq_true (by omega)
            have hg4 : decide ((T.size : Int) ≤ (s.size : Int)) = true := decide_eq_true (by omega)
            have hg5 : T.size ≤ s.size := by omega
            have hg6 : (T.size : Int) ≤ (s.size : Int) := by omega
            have hg7 : ¬ ((s.size : Int) < (T.size : Int)) := by omega
            refine wp_region_held_drew (S := (fun u => u.cell? ⟨b4, 0, none⟩ = some (.int .i64 vk) ∧ u.cell? ⟨b4, 1, none⟩ = some (.bool vf) ∧ u.cell? ⟨b4, 2, none⟩ = some (.int .i64 vn) ∧ u.cell? ⟨b4, 3, none⟩ = some (.string vx) ∧ u.cell? ⟨b4, 4, none⟩ = some (.slice vka vkn vkc) ∧ u.cell? ⟨b4, 5, none⟩ = some (.slice via vil vic) ∧ u.cell? ⟨b8, 0, none⟩ = some (.int .i64 uk) ∧ u.cell? ⟨b8, 1, none⟩ = some (.bool uf) ∧ u.cell? ⟨b8, 2, none⟩ = some (.int .i64 un) ∧ u.cell? ⟨b8, 3, none⟩ = some (.string ux) ∧ u.cell? ⟨b8, 4, none⟩ = some (.slice uka ukn ukc) ∧ u.cell? ⟨b8, 5, none⟩ = some (.slice uia uil uic) ∧ u.cell? ⟨b8 + 1, 0, none⟩ = some (.int .i64 0) ∧ u.cell? ⟨b8 + 1, 1, none⟩ = some (.int .i64 0) ∧ u.cell? ⟨b, o + i * 2, none⟩ = some (.string s) ∧ u.cell? ⟨b, o + i * 2 + 1, none⟩ = some (.int .i64 d))) (by kernel_rfl) ?_ (fun hHeld => ?_)
            · (try dsimp only); exact HS7.out _ (by first | (with_reducible assumption) | exact gdrew1 _ none)
            refine wpAnyH_take (i := 0) (oi := { dst := some 78, op := Go.Op.load 26 (Go.Operand.tmp 4), type := 26, pos := "plain.go:107", after := #[], guard := none }) (v := ?v0) rfl (by kernel_rfl) (by kernel_rfl) (by kernel_rfl) (fun _ _ _ h => h) (Or.inl ⟨by rfl, ?y0⟩) (by assumption) ?r0
            case y0 => (intro wq hSw; (try dsimp only at hSw); go_simp; try (with_reducible rfl))
            (try simp only [Act.put, List.setIfInBounds_toArray, List.set_cons_zero, List.set_cons_succ])
            refine wpAnyH_ready (rs := [1]) (by kernel_rfl) (by simp) ?_
            refine AllReadyH.cons rfl (fun K hK => ?_) AllReadyH.nil
            go_simp
            go_wp2_with (go_at_call 15; refine (HCk.out _ F4 _ (HT47.out.on (Stays.none (by first | (with_reducible assumption) | exact gdrew1 _ none))) (HGL7.out.grown (by first | (with_reducible assumption) | exact gdrew1 _ none) (fun k hk => by cases hk))).mono ?_; rintro e u1 ⟨rfl, hq⟩; have hcur : W7.grownBy u1 none := gtrans (by first | (with_reducible assumption) | exact gdrew1 _ none) hq)
            refine hK.out _ _ ?_ (fun hHeld => ?_)
            · (try dsimp only); exact HS7.out _ (by first | (with_reducible assumption) | exact gdrew1 _ none)
            clear hK K
            refine wpAnyH_ready (rs := [2]) (by kernel_rfl) (by simp) ?_
            refine AllReadyH.cons rfl (fun K hK => ?_) AllReadyH.nil
            go_simp
            go_wp2_with (go_at_call 14; refine (num_any _ _).mono ?_; rintro e u2 ⟨rfl, rfl⟩)
            refine hK.out _ _ ?_ (fun hHeld => ?_)
            · (try dsimp only); exact HS7.out _ (by first | (with_reducible assumption) | exact gdrew1 _ none)
            clear hK K
            refine wpAnyH_take (i := 3) (oi := { dst := some 81, op := Go.Op.binOp Go.BinOp.neq 3 (Go.Operand.tmp 80) (Go.Operand.const (Go.Value.int Go.IntKind.i64 0)) 3, type := 4, pos := "plain.go:107", after := #[{ on := 2, ground := Go.Ground.data }], guard := none }) (v := ?v3) rfl (by kernel_rfl) (by kernel_rfl) (by kernel_rfl) (fun _ _ _ h => h) (Or.inl ⟨by rfl, ?y3⟩) (by assumption) ?r3
            case y3 => (intro wq hSw; (try dsimp only at hSw); go_simp; try (with_reducible rfl))
            (try simp only [Act.put, List.setIfInBounds_toArray, List.set_cons_zero, List.set_cons_succ])
            refine wpAnyH_take (i := 4) (oi := { dst := some 82, op := Go.Op.move (Go.Operand.tmp 81), type := 4, pos := "plain.go:107", after := #[{ on := 3, ground := Go.Ground.data }, { on := 2, ground := Go.Ground.chain }], guard := none }) (v := ?v4) rfl (by kernel_rfl) (by kernel_rfl) (by kernel_rfl) (fun _ _ _ h => h) (Or.inl ⟨by rfl, ?y4⟩) (by assumption) ?r4
            case y4 => (intro wq hSw; (try dsimp only at hSw); go_simp; try (with_reducible rfl))
            (try simp only [Act.put, List.setIfInBounds_toArray, List.set_cons_zero, List.set_cons_succ])
            refine wpAnyH_take (i := 5) (oi := { dst := some 83, op := Go.Op.load 26 (Go.Operand.tmp 4), type := 26, pos := "plain.go:107", after := #[{ on := 4, ground := Go.Ground.guard }], guard := some (4, false) }) (v := ?v5) rfl (by kernel_rfl) (by kernel_rfl) (by kernel_rfl) (fun _ _ _ h => h) (Or.inl ⟨by rfl, ?y5⟩) (by assumption) ?r5
            case y5 => (intro wq hSw; (try dsimp only at hSw); go_simp; try (with_reducible rfl))
            (try simp only [Act.put, List.setIfInBounds_toArray, List.set_cons_zero, List.set_cons_succ])
            refine wpAnyH_take (i := 7) (oi := { dst := some 85, op := Go.Op.move (Go.Operand.tmp 0), type := 39, pos := "plain.go:107", after := #[{ on := 4, ground := Go.Ground.guard }], guard := some (4, false) }) (v := ?v7) rfl (by kernel_rfl) (by kernel_rfl) (by kernel_rfl) (fun _ _ _ h => h) (Or.inl ⟨by rfl, ?y7⟩) (by assumption) ?r7
            case y7 => (intro wq hSw; (try dsimp only at hSw); go_simp; try (with_reducible rfl))
            (try simp only [Act.put, List.setIfInBounds_toArray, List.set_cons_zero, List.set_cons_succ])
            refine wpAnyH_take (i := 8) (oi := { dst := some 86, op := Go.Op.move (Go.Operand.tmp 3), type := 3, pos := "plain.go:107", after := #[{ on := 4, ground := Go.Ground.guard }], guard := some (4, false) }) (v := ?v8) rfl (by kernel_rfl) (by kernel_rfl) (by kernel_rfl) (fun _ _ _ h => h) (Or.inl ⟨by rfl, ?y8⟩) (by assumption) ?r8
            case y8 => (intro wq hSw; (try dsimp only at hSw); go_simp; try (with_reducible rfl))
            (try simp only [Act.put, List.setIfInBounds_toArray, List.set_cons_zero, List.set_cons_succ])
            refine wpAnyH_take (i := 9) (oi := { dst := some 87, op := Go.Op.indexAddr 39 (Go.Operand.tmp 85) (Go.Operand.tmp 86), type := 0, pos := "plain.go:107", after := #[{ on := 7, ground := Go.Ground.data }, { on := 8, ground := Go.Ground.data }, { on := 4, ground := Go.Ground.guard }], guard := some (4, false) }) (v := ?v9) rfl (by kernel_rfl) (by kernel_rfl) (by kernel_rfl) (fun _ _ _ h => h) (Or.inl ⟨by rfl, ?y9⟩) (by assumption) ?r9
            case y9 => (intro wq hSw; (try dsimp only at hSw); go_simp; try (with_reducible rfl))
            (try simp only [Act.put, List.setIfInBounds_toArray, List.set_cons_zero, List.set_cons_succ])
            refine wpAnyH_take (i := 10) (oi := { dst := some 88, op := Go.Op.fieldAddr 73 (Go.Operand.tmp 87) 1, type := 0, pos := "plain.go:107", after := #[{ on := 9, ground := Go.Ground.data }, { on := 4, ground := Go.Ground.guard }], guard := some (4, false) }) (v := ?v10) rfl (by kernel_rfl) (by kernel_rfl) (by kernel_rfl) (fun _ _ _ h => h) (Or.inl ⟨by rfl, ?y10⟩) (by assumption) ?r10
            case y10 => (intro wq hSw; (try dsimp only at hSw); go_simp; try (with_reducible rfl))
            (try simp only [Act.put, List.setIfInBounds_toArray, List.set_cons_zero, List.set_cons_succ])
            refine wpAnyH_take (i := 11) (oi := { dst := some 89, op := Go.Op.load 3 (Go.Operand.tmp 88), type := 3, pos := "plain.go:107", after := #[{ on := 10, ground := Go.Ground.data }, { on := 4, ground := Go.Ground.guard }], guard := some (4, false) }) (v := ?v11) rfl (by kernel_rfl) (by kernel_rfl) (by kernel_rfl) (fun _ _ _ h => h) (Or.inl ⟨by rfl, ?y11⟩) (by assumption) ?r11
            case y11 => (intro wq hSw; (try dsimp only at hSw); go_simp; try (with_reducible rfl))
            (try simp only [Act.put, List.setIfInBounds_toArray, List.set_cons_zero, List.set_cons_succ])
            refine wpAnyH_ready (rs := [6]) (by kernel_rfl) (by simp) ?_
            refine AllReadyH.cons rfl (fun K hK => ?_) AllReadyH.nil
            go_simp
            go_wp2_with (go_at_call 33; refine (HDp.out _ F4 _ (HT47.out.on (Stays.none (by first | (with_reducible assumption) | exact gdrew1 _ none)))).mono ?_; rintro e u3 ⟨rfl, hq⟩; have hcur : W7.grownBy u3 none := gtrans (by first | (with_reducible assumption) | exact gdrew1 _ none) hq)
            refine hK.out _ _ ?_ (fun hHeld => ?_)
            · (try dsimp only); exact HS7.out _ (by first | (with_reducible assumption) | exact gdrew1 _ none)
            clear hK K
            refine wpAnyH_take (i := 12) (oi := { dst := some 90, op := Go.Op.binOp Go.BinOp.gtr 3 (Go.Operand.tmp 84) (Go.Operand.tmp 89) 3, type := 4, pos := "plain.go:107", after := #[{ on := 6, ground := Go.Ground.data }, { on := 11, ground := Go.Ground.data }, { on := 4, ground := Go.Ground.guard }], guard := some (4, false) }) (v := ?v12) rfl (by kernel_rfl) (by kernel_rfl) (by kernel_rfl) (fun _ _ _ h => h) (Or.inl ⟨by rfl, ?y12⟩) (by assumption) ?r12
            case y12 => (intro wq hSw; (try dsimp only at hSw); go_simp; try (with_reducible rfl))
            (try simp only [Act.put, List.setIfInBounds_toArray, List.set_cons_zero, List.set_cons_succ])
            refine wpAnyH_take (i := 13) (oi := { dst := some 91, op := Go.Op.pick (Go.Operand.tmp 82) (Go.Operand.const (Go.Value.bool true)) (Go.Operand.tmp 90), type := 4, pos := "plain.go:107", after := #[{ on := 4, ground := Go.Ground.data }, { on := 12, ground := Go.Ground.data }], guard := none }) (v := ?v13) rfl (by kernel_rfl) (by kernel_rfl) (by kernel_rfl) (fun _ _ _ h => h) (Or.inl ⟨by rfl, ?y13⟩) (by assumption) ?r13
            case y13 => (intro wq hSw; (try dsimp only at hSw); go_simp; try (with_reducible rfl))
            (try simp only [Act.put, List.setIfInBounds_toArray, List.set_cons_zero, List.set_cons_succ])
            refine wpAnyH_take (i := 14) (oi := { dst := some 92, op := Go.Op.move (Go.Operand.tmp 91), type := 4, pos := "plain.go:107", after := #[{ on := 13, ground := Go.Ground.data }, { on := 6, ground := Go.Ground.chain }], guard := none }) (v := ?v14) rfl (by kernel_rfl) (by kernel_rfl) (by kernel_rfl) (fun _ _ _ h => h) (Or.inl ⟨by rfl, ?y14⟩) (by assumption) ?r14
            case y14 => (intro wq hSw; (try dsimp only at hSw); go_simp; try (with_reducible rfl))
            (try simp only [Act.put, List.setIfInBounds_toArray, List.set_cons_zero, List.set_cons_succ])
            refine wpAnyH_take (i := 15) (oi := { dst := some 93, op := Go.Op.move (Go.Operand.tmp 7), type := 31, pos := "plain.go:107", after := #[{ on := 14, ground := Go.Ground.guard }], guard := some (14, false) }) (v := ?v15) rfl (by kernel_rfl) (by kernel_rfl) (by kernel_rfl) (fun _ _ _ h => h) (Or.inl ⟨by rfl, ?y15⟩) (by assumption) ?r15
            case y15 => (intro wq hSw; (try dsimp only at hSw); go_simp; try (with_reducible rfl))
            (try simp only [Act.put, List.setIfInBounds_toArray, List.set_cons_zero, List.set_cons_succ])
            refine wpAnyH_ready (rs := [16]) (by kernel_rfl) (by simp) ?_
            refine AllReadyH.cons rfl (fun K hK => ?_) AllReadyH.nil
            go_simp
            go_wp2_with (go_at_call 14; refine (num_any _ _).mono ?_; rintro e u2 ⟨rfl, rfl⟩)
            refine hK.out _ _ ?_ (fun hHeld => ?_)
            · (try dsimp only); exact HS7.out _ (by first | (with_reducible assumption) | exact gdrew1 _ none)
            clear hK K
            refine wpAnyH_take (i := 17) (oi := { dst := some 95, op := Go.Op.binOp Go.BinOp.neq 3 (Go.Operand.tmp 94) (Go.Operand.const (Go.Value.int Go.IntKind.i64 0)) 3, type := 4, pos := "plain.go:107", after := #[{ on := 16, ground := Go.Ground.data }, { on := 14, ground := Go.Ground.guard }], guard := some (14, false) }) (v := ?v17) rfl (by kernel_rfl) (by kernel_rfl) (by kernel_rfl) (fun _ _ _ h => h) (Or.inl ⟨by rfl, ?y17⟩) (by assumption) ?r17
            case y17 => (intro wq hSw; (try dsimp only at hSw); go_simp; try (with_reducible rfl))
            (try simp only [Act.put, List.setIfInBounds_toArray, List.set_cons_zero, List.set_cons_succ])
            refine wpAnyH_take (i := 18) (oi := { dst := some 96, op := Go.Op.pick (Go.Operand.tmp 92) (Go.Operand.const (Go.Value.bool true)) (Go.Operand.tmp 95), type := 4, pos := "plain.go:107", after := #[{ on := 14, ground := Go.Ground.data }, { on := 17, ground := Go.Ground.data }], guard := none }) (v := ?v18) rfl (by kernel_rfl) (by kernel_rfl) (by kernel_rfl) (fun _ _ _ h => h) (Or.inl ⟨by rfl, ?y18⟩) (by assumption) ?r18
            case y18 => (intro wq hSw; (try dsimp only at hSw); go_simp; try (with_reducible rfl))
            (try simp only [Act.put, List.setIfInBounds_toArray, List.set_cons_zero, List.set_cons_succ])
            refine wpAnyH_take (i := 19) (oi := { dst := some 97, op := Go.Op.move (Go.Operand.tmp 96), type := 4, pos := "plain.go:107", after := #[{ on := 18, ground := Go.Ground.data }, { on := 16, ground := Go.Ground.chain }], guard := none }) (v := ?v19) rfl (by kernel_rfl) (by kernel_rfl) (by kernel_rfl) (fun _ _ _ h => h) (Or.inl ⟨by rfl, ?y19⟩) (by assumption) ?r19
            case y19 => (intro wq hSw; (try dsimp only at hSw); go_simp; try (with_reducible rfl))
            (try simp only [Act.put, List.setIfInBounds_toArray, List.set_cons_zero, List.set_cons_succ])
            refine wpAnyH_take (i := 20) (oi := { dst := some 98, op := Go.Op.load 69 (Go.Operand.tmp 9), type := 69, pos := "plain.go:107", after := #[{ on := 19, ground := Go.Ground.guard }], guard := some (19, false) }) (v := ?v20) rfl (by kernel_rfl) (by kernel_rfl) (by kernel_rfl) (fun _ _ _ h => h) (Or.inl ⟨by rfl, ?y20⟩) (by assumption) ?r20
            case y20 => (intro wq hSw; (try dsimp only at hSw); go_simp; try (with_reducible rfl))
            (try simp only [Act.put, List.setIfInBounds_toArray, List.set_cons_zero, List.set_cons_succ])
            refine wpAnyH_take (i := 21) (oi := { dst := some 99, op := Go.Op.build 69 #[], type := 69, pos := "plain.go:107", after := #[{ on := 19, ground := Go.Ground.guard }], guard := some (19, false) }) (v := ?v21) rfl (by kernel_rfl) (by kernel_rfl) (by kernel_rfl) (fun _ _ _ h => h) (Or.inl ⟨by rfl, ?y21⟩) (by assumption) ?r21
            case y21 => (intro wq hSw; (try dsimp only at hSw); go_simp; try (with_reducible rfl))
            (try simp only [Act.put, List.setIfInBounds_toArray, List.set_cons_zero, List.set_cons_succ])
            refine wpAnyH_take (i := 22) (oi := { dst := some 100, op := Go.Op.binOp Go.BinOp.neq 69 (Go.Operand.tmp 98) (Go.Operand.tmp 99) 69, type := 4, pos := "plain.go:107", after := #[{ on := 20, ground := Go.Ground.data }, { on := 21, ground := Go.Ground.data }, { on := 19, ground := Go.Ground.guard }], guard := some (19, false) }) (v := ?v22) rfl (by kernel_rfl) (by kernel_rfl) (by kernel_rfl) (fun _ _ _ h => h) (Or.inl ⟨by rfl, ?y22⟩) (by assumption) ?r22
            case y22 => (intro wq hSw; (try dsimp only at hSw); go_simp; try (with_reducible rfl))
            (try simp only [Act.put, List.setIfInBounds_toArray, List.set_cons_zero, List.set_cons_succ])
            refine wpAnyH_take (i := 23) (oi := { dst := some 101, op := Go.Op.pick (Go.Operand.tmp 97) (Go.Operand.const (Go.Value.bool true)) (Go.Operand.tmp 100), type := 4, pos := "plain.go:107", after := #[{ on := 19, ground := Go.Ground.data }, { on := 22, ground := Go.Ground.data }], guard := none }) (v := ?v23) rfl (by kernel_rfl) (by kernel_rfl) (by kernel_rfl) (fun _ _ _ h => h) (Or.inl ⟨by rfl, ?y23⟩) (by assumption) ?r23
            case y23 => (intro wq hSw; (try dsimp only at hSw); go_simp; try (with_reducible rfl))
            (try simp only [Act.put, List.setIfInBounds_toArray, List.set_cons_zero, List.set_cons_succ])
            refine wpAnyH_take (i := 24) (oi := { dst := some 102, op := Go.Op.move (Go.Operand.tmp 101), type := 4, pos := "plain.go:107", after := #[{ on := 23, ground := Go.Ground.data }, { on := 19, ground := Go.Ground.chain }], guard := none }) (v := ?v24) rfl (by kernel_rfl) (by kernel_rfl) (by kernel_rfl) (fun _ _ _ h => h) (Or.inl ⟨by rfl, ?y24⟩) (by assumption) ?r24
            case y24 => (intro wq hSw; (try dsimp only at hSw); go_simp; try (with_reducible rfl))
            (try simp only [Act.put, List.setIfInBounds_toArray, List.set_cons_zero, List.set_cons_succ])
            refine wpAnyH_take (i := 25) (oi := { dst := some 103, op := Go.Op.load 26 (Go.Operand.tmp 4), type := 26, pos := "plain.go:107", after := #[{ on := 24, ground := Go.Ground.guard }], guard := some (24, false) }) (v := ?v25) rfl (by kernel_rfl) (by kernel_rfl) (by kernel_rfl) (fun _ _ _ h => h) (Or.inl ⟨by rfl, ?y25⟩) (by assumption) ?r25
            case y25 => (intro wq hSw; (try dsimp only at hSw); go_simp; try (with_reducible rfl))
            (try simp only [Act.put, List.setIfInBounds_toArray, List.set_cons_zero, List.set_cons_succ])
            refine wpAnyH_take (i := 26) (oi := { dst := some 104, op := Go.Op.load 26 (Go.Operand.tmp 8), type := 26, pos := "plain.go:107", after := #[{ on := 24, ground := Go.Ground.guard }], guard := some (24, false) }) (v := ?v26) rfl (by kernel_rfl) (by kernel_rfl) (by kernel_rfl) (fun _ _ _ h => h) (Or.inl ⟨by rfl, ?y26⟩) (by assumption) ?r26
            case y26 => (intro wq hSw; (try dsimp only at hSw); go_simp; try (with_reducible rfl))
            (try simp only [Act.put, List.setIfInBounds_toArray, List.set_cons_zero, List.set_cons_succ])
            refine wpAnyH_ready (rs := [27]) (by kernel_rfl) (by simp) ?_
            refine AllReadyH.cons rfl (fun K hK => ?_) AllReadyH.nil
            go_simp
            go_wp2_with (go_at_call 20; refine (HEq.out _ F4 _ _ _ (HT47.out.on (Stays.none (by first | (with_reducible assumption) | exact gdrew1 _ none))) (HT67.out.on (Stays.none (by first | (with_reducible assumption) | exact gdrew1 _ none)))).mono ?_; rintro e u4 ⟨rfl, hq⟩; have hcur : W7.grownBy u4 none := gtrans (by first | (with_reducible assumption) | exact gdrew1 _ none) hq)
            refine hK.out _ _ ?_ (fun hHeld => ?_)
            · (try dsimp only); exact HS7.out _ (by first | (with_reducible assumption) | exact gdrew1 _ none)
            clear hK K
            refine wpAnyH_take (i := 28) (oi := { dst := some 106, op := Go.Op.unOp Go.UnOp.not 4 (Go.Operand.tmp 105), type := 4, pos := "plain.go:107", after := #[{ on := 27, ground := Go.Ground.data }, { on := 24, ground := Go.Ground.guard }], guard := some (24, false) }) (v := ?v28) rfl (by kernel_rfl) (by kernel_rfl) (by kernel_rfl) (fun _ _ _ h => h) (Or.inl ⟨by rfl, ?y28⟩) (by assumption) ?r28
            case y28 => (intro wq hSw; (try dsimp only at hSw); go_simp; try (with_reducible rfl))
            (try simp only [Act.put, List.setIfInBounds_toArray, List.set_cons_zero, List.set_cons_succ])
            refine wpAnyH_take (i := 29) (oi := { dst := some 107, op := Go.Op.pick (Go.Operand.tmp 102) (Go.Operand.const (Go.Value.bool true)) (Go.Operand.tmp 106), type := 4, pos := "plain.go:107", after := #[{ on := 24, ground := Go.Ground.data }, { on := 28, ground := Go.Ground.data }], guard := none }) (v := ?v29) rfl (by kernel_rfl) (by kernel_rfl) (by kernel_rfl) (fun _ _ _ h => h) (Or.inl ⟨by rfl, ?y29⟩) (by assumption) ?r29
            case y29 => (intro wq hSw; (try dsimp only at hSw); go_simp; try (with_reducible rfl))
            (try simp only [Act.put, List.setIfInBounds_toArray, List.set_cons_zero, List.set_cons_succ])
            refine wpAnyH_take (i := 30) (oi := { dst := some 108, op := Go.Op.move (Go.Operand.tmp 107), type := 4, pos := "plain.go:107", after := #[{ on := 29, ground := Go.Ground.data }, { on := 27, ground := Go.Ground.chain }], guard := none }) (v := ?v30) rfl (by kernel_rfl) (by kernel_rfl) (by kernel_rfl) (fun _ _ _ h => h) (Or.inl ⟨by rfl, ?y30⟩) (by assumption) ?r30
            case y30 => (intro wq hSw; (try dsimp only at hSw); go_simp; try (with_reducible rfl))
            (try simp only [Act.put, List.setIfInBounds_toArray, List.set_cons_zero, List.set_cons_succ])
            refine wpAnyH_take (i := 31) (oi := { dst := some 109, op := Go.Op.move (Go.Operand.tmp 6), type := 9, pos := "plain.go:107", after := #[{ on := 30, ground := Go.Ground.guard }], guard := some (30, false) }) (v := ?v31) rfl (by kernel_rfl) (by kernel_rfl) (by kernel_rfl) (fun _ _ _ h => h) (Or.inl ⟨by rfl, ?y31⟩) (by assumption) ?r31
            case y31 => (intro wq hSw; (try dsimp only at hSw); go_simp; try (with_reducible rfl))
            (try simp only [Act.put, List.setIfInBounds_toArray, List.set_cons_zero, List.set_cons_succ])
            refine wpAnyH_take (i := 32) (oi := { dst := some 110, op := Go.Op.call { callee := Go.Callee.builtin Go.Builtin.len, args := #[Go.Operand.tmp 109], argTypes := #[9] }, type := 3, pos := "plain.go:107", after := #[{ on := 31, ground := Go.Ground.data }, { on := 30, ground := Go.Ground.guard }], guard := some (30, false) }) (v := ?v32) rfl (by kernel_rfl) (by kernel_rfl) (by kernel_rfl) (fun _ _ _ h => h) (Or.inl ⟨by rfl, ?y32⟩) (by assumption) ?r32
            case y32 => (intro wq hSw; (try dsimp only at hSw); go_simp; try (with_reducible rfl))
            (try simp only [Act.put, List.setIfInBounds_toArray, List.set_cons_zero, List.set_cons_succ])
            refine wpAnyH_take (i := 33) (oi := { dst := some 111, op := Go.Op.move (Go.Operand.tmp 0), type := 39, pos := "plain.go:107", after := #[{ on := 30, ground := Go.Ground.guard }], guard := some (30, false) }) (v := ?v33) rfl (by kernel_rfl) (by kernel_rfl) (by kernel_rfl) (fun _ _ _ h => h) (Or.inl ⟨by rfl, ?y33⟩) (by assumption) ?r33
            case y33 => (intro wq hSw; (try dsimp only at hSw); go_simp; try (with_reducible rfl))
            (try simp only [Act.put, List.setIfInBounds_toArray, List.set_cons_zero, List.set_cons_succ])
            refine wpAnyH_take (i := 34) (oi := { dst := some 112, op := Go.Op.move (Go.Operand.tmp 3), type := 3, pos := "plain.go:107", after := #[{ on := 30, ground := Go.Ground.guard }], guard := some (30, false) }) (v := ?v34) rfl (by kernel_rfl) (by kernel_rfl) (by kernel_rfl) (fun _ _ _ h => h) (Or.inl ⟨by rfl, ?y34⟩) (by assumption) ?r34
            case y34 => (intro wq hSw; (try dsimp only at hSw); go_simp; try (with_reducible rfl))
            (try simp only [Act.put, List.setIfInBounds_toArray, List.set_cons_zero, List.set_cons_succ])
            refine wpAnyH_take (i := 35) (oi := { dst := some 113, op := Go.Op.indexAddr 39 (Go.Operand.tmp 111) (Go.Operand.tmp 112), type := 0, pos := "plain.go:107", after := #[{ on := 33, ground := Go.Ground.data }, { on := 34, ground := Go.Ground.data }, { on := 30, ground := Go.Ground.guard }], guard := some (30, false) }) (v := ?v35) rfl (by kernel_rfl) (by kernel_rfl) (by kernel_rfl) (fun _ _ _ h => h) (Or.inl ⟨by rfl, ?y35⟩) (by assumption) ?r35
            case y35 => (intro wq hSw; (try dsimp only at hSw); go_simp; try (with_reducible rfl))
            (try simp only [Act.put, List.setIfInBounds_toArray, List.set_cons_zero, List.set_cons_succ])
            refine wpAnyH_take (i := 36) (oi := { dst := some 114, op := Go.Op.fieldAddr 73 (Go.Operand.tmp 113) 0, type := 0, pos := "plain.go:107", after := #[{ on := 35, ground := Go.Ground.data }, { on := 30, ground := Go.Ground.guard }], guard := some (30, false) }) (v := ?v36) rfl (by kernel_rfl) (by kernel_rfl) (by kernel_rfl) (fun _ _ _ h => h) (Or.inl ⟨by rfl, ?y36⟩) (by assumption) ?r36
            case y36 => (intro wq hSw; (try dsimp only at hSw); go_simp; try (with_reducible rfl))
            (try simp only [Act.put, List.setIfInBounds_toArray, List.set_cons_zero, List.set_cons_succ])
            refine wpAnyH_take (i := 37) (oi := { dst := some 115, op := Go.Op.load 9 (Go.Operand.tmp 114), type := 9, pos := "plain.go:107", after := #[{ on := 36, ground := Go.Ground.data }, { on := 30, ground := Go.Ground.guard }], guard := some (30, false) }) (v := ?v37) rfl (by kernel_rfl) (by kernel_rfl) (by kernel_rfl) (fun _ _ _ h => h) (Or.inl ⟨by rfl, ?y37⟩) (by assumption) ?r37
            case y37 => (intro wq hSw; (try dsimp only at hSw); go_simp; try (with_reducible rfl))
            (try simp only [Act.put, List.setIfInBounds_toArray, List.set_cons_zero, List.set_cons_succ])
            refine wpAnyH_take (i := 38) (oi := { dst := some 116, op := Go.Op.call { callee := Go.Callee.builtin Go.Builtin.len, args := #[Go.Operand.tmp 115], argTypes := #[9] }, type := 3, pos := "plain.go:107", after := #[{ on := 37, ground := Go.Ground.data }, { on := 30, ground := Go.Ground.guard }], guard := some (30, false) }) (v := ?v38) rfl (by kernel_rfl) (by kernel_rfl) (by kernel_rfl) (fun _ _ _ h => h) (Or.inl ⟨by rfl, ?y38⟩) (by assumption) ?r38
            case y38 => (intro wq hSw; (try dsimp only at hSw); go_simp; try (with_reducible rfl))
            (try simp only [Act.put, List.setIfInBounds_toArray, List.set_cons_zero, List.set_cons_succ])
            refine wpAnyH_take (i := 39) (oi := { dst := some 117, op := Go.Op.binOp Go.BinOp.gtr 3 (Go.Operand.tmp 110) (Go.Operand.tmp 116) 3, type := 4, pos := "plain.go:107", after := #[{ on := 32, ground := Go.Ground.data }, { on := 38, ground := Go.Ground.data }, { on := 30, ground := Go.Ground.guard }], guard := some (30, false) }) (v := ?v39) rfl (by kernel_rfl) (by kernel_rfl) (by kernel_rfl) (fun _ _ _ h => h) (Or.inl ⟨by rfl, ?y39⟩) (by assumption) ?r39
            case y39 => (intro wq hSw; (try dsimp only at hSw); go_simp; try (with_reducible rfl))
            (try simp only [Act.put, List.setIfInBounds_toArray, List.set_cons_zero, List.set_cons_succ])
            refine wpAnyH_take (i := 40) (oi := { dst := some 118, op := Go.Op.move (Go.Operand.tmp 117), type := 4, pos := "plain.go:107", after := #[{ on := 39, ground := Go.Ground.data }, { on := 30, ground := Go.Ground.chain }, { on := 30, ground := Go.Ground.guard }], guard := some (30, false) }) (v := ?v40) rfl (by kernel_rfl) (by kernel_rfl) (by kernel_rfl) (fun _ _ _ h => h) (Or.inl ⟨by rfl, ?y40⟩) (by assumption) ?r40
            case y40 => (intro wq hSw; (try dsimp only at hSw); go_simp; try (with_reducible rfl))
            (try simp only [Act.put, List.setIfInBounds_toArray, List.set_cons_zero, List.set_cons_succ])
            refine wpAnyH_take (i := 41) (oi := { dst := some 119, op := Go.Op.move (Go.Operand.tmp 0), type := 39, pos := "plain.go:107", after := #[{ on := 40, ground := Go.Ground.guard }], guard := some (40, true) }) (v := undef) rfl (by kernel_rfl) (by kernel_rfl) (by kernel_rfl) (fun _ _ _ h => h) (Or.inr ⟨by rfl, rfl⟩) (by assumption) ?_
            (try simp only [Act.put, List.setIfInBounds_toArray, List.set_cons_zero, List.set_cons_succ])
            refine wpAnyH_take (i := 42) (oi := { dst := some 120, op := Go.Op.move (Go.Operand.tmp 3), type := 3, pos := "plain.go:107", after := #[{ on := 40, ground := Go.Ground.guard }], guard := some (40, true) }) (v := undef) rfl (by kernel_rfl) (by kernel_rfl) (by kernel_rfl) (fun _ _ _ h => h) (Or.inr ⟨by rfl, rfl⟩) (by assumption) ?_
            (try simp only [Act.put, List.setIfInBounds_toArray, List.set_cons_zero, List.set_cons_succ])
            refine wpAnyH_take (i := 43) (oi := { dst := some 121, op := Go.Op.indexAddr 39 (Go.Operand.tmp 119) (Go.Operand.tmp 120), type := 0, pos := "plain.go:107", after := #[{ on := 41, ground := Go.Ground.data }, { on := 42, ground := Go.Ground.data }, { on := 40, ground := Go.Ground.guard }], guard := some (40, true) }) (v := undef) rfl (by kernel_rfl) (by kernel_rfl) (by kernel_rfl) (fun _ _ _ h => h) (Or.inr ⟨by rfl, rfl⟩) (by assumption) ?_
            (try simp only [Act.put, List.setIfInBounds_toArray, List.set_cons_zero, List.set_cons_succ])
            refine wpAnyH_take (i := 44) (oi := { dst := some 122, op := Go.Op.fieldAddr 73 (Go.Operand.tmp 121) 0, type := 0, pos := "plain.go:107", after := #[{ on := 43, ground := Go.Ground.data }, { on := 40, ground := Go.Ground.guard }], guard := some (40, true) }) (v := undef) rfl (by kernel_rfl) (by kernel_rfl) (by kernel_rfl) (fun _ _ _ h => h) (Or.inr ⟨by rfl, rfl⟩) (by assumption) ?_
            (try simp only [Act.put, List.setIfInBounds_toArray, List.set_cons_zero, List.set_cons_succ])
            refine wpAnyH_take (i := 45) (oi := { dst := some 123, op := Go.Op.load 9 (Go.Operand.tmp 122), type := 9, pos := "plain.go:107", after := #[{ on := 44, ground := Go.Ground.data }, { on := 40, ground := Go.Ground.guard }], guard := some (40, true) }) (v := undef) rfl (by kernel_rfl) (by kernel_rfl) (by kernel_rfl) (fun _ _ _ h => h) (Or.inr ⟨by rfl, rfl⟩) (by assumption) ?_
            (try simp only [Act.put, List.setIfInBounds_toArray, List.set_cons_zero, List.set_cons_succ])
            refine wpAnyH_take (i := 46) (oi := { dst := some 124, op := Go.Op.move (Go.Operand.tmp 6), type := 9, pos := "plain.go:107", after := #[{ on := 40, ground := Go.Ground.guard }], guard := some (40, true) }) (v := undef) rfl (by kernel_rfl) (by kernel_rfl) (by kernel_rfl) (fun _ _ _ h => h) (Or.inr ⟨by rfl, rfl⟩) (by assumption) ?_
            (try simp only [Act.put, List.setIfInBounds_toArray, List.set_cons_zero, List.set_cons_succ])
            refine wpAnyH_take (i := 47) (oi := { dst := some 125, op := Go.Op.call { callee := Go.Callee.value (Go.Operand.func 36), args := #[Go.Operand.tmp 123, Go.Operand.tmp 124], argTypes := #[9, 9] }, type := 4, pos := "plain.go:107", after := #[{ on := 45, ground := Go.Ground.data }, { on := 46, ground := Go.Ground.data }, { on := 40, ground := Go.Ground.chain }, { on := 40, ground := Go.Ground.guard }], guard := some (40, true) }) (v := undef) rfl (by kernel_rfl) (by kernel_rfl) (by kernel_rfl) (fun _ _ _ h => h) (Or.inr ⟨by rfl, rfl⟩) (by assumption) ?_
            (try simp only [Act.put, List.setIfInBounds_toArray, List.set_cons_zero, List.set_cons_succ])
            refine wpAnyH_take (i := 48) (oi := { dst := some 126, op := Go.Op.unOp Go.UnOp.not 4 (Go.Operand.tmp 125), type := 4, pos := "plain.go:107", after := #[{ on := 47, ground := Go.Ground.data }, { on := 40, ground := Go.Ground.guard }], guard := some (40, true) }) (v := undef) rfl (by kernel_rfl) (by kernel_rfl) (by kernel_rfl) (fun _ _ _ h => h) (Or.inr ⟨by rfl, rfl⟩) (by assumption) ?_
            (try simp only [Act.put, List.setIfInBounds_toArray, List.set_cons_zero, List.set_cons_succ])
            refine wpAnyH_take (i := 49) (oi := { dst := some 127, op := Go.Op.pick (Go.Operand.tmp 118) (Go.Operand.tmp 126) (Go.Operand.const (Go.Value.bool false)), type := 4, pos := "plain.go:107", after := #[{ on := 40, ground := Go.Ground.data }, { on := 48, ground := Go.Ground.data }, { on := 30, ground := Go.Ground.guard }], guard := some (30, false) }) (v := ?v49) rfl (by kernel_rfl) (by kernel_rfl) (by kernel_rfl) (fun _ _ _ h => h) (Or.inl ⟨by rfl, ?y49⟩) (by assumption) ?r49
            case y49 => (intro wq hSw; (try dsimp only at hSw); go_simp; try (with_reducible rfl))
            (try simp only [Act.put, List.setIfInBounds_toArray, List.set_cons_zero, List.set_cons_succ])
            refine wpAnyH_take (i := 50) (oi := { dst := some 128, op := Go.Op.pick (Go.Operand.tmp 108) (Go.Operand.const (Go.Value.bool true)) (Go.Operand.tmp 127), type := 4, pos := "plain.go:107", after := #[{ on := 30, ground := Go.Ground.data }, { on := 49, ground := Go.Ground.data }], guard := none }) (v := ?v50) rfl (by kernel_rfl) (by kernel_rfl) (by kernel_rfl) (fun _ _ _ h => h) (Or.inl ⟨by rfl, ?y50⟩) (by assumption) ?r50
            case y50 => (intro wq hSw; (try dsimp only at hSw); go_simp; try (with_reducible rfl))
            (try simp only [Act.put, List.setIfInBounds_toArray, List.set_cons_zero, List.set_cons_succ])
            refine wpAnyH_done (by kernel_rfl) ?_ _
            have HG9 := hid (gtrans (gtrans HGc.out HG7.out) hcur)
            go_wp2_with fail
            exact ⟨⟨i + 1, rfl, by omega, HG9⟩, by simp only [intOf]; omega⟩
    · have hd : decide ((i : Int) < (A : Int)) = false := decide_eq_false (by omega)
      have HWk := hid (wakes_any wr (HG.out.grown HW.out (fun k hk => by cases hk)))
      go_wp2_with fail
      refine HWk.out.mono ?_
      rintro e w9 ⟨rfl, hg9⟩
      have HG9 := hid (gtrans HW.out hg9)
      clear hg9
      go_wp2_with fail
      go_ret
      exact ⟨rfl, HG9.out⟩
end Go.Proofs.YtdmnhkgiojkphaaGreatDoor
