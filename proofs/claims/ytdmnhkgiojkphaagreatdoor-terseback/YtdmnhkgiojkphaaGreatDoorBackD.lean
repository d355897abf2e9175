/- The walk of TerseBack. -/
import Derived.Test.YtdmnhkgiojkphaaGreatDoorBackB
import Derived.Test.YtdmnhkgiojkphaaGreatDoorBackC
import Derived.Test.YtdmnhkgiojkphaaGreatDoorEqC
import Derived.Test.YtdmnhkgiojkphaaGreatDoorOneC
import Derived.Deep.CutRange
import Derived.Deep.CutBlock
namespace Go.Proofs.YtdmnhkgiojkphaaGreatDoor
open Go Go.RowKit Go.Maps
open Go.RowKit (wrap32 wrap64)

theorem cells7 {w : World} {k : Nat} {a b c d e f g : Value} {t : TypeId} (h : w.heap[k]? = some (.cells #[a, b, c, d, e, f, g] t (0, 0))) :
    (w.cell? ⟨k, 0, none⟩ = some a ∧ w.cell? ⟨k, 1, none⟩ = some b ∧ w.cell? ⟨k, 2, none⟩ = some c ∧ w.cell? ⟨k, 3, none⟩ = some d ∧ w.cell? ⟨k, 4, none⟩ = some e ∧ w.cell? ⟨k, 5, none⟩ = some f ∧ w.cell? ⟨k, 6, none⟩ = some g) ∧ ∀ o, w.frozen? ⟨k, o, none⟩ = false := by
  refine ⟨?_, ?_⟩
  · simp [World.cell?, h]
  · intro o; simp [World.frozen?, h]
theorem grown_at {w u : World} {k : Nat} {x : Obj} (hg : w.grownBy u none) (h : w.heap[k]? = some x) : u.heap[k]? = some x :=
  (hg.block _ (Array.getElem?_eq_some_iff.1 h).1 (by simp)).trans h

set_option maxRecDepth 100000 in
set_option maxHeartbeats 20000000 in
theorem back_walk (w : World) (t : Tree) (hf : Fits t) (hb : BndT t) (hG : Glob w) (ka : Option Addr) (kc : Nat) (ia : Option Addr) (ic : Nat) (X : Int)
    (hT : RdT w (fun _ => True) t (.agg #[.int .i64 t.kind, .bool t.flag, .int .i64 t.n, .string t.text, .slice ka t.keys.length kc, .slice ia t.items.length ic])) :
    Calls Tryz.prog 7 #[.agg #[.int .i64 t.kind, .bool t.flag, .int .i64 t.n, .string t.text, .slice ka t.keys.length kc, .slice ia t.items.length ic, .int .i64 X]] w fun e w' => e = .returned (.bool true) ∧ w.grownBy w' none := by
  obtain ⟨KN, HKN⟩ : ∃ A, Hid (t.keys.length = A) := ⟨_, hid rfl⟩
  obtain ⟨IL, HIL⟩ : ∃ A, Hid (t.items.length = A) := ⟨_, hid rfl⟩
  obtain ⟨k0, HK0⟩ : ∃ A, Hid (t.kind = A) := ⟨_, hid rfl⟩
  obtain ⟨f0, HF0⟩ : ∃ A, Hid (t.flag = A) := ⟨_, hid rfl⟩
  obtain ⟨n0, HN0⟩ : ∃ A, Hid (t.n = A) := ⟨_, hid rfl⟩
  obtain ⟨s0, HS0⟩ : ∃ A, Hid (t.text = A) := ⟨_, hid rfl⟩
  rw [HKN.out, HIL.out, HK0.out, HF0.out, HN0.out, HS0.out] at hT ⊢
  obtain ⟨W0, hW0⟩ : ∃ W0, w.alloc (.cells #[.int .i64 k0, .bool f0, .int .i64 n0, .string s0, .slice ka KN kc, .slice ia IL ic, .int .i64 X] 98) = W0 := ⟨_, rfl⟩
  have c0 : W0.heap[w.heap.size]? = some (.cells #[.int .i64 k0, .bool f0, .int .i64 n0, .string s0, .slice ka KN kc, .slice ia IL ic, .int .i64 X] 98 (0, 0)) := by
    rw [← hW0]; exact heap_alloc_new w _
  have g0 : w.grownBy W0 none := by rw [← hW0]; exact galloc _ _ none
  have HB0 : Hid (∀ u : World, W0.grownBy u none → u.heap[w.heap.size]? = some (.cells #[.int .i64 k0, .bool f0, .int .i64 n0, .string s0, .slice ka KN kc, .slice ia IL ic, .int .i64 X] 98 (0, 0))) := fun u hu => grown_at hu c0
  have HTW : Hid (∀ u : World, W0.grownBy u none → RdT u (fun _ => True) t (.agg #[.int .i64 k0, .bool f0, .int .i64 n0, .string s0, .slice ka KN kc, .slice ia IL ic])) := fun u hu => hT.on (Stays.none (gtrans g0 hu))
  have HGl : Hid (∀ u : World, W0.grownBy u none → Glob u) := fun u hu => hG.grown (gtrans g0 hu) (fun k hk => by cases hk)
  have HMu : Hid (∀ (u : World) (b : Nat), W0.grownBy u none → u.heap[b]? = some (.cells #[.int .i64 k0, .bool f0, .int .i64 n0, .string s0, .slice ka KN kc, .slice ia IL ic] 26 (0, 0)) →
      Calls Tryz.prog 9 #[.slice (some ⟨b, 0, none⟩) 1 1, .int .i64 20000] u fun e w' => ∃ r : Nat, e = .returned (.int .i64 r) ∧ u.grownBy w' none ∧ ((r = muchL [t] ∧ r ≤ 20000) ∨ (20000 < r ∧ r ≤ 20000 + 562949953421312))) := fun u b hu hbb => by
    refine much_any _ [t] (Nat.le_refl _) (by rw [BndL]; exact ⟨hb, trivial⟩) (by simp) 20000 (by decide) u (fun _ => True) _ ?_
    have hc := (cells6 hbb).1
    refine ⟨some ⟨b, 0, none⟩, 1, rfl, Nat.le_refl _, fun _ => ⟨b, 0, rfl, (Array.getElem?_eq_some_iff.1 hbb).1, trivial, ?_⟩⟩
    rw [RdIs, RdIs]
    exact ⟨⟨_, _, _, _, _, _, hc.1, hc.2.1, hc.2.2.1, hc.2.2.2.1, hc.2.2.2.2.1, hc.2.2.2.2.2, HTW.out u hu⟩, trivial⟩
  have HWk : Hid (∀ u : World, W0.grownBy u none → Calls Tryz.prog 17 #[] u fun e w' => e = .returned (.bool true) ∧ u.grownBy w' none) := fun u hu => wakes_any u (HGl.out u hu)
  have HG0 := hid g0
  obtain ⟨⟨x0, x1, x2, x3, x4, x5, x6⟩, xf⟩ := cells7 c0
  have HF := hid hf
  clear hT hb hf hG c0 g0
  go_enter Tryz.func7, Tryz.ntmps7
  go_wp2_with fail
  have ga : W0.grownBy (W0.alloc (.cells #[.int .i64 k0, .bool f0, .int .i64 n0, .string s0, .slice ka KN kc, .slice ia IL ic] 26)) none := galloc _ _ none
  refine (HMu.out _ W0.heap.size ga (boxed W0 _ _ _ _ _ _)).mono ?_
  rintro e u1 ⟨r, rfl, hg1, hr⟩
  have HU1 := hid (gtrans ga hg1)
  obtain ⟨⟨x0, x1, x2, x3, x4, x5, x6⟩, xf⟩ := cells7 (HB0.out u1 HU1.out)
  by_cases hr2 : r ≤ 20000
  · have hd : decide ((20000 : Int) < (r : Int)) = false := decide_eq_false (by omega)
    have hm : muchT t ≤ 20000 := by
      rcases hr with h | h
      · have := h.1
        simp only [muchL] at this
        omega
      · omega
    have hct := cntT_much t
    have hcn : cntT t ≤ 1280000 := by omega
    have hcn2 : cntT t ≤ 1099511627776 := by omega
    clear hr ga hg1
    have HCk : Hid (∀ u : World, W0.grownBy u none → Calls Tryz.prog 15 #[.agg #[.int .i64 k0, .bool f0, .int .i64 n0, .string s0, .slice ka KN kc, .slice ia IL ic]] u fun e w' => e = .returned (.int .i64 (checkT t 0)) ∧ u.grownBy w' none) := fun u hu => checkF_any t hcn2 u _ _ (HTW.out u hu) (HGl.out u hu)
    by_cases hc : checkT t 0 = 0
    · rw [hc] at HCk
      have hdp := check_deep _ t 0 (Nat.le_refl _) hc
      have hd32 : depthT t ≤ 32 := by omega
      have hpl := pr_le t HF.out
      have hpl2 : (pr t).length ≤ 30720000 := by omega
      obtain ⟨T, HTT⟩ : ∃ T, Hid (str (pr t) = T) := ⟨_, hid rfl⟩
      have hTs : T.size = (pr t).length := by rw [← HTT.out, str_size]
      have hTl : T.size ≤ 30720000 := by omega
      obtain ⟨DT, HDT⟩ : ∃ D, Hid (depthT t = D) := ⟨_, hid rfl⟩
      have hDT : DT ≤ 32 := by have := HDT.out; omega
      have HPr : Hid (∀ u : World, W0.grownBy u none → Calls Tryz.prog 13 #[.agg #[.int .i64 k0, .bool f0, .int .i64 n0, .string s0, .slice ka KN kc, .slice ia IL ic]] u fun e w' => e = .returned (.tuple #[.string T, .int .i64 0]) ∧ u.grownBy w' none) := fun u hu => by
        have := print_ok t hc HF.out hcn2 (by omega) u _ _ (HTW.out u hu) (HGl.out u hu)
        rw [HTT.out] at this
        exact this
      have HDp : Hid (∀ u : World, W0.grownBy u none → Calls Tryz.prog 33 #[.agg #[.int .i64 k0, .bool f0, .int .i64 n0, .string s0, .slice ka KN kc, .slice ia IL ic]] u fun e w' => e = .returned (.int .i64 (DT : Int)) ∧ u.grownBy w' none) := fun u hu => by
        have := depth_any _ t (Nat.le_refl _) hcn2 u _ _ (HTW.out u hu)
        rw [HDT.out] at this
        exact this
      have ht1 := told_same t (DT : Int) hc HF.out (by have := HDT.out; omega) (by omega)
      rw [HTT.out] at ht1
      have HY1 : Hid (∀ u : World, W0.grownBy u none → _) := fun u hu => parse_yes ht1 (by omega) u (HGl.out u hu)
      have HBk : Hid (∀ (n : Nat) (u : World), Calls Tryz.prog 34 #[.string T, .int .i64 n] u fun e w' => e = .returned (.string (str (blk (bnk n) 0 0 (pr t)))) ∧ u.grownBy w' none) := fun n u => by
        have hfin := (blk_sp (bnk n) (bnk_bl n) t 0 0 hc).1
        have e1 : T.data.toList = pr t := by rw [← HTT.out, str_list]
        have := blanked_any n T (by omega) (by rw [e1]; exact hfin) u
        rw [e1] at this
        exact this
      have HY2 : Hid (∀ (n : Nat) (u : World), W0.grownBy u none → Calls Tryz.prog 18 #[.string ((⟨#[32]⟩ : ByteArray) ++ str (blk (bnk n) 0 0 (pr t)) ++ (⟨#[10]⟩ : ByteArray)), .int .i64 32] u fun e w' => ∃ (k : Int) (f : Bool) (n : Int) (x : ByteArray) (ka : Option Addr) (kn kc : Nat) (ia : Option Addr) (il ic : Nat), e = .returned (.tuple #[.agg #[.int .i64 k, .bool f, .int .i64 n, .string x, .slice ka kn kc, .slice ia il ic], .agg #[.int .i64 0, .int .i64 0]]) ∧ RdT w' (fun g => u.heap.size ≤ g) t (.agg #[.int .i64 k, .bool f, .int .i64 n, .string x, .slice ka kn kc, .slice ia il ic]) ∧ u.grownBy w' none) := fun n u hu => by
        have e1 : (⟨#[32]⟩ : ByteArray) ++ str (blk (bnk n) 0 0 (pr t)) ++ (⟨#[10]⟩ : ByteArray) = str (32 :: (blk (bnk n) 0 0 (pr t) ++ [10])) := by
          have h1 : (⟨#[32]⟩ : ByteArray) = str [32] := rfl
          have h2 : (⟨#[10]⟩ : ByteArray) = str [10] := rfl
          rw [h1, h2, str_append, str_append]
          rfl
        rw [e1]
        have hlen := blk_le (bnk n) (bnk_le n) (pr t) 0 0
        exact parse_yes (told_blk n t hc HF.out hd32) (by rw [str_size]; simp only [List.length_cons, List.length_append, List.length_nil]; omega) u (HGl.out u hu)
      have HY3 : Hid (0 < DT → ∃ p : Nat, ∀ u : World, W0.grownBy u none → Calls Tryz.prog 18 #[.string T, .int .i64 ((DT : Int) - 1)] u fun e w' => e = .returned (.tuple #[zeroV6, .agg #[.int .i64 21, .int .i64 p]]) ∧ u.grownBy w' none) := fun h0 => by
        obtain ⟨p, e⟩ := told_deep t hc HF.out (by have := HDT.out; omega) hd32
        rw [HTT.out, HDT.out] at e
        exact ⟨p, fun u hu => (parse_no e (by omega) u (HGl.out u hu)).2⟩
      have HY4 : Hid (∀ u : World, W0.grownBy u none → Calls Tryz.prog 18 #[.string (T ++ (⟨#[32, 48]⟩ : ByteArray)), .int .i64 (DT : Int)] u fun e w' => e = .returned (.tuple #[zeroV6, .agg #[.int .i64 25, .int .i64 ((T.size : Int) + 1)]]) ∧ u.grownBy w' none) := fun u hu => by
        have e := told_left t hc HF.out hd32
        have e1 : T ++ (⟨#[32, 48]⟩ : ByteArray) = str (pr t ++ [32, 48]) := by
          have h2 : (⟨#[32, 48]⟩ : ByteArray) = str [32, 48] := rfl
          rw [h2, ← HTT.out, str_append]
        rw [HDT.out] at e
        have := (parse_no e (by rw [str_size]; simp only [List.length_append, List.length_cons, List.length_nil]; omega) u (HGl.out u hu)).2
        rw [e1]
        rw [show (((pr t).length + 1 : Nat) : Int) = (T.size : Int) + 1 by omega] at this
        exact this
      have HEq : Hid (∀ (u : World) (F G : Nat → Prop) (a b : Value), RdT u F t a → RdT u G t b → Calls Tryz.prog 20 #[a, b] u fun e w' => e = .returned (.bool true) ∧ u.grownBy w' none) := fun u F G a b ha hb => eqValue_same _ hcn2 t (Nat.le_refl _) u F G a b ha hb
      have HEE : Hid (∀ (u : World) (F G : Nat → Prop) (a b : Value), RdT u F t a → RdT u G t b → Glob u → Calls Tryz.prog 28 #[a, b] u fun e w' => e = .returned (.bool true) ∧ u.grownBy w' none) := fun u F G a b ha hb hGu => by
        have := equalF_any t t hcn2 hcn2 hc hc u F G a b ha hb hGu
        rw [eqT_self _ t (Nat.le_refl _) ⟨0, hc⟩] at this
        exact this
      have HZ : Hid (∀ u : World, Calls Tryz.prog 20 #[.agg #[.int .i64 0, .bool false, .int .i64 0, .string ⟨#[]⟩, .slice none 0 0, .slice none 0 0], .agg #[.int .i64 0, .bool false, .int .i64 0, .string ⟨#[]⟩, .slice none 0 0, .slice none 0 0]] u fun e w' => e = .returned (.bool true) ∧ u.grownBy w' none) := fun u =>
        eqValue_same 1 (by decide) zeroT (by decide) u (fun _ => True) (fun _ => True) _ _ (RdT.leaf u _ 0 false 0 ⟨#[]⟩) (RdT.leaf u _ 0 false 0 ⟨#[]⟩)
      obtain ⟨BK, HBKE⟩ : ∃ BK : Nat → ByteArray, Hid (∀ n, str (blk (bnk n) 0 0 (pr t)) = BK n) := ⟨_, hid (fun _ => rfl)⟩
      have HBS : Hid (∀ n, (BK n).size ≤ 215040000) := fun n => by
        have hlen := blk_le (bnk n) (bnk_le n) (pr t) 0 0
        rw [← HBKE.out n, str_size]
        omega
      have HCat : Hid (∀ (n : Nat), ¬ (9223372036854775807 < (⟨#[32]⟩ : ByteArray).size + (BK n).size) ∧ ¬ (9223372036854775807 < 1 + (BK n).size) ∧ ¬ (9223372036854775807 < ((⟨#[32]⟩ : ByteArray) ++ BK n).size + (⟨#[10]⟩ : ByteArray).size) ∧ ¬ (9223372036854775807 < 1 + (BK n).size + 1)) := fun n => by
        have h := HBS.out n
        have e1 : (⟨#[32]⟩ : ByteArray).size = 1 := rfl
        have e2 : (⟨#[10]⟩ : ByteArray).size = 1 := rfl
        rw [ByteArray.size_append, e1, e2]
        omega
      have HCat2 : Hid (¬ (9223372036854775807 < T.size + (⟨#[32, 48]⟩ : ByteArray).size) ∧ ¬ (9223372036854775807 < T.size + 2)) := by
        have e1 : (⟨#[32, 48]⟩ : ByteArray).size = 2 := rfl
        rw [e1]
        exact ⟨by omega, by omega⟩
      simp only [HBKE.out] at HBk HY2
      unfold zeroV6 at HY3 HY4
      clear hc hcn hcn2 hm hct hdp hd32 hpl hpl2 hTs ht1
      go_wp2_with (first
        | (go_at_call 15; refine (HCk.out _ HU1.out).mono ?_; rintro e u2 ⟨rfl, hg2⟩; have HU2 := hid (gtrans HU1.out hg2); clear hg2; obtain ⟨⟨x0, x1, x2, x3, x4, x5, x6⟩, xf⟩ := cells7 (HB0.out u2 HU2.out))
        | (go_at_call 13; refine (HPr.out _ HU2.out).mono ?_; rintro e u3 ⟨rfl, hg3⟩; have HU3 := hid (gtrans HU2.out hg3); clear hg3; obtain ⟨⟨x0, x1, x2, x3, x4, x5, x6⟩, xf⟩ := cells7 (HB0.out u3 HU3.out))
        | (go_at_call 14; refine (num_any _ _).mono ?_; rintro e u9 ⟨rfl, rfl⟩)
        | (go_at_call 33; refine (HDp.out _ HU3.out).mono ?_; rintro e u4 ⟨rfl, hg4⟩; have HU4 := hid (gtrans HU3.out hg4); clear hg4))
      refine (HY1.out _ HU4.out).mono ?_
      rintro e u5 ⟨k1, f1, n1, t1, ka1, kn1, kc1, ia1, il1, ic1, rfl, hT5, hg5⟩
      have HU5 := hid (gtrans HU4.out hg5)
      have HT5 := hid hT5
      clear hT5 hg5
      have P0 := fun x y : Obj => (cells7 (lit_old (lit_old (HB0.out u5 HU5.out) x) y)).1.2.2.2.2.2.2
      go_upto_region 8 with fail
      generalize hW6 : (u5.alloc (.cells #[.int .i64 k1, .bool f1, .int .i64 n1, .string t1, .slice ka1 kn1 kc1, .slice ia1 il1 ic1] 26)).alloc (.cells #[.int .i64 0, .int .i64 0] 69) = W6
      have g6 : u5.grownBy W6 none := by rw [← hW6]; exact gtrans (galloc _ _ none) (galloc _ _ none)
      have h6 : W6.heap[u5.heap.size]? = some (.cells #[.int .i64 k1, .bool f1, .int .i64 n1, .string t1, .slice ka1 kn1 kc1, .slice ia1 il1 ic1] 26 (0, 0)) := by rw [← hW6]; exact lit_old (lit_new _ _ _ _ rfl) _
      have h7 : W6.heap[u5.heap.size + 1]? = some (.cells #[.int .i64 0, .int .i64 0] 69 (0, 0)) := by rw [← hW6]; exact lit_new _ _ _ _ (by simp)
      have HU6 := hid (gtrans HU5.out g6)
      have HT6 := hid (HT5.out.on (Stays.none g6))
      have HH6 := hid h6
      have HH7 := hid h7
      generalize u5.heap.size = b6 at HH6 HH7 ⊢
      clear hW6 g6 h6 h7 HU5 HT5 HY1 HCk HPr HDp HU1 HU2 HU3 HU4 P0
      obtain ⟨⟨x0, x1, x2, x3, x4, x5, x6⟩, xf⟩ := cells7 (HB0.out W6 HU6.out)
      go_wp2_with (first
        | (go_at_call 35; refine (within_any _ _).mono ?_; rintro e u7 ⟨⟨N, rfl⟩, rfl⟩)
        | (go_at_call 34; refine (HBk.out N _).mono ?_; rintro e u8 ⟨rfl, hg8⟩; have HU8 := hid (gtrans HU6.out hg8); have HG8 := hid hg8; clear hg8; obtain ⟨i1, i2, i3, i4⟩ := HCat.out N))
      refine (HY2.out N _ HU8.out).mono ?_
      rintro e u9 ⟨k2, f2, n2, t2, ka2, kn2, kc2, ia2, il2, ic2, rfl, hT9, hg9⟩
      have HU9 := hid (gtrans HU8.out hg9)
      have HG9 := hid (gtrans HG8.out hg9)
      have HT9 := hid hT9
      clear hT9 hg9
      go_upto_region 9 with fail
      generalize hW10 : (u9.alloc (.cells #[.int .i64 k2, .bool f2, .int .i64 n2, .string t2, .slice ka2 kn2 kc2, .slice ia2 il2 ic2] 26)).alloc (.cells #[.int .i64 0, .int .i64 0] 69) = W10
      have g10 : u9.grownBy W10 none := by rw [← hW10]; exact gtrans (galloc _ _ none) (galloc _ _ none)
      have h8 : W10.heap[u9.heap.size]? = some (.cells #[.int .i64 k2, .bool f2, .int .i64 n2, .string t2, .slice ka2 kn2 kc2, .slice ia2 il2 ic2] 26 (0, 0)) := by rw [← hW10]; exact lit_old (lit_new _ _ _ _ rfl) _
      have h9 : W10.heap[u9.heap.size + 1]? = some (.cells #[.int .i64 0, .int .i64 0] 69 (0, 0)) := by rw [← hW10]; exact lit_new _ _ _ _ (by simp)
      have HU10 := hid (gtrans HU9.out g10)
      have HV := hid (HT6.out.on (Stays.none (gtrans HG9.out g10)))
      have HW := hid (HT9.out.on (Stays.none g10))
      have HALL : Hid (∀ u : World, W10.grownBy u none → u.heap[w.heap.size]? = some (.cells #[.int .i64 k0, .bool f0, .int .i64 n0, .string s0, .slice ka KN kc, .slice ia IL ic, .int .i64 X] 98 (0, 0)) ∧ u.heap[b6]? = some (.cells #[.int .i64 k1, .bool f1, .int .i64 n1, .string t1, .slice ka1 kn1 kc1, .slice ia1 il1 ic1] 26 (0, 0)) ∧ u.heap[u9.heap.size]? = some (.cells #[.int .i64 k2, .bool f2, .int .i64 n2, .string t2, .slice ka2 kn2 kc2, .slice ia2 il2 ic2] 26 (0, 0))) := fun u hu =>
        ⟨HB0.out u (gtrans HU10.out hu), grown_at (gtrans (gtrans HG9.out g10) hu) HH6.out, grown_at hu h8⟩
      obtain ⟨⟨v0, v1⟩, vf⟩ := cells2 (grown_at (gtrans HG9.out g10) HH7.out)
      obtain ⟨⟨w0, w1⟩, wf⟩ := cells2 h9
      obtain ⟨⟨x0, x1, x2, x3, x4, x5, x6⟩, xf⟩ := cells7 (HALL.out W10 (grefl _ _)).1
      obtain ⟨⟨y0, y1, y2, y3, y4, y5⟩, yf⟩ := cells6 (HALL.out W10 (grefl _ _)).2.1
      obtain ⟨⟨z0, z1, z2, z3, z4, z5⟩, zf⟩ := cells6 (HALL.out W10 (grefl _ _)).2.2
      generalize u9.heap.size = b8 at HALL w0 w1 wf z0 z1 z2 z3 z4 z5 zf ⊢
      clear hW10 g10 h8 h9 HT6 HT9 HG9 HG8 HU6 HU8 HU9 HH6 HH7 HBk HY2
      have HQ := hid (show W10.grownBy W10 none from grefl _ _)
      by_cases hD0 : DT = 0
      · subst hD0
        have HY4' : Hid (∀ u : World, W0.grownBy u none → Calls Tryz.prog 18 #[.string (T ++ (⟨#[32, 48]⟩ : ByteArray)), .int .i64 0] u fun e w' => e = .returned (.tuple #[.agg #[.int .i64 0, .bool false, .int .i64 0, .string ⟨#[]⟩, .slice none 0 0, .slice none 0 0], .agg #[.int .i64 25, .int .i64 ((T.size : Int) + 1)]]) ∧ u.grownBy w' none) := HY4
        clear HY4 HY3
        go_wp2_with (first
          | (go_at_call 20; with_reducible refine (HEq.out _ _ _ _ _ HV.out (HTW.out _ HU10.out)).mono ?_; rintro e q1 ⟨rfl, hq⟩; have HQ1 := hid hq; obtain ⟨⟨x0, x1, x2, x3, x4, x5, x6⟩, xf⟩ := cells7 (HALL.out q1 HQ1.out).1; obtain ⟨⟨y0, y1, y2, y3, y4, y5⟩, yf⟩ := cells6 (HALL.out q1 HQ1.out).2.1; obtain ⟨⟨z0, z1, z2, z3, z4, z5⟩, zf⟩ := cells6 (HALL.out q1 HQ1.out).2.2; clear hq)
          | (go_at_call 20; with_reducible refine (HEq.out _ _ _ _ _ (HW.out.on (Stays.none HQ1.out)) (HTW.out _ (gtrans HU10.out HQ1.out))).mono ?_; rintro e q2 ⟨rfl, hq⟩; have HQ2 := hid (gtrans HQ1.out hq); obtain ⟨⟨x0, x1, x2, x3, x4, x5, x6⟩, xf⟩ := cells7 (HALL.out q2 HQ2.out).1; obtain ⟨⟨y0, y1, y2, y3, y4, y5⟩, yf⟩ := cells6 (HALL.out q2 HQ2.out).2.1; obtain ⟨⟨z0, z1, z2, z3, z4, z5⟩, zf⟩ := cells6 (HALL.out q2 HQ2.out).2.2; clear hq)
          | (go_at_call 28; with_reducible refine (HEE.out _ _ _ _ _ (HV.out.on (Stays.none HQ2.out)) (HTW.out _ (gtrans HU10.out HQ2.out)) (HGl.out _ (gtrans HU10.out HQ2.out))).mono ?_; rintro e q3 ⟨rfl, hq⟩; have HQ3 := hid (gtrans HQ2.out hq); clear hq))
        refine (HY4'.out _ (gtrans HU10.out HQ3.out)).mono ?_
        rintro e q4 ⟨rfl, hq4⟩
        have HQ4 := hid (gtrans (gtrans HU10.out HQ3.out) hq4)
        clear hq4
        go_wp2_with (go_at_call 17; refine (HWk.out _ (gtrans HQ4.out (gtrans (galloc _ _ none) (galloc _ _ none)))).mono ?_; rintro e q5 ⟨rfl, hq5⟩)
        go_ret
        exact ⟨rfl, gtrans HG0.out (gtrans (gtrans HQ4.out (gtrans (galloc _ _ none) (galloc _ _ none))) hq5)⟩
      · have hDp : decide ((0 : Int) < (DT : Int)) = true := decide_eq_true (by omega)
        obtain ⟨p, hp⟩ := HY3.out (by omega)
        have HY3' := hid hp
        clear HY3 hp
        go_wp2_with (first
          | (go_at_call 20; with_reducible refine (HEq.out _ _ _ _ _ HV.out (HTW.out _ HU10.out)).mono ?_; rintro e q1 ⟨rfl, hq⟩; have HQ1 := hid hq; obtain ⟨⟨x0, x1, x2, x3, x4, x5, x6⟩, xf⟩ := cells7 (HALL.out q1 HQ1.out).1; obtain ⟨⟨y0, y1, y2, y3, y4, y5⟩, yf⟩ := cells6 (HALL.out q1 HQ1.out).2.1; obtain ⟨⟨z0, z1, z2, z3, z4, z5⟩, zf⟩ := cells6 (HALL.out q1 HQ1.out).2.2; clear hq)
          | (go_at_call 20; with_reducible refine (HEq.out _ _ _ _ _ (HW.out.on (Stays.none HQ1.out)) (HTW.out _ (gtrans HU10.out HQ1.out))).mono ?_; rintro e q2 ⟨rfl, hq⟩; have HQ2 := hid (gtrans HQ1.out hq); obtain ⟨⟨x0, x1, x2, x3, x4, x5, x6⟩, xf⟩ := cells7 (HALL.out q2 HQ2.out).1; obtain ⟨⟨y0, y1, y2, y3, y4, y5⟩, yf⟩ := cells6 (HALL.out q2 HQ2.out).2.1; obtain ⟨⟨z0, z1, z2, z3, z4, z5⟩, zf⟩ := cells6 (HALL.out q2 HQ2.out).2.2; clear hq)
          | (go_at_call 28; with_reducible refine (HEE.out _ _ _ _ _ (HV.out.on (Stays.none HQ2.out)) (HTW.out _ (gtrans HU10.out HQ2.out)) (HGl.out _ (gtrans HU10.out HQ2.out))).mono ?_; rintro e q3 ⟨rfl, hq⟩; have HQ3 := hid (gtrans HQ2.out hq); clear hq))
        refine (HY3'.out _ (gtrans HU10.out HQ3.out)).mono ?_
        rintro e q4 ⟨rfl, hq4⟩
        have HQ4 := hid (gtrans (gtrans HU10.out HQ3.out) hq4)
        clear hq4
        go_wp2_with (go_at_call 20; refine (HZ.out _).mono ?_; rintro e q5 ⟨rfl, hq5⟩; have HQ5 := hid (gtrans (gtrans HQ4.out (gtrans (galloc _ _ none) (galloc _ _ none))) hq5); clear hq5)
        refine (HY4.out _ HQ5.out).mono ?_
        rintro e q6 ⟨rfl, hq6⟩
        have HQ6 := hid (gtrans HQ5.out hq6)
        clear hq6
        go_wp2_with (go_at_call 17; refine (HWk.out _ (gtrans HQ6.out (gtrans (galloc _ _ none) (galloc _ _ none)))).mono ?_; rintro e q7 ⟨rfl, hq7⟩)
        go_ret
        exact ⟨rfl, gtrans HG0.out (gtrans (gtrans HQ6.out (gtrans (galloc _ _ none) (galloc _ _ none))) hq7)⟩
    · obtain ⟨ce, HCE⟩ : ∃ E, Hid (checkT t 0 = E) := ⟨_, hid rfl⟩
      rw [HCE.out] at HCk hc
      have hce : (ce != 0) = true := by simpa using hc
      clear hc hcn hcn2 hm hct
      go_wp2_with (first
        | (go_at_call 15; refine (HCk.out _ HU1.out).mono ?_; rintro e u2 ⟨rfl, hg2⟩; have HU2 := hid (gtrans HU1.out hg2); clear hg2)
        | (go_at_call 14; refine (num_any _ _).mono ?_; rintro e u3 ⟨rfl, rfl⟩)
        | (go_at_call 17; refine (HWk.out _ HU2.out).mono ?_; rintro e u4 ⟨rfl, hg4⟩))
      go_ret
      exact ⟨rfl, gtrans HG0.out (gtrans HU2.out hg4)⟩
  · have hd : decide ((20000 : Int) < (r : Int)) = true := decide_eq_true (by omega)
    clear hr hg1 ga
    go_wp2_with (go_at_call 17; refine (HWk.out _ HU1.out).mono ?_; rintro e u2 ⟨rfl, hg2⟩)
    go_ret
    exact ⟨rfl, gtrans HG0.out (gtrans HU1.out hg2)⟩
end Go.Proofs.YtdmnhkgiojkphaaGreatDoor
