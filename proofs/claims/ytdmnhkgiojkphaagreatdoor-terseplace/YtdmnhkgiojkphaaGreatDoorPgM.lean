/- The reference's Print, walked; how long a print is. -/
import Derived.Test.YtdmnhkgiojkphaaGreatDoorPgL
import Derived.Lib.ItoaLen
namespace Go.Proofs.YtdmnhkgiojkphaaGreatDoor
open Go Go.RowKit Go.Maps
open Go.RowKit (wrap32 wrap64)

theorem quo_le (l : List UInt8) : (quo l).length ≤ 6 * l.length + 2 := by
 unfold quo
 have := escL_le l
 simp only [List.length_cons, List.length_append, List.length_nil]
 omega
theorem quo_leB (k : ByteArray) : (quo k.data.toList).length ≤ 6 * k.size + 2 := by
 have h := quo_le k.data.toList
 have e : k.data.toList.length = k.size := Array.length_toList
 omega
mutual
theorem pr_le : ∀ (t : Tree), Fits t → (pr t).length + 1 ≤ 24 * cntT t
 | .mk k f n t ks is, hf => by
  rw [Fits] at hf
  have hl := prl_le is hf.2
  have hm := prm_le is ks hf.2
  rw [pr, cntT]
  split
  ·simp only [nullW, List.length_cons, List.length_nil]; omega
  split
  ·split <;> (simp only [trueW, falseW, List.length_cons, List.length_nil]; omega)
  split
  ·have := Lib.itoa_length_le n hf.1.1 hf.1.2
   omega
  split
  ·have := quo_leB t
   omega
  rw [prs_map]
  split
  ·simp only [List.length_cons, List.length_append, List.length_nil]
   omega
  ·simp only [List.length_cons, List.length_append, List.length_nil]
   omega
theorem prl_le : ∀ (l : List Tree), FitsL l → (sep (l.map pr)).length ≤ 24 * cntL l
 | [], _ => by simp [sep]
 | [t], h => by
  rw [FitsL] at h
  have := pr_le t h.1
  simp only [List.map_cons, List.map_nil, sep, cntL]
  omega
 | t :: u :: r, h => by
  rw [FitsL] at h
  have h1 := pr_le t h.1
  have h2 := prl_le (u :: r) h.2
  rw [cntL]
  have e : sep ((t :: u :: r).map pr) = pr t ++ 44 :: sep ((u :: r).map pr) := rfl
  rw [e, List.length_append, List.length_cons]
  omega
theorem prm_le : ∀ (l : List Tree) (ks : List ByteArray), FitsL l → (sep (ents ks (l.map pr))).length ≤ 24 * cntL l + 24 * keyN ks
 | [], ks, _ => by simp [ents, sep]
 | _ :: _, [], _ => by simp [ents, sep]
 | [t], k :: kr, h => by
  rw [FitsL] at h
  have h1 := pr_le t h.1
  have h2 := quo_leB k
  have e : sep (ents (k :: kr) ([t].map pr)) = quo k.data.toList ++ 58 :: pr t := by simp [ents, sep]
  rw [e, List.length_append, List.length_cons, cntL, cntL, keyN]
  omega
 | t :: u :: r, [k], h => by
  rw [FitsL] at h
  have h1 := pr_le t h.1
  have h2 := quo_leB k
  have e : sep (ents [k] ((t :: u :: r).map pr)) = quo k.data.toList ++ 58 :: pr t := by simp [ents, sep]
  rw [e, List.length_append, List.length_cons, cntL, keyN, keyN]
  omega
 | t :: u :: r, k :: k2 :: kr, h => by
  rw [FitsL] at h
  have h1 := pr_le t h.1
  have h4 := prm_le (u :: r) (k2 :: kr) h.2
  have h2 := quo_leB k
  have e : sep (ents (k :: k2 :: kr) ((t :: u :: r).map pr)) = quo k.data.toList ++ 58 :: (pr t ++ 44 :: sep (ents (k2 :: kr) ((u :: r).map pr))) := by simp [ents, sep]
  rw [e, List.length_append, List.length_cons, List.length_append, List.length_cons, cntL]
  rw [keyN]
  omega
end
set_option maxRecDepth 100000 in
set_option maxHeartbeats 1000000 in
theorem printRf_ok (t : Tree) (hc : checkT t 0 = 0) (hf : Fits t) (hn : cntT t ≤ 1099511627776) (hl : (pr t).length ≤ 1099511627776) (w : World) (F : Nat → Prop) (v : Value) (hv : RdT w F t v) :
  Calls Tryz.prog 12 #[v] w fun e w' => e = .returned (.tuple #[.string (str (pr t)), .int .i64 0]) ∧ w.grownBy w' none := by
 have hv0 := hv
 rw [RdT_eq] at hv
 obtain ⟨kv, ia, ic, rfl, ⟨ka, kc, rfl, hkr⟩, hc', hi⟩ := hv
 obtain ⟨A, HA⟩ : ∃ A, Hid (t.items.length = A) := ⟨_, hid rfl⟩
 obtain ⟨KN, HKN⟩ : ∃ A, Hid (t.keys.length = A) := ⟨_, hid rfl⟩
 rw [HA.out, HKN.out] at hv0 ⊢
 have g0 : w.grownBy (w.alloc (.cells #[.int .i64 t.kind, .bool t.flag, .int .i64 t.n, .string t.text, .slice ka KN kc, .slice ia A ic] 26)) none := galloc _ _ none
 have c0 := boxed w (.int .i64 t.kind) (.bool t.flag) (.int .i64 t.n) (.string t.text) (.slice ka KN kc) (.slice ia A ic)
 obtain ⟨W0, hW0⟩ : ∃ W0, w.alloc (.cells #[.int .i64 t.kind, .bool t.flag, .int .i64 t.n, .string t.text, .slice ka KN kc, .slice ia A ic] 26) = W0 := ⟨_, rfl⟩
 rw [hW0] at c0 g0
 have HV0 : Hid (∀ u : World, W0.grownBy u none → RdT u F t (.agg #[.int .i64 t.kind, .bool t.flag, .int .i64 t.n, .string t.text, .slice ka KN kc, .slice ia A ic])) := hid (fun u hu => hv0.on (Stays.none (gtrans g0 hu)))
 have hCk := checkRf_any t hn W0 F _ (HV0.out W0 (grefl _ _))
 rw [hc] at hCk
 have HC := hid hCk
 have HG0 := hid g0
 have HB : Hid (∀ u : World, W0.grownBy u none → u.heap[w.heap.size]? = some (.cells #[.int .i64 t.kind, .bool t.flag, .int .i64 t.n, .string t.text, .slice ka KN kc, .slice ia A ic] 26 (0, 0))) := fun u hu => (hu.block _ (Array.getElem?_eq_some_iff.1 c0).1 (by simp)).trans c0
 have HPr : Hid (∀ u : World, W0.grownBy u none → Calls Tryz.prog 40 #[.agg #[.int .i64 t.kind, .bool t.flag, .int .i64 t.n, .string t.text, .slice ka KN kc, .slice ia A ic]] u fun e w' => e = .returned (.string (str (pr t))) ∧ u.grownBy w' none) := hid (fun u hu => printR_any _ hn t (Nat.le_refl _) ⟨0, hc⟩ hf hl u F _ (HV0.out u hu))
 obtain ⟨⟨x0, x1, x2, x3, x4, x5⟩, xf⟩ := cells6 c0
 obtain ⟨PT, HPT⟩ : ∃ P, Hid (str (pr t) = P) := ⟨_, hid rfl⟩
 rw [HPT.out] at HPr ⊢
 clear c0 g0 hv0 hkr hc' hi hn hCk hc hf hl
 go_enter Tryz.func12, Tryz.ntmps12
 go_wp2_with (first
  | (go_at_call 11; refine HC.out.mono ?_; rintro e u2 ⟨rfl, hg2⟩; obtain ⟨⟨x0, x1, x2, x3, x4, x5⟩, xf⟩ := cells6 (HB.out _ hg2))
  | (go_at_call 40; refine (HPr.out _ hg2).mono ?_; rintro e u3 ⟨rfl, hg3⟩))
 go_ret2
 exact ⟨rfl, gtrans HG0.out (gtrans hg2 hg3)⟩
set_option maxRecDepth 100000 in
set_option maxHeartbeats 1000000 in
theorem printRf_bad (t : Tree) (hc : checkT t 0 ≠ 0) (hn : cntT t ≤ 1099511627776) (w : World) (F : Nat → Prop) (v : Value) (hv : RdT w F t v) :
  Calls Tryz.prog 12 #[v] w fun e w' => e = .returned (.tuple #[.string ⟨#[]⟩, .int .i64 (checkT t 0)]) ∧ w.grownBy w' none := by
 have hv0 := hv
 rw [RdT_eq] at hv
 obtain ⟨kv, ia, ic, rfl, ⟨ka, kc, rfl, hkr⟩, hc', hi⟩ := hv
 obtain ⟨A, HA⟩ : ∃ A, Hid (t.items.length = A) := ⟨_, hid rfl⟩
 obtain ⟨KN, HKN⟩ : ∃ A, Hid (t.keys.length = A) := ⟨_, hid rfl⟩
 rw [HA.out, HKN.out] at hv0 ⊢
 have g0 : w.grownBy (w.alloc (.cells #[.int .i64 t.kind, .bool t.flag, .int .i64 t.n, .string t.text, .slice ka KN kc, .slice ia A ic] 26)) none := galloc _ _ none
 have c0 := boxed w (.int .i64 t.kind) (.bool t.flag) (.int .i64 t.n) (.string t.text) (.slice ka KN kc) (.slice ia A ic)
 obtain ⟨W0, hW0⟩ : ∃ W0, w.alloc (.cells #[.int .i64 t.kind, .bool t.flag, .int .i64 t.n, .string t.text, .slice ka KN kc, .slice ia A ic] 26) = W0 := ⟨_, rfl⟩
 rw [hW0] at c0 g0
 have HC := hid (checkRf_any t hn W0 F _ (hv0.on (Stays.none g0)))
 have HG0 := hid g0
 obtain ⟨⟨x0, x1, x2, x3, x4, x5⟩, xf⟩ := cells6 c0
 obtain ⟨R, HR⟩ : ∃ E, Hid (checkT t 0 = E) := ⟨_, hid rfl⟩
 rw [HR.out] at HC hc ⊢
 have hrb : (R != 0) = true := by simpa using hc
 clear c0 g0 hv0 hkr hc' hi hn hc
 go_enter Tryz.func12, Tryz.ntmps12
 go_wp2_with (go_at_call 11; refine HC.out.mono ?_; rintro e u2 ⟨rfl, hg2⟩)
 go_ret2
 exact ⟨rfl, gtrans HG0.out hg2⟩
end Go.Proofs.YtdmnhkgiojkphaaGreatDoor
