/- The reference's print and Print, walked. -/
import Derived.Test.YtdmnhkgiojkphaaGreatDoorPgI
import Derived.Test.YtdmnhkgiojkphaaGreatDoorPgJ
import Derived.Test.YtdmnhkgiojkphaaGreatDoorX35
import Derived.Lib.ItoaLen
namespace Go.Proofs.YtdmnhkgiojkphaaGreatDoor
open Go Go.RowKit Go.Maps
open Go.RowKit (wrap32 wrap64)

/-- print tells the texts of trees of that much. -/
def PrintOk (n : Nat) : Prop := n ≤ 1099511627776 → ∀ (t : Tree), cntT t ≤ n → (∃ about, checkT t about = 0) → Fits t → (pr t).length ≤ 1099511627776 → ∀ (w : World) (F : Nat → Prop) (v : Value), RdT w F t v →
  Calls Tryz.prog 40 #[v] w fun e w' => e = .returned (.string (str (pr t))) ∧ w.grownBy w' none
theorem piece_le {ps : List (List UInt8)} {i : Nat} (h : i < ps.length) : (ps[i]).length ≤ (sep ps).length ∧ (sep (ps.take i)).length ≤ (sep ps).length ∧ (0 < i → (sep (ps.take i)).length + 1 + (ps[i]).length ≤ (sep ps).length) := by
  obtain ⟨h1, h2⟩ := sep_take ps i h
  by_cases h0 : i = 0
  · subst h0
    rw [if_pos rfl] at h1
    rw [h1] at h2
    exact ⟨h2, by simp [sep], fun h => by omega⟩
  · rw [if_neg h0] at h1
    rw [h1, List.length_append, List.length_cons] at h2
    exact ⟨by omega, by omega, fun _ => by omega⟩
theorem ents_at (ks : List ByteArray) (ps : List (List UInt8)) (i : Nat) (h : i < (ents ks ps).length) (h1 : i < ks.length) (h2 : i < ps.length) : (ents ks ps)[i] = quo (ks[i]).data.toList ++ 58 :: ps[i] := by
  apply Option.some.inj
  rw [← List.getElem?_eq_getElem]
  show (List.zipWith (fun k p => quo k.data.toList ++ 58 :: p) ks ps)[i]? = _
  rw [List.getElem?_zipWith, List.getElem?_eq_getElem h1, List.getElem?_eq_getElem h2]
theorem pieces5 {t : Tree} (h : t.kind = 5) : pieces t = t.items.map pr := by unfold pieces; rw [if_neg (by rw [h]; decide)]
theorem pieces6 {t : Tree} (h : t.kind = 6) : pieces t = ents t.keys (t.items.map pr) := by unfold pieces; rw [if_pos h]
theorem pr5 {t : Tree} (h : t.kind = 5) : pr t = 91 :: (sep (pieces t) ++ [93]) := by
  rw [pr_eq, pieces5 h, h]; rfl
theorem pr6 {t : Tree} (h : t.kind = 6) : pr t = 123 :: (sep (pieces t) ++ [125]) := by
  rw [pr_eq, pieces6 h, h]; rfl
theorem pieces6_len {t : Tree} (h : t.kind = 6) (hk : t.keys.length = t.items.length) : (pieces t).length = t.items.length := by
  rw [pieces6 h]; unfold ents; rw [List.length_zipWith, List.length_map]; omega

set_option maxRecDepth 100000 in
set_option maxHeartbeats 4000000 in
theorem print_one (n : Nat) (_hOk : PrintOk n) (hN : n + 1 ≤ 1099511627776) (t : Tree) (hn : cntT t ≤ n + 1) (_hcc : ∃ about, checkT t about = 0) (hf : Fits t) (_hl : (pr t).length ≤ 1099511627776) (hkd : t.kind = 1) (w : World) (F : Nat → Prop) (v : Value) (hv : RdT w F t v) :
    Calls Tryz.prog 40 #[v] w fun e w' => e = .returned (.string (str (pr t))) ∧ w.grownBy w' none := by
  rw [RdT_eq] at hv
  obtain ⟨kv, ia, ic, rfl, hkv, hc, hi⟩ := hv
  obtain ⟨ka, kc, rfl⟩ := hkv.slice
  have hfn : fitsN t.n := by rw [Fits_eq] at hf; exact hf.1
  have hkn : keyN t.keys ≤ 1099511627776 := by rw [cntT_eq] at hn; omega
  have htn : t.text.size ≤ 1099511627776 := by rw [cntT_eq] at hn; omega
  rw [hkd]
  obtain ⟨A, HA⟩ : ∃ A, Hid (t.items.length = A) := ⟨_, hid rfl⟩
  obtain ⟨KN, HKN⟩ : ∃ A, Hid (t.keys.length = A) := ⟨_, hid rfl⟩
  have hA : A ≤ 1099511627776 := by have := cntL_length t.items; rw [cntT_eq] at hn; rw [HA.out] at this; omega
  rw [HA.out, HKN.out]
  obtain ⟨R, HR⟩ : ∃ r, Hid (str (pr t) = r) := ⟨_, hid rfl⟩
  rw [HR.out]
  obtain ⟨W0, hW0⟩ : ∃ W0, w.alloc (.cells #[.int .i64 1, .bool t.flag, .int .i64 t.n, .string t.text, .slice ka KN kc, .slice ia A ic] 26) = W0 := ⟨_, rfl⟩
  have c0 := boxed w (.int .i64 1) (.bool t.flag) (.int .i64 t.n) (.string t.text) (.slice ka KN kc) (.slice ia A ic)
  have g0 : w.grownBy W0 none := by rw [← hW0]; exact galloc _ _ none
  rw [hW0] at c0
  have HG0 := hid g0
  have HB : Hid (∀ u : World, W0.grownBy u none → u.heap[w.heap.size]? = some (.cells #[.int .i64 1, .bool t.flag, .int .i64 t.n, .string t.text, .slice ka KN kc, .slice ia A ic] 26 (0, 0))) := fun u hu => (hu.block _ (Array.getElem?_eq_some_iff.1 c0).1 (by simp)).trans c0
  obtain ⟨⟨x0, x1, x2, x3, x4, x5⟩, xf⟩ := cells6 c0
  clear c0 g0
  have HE : Hid (R = ⟨#[110, 117, 108, 108]⟩) := hid (by rw [← HR.out, pr_eq, if_pos hkd]; rfl)
  clear hf hn hkv hc hi hfn hkn htn
  go_enter Tryz.func40, Tryz.ntmps40
  go_wp2_with fail
  go_ret
  exact ⟨by rw [HE.out]; rfl, HG0.out⟩
set_option maxRecDepth 100000 in
set_option maxHeartbeats 4000000 in
theorem print_two (n : Nat) (_hOk : PrintOk n) (hN : n + 1 ≤ 1099511627776) (t : Tree) (hn : cntT t ≤ n + 1) (_hcc : ∃ about, checkT t about = 0) (hf : Fits t) (_hl : (pr t).length ≤ 1099511627776) (hkd : t.kind = 2) (w : World) (F : Nat → Prop) (v : Value) (hv : RdT w F t v) :
    Calls Tryz.prog 40 #[v] w fun e w' => e = .returned (.string (str (pr t))) ∧ w.grownBy w' none := by
  rw [RdT_eq] at hv
  obtain ⟨kv, ia, ic, rfl, hkv, hc, hi⟩ := hv
  obtain ⟨ka, kc, rfl⟩ := hkv.slice
  have hfn : fitsN t.n := by rw [Fits_eq] at hf; exact hf.1
  have hkn : keyN t.keys ≤ 1099511627776 := by rw [cntT_eq] at hn; omega
  have htn : t.text.size ≤ 1099511627776 := by rw [cntT_eq] at hn; omega
  rw [hkd]
  obtain ⟨A, HA⟩ : ∃ A, Hid (t.items.length = A) := ⟨_, hid rfl⟩
  obtain ⟨KN, HKN⟩ : ∃ A, Hid (t.keys.length = A) := ⟨_, hid rfl⟩
  have hA : A ≤ 1099511627776 := by have := cntL_length t.items; rw [cntT_eq] at hn; rw [HA.out] at this; omega
  rw [HA.out, HKN.out]
  obtain ⟨R, HR⟩ : ∃ r, Hid (str (pr t) = r) := ⟨_, hid rfl⟩
  rw [HR.out]
  obtain ⟨W0, hW0⟩ : ∃ W0, w.alloc (.cells #[.int .i64 2, .bool t.flag, .int .i64 t.n, .string t.text, .slice ka KN kc, .slice ia A ic] 26) = W0 := ⟨_, rfl⟩
  have c0 := boxed w (.int .i64 2) (.bool t.flag) (.int .i64 t.n) (.string t.text) (.slice ka KN kc) (.slice ia A ic)
  have g0 : w.grownBy W0 none := by rw [← hW0]; exact galloc _ _ none
  rw [hW0] at c0
  have HG0 := hid g0
  have HB : Hid (∀ u : World, W0.grownBy u none → u.heap[w.heap.size]? = some (.cells #[.int .i64 2, .bool t.flag, .int .i64 t.n, .string t.text, .slice ka KN kc, .slice ia A ic] 26 (0, 0))) := fun u hu => (hu.block _ (Array.getElem?_eq_some_iff.1 c0).1 (by simp)).trans c0
  obtain ⟨⟨x0, x1, x2, x3, x4, x5⟩, xf⟩ := cells6 c0
  clear c0 g0
  have HE : Hid (R = if t.flag = true then ⟨#[116, 114, 117, 101]⟩ else ⟨#[102, 97, 108, 115, 101]⟩) := hid (by rw [← HR.out, pr_eq, if_neg (by rw [hkd]; decide), if_pos hkd]; split <;> rfl)
  clear hf hn hkv hc hi hfn hkn htn
  obtain ⟨f, HFf⟩ : ∃ f, Hid (t.flag = f) := ⟨_, hid rfl⟩
  rw [HFf.out] at x1 HE hW0 ⊢
  cases f with
  | true =>
    go_enter Tryz.func40, Tryz.ntmps40
    go_wp2_with fail
    go_ret
    exact ⟨by rw [HE.out]; rfl, HG0.out⟩
  | false =>
    go_enter Tryz.func40, Tryz.ntmps40
    go_wp2_with fail
    go_ret
    exact ⟨by rw [HE.out]; rfl, HG0.out⟩
set_option maxRecDepth 100000 in
set_option maxHeartbeats 4000000 in
theorem print_three (n : Nat) (_hOk : PrintOk n) (hN : n + 1 ≤ 1099511627776) (t : Tree) (hn : cntT t ≤ n + 1) (_hcc : ∃ about, checkT t about = 0) (hf : Fits t) (_hl : (pr t).length ≤ 1099511627776) (hkd : t.kind = 3) (w : World) (F : Nat → Prop) (v : Value) (hv : RdT w F t v) :
    Calls Tryz.prog 40 #[v] w fun e w' => e = .returned (.string (str (pr t))) ∧ w.grownBy w' none := by
  rw [RdT_eq] at hv
  obtain ⟨kv, ia, ic, rfl, hkv, hc, hi⟩ := hv
  obtain ⟨ka, kc, rfl⟩ := hkv.slice
  have hfn : fitsN t.n := by rw [Fits_eq] at hf; exact hf.1
  have hkn : keyN t.keys ≤ 1099511627776 := by rw [cntT_eq] at hn; omega
  have htn : t.text.size ≤ 1099511627776 := by rw [cntT_eq] at hn; omega
  rw [hkd]
  obtain ⟨A, HA⟩ : ∃ A, Hid (t.items.length = A) := ⟨_, hid rfl⟩
  obtain ⟨KN, HKN⟩ : ∃ A, Hid (t.keys.length = A) := ⟨_, hid rfl⟩
  have hA : A ≤ 1099511627776 := by have := cntL_length t.items; rw [cntT_eq] at hn; rw [HA.out] at this; omega
  rw [HA.out, HKN.out]
  obtain ⟨R, HR⟩ : ∃ r, Hid (str (pr t) = r) := ⟨_, hid rfl⟩
  rw [HR.out]
  obtain ⟨W0, hW0⟩ : ∃ W0, w.alloc (.cells #[.int .i64 3, .bool t.flag, .int .i64 t.n, .string t.text, .slice ka KN kc, .slice ia A ic] 26) = W0 := ⟨_, rfl⟩
  have c0 := boxed w (.int .i64 3) (.bool t.flag) (.int .i64 t.n) (.string t.text) (.slice ka KN kc) (.slice ia A ic)
  have g0 : w.grownBy W0 none := by rw [← hW0]; exact galloc _ _ none
  rw [hW0] at c0
  have HG0 := hid g0
  have HB : Hid (∀ u : World, W0.grownBy u none → u.heap[w.heap.size]? = some (.cells #[.int .i64 3, .bool t.flag, .int .i64 t.n, .string t.text, .slice ka KN kc, .slice ia A ic] 26 (0, 0))) := fun u hu => (hu.block _ (Array.getElem?_eq_some_iff.1 c0).1 (by simp)).trans c0
  obtain ⟨⟨x0, x1, x2, x3, x4, x5⟩, xf⟩ := cells6 c0
  clear c0 g0
  have HE : Hid (str (Lib.itoa t.n) = R) := hid (by rw [← HR.out, pr_eq, if_neg (by rw [hkd]; decide), if_neg (by rw [hkd]; decide), if_pos hkd])
  have HC := hid (whole_any t.n hfn W0)
  rw [HE.out] at HC
  clear hf hn hkv hc hi hfn hkn htn
  go_enter Tryz.func40, Tryz.ntmps40
  go_wp2_with (go_at_call 68; with_reducible refine HC.out.mono ?_; rintro e w1 ⟨rfl, hg1⟩; have HG1 := hid hg1; clear hg1)
  go_ret
  exact ⟨rfl, gtrans HG0.out HG1.out⟩
set_option maxRecDepth 100000 in
set_option maxHeartbeats 4000000 in
theorem print_four (n : Nat) (_hOk : PrintOk n) (hN : n + 1 ≤ 1099511627776) (t : Tree) (hn : cntT t ≤ n + 1) (_hcc : ∃ about, checkT t about = 0) (hf : Fits t) (_hl : (pr t).length ≤ 1099511627776) (hkd : t.kind = 4) (w : World) (F : Nat → Prop) (v : Value) (hv : RdT w F t v) :
    Calls Tryz.prog 40 #[v] w fun e w' => e = .returned (.string (str (pr t))) ∧ w.grownBy w' none := by
  rw [RdT_eq] at hv
  obtain ⟨kv, ia, ic, rfl, hkv, hc, hi⟩ := hv
  obtain ⟨ka, kc, rfl⟩ := hkv.slice
  have hfn : fitsN t.n := by rw [Fits_eq] at hf; exact hf.1
  have hkn : keyN t.keys ≤ 1099511627776 := by rw [cntT_eq] at hn; omega
  have htn : t.text.size ≤ 1099511627776 := by rw [cntT_eq] at hn; omega
  rw [hkd]
  obtain ⟨A, HA⟩ : ∃ A, Hid (t.items.length = A) := ⟨_, hid rfl⟩
  obtain ⟨KN, HKN⟩ : ∃ A, Hid (t.keys.length = A) := ⟨_, hid rfl⟩
  have hA : A ≤ 1099511627776 := by have := cntL_length t.items; rw [cntT_eq] at hn; rw [HA.out] at this; omega
  rw [HA.out, HKN.out]
  obtain ⟨R, HR⟩ : ∃ r, Hid (str (pr t) = r) := ⟨_, hid rfl⟩
  rw [HR.out]
  obtain ⟨W0, hW0⟩ : ∃ W0, w.alloc (.cells #[.int .i64 4, .bool t.flag, .int .i64 t.n, .string t.text, .slice ka KN kc, .slice ia A ic] 26) = W0 := ⟨_, rfl⟩
  have c0 := boxed w (.int .i64 4) (.bool t.flag) (.int .i64 t.n) (.string t.text) (.slice ka KN kc) (.slice ia A ic)
  have g0 : w.grownBy W0 none := by rw [← hW0]; exact galloc _ _ none
  rw [hW0] at c0
  have HG0 := hid g0
  have HB : Hid (∀ u : World, W0.grownBy u none → u.heap[w.heap.size]? = some (.cells #[.int .i64 4, .bool t.flag, .int .i64 t.n, .string t.text, .slice ka KN kc, .slice ia A ic] 26 (0, 0))) := fun u hu => (hu.block _ (Array.getElem?_eq_some_iff.1 c0).1 (by simp)).trans c0
  obtain ⟨⟨x0, x1, x2, x3, x4, x5⟩, xf⟩ := cells6 c0
  clear c0 g0
  have HE : Hid (str (quo t.text.data.toList) = R) := hid (by rw [← HR.out, pr_eq, if_neg (by rw [hkd]; decide), if_neg (by rw [hkd]; decide), if_neg (by rw [hkd]; decide), if_pos hkd])
  have HC := hid (quotedR_any t.text htn W0)
  rw [HE.out] at HC
  clear hf hn hkv hc hi hfn hkn htn
  go_enter Tryz.func40, Tryz.ntmps40
  go_wp2_with (go_at_call 69; with_reducible refine HC.out.mono ?_; rintro e w1 ⟨rfl, hg1⟩; have HG1 := hid hg1; clear hg1)
  go_ret
  exact ⟨rfl, gtrans HG0.out HG1.out⟩
set_option maxRecDepth 100000 in
set_option maxHeartbeats 4000000 in
theorem print_five (n : Nat) (hOk : PrintOk n) (hN : n + 1 ≤ 1099511627776) (t : Tree) (hn : cntT t ≤ n + 1) (hcc : ∃ about, checkT t about = 0) (hf : Fits t) (hl : (pr t).length ≤ 1099511627776) (hkd : t.kind = 5) (w : World) (F : Nat → Prop) (v : Value) (hv : RdT w F t v) :
    Calls Tryz.prog 40 #[v] w fun e w' => e = .returned (.string (str (pr t))) ∧ w.grownBy w' none := by
  rw [RdT_eq] at hv
  obtain ⟨kv, ia, ic, rfl, hkv, hc, hi⟩ := hv
  obtain ⟨ka, kc, rfl⟩ := hkv.slice
  have hfn : fitsN t.n := by rw [Fits_eq] at hf; exact hf.1
  have hkn : keyN t.keys ≤ 1099511627776 := by rw [cntT_eq] at hn; omega
  have htn : t.text.size ≤ 1099511627776 := by rw [cntT_eq] at hn; omega
  rw [hkd]
  obtain ⟨A, HA⟩ : ∃ A, Hid (t.items.length = A) := ⟨_, hid rfl⟩
  obtain ⟨KN, HKN⟩ : ∃ A, Hid (t.keys.length = A) := ⟨_, hid rfl⟩
  have hA : A ≤ 1099511627776 := by have := cntL_length t.items; rw [cntT_eq] at hn; rw [HA.out] at this; omega
  rw [HA.out, HKN.out]
  obtain ⟨R, HR⟩ : ∃ r, Hid (str (pr t) = r) := ⟨_, hid rfl⟩
  rw [HR.out]
  obtain ⟨W0, hW0⟩ : ∃ W0, w.alloc (.cells #[.int .i64 5, .bool t.flag, .int .i64 t.n, .string t.text, .slice ka KN kc, .slice ia A ic] 26) = W0 := ⟨_, rfl⟩
  have c0 := boxed w (.int .i64 5) (.bool t.flag) (.int .i64 t.n) (.string t.text) (.slice ka KN kc) (.slice ia A ic)
  have g0 : w.grownBy W0 none := by rw [← hW0]; exact galloc _ _ none
  rw [hW0] at c0
  have HG0 := hid g0
  have HB : Hid (∀ u : World, W0.grownBy u none → u.heap[w.heap.size]? = some (.cells #[.int .i64 5, .bool t.flag, .int .i64 t.n, .string t.text, .slice ka KN kc, .slice ia A ic] 26 (0, 0))) := fun u hu => (hu.block _ (Array.getElem?_eq_some_iff.1 c0).1 (by simp)).trans c0
  obtain ⟨⟨x0, x1, x2, x3, x4, x5⟩, xf⟩ := cells6 c0
  clear c0 g0
  obtain ⟨about, hca⟩ := hcc
  obtain ⟨hone, hits⟩ := check_one hca
  have hok := one_kind hone
  have hpl : (pieces t).length = A := by rw [← HA.out]; rw [pieces5 hkd, List.length_map]
  have hprl := hl
  rw [pr5 hkd, List.length_cons, List.length_append] at hprl
  have hsl : (sep (pieces t)).length ≤ 1099511627776 := by omega
  have HRE : Hid (R = str (91 :: (sep (pieces t) ++ [93]))) := hid (by rw [← HR.out, pr5 hkd])
  have hcl : cntL t.items ≤ n := by rw [cntT_eq] at hn; omega
  have hfl : FitsL t.items := by rw [Fits_eq] at hf; exact hf.2
  have hitem : ∀ (i : Nat) (hi : i < t.items.length) (u : World) (v : Value), (pr t.items[i]).length ≤ 1099511627776 → RdT u F t.items[i] v → Calls Tryz.prog 40 #[v] u fun e w' => e = .returned (.string (str (pr t.items[i]))) ∧ u.grownBy w' none := fun i hi u v hp hv => hOk (by omega) t.items[i] (by have := cntL_mem (List.getElem_mem hi); omega) ⟨about + 1, hits _ (List.getElem_mem hi)⟩ (FitsL_mem hfl _ (List.getElem_mem hi)) hp u F v hv
  have HIT := hid hitem
  have HI := hid hi
  obtain ⟨ps, HPS⟩ : ∃ p, Hid (pieces t = p) := ⟨_, hid rfl⟩
  rw [HPS.out] at hpl hsl HRE
  have HPI : Hid (∀ (i : Nat) (h : i < ps.length) (h2 : i < t.items.length), ps[i] = pr t.items[i]) := hid (fun i h h2 => by
    have e := HPS.out
    rw [pieces5 hkd] at e
    subst e
    rw [List.getElem_map])
  clear hf hl hn hkv hc hi hOk hfn htn hca hone hits hok hprl hcl hfl hitem
  go_enter Tryz.func40, Tryz.ntmps40
  go_wp2_with fail
  go_loopw [3, 4] (fun sv iv wr => ∃ (i : Nat) (S : ByteArray), sv = .string S ∧ iv = .int .i64 i ∧ i ≤ A ∧ Hid (S = str (sep (ps.take i))) ∧ Hid (W0.grownBy wr none)) (fun _ iv _ => A - (intOf iv).toNat)
  case atStart => exact ⟨0, ⟨#[]⟩, rfl, rfl, Nat.zero_le _, hid (by rw [List.take_zero]; rfl), hid (grefl _ _)⟩
  case round =>
    clear x0 x1 x2 x3 x4 x5 xf
    obtain ⟨i, S, rfl, rfl, hi', HS, HG⟩ := hrel
    obtain ⟨⟨x0, x1, x2, x3, x4, x5⟩, xf⟩ := cells6 (HB.out _ HG.out)
    by_cases hlt : i < A
    · as_aux_lemma =>
      have hd : (i : Int) < (A : Int) := by omega
      have hip : i < ps.length := by omega
      have hitl : i < t.items.length := by have := HA.out; omega
      obtain ⟨b1, b2, b3⟩ := piece_le hip
      have hst := (sep_take ps i hip).1
      obtain ⟨p, HP⟩ : ∃ p, Hid (ps[i] = p) := ⟨_, hid rfl⟩
      rw [HP.out] at b1 b3 hst
      have hpi := HPI.out i hip hitl
      rw [HP.out] at hpi
      obtain ⟨g, o, rfl, hg, hF', hRd⟩ := HI.out (by omega)

      have HIT1 := hid (HIT.out i hitl)
      obtain ⟨q, Hq⟩ : ∃ q, Hid (pr t.items[i] = q) := ⟨_, hid rfl⟩
      rw [Hq.out] at hpi HIT1
      have hql : q.length ≤ 1099511627776 := by rw [hpi] at b1; omega
      have HRd := hid hRd
      have HIC : Hid (∀ u : World, W0.grownBy u none → ∃ a0 a1 a2 a3 b4 c4 d4 b5 c5 d5, (u.cell? ⟨g, o + i * 6, none⟩ = some (.int .i64 a0) ∧ u.cell? ⟨g, o + i * 6 + 1, none⟩ = some (.bool a1) ∧ u.cell? ⟨g, o + i * 6 + 2, none⟩ = some (.int .i64 a2) ∧ u.cell? ⟨g, o + i * 6 + 3, none⟩ = some (.string a3) ∧ u.cell? ⟨g, o + i * 6 + 4, none⟩ = some (.slice b4 c4 d4) ∧ u.cell? ⟨g, o + i * 6 + 5, none⟩ = some (.slice b5 c5 d5)) ∧ RdT u F t.items[i] (.agg #[.int .i64 a0, .bool a1, .int .i64 a2, .string a3, .slice b4 c4 d4, .slice b5 c5 d5])) := hid (fun u hu => by
        obtain ⟨a0, a1, a2, a3, b4, c4, d4, b5, c5, d5, z0, z1, z2, z3, z4, z5, hT⟩ := HRd.out.atS (Stays.none (gtrans HG0.out hu)) hF' hg i hitl
        exact ⟨a0, a1, a2, a3, b4, c4, d4, b5, c5, d5, ⟨z0, z1, z2, z3, z4, z5⟩, hT⟩)
      obtain ⟨Q, HQs⟩ : ∃ x, Hid (str q = x) := ⟨_, hid rfl⟩
      have hQz : Q.size = q.length := by rw [← HQs.out, str_size]
      rw [HQs.out] at HIT1
      have hSz : S.size = (sep (ps.take i)).length := by rw [HS.out, str_size]
      have hSz' : S.size ≤ 1099511627776 := by omega
      have hQz' : Q.size ≤ 1099511627776 := by omega
      have HQL := hid hql
      have HHPI := hid hpi
      have HST := hid hst
      clear hRd hg hF' hst hpi b1 b2 b3 hql hQz hSz
      by_cases h0 : i = 0
      · as_aux_lemma =>
        have h0i : ¬ (0 : Int) < (i : Int) := by omega
        have H0 := hid h0
        clear h0
        go_upto_region 18 with fail
        obtain ⟨S1, HS1⟩ : ∃ S1, Hid (S = S1) := ⟨_, hid rfl⟩
        rw [HS1.out]
        have hS1 : S1.size ≤ 1099511627777 := by rw [← HS1.out]; omega
        have HSS : Hid (S1 = str []) := hid (by rw [← HS1.out, HS.out, H0.out]; rfl)
        obtain ⟨S2, HS2⟩ : ∃ S2, Hid (S1 = S2) := ⟨_, hid rfl⟩
        rw [HS2.out]
        have hS2 : S2.size ≤ 3298534883400 := by rw [← HS2.out]; omega
        obtain ⟨a0, a1, a2, a3, b4, c4, d4, b5, c5, d5, ⟨z0, z1, z2, z3, z4, z5⟩, hT⟩ := HIC.out _ HG.out
        have HSS2 : Hid (S2 = str ((([] : List UInt8)) ++ [])) := hid (by rw [← HS2.out, HSS.out, List.append_nil])
        have HC := hid (HIT1.out _ _ HQL.out hT)
        have hz4 : ¬ (9223372036854775807 : Int) < (S2.size : Int) + (Q.size : Int) := by omega
        have hz4' : ¬ (9223372036854775807 : Nat) < S2.size + Q.size := by omega
        clear hT
        go_wp2_with (go_at_call 40; with_reducible refine HC.out.mono ?_; rintro e w6 ⟨rfl, hg6⟩; have HG6 := hid (gtrans HG.out hg6); clear hg6)
        go_roundw
        case rel => exact ⟨i + 1, S2 ++ Q, rfl, by go_num, by omega, hid (by rw [HST.out, if_pos H0.out, HHPI.out, HSS2.out, ← HQs.out, str_app]; simp), HG6⟩
        case measure => simp [intOf]; omega
      · as_aux_lemma =>
        have h0i : (0 : Int) < (i : Int) := by omega
        have hz1 : ¬ (9223372036854775807 : Int) < (S.size : Int) + 1 := by omega
        have hz1' : ¬ (9223372036854775807 : Nat) < S.size + 1 := by omega
        have H0 := hid h0
        clear h0
        go_upto_region 18 with fail
        obtain ⟨S1, HS1⟩ : ∃ S1, Hid (S ++ ⟨#[44]⟩ = S1) := ⟨_, hid rfl⟩
        rw [HS1.out]
        have hS1 : S1.size ≤ 1099511627777 := by rw [← HS1.out, ByteArray.size_append]; exact Nat.add_le_add_right hSz' 1
        have HSS : Hid (S1 = str (sep (ps.take i) ++ [44])) := hid (by rw [← HS1.out, HS.out, ← str_app]; rfl)
        obtain ⟨S2, HS2⟩ : ∃ S2, Hid (S1 = S2) := ⟨_, hid rfl⟩
        rw [HS2.out]
        have hS2 : S2.size ≤ 3298534883400 := by rw [← HS2.out]; omega
        obtain ⟨a0, a1, a2, a3, b4, c4, d4, b5, c5, d5, ⟨z0, z1, z2, z3, z4, z5⟩, hT⟩ := HIC.out _ HG.out
        have HSS2 : Hid (S2 = str ((sep (ps.take i) ++ [44]) ++ [])) := hid (by rw [← HS2.out, HSS.out, List.append_nil])
        have HC := hid (HIT1.out _ _ HQL.out hT)
        have hz4 : ¬ (9223372036854775807 : Int) < (S2.size : Int) + (Q.size : Int) := by omega
        have hz4' : ¬ (9223372036854775807 : Nat) < S2.size + Q.size := by omega
        clear hT
        go_wp2_with (go_at_call 40; with_reducible refine HC.out.mono ?_; rintro e w6 ⟨rfl, hg6⟩; have HG6 := hid (gtrans HG.out hg6); clear hg6)
        go_roundw
        case rel => exact ⟨i + 1, S2 ++ Q, rfl, by go_num, by omega, hid (by rw [HST.out, if_neg H0.out, HHPI.out, HSS2.out, ← HQs.out, str_app]; simp), HG6⟩
        case measure => simp [intOf]; omega
    · as_aux_lemma =>
      have hd : ¬ (i : Int) < (A : Int) := by omega
      have HSE : Hid (S = str (sep ps)) := hid (by rw [HS.out, List.take_of_length_le (by omega)])
      have hSz : S.size ≤ 1099511627776 := by rw [HSE.out, str_size]; exact hsl
      have hz1 : ¬ (9223372036854775807 : Int) < 1 + (S.size : Int) := by omega
      have hz1' : ¬ (9223372036854775807 : Nat) < 1 + S.size := by omega
      have hz2 : ¬ (9223372036854775807 : Int) < ((⟨#[91]⟩ ++ S).size : Int) + 1 := by
        have e : (⟨#[91]⟩ ++ S : ByteArray).size = 1 + S.size := ByteArray.size_append
        rw [e]; omega
      have hz2' : ¬ (9223372036854775807 : Int) < 1 + (S.size : Int) + 1 := by omega
      have HF : Hid (⟨#[91]⟩ ++ S ++ ⟨#[93]⟩ = R) := hid (by
        rw [HRE.out, HSE.out, show (⟨#[91]⟩ : ByteArray) = str [91] from rfl, show (⟨#[93]⟩ : ByteArray) = str [93] from rfl, str_app, str_app]
        rfl)
      clear HS
      go_wp2_with fail
      go_ret
      exact ⟨by rw [← HF.out]; rfl, gtrans HG0.out HG.out⟩
set_option maxRecDepth 100000 in
set_option maxHeartbeats 4000000 in
theorem print_six (n : Nat) (hOk : PrintOk n) (hN : n + 1 ≤ 1099511627776) (t : Tree) (hn : cntT t ≤ n + 1) (hcc : ∃ about, checkT t about = 0) (hf : Fits t) (hl : (pr t).length ≤ 1099511627776) (hkd : t.kind = 6) (w : World) (F : Nat → Prop) (v : Value) (hv : RdT w F t v) :
    Calls Tryz.prog 40 #[v] w fun e w' => e = .returned (.string (str (pr t))) ∧ w.grownBy w' none := by
  rw [RdT_eq] at hv
  obtain ⟨kv, ia, ic, rfl, hkv, hc, hi⟩ := hv
  obtain ⟨ka, kc, rfl⟩ := hkv.slice
  have hfn : fitsN t.n := by rw [Fits_eq] at hf; exact hf.1
  have hkn : keyN t.keys ≤ 1099511627776 := by rw [cntT_eq] at hn; omega
  have htn : t.text.size ≤ 1099511627776 := by rw [cntT_eq] at hn; omega
  rw [hkd]
  obtain ⟨A, HA⟩ : ∃ A, Hid (t.items.length = A) := ⟨_, hid rfl⟩
  obtain ⟨KN, HKN⟩ : ∃ A, Hid (t.keys.length = A) := ⟨_, hid rfl⟩
  have hA : A ≤ 1099511627776 := by have := cntL_length t.items; rw [cntT_eq] at hn; rw [HA.out] at this; omega
  rw [HA.out, HKN.out]
  obtain ⟨R, HR⟩ : ∃ r, Hid (str (pr t) = r) := ⟨_, hid rfl⟩
  rw [HR.out]
  obtain ⟨W0, hW0⟩ : ∃ W0, w.alloc (.cells #[.int .i64 6, .bool t.flag, .int .i64 t.n, .string t.text, .slice ka KN kc, .slice ia A ic] 26) = W0 := ⟨_, rfl⟩
  have c0 := boxed w (.int .i64 6) (.bool t.flag) (.int .i64 t.n) (.string t.text) (.slice ka KN kc) (.slice ia A ic)
  have g0 : w.grownBy W0 none := by rw [← hW0]; exact galloc _ _ none
  rw [hW0] at c0
  have HG0 := hid g0
  have HB : Hid (∀ u : World, W0.grownBy u none → u.heap[w.heap.size]? = some (.cells #[.int .i64 6, .bool t.flag, .int .i64 t.n, .string t.text, .slice ka KN kc, .slice ia A ic] 26 (0, 0))) := fun u hu => (hu.block _ (Array.getElem?_eq_some_iff.1 c0).1 (by simp)).trans c0
  obtain ⟨⟨x0, x1, x2, x3, x4, x5⟩, xf⟩ := cells6 c0
  clear c0 g0
  obtain ⟨about, hca⟩ := hcc
  obtain ⟨hone, hits⟩ := check_one hca
  have hok := one_kind hone
  have HKA : Hid (KN = A) := hid (by rw [← HKN.out, ← HA.out]; exact (hok.2.2.2.2.2.1 hkd).1)
  have hpl : (pieces t).length = A := by rw [← HA.out]; exact pieces6_len hkd (hok.2.2.2.2.2.1 hkd).1
  have hprl := hl
  rw [pr6 hkd, List.length_cons, List.length_append] at hprl
  have hsl : (sep (pieces t)).length ≤ 1099511627776 := by omega
  have HRE : Hid (R = str (123 :: (sep (pieces t) ++ [125]))) := hid (by rw [← HR.out, pr6 hkd])
  have hcl : cntL t.items ≤ n := by rw [cntT_eq] at hn; omega
  have hfl : FitsL t.items := by rw [Fits_eq] at hf; exact hf.2
  have hitem : ∀ (i : Nat) (hi : i < t.items.length) (u : World) (v : Value), (pr t.items[i]).length ≤ 1099511627776 → RdT u F t.items[i] v → Calls Tryz.prog 40 #[v] u fun e w' => e = .returned (.string (str (pr t.items[i]))) ∧ u.grownBy w' none := fun i hi u v hp hv => hOk (by omega) t.items[i] (by have := cntL_mem (List.getElem_mem hi); omega) ⟨about + 1, hits _ (List.getElem_mem hi)⟩ (FitsL_mem hfl _ (List.getElem_mem hi)) hp u F v hv
  have HIT := hid hitem
  have HI := hid hi
  obtain ⟨ps, HPS⟩ : ∃ p, Hid (pieces t = p) := ⟨_, hid rfl⟩
  rw [HPS.out] at hpl hsl HRE
  have HPI : Hid (∀ (i : Nat) (h : i < ps.length) (h1 : i < t.keys.length) (h2 : i < t.items.length), ps[i] = quo (t.keys[i]).data.toList ++ 58 :: pr t.items[i]) := hid (fun i h h1 h2 => by
    have e := HPS.out
    rw [pieces6 hkd] at e
    subst e
    rw [ents_at _ _ i h h1 (by rw [List.length_map]; exact h2), List.getElem_map])
  have HQ : Hid (∀ k ∈ t.keys, ∀ u : World, Calls Tryz.prog 69 #[.string k] u fun e w' => e = .returned (.string (str (quo k.data.toList))) ∧ u.grownBy w' none) := hid (fun k hk u => quotedR_any k (by have := keyN_mem hk; omega) u)
  have hkv' := hkv
  rw [HKN.out] at hkv'
  have HKV := hid hkv'
  clear hkv'
  clear hf hl hn hkv hc hi hOk hfn htn hca hone hits hok hprl hcl hfl hitem
  go_enter Tryz.func40, Tryz.ntmps40
  go_wp2_with fail
  go_loopw [3, 4] (fun sv iv wr => ∃ (i : Nat) (S : ByteArray), sv = .string S ∧ iv = .int .i64 i ∧ i ≤ A ∧ Hid (S = str (sep (ps.take i))) ∧ Hid (W0.grownBy wr none)) (fun _ iv _ => A - (intOf iv).toNat)
  case atStart => exact ⟨0, ⟨#[]⟩, rfl, rfl, Nat.zero_le _, hid (by rw [List.take_zero]; rfl), hid (grefl _ _)⟩
  case round =>
    clear x0 x1 x2 x3 x4 x5 xf
    obtain ⟨i, S, rfl, rfl, hi', HS, HG⟩ := hrel
    obtain ⟨⟨x0, x1, x2, x3, x4, x5⟩, xf⟩ := cells6 (HB.out _ HG.out)
    by_cases hlt : i < A
    · as_aux_lemma =>
      have hd : (i : Int) < (A : Int) := by omega
      have hip : i < ps.length := by omega
      have hitl : i < t.items.length := by have := HA.out; omega
      obtain ⟨b1, b2, b3⟩ := piece_le hip
      have hst := (sep_take ps i hip).1
      obtain ⟨p, HP⟩ : ∃ p, Hid (ps[i] = p) := ⟨_, hid rfl⟩
      rw [HP.out] at b1 b3 hst
      have hpi := HPI.out i hip (by have := HKN.out; have := HKA.out; omega) hitl
      rw [HP.out] at hpi
      obtain ⟨g, o, rfl, hg, hF', hRd⟩ := HI.out (by omega)

      have hkl : i < t.keys.length := by have := HKN.out; have := HKA.out; omega
      obtain ⟨gk, ok, rfl, hkc, hkcell⟩ := HKV.out.atS i hkl
      have HKQ := hid (HQ.out t.keys[i] (List.getElem_mem hkl))
      obtain ⟨key, HKEY⟩ : ∃ k, Hid (t.keys[i] = k) := ⟨_, hid rfl⟩
      rw [HKEY.out] at hkcell HKQ hpi
      obtain ⟨qs, HQS⟩ : ∃ q, Hid (str (quo key.data.toList) = q) := ⟨_, hid rfl⟩
      rw [HQS.out] at HKQ
      have HKC := hid hkcell
      have hdk : (i : Int) < (KN : Int) := by have := HKA.out; omega
      have HIT1 := hid (HIT.out i hitl)
      obtain ⟨q, Hq⟩ : ∃ q, Hid (pr t.items[i] = q) := ⟨_, hid rfl⟩
      rw [Hq.out] at hpi HIT1
      have hql : q.length ≤ 1099511627776 := by rw [hpi, List.length_append, List.length_cons] at b1; omega
      have HRd := hid hRd
      have HIC : Hid (∀ u : World, W0.grownBy u none → ∃ a0 a1 a2 a3 b4 c4 d4 b5 c5 d5, (u.cell? ⟨g, o + i * 6, none⟩ = some (.int .i64 a0) ∧ u.cell? ⟨g, o + i * 6 + 1, none⟩ = some (.bool a1) ∧ u.cell? ⟨g, o + i * 6 + 2, none⟩ = some (.int .i64 a2) ∧ u.cell? ⟨g, o + i * 6 + 3, none⟩ = some (.string a3) ∧ u.cell? ⟨g, o + i * 6 + 4, none⟩ = some (.slice b4 c4 d4) ∧ u.cell? ⟨g, o + i * 6 + 5, none⟩ = some (.slice b5 c5 d5)) ∧ RdT u F t.items[i] (.agg #[.int .i64 a0, .bool a1, .int .i64 a2, .string a3, .slice b4 c4 d4, .slice b5 c5 d5])) := hid (fun u hu => by
        obtain ⟨a0, a1, a2, a3, b4, c4, d4, b5, c5, d5, z0, z1, z2, z3, z4, z5, hT⟩ := HRd.out.atS (Stays.none (gtrans HG0.out hu)) hF' hg i hitl
        exact ⟨a0, a1, a2, a3, b4, c4, d4, b5, c5, d5, ⟨z0, z1, z2, z3, z4, z5⟩, hT⟩)
      obtain ⟨Q, HQs⟩ : ∃ x, Hid (str q = x) := ⟨_, hid rfl⟩
      have hQz : Q.size = q.length := by rw [← HQs.out, str_size]
      rw [HQs.out] at HIT1
      have hSz : S.size = (sep (ps.take i)).length := by rw [HS.out, str_size]
      have hSz' : S.size ≤ 1099511627776 := by omega
      have hQz' : Q.size ≤ 1099511627776 := by omega
      have hqsz : qs.size = (quo key.data.toList).length := by rw [← HQS.out, str_size]
      have hqs' : qs.size ≤ 1099511627776 := by rw [hpi, List.length_append, List.length_cons] at b1; omega
      have HQL := hid hql
      have HHPI := hid hpi
      have HST := hid hst
      clear hRd hg hF' hst hpi b1 b2 b3 hql hQz hSz hqsz hkcell
      by_cases h0 : i = 0
      · as_aux_lemma =>
        have h0i : ¬ (0 : Int) < (i : Int) := by omega
        have H0 := hid h0
        clear h0
        go_upto_region 18 with fail
        obtain ⟨S1, HS1⟩ : ∃ S1, Hid (S = S1) := ⟨_, hid rfl⟩
        rw [HS1.out]
        have hS1 : S1.size ≤ 1099511627777 := by rw [← HS1.out]; omega
        have HSS : Hid (S1 = str []) := hid (by rw [← HS1.out, HS.out, H0.out]; rfl)
        have y0 := HKC.out _ (gtrans HG0.out HG.out)
        have hz2 : ¬ (9223372036854775807 : Int) < (S1.size : Int) + (qs.size : Int) := by omega
        have hz2' : ¬ (9223372036854775807 : Nat) < S1.size + qs.size := by omega
        have hz3 : ¬ (9223372036854775807 : Int) < ((S1 ++ qs).size : Int) + 1 := by rw [ByteArray.size_append]; omega
        have hz3' : ¬ (9223372036854775807 : Int) < (S1.size : Int) + (qs.size : Int) + 1 := by omega
        go_upto_region 20 with (first
          | (go_at_call 69; with_reducible refine (HKQ.out _).mono ?_; rintro e w5 ⟨rfl, hg5⟩; have HG5 := hid (gtrans HG.out hg5); clear hg5))
        obtain ⟨S2, HS2⟩ : ∃ S2, Hid (S1 ++ qs ++ ⟨#[58]⟩ = S2) := ⟨_, hid rfl⟩
        rw [HS2.out]
        have hS2 : S2.size ≤ 3298534883400 := by rw [← HS2.out, ByteArray.size_append, ByteArray.size_append]; exact Nat.le_trans (Nat.add_le_add_right (Nat.add_le_add hS1 hqs') 1) (by decide)
        obtain ⟨⟨k0, k1, k2, k3, k4, k5⟩, kf⟩ := cells6 (HB.out _ HG5.out)
        obtain ⟨a0, a1, a2, a3, b4, c4, d4, b5, c5, d5, ⟨z0, z1, z2, z3, z4, z5⟩, hT⟩ := HIC.out _ HG5.out
        have HSS2 : Hid (S2 = str ((([] : List UInt8)) ++ (quo key.data.toList ++ [58]))) := hid (by rw [← HS2.out, HSS.out, ← HQS.out, str_app, show (⟨#[58]⟩ : ByteArray) = str [58] from rfl, str_app, List.append_assoc])
        have HC := hid (HIT1.out _ _ HQL.out hT)
        have hz4 : ¬ (9223372036854775807 : Int) < (S2.size : Int) + (Q.size : Int) := by omega
        have hz4' : ¬ (9223372036854775807 : Nat) < S2.size + Q.size := by omega
        clear hT
        go_wp2_with (go_at_call 40; with_reducible refine HC.out.mono ?_; rintro e w6 ⟨rfl, hg6⟩; have HG6 := hid (gtrans HG5.out hg6); clear hg6)
        go_roundw
        case rel => exact ⟨i + 1, S2 ++ Q, rfl, by go_num, by omega, hid (by rw [HST.out, if_pos H0.out, HHPI.out, HSS2.out, ← HQs.out, str_app]; simp), HG6⟩
        case measure => simp [intOf]; omega
      · as_aux_lemma =>
        have h0i : (0 : Int) < (i : Int) := by omega
        have hz1 : ¬ (9223372036854775807 : Int) < (S.size : Int) + 1 := by omega
        have hz1' : ¬ (9223372036854775807 : Nat) < S.size + 1 := by omega
        have H0 := hid h0
        clear h0
        go_upto_region 18 with fail
        obtain ⟨S1, HS1⟩ : ∃ S1, Hid (S ++ ⟨#[44]⟩ = S1) := ⟨_, hid rfl⟩
        rw [HS1.out]
        have hS1 : S1.size ≤ 1099511627777 := by rw [← HS1.out, ByteArray.size_append]; exact Nat.add_le_add_right hSz' 1
        have HSS : Hid (S1 = str (sep (ps.take i) ++ [44])) := hid (by rw [← HS1.out, HS.out, ← str_app]; rfl)
        have y0 := HKC.out _ (gtrans HG0.out HG.out)
        have hz2 : ¬ (9223372036854775807 : Int) < (S1.size : Int) + (qs.size : Int) := by omega
        have hz2' : ¬ (9223372036854775807 : Nat) < S1.size + qs.size := by omega
        have hz3 : ¬ (9223372036854775807 : Int) < ((S1 ++ qs).size : Int) + 1 := by rw [ByteArray.size_append]; omega
        have hz3' : ¬ (9223372036854775807 : Int) < (S1.size : Int) + (qs.size : Int) + 1 := by omega
        go_upto_region 20 with (first
          | (go_at_call 69; with_reducible refine (HKQ.out _).mono ?_; rintro e w5 ⟨rfl, hg5⟩; have HG5 := hid (gtrans HG.out hg5); clear hg5))
        obtain ⟨S2, HS2⟩ : ∃ S2, Hid (S1 ++ qs ++ ⟨#[58]⟩ = S2) := ⟨_, hid rfl⟩
        rw [HS2.out]
        have hS2 : S2.size ≤ 3298534883400 := by rw [← HS2.out, ByteArray.size_append, ByteArray.size_append]; exact Nat.le_trans (Nat.add_le_add_right (Nat.add_le_add hS1 hqs') 1) (by decide)
        obtain ⟨⟨k0, k1, k2, k3, k4, k5⟩, kf⟩ := cells6 (HB.out _ HG5.out)
        obtain ⟨a0, a1, a2, a3, b4, c4, d4, b5, c5, d5, ⟨z0, z1, z2, z3, z4, z5⟩, hT⟩ := HIC.out _ HG5.out
        have HSS2 : Hid (S2 = str ((sep (ps.take i) ++ [44]) ++ (quo key.data.toList ++ [58]))) := hid (by rw [← HS2.out, HSS.out, ← HQS.out, str_app, show (⟨#[58]⟩ : ByteArray) = str [58] from rfl, str_app, List.append_assoc])
        have HC := hid (HIT1.out _ _ HQL.out hT)
        have hz4 : ¬ (9223372036854775807 : Int) < (S2.size : Int) + (Q.size : Int) := by omega
        have hz4' : ¬ (9223372036854775807 : Nat) < S2.size + Q.size := by omega
        clear hT
        go_wp2_with (go_at_call 40; with_reducible refine HC.out.mono ?_; rintro e w6 ⟨rfl, hg6⟩; have HG6 := hid (gtrans HG5.out hg6); clear hg6)
        go_roundw
        case rel => exact ⟨i + 1, S2 ++ Q, rfl, by go_num, by omega, hid (by rw [HST.out, if_neg H0.out, HHPI.out, HSS2.out, ← HQs.out, str_app]; simp), HG6⟩
        case measure => simp [intOf]; omega
    · as_aux_lemma =>
      have hd : ¬ (i : Int) < (A : Int) := by omega
      have HSE : Hid (S = str (sep ps)) := hid (by rw [HS.out, List.take_of_length_le (by omega)])
      have hSz : S.size ≤ 1099511627776 := by rw [HSE.out, str_size]; exact hsl
      have hz1 : ¬ (9223372036854775807 : Int) < 1 + (S.size : Int) := by omega
      have hz1' : ¬ (9223372036854775807 : Nat) < 1 + S.size := by omega
      have hz2 : ¬ (9223372036854775807 : Int) < ((⟨#[123]⟩ ++ S).size : Int) + 1 := by
        have e : (⟨#[123]⟩ ++ S : ByteArray).size = 1 + S.size := ByteArray.size_append
        rw [e]; omega
      have hz2' : ¬ (9223372036854775807 : Int) < 1 + (S.size : Int) + 1 := by omega
      have HF : Hid (⟨#[123]⟩ ++ S ++ ⟨#[125]⟩ = R) := hid (by
        rw [HRE.out, HSE.out, show (⟨#[123]⟩ : ByteArray) = str [123] from rfl, show (⟨#[125]⟩ : ByteArray) = str [125] from rfl, str_app, str_app]
        rfl)
      clear HS
      go_wp2_with fail
      go_ret
      exact ⟨by rw [← HF.out]; rfl, gtrans HG0.out HG.out⟩
theorem printR_any : ∀ n, PrintOk n
  | 0 => fun _ t hn _ _ _ _ _ _ _ => by rw [cntT_eq] at hn; omega
  | n + 1 => fun hN t hn hcc hf hl w F v hv => by
    have hOk := printR_any n
    obtain ⟨about, hca⟩ := hcc
    have hk := one_kind (check_one hca).1
    have hcc : ∃ about, checkT t about = 0 := ⟨about, hca⟩
    have : t.kind = 1 ∨ t.kind = 2 ∨ t.kind = 3 ∨ t.kind = 4 ∨ t.kind = 5 ∨ t.kind = 6 := by have h1 := hk.1; have h2 := hk.2.1; omega
    rcases this with h | h | h | h | h | h
    · exact print_one n hOk hN t hn hcc hf hl h w F v hv
    · exact print_two n hOk hN t hn hcc hf hl h w F v hv
    · exact print_three n hOk hN t hn hcc hf hl h w F v hv
    · exact print_four n hOk hN t hn hcc hf hl h w F v hv
    · exact print_five n hOk hN t hn hcc hf hl h w F v hv
    · exact print_six n hOk hN t hn hcc hf hl h w F v hv
end Go.Proofs.YtdmnhkgiojkphaaGreatDoor

namespace Go.Proofs.YtdmnhkgiojkphaaGreatDoor
open Go Go.RowKit Go.Maps
open Go.RowKit (wrap32 wrap64)

theorem quo_le (l : List UInt8) : (quo l).length ≤ 6 * l.length + 2 := by
  unfold quo
  have := escL_le l
  simp only [List.length_cons, List.length_append, List.length_nil]
  omega
theorem quo_leB (k : ByteArray) : (quo k.data.toList).length ≤ 6 * k.size + 2 := by
  have h := quo_le k.data.toList
  have e : k.data.toList.length = k.size := Array.length_toList
  omega
mutual
theorem pr_le : ∀ (t : Tree), Fits t → (pr t).length + 1 ≤ 24 * cntT t
  | .mk k f n t ks is, hf => by
    rw [Fits] at hf
    have hl := prl_le is hf.2
    have hm := prm_le is ks hf.2
    rw [pr, cntT]
    split
    · simp only [nullW, List.length_cons, List.length_nil]; omega
    split
    · split <;> (simp only [trueW, falseW, List.length_cons, List.length_nil]; omega)
    split
    · have := Lib.itoa_length_le n hf.1.1 hf.1.2
      omega
    split
    · have := quo_leB t
      omega
    rw [prs_map]
    split
    · simp only [List.length_cons, List.length_append, List.length_nil]
      omega
    · simp only [List.length_cons, List.length_append, List.length_nil]
      omega
theorem prl_le : ∀ (l : List Tree), FitsL l → (sep (l.map pr)).length ≤ 24 * cntL l
  | [], _ => by simp [sep]
  | [t], h => by
    rw [FitsL] at h
    have := pr_le t h.1
    simp only [List.map_cons, List.map_nil, sep, cntL]
    omega
  | t :: u :: r, h => by
    rw [FitsL] at h
    have h1 := pr_le t h.1
    have h2 := prl_le (u :: r) h.2
    rw [cntL]
    have e : sep ((t :: u :: r).map pr) = pr t ++ 44 :: sep ((u :: r).map pr) := rfl
    rw [e, List.length_append, List.length_cons]
    omega
theorem prm_le : ∀ (l : List Tree) (ks : List ByteArray), FitsL l → (sep (ents ks (l.map pr))).length ≤ 24 * cntL l + 24 * keyN ks
  | [], ks, _ => by simp [ents, sep]
  | _ :: _, [], _ => by simp [ents, sep]
  | [t], k :: kr, h => by
    rw [FitsL] at h
    have h1 := pr_le t h.1
    have h2 := quo_leB k
    have e : sep (ents (k :: kr) ([t].map pr)) = quo k.data.toList ++ 58 :: pr t := by simp [ents, sep]
    rw [e, List.length_append, List.length_cons, cntL, cntL, keyN]
    omega
  | t :: u :: r, [k], h => by
    rw [FitsL] at h
    have h1 := pr_le t h.1
    have h2 := quo_leB k
    have e : sep (ents [k] ((t :: u :: r).map pr)) = quo k.data.toList ++ 58 :: pr t := by simp [ents, sep]
    rw [e, List.length_append, List.length_cons, cntL, keyN, keyN]
    omega
  | t :: u :: r, k :: k2 :: kr, h => by
    rw [FitsL] at h
    have h1 := pr_le t h.1
    have h4 := prm_le (u :: r) (k2 :: kr) h.2
    have h2 := quo_leB k
    have e : sep (ents (k :: k2 :: kr) ((t :: u :: r).map pr)) = quo k.data.toList ++ 58 :: (pr t ++ 44 :: sep (ents (k2 :: kr) ((u :: r).map pr))) := by simp [ents, sep]
    rw [e, List.length_append, List.length_cons, List.length_append, List.length_cons, cntL]
    rw [keyN]
    omega
end
set_option maxRecDepth 100000 in
set_option maxHeartbeats 1000000 in
theorem printRf_ok (t : Tree) (hc : checkT t 0 = 0) (hf : Fits t) (hn : cntT t ≤ 1099511627776) (hl : (pr t).length ≤ 1099511627776) (w : World) (F : Nat → Prop) (v : Value) (hv : RdT w F t v) :
    Calls Tryz.prog 12 #[v] w fun e w' => e = .returned (.tuple #[.string (str (pr t)), .int .i64 0]) ∧ w.grownBy w' none := by
  have hv0 := hv
  rw [RdT_eq] at hv
  obtain ⟨kv, ia, ic, rfl, ⟨ka, kc, rfl, hkr⟩, hc', hi⟩ := hv
  obtain ⟨A, HA⟩ : ∃ A, Hid (t.items.length = A) := ⟨_, hid rfl⟩
  obtain ⟨KN, HKN⟩ : ∃ A, Hid (t.keys.length = A) := ⟨_, hid rfl⟩
  rw [HA.out, HKN.out] at hv0 ⊢
  have g0 : w.grownBy (w.alloc (.cells #[.int .i64 t.kind, .bool t.flag, .int .i64 t.n, .string t.text, .slice ka KN kc, .slice ia A ic] 26)) none := galloc _ _ none
  have c0 := boxed w (.int .i64 t.kind) (.bool t.flag) (.int .i64 t.n) (.string t.text) (.slice ka KN kc) (.slice ia A ic)
  obtain ⟨W0, hW0⟩ : ∃ W0, w.alloc (.cells #[.int .i64 t.kind, .bool t.flag, .int .i64 t.n, .string t.text, .slice ka KN kc, .slice ia A ic] 26) = W0 := ⟨_, rfl⟩
  rw [hW0] at c0 g0
  have HV0 : Hid (∀ u : World, W0.grownBy u none → RdT u F t (.agg #[.int .i64 t.kind, .bool t.flag, .int .i64 t.n, .string t.text, .slice ka KN kc, .slice ia A ic])) := hid (fun u hu => hv0.on (Stays.none (gtrans g0 hu)))
  have hCk := checkRf_any t hn W0 F _ (HV0.out W0 (grefl _ _))
  rw [hc] at hCk
  have HC := hid hCk
  have HG0 := hid g0
  have HB : Hid (∀ u : World, W0.grownBy u none → u.heap[w.heap.size]? = some (.cells #[.int .i64 t.kind, .bool t.flag, .int .i64 t.n, .string t.text, .slice ka KN kc, .slice ia A ic] 26 (0, 0))) := fun u hu => (hu.block _ (Array.getElem?_eq_some_iff.1 c0).1 (by simp)).trans c0
  have HPr : Hid (∀ u : World, W0.grownBy u none → Calls Tryz.prog 40 #[.agg #[.int .i64 t.kind, .bool t.flag, .int .i64 t.n, .string t.text, .slice ka KN kc, .slice ia A ic]] u fun e w' => e = .returned (.string (str (pr t))) ∧ u.grownBy w' none) := hid (fun u hu => printR_any _ hn t (Nat.le_refl _) ⟨0, hc⟩ hf hl u F _ (HV0.out u hu))
  obtain ⟨⟨x0, x1, x2, x3, x4, x5⟩, xf⟩ := cells6 c0
  obtain ⟨PT, HPT⟩ : ∃ P, Hid (str (pr t) = P) := ⟨_, hid rfl⟩
  rw [HPT.out] at HPr ⊢
  clear c0 g0 hv0 hkr hc' hi hn hCk hc hf hl
  go_enter Tryz.func12, Tryz.ntmps12
  go_wp2_with (first
    | (go_at_call 11; refine HC.out.mono ?_; rintro e u2 ⟨rfl, hg2⟩; obtain ⟨⟨x0, x1, x2, x3, x4, x5⟩, xf⟩ := cells6 (HB.out _ hg2))
    | (go_at_call 40; refine (HPr.out _ hg2).mono ?_; rintro e u3 ⟨rfl, hg3⟩))
  go_ret2
  exact ⟨rfl, gtrans HG0.out (gtrans hg2 hg3)⟩
set_option maxRecDepth 100000 in
set_option maxHeartbeats 1000000 in
theorem printRf_bad (t : Tree) (hc : checkT t 0 ≠ 0) (hn : cntT t ≤ 1099511627776) (w : World) (F : Nat → Prop) (v : Value) (hv : RdT w F t v) :
    Calls Tryz.prog 12 #[v] w fun e w' => e = .returned (.tuple #[.string ⟨#[]⟩, .int .i64 (checkT t 0)]) ∧ w.grownBy w' none := by
  have hv0 := hv
  rw [RdT_eq] at hv
  obtain ⟨kv, ia, ic, rfl, ⟨ka, kc, rfl, hkr⟩, hc', hi⟩ := hv
  obtain ⟨A, HA⟩ : ∃ A, Hid (t.items.length = A) := ⟨_, hid rfl⟩
  obtain ⟨KN, HKN⟩ : ∃ A, Hid (t.keys.length = A) := ⟨_, hid rfl⟩
  rw [HA.out, HKN.out] at hv0 ⊢
  have g0 : w.grownBy (w.alloc (.cells #[.int .i64 t.kind, .bool t.flag, .int .i64 t.n, .string t.text, .slice ka KN kc, .slice ia A ic] 26)) none := galloc _ _ none
  have c0 := boxed w (.int .i64 t.kind) (.bool t.flag) (.int .i64 t.n) (.string t.text) (.slice ka KN kc) (.slice ia A ic)
  obtain ⟨W0, hW0⟩ : ∃ W0, w.alloc (.cells #[.int .i64 t.kind, .bool t.flag, .int .i64 t.n, .string t.text, .slice ka KN kc, .slice ia A ic] 26) = W0 := ⟨_, rfl⟩
  rw [hW0] at c0 g0
  have HC := hid (checkRf_any t hn W0 F _ (hv0.on (Stays.none g0)))
  have HG0 := hid g0
  obtain ⟨⟨x0, x1, x2, x3, x4, x5⟩, xf⟩ := cells6 c0
  obtain ⟨R, HR⟩ : ∃ E, Hid (checkT t 0 = E) := ⟨_, hid rfl⟩
  rw [HR.out] at HC hc ⊢
  have hrb : (R != 0) = true := by simpa using hc
  clear c0 g0 hv0 hkr hc' hi hn hc
  go_enter Tryz.func12, Tryz.ntmps12
  go_wp2_with (go_at_call 11; refine HC.out.mono ?_; rintro e u2 ⟨rfl, hg2⟩)
  go_ret2
  exact ⟨rfl, gtrans HG0.out hg2⟩
end Go.Proofs.YtdmnhkgiojkphaaGreatDoor
