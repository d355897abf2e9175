/- The reference's check and Check, walked. -/
import Derived.Test.YtdmnhkgiojkphaaGreatDoorPgH
import Derived.Test.YtdmnhkgiojkphaaGreatDoorX21
namespace Go.Proofs.YtdmnhkgiojkphaaGreatDoor
open Go Go.RowKit Go.Maps
open Go.RowKit (wrap32 wrap64)

set_option maxRecDepth 100000 in
set_option maxHeartbeats 2000000 in
theorem checkR_any : ∀ (n : Nat), n ≤ 1099511627776 → ∀ (t : Tree), cntT t ≤ n → ∀ (about : Nat) (w : World) (F : Nat → Prop) (v : Value), RdT w F t v → about ≤ 33 →
    Calls Tryz.prog 39 #[v, .int .i64 about] w fun e w' => e = .returned (.int .i64 (checkT t about)) ∧ w.grownBy w' none
  | 0, _, t, hn, _, _, _, _, _, _ => by rw [cntT_eq] at hn; omega
  | n + 1, hN, t, hn, about, w, F, v, hv, ha => by
    have ih := checkR_any n (by omega)
    have hv0 := hv
    rw [RdT_eq] at hv
    obtain ⟨kv, ia, ic, rfl, hkv, hc, hi⟩ := hv
    obtain ⟨ka, kc, rfl, hkr⟩ := hkv
    have hAl : ∀ u : World, w.grownBy u none → Calls Tryz.prog 67 #[.agg #[.int .i64 t.kind, .bool t.flag, .int .i64 t.n, .string t.text, .slice ka t.keys.length kc, .slice ia t.items.length ic], .int .i64 about] u fun e w' => e = .returned (.int .i64 (oneE t about)) ∧ u.grownBy w' none := fun u hu => oneR_any t about u F _ (hv0.on (Stays.none hu)) (by omega) (by omega)
    have hct := checkT_eq t about
    have hlt : oneE t about = 0 → 0 < t.items.length → about < 32 := fun h0 hl => by
      have hk := one_kind h0
      have hs := hk.2.2.1
      unfold spareB at hs
      simp only [Bool.and_eq_true, Bool.or_eq_true, beq_iff_eq] at hs
      rcases hs.2 with h | h
      · omega
      · exact hk.2.2.2.2.2.2 h
    obtain ⟨A, HA⟩ : ∃ A, Hid (t.items.length = A) := ⟨_, hid rfl⟩
    obtain ⟨KN, HKN⟩ : ∃ A, Hid (t.keys.length = A) := ⟨_, hid rfl⟩
    rw [HA.out, HKN.out] at hAl
    have hA : A ≤ 1099511627776 := by have := cntL_length t.items; rw [cntT_eq] at hn; rw [HA.out] at this; omega
    rw [HA.out, HKN.out]
    obtain ⟨E, HE⟩ : ∃ E, Hid (oneE t about = E) := ⟨_, hid rfl⟩
    obtain ⟨R, HR⟩ : ∃ E, Hid (checkT t about = E) := ⟨_, hid rfl⟩
    rw [HE.out] at hAl hct hlt
    rw [HR.out] at hct ⊢
    have HCT : Hid (R = if E = 0 then checkL (t.items.drop 0) (about + 1) else E) := hid hct
    have HAl := hid hAl
    have HLT : Hid (E = 0 → 0 < A → about < 32) := hid (by rw [← HA.out]; exact hlt)
    have HI := hid hi
    have HIH := hid ih
    have HN := hid hn
    obtain ⟨W0, hW0⟩ : ∃ W0, w.alloc (.cells #[.int .i64 t.kind, .bool t.flag, .int .i64 t.n, .string t.text, .slice ka KN kc, .slice ia A ic] 26) = W0 := ⟨_, rfl⟩
    have c0 := boxed w (.int .i64 t.kind) (.bool t.flag) (.int .i64 t.n) (.string t.text) (.slice ka KN kc) (.slice ia A ic)
    have g0 : w.grownBy W0 none := by rw [← hW0]; exact galloc _ _ none
    rw [hW0] at c0
    have HG0 := hid g0
    have HB : Hid (∀ u : World, W0.grownBy u none → u.heap[w.heap.size]? = some (.cells #[.int .i64 t.kind, .bool t.flag, .int .i64 t.n, .string t.text, .slice ka KN kc, .slice ia A ic] 26 (0, 0))) := fun u hu => (hu.block _ (Array.getElem?_eq_some_iff.1 c0).1 (by simp)).trans c0
    obtain ⟨⟨x0, x1, x2, x3, x4, x5⟩, xf⟩ := cells6 c0
    clear c0 g0 hi ih hn hN hct hAl hlt hv0 hkr hc
    go_enter Tryz.func39, Tryz.ntmps39
    go_wp2_with (go_at_call 67; refine (HAl.out _ HG0.out).mono ?_; rintro e u2 ⟨rfl, hg2⟩)
    have HG1 := hid hg2
    clear hg2 x0 x1 x2 x3 x4 x5 xf
    go_loopw [5, 6] (fun ev iv wr => ∃ (i : Nat) (X : Int), ev = .int .i64 X ∧ iv = .int .i64 i ∧ i ≤ A ∧ Hid (W0.grownBy wr none) ∧ Hid (X = 0 → i < A → about < 32) ∧ Hid (R = if X = 0 then checkL (t.items.drop i) (about + 1) else X)) (fun _ iv _ => A - (intOf iv).toNat)
    case atStart => exact ⟨0, E, rfl, rfl, Nat.zero_le _, HG1, HLT, HCT⟩
    case round =>
      clear HCT HLT HG1
      obtain ⟨i, X, rfl, rfl, hi', HG, HL, HD⟩ := hrel
      obtain ⟨⟨x0, x1, x2, x3, x4, x5⟩, xf⟩ := cells6 (HB.out _ HG.out)
      by_cases hlt : i < A
      · have hd : (i : Int) < (A : Int) := by omega
        by_cases hX : X = 0
        · as_aux_lemma =>
          subst hX
          have hitl : i < t.items.length := by have := HA.out; omega
          obtain ⟨g, o, rfl, hg, hF', hRd⟩ := HI.out (by omega)
          obtain ⟨a0, a1, a2, a3, b4, c4, d4, b5, c5, d5, z0, z1, z2, z3, z4, z5, hT⟩ := hRd.atS (Stays.none (gtrans HG0.out HG.out)) hF' hg i hitl
          have hab : about < 32 := HL.out rfl hlt
          have HC : Hid (Calls Tryz.prog 39 #[.agg #[.int .i64 a0, .bool a1, .int .i64 a2, .string a3, .slice b4 c4 d4, .slice b5 c5 d5], .int .i64 ((about + 1 : Nat) : Int)] wr fun e w' => e = .returned (.int .i64 (checkT t.items[i] (about + 1))) ∧ wr.grownBy w' none) := hid (HIH.out t.items[i] (by
            have h1 := cntL_mem (List.getElem_mem hitl)
            have h2 := HN.out
            rw [cntT_eq] at h2
            omega) (about + 1) wr F _ hT (by omega))
          have hdr : checkL (t.items.drop i) (about + 1) = if checkT t.items[i] (about + 1) = 0 then checkL (t.items.drop (i + 1)) (about + 1) else checkT t.items[i] (about + 1) := by rw [List.drop_eq_getElem_cons hitl, checkL]
          obtain ⟨Y, HY⟩ : ∃ E, Hid (checkT t.items[i] (about + 1) = E) := ⟨_, hid rfl⟩
          rw [HY.out] at hdr HC
          have HD2 : Hid (R = if Y = 0 then checkL (t.items.drop (i + 1)) (about + 1) else Y) := hid (by rw [HD.out, if_pos rfl, hdr])
          have HL2 : Hid (Y = 0 → i + 1 < A → about < 32) := hid (fun _ _ => hab)
          clear hT hRd hdr HD HL
          go_wp2_with fail
          refine HC.out.mono ?_
          rintro e w2 ⟨rfl, hg2⟩
          have HG2 := hid (gtrans HG.out hg2)
          clear hg2
          go_wp2_with fail
          go_roundw
          case rel => exact ⟨i + 1, Y, rfl, by go_num, by omega, HG2, HL2, HD2⟩
          case measure => simp [intOf]; omega
        · as_aux_lemma =>
          have hxb : (X == 0) = false := beq_eq_false_iff_ne.2 hX
          have HF : Hid (R = X) := hid (by rw [HD.out, if_neg hX])
          clear hX HD HL
          go_wp2_with fail
          go_ret
          exact ⟨by rw [HF.out]; rfl, gtrans HG0.out HG.out⟩
      · as_aux_lemma =>
        have hd : ¬ (i : Int) < (A : Int) := by omega
        have HF : Hid (R = X) := hid (by
          rw [HD.out, List.drop_eq_nil_of_le (by have := HA.out; omega)]
          by_cases h : X = 0
          · rw [if_pos h, h]; rfl
          · rw [if_neg h])
        clear HD HL
        go_wp2_with fail
        go_ret
        exact ⟨by rw [HF.out]; rfl, gtrans HG0.out HG.out⟩
set_option maxRecDepth 100000 in
set_option maxHeartbeats 2000000 in
/-- The reference's Check. -/
theorem checkRf_any (t : Tree) (hn : cntT t ≤ 1099511627776) (w : World) (F : Nat → Prop) (v : Value) (hv : RdT w F t v) :
    Calls Tryz.prog 11 #[v] w fun e w' => e = .returned (.int .i64 (checkT t 0)) ∧ w.grownBy w' none := by
  have hv0 := hv
  rw [RdT_eq] at hv
  obtain ⟨kv, ia, ic, rfl, ⟨ka, kc, rfl, hkr⟩, hc, hi⟩ := hv
  obtain ⟨A, HA⟩ : ∃ A, Hid (t.items.length = A) := ⟨_, hid rfl⟩
  obtain ⟨KN, HKN⟩ : ∃ A, Hid (t.keys.length = A) := ⟨_, hid rfl⟩
  rw [HA.out, HKN.out] at hv0 ⊢
  have HC := hid (checkR_any _ (Nat.le_refl _) t hn 0 (w.alloc (.cells #[.int .i64 t.kind, .bool t.flag, .int .i64 t.n, .string t.text, .slice ka KN kc, .slice ia A ic] 26)) F _ (hv0.on (Stays.none (galloc _ _ none))) (by omega))
  obtain ⟨⟨x0, x1, x2, x3, x4, x5⟩, xf⟩ := cells6 (boxed w (.int .i64 t.kind) (.bool t.flag) (.int .i64 t.n) (.string t.text) (.slice ka KN kc) (.slice ia A ic))
  clear hv0 hkr hc hi hn
  go_enter Tryz.func11, Tryz.ntmps11
  go_wp2_with (go_at_call 39; refine HC.out.mono ?_; rintro e w2 ⟨rfl, hg2⟩)
  go_ret
  exact ⟨rfl, gtrans (galloc _ _ none) hg2⟩
end Go.Proofs.YtdmnhkgiojkphaaGreatDoor
