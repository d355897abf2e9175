/- The walks of check, Check. -/
import Derived.Test.YtihbpkebknifdaaGreatDoorWalkX
namespace Go.Proofs.YtihbpkebknifdaaGreatDoor
open Go Go.RowKit Go.Maps
open Go.RowKit (wrap32 wrap64)

theorem errs (t : Tree) (about : Nat) : oneE t about = 0 ∨ (oneE t about != 0) = true := by
  by_cases h : oneE t about = 0
  · exact .inl h
  · exact .inr (by simpa using h)
set_option maxRecDepth 100000 in
set_option maxHeartbeats 2000000 in
theorem check_any : ∀ (n : Nat), n ≤ 1099511627776 → ∀ (t : Tree), cntT t ≤ n → ∀ (about : Nat) (w : World) (F : Nat → Prop) (v : Value), RdT w F t v → Glob w → about ≤ 33 →
    Calls Tryz.prog 12 #[v, .int .i64 about] w fun e w' => e = .returned (.int .i64 (checkT t about)) ∧ w.grownBy w' none
  | 0, _, t, hn, _, _, _, _, _, _, _ => by rw [cntT_eq] at hn; omega
  | n + 1, hN, t, hn, about, w, F, v, hv, hG, ha => by
    have ih := check_any n (by omega)
    have hv0 := hv
    rw [RdT_eq] at hv
    obtain ⟨kv, ia, ic, rfl, hkv, hc, hi⟩ := hv
    obtain ⟨ka, kc, rfl, hkr⟩ := hkv
    have hAl : ∀ u : World, w.grownBy u none → Calls Tryz.prog 18 #[.agg #[.int .i64 t.kind, .bool t.flag, .int .i64 t.n, .string t.text, .slice ka t.keys.length kc, .slice ia t.items.length ic], .int .i64 about] u fun e w' => e = .returned (.int .i64 (oneE t about)) ∧ u.grownBy w' none := fun u hu => checkAlone_any t about u F _ (hv0.on (Stays.none hu)) (by omega) (hG.grown hu (fun k hk => by cases hk)) (by omega)
    have hct := checkT_eq t about
    have hlt : oneE t about = 0 → 0 < t.items.length → about < 32 := fun h0 hl => by
      have hk := one_kind h0
      have hs := hk.2.2.1
      unfold spareB at hs
      simp only [Bool.and_eq_true, Bool.or_eq_true, beq_iff_eq] at hs
      rcases hs.2 with h | h
      · omega
      · exact hk.2.2.2.2.2.2 h
    obtain ⟨A, HA⟩ : ∃ A, Hid (t.items.length = A) := ⟨_, hid rfl⟩
    obtain ⟨KN, HKN⟩ : ∃ A, Hid (t.keys.length = A) := ⟨_, hid rfl⟩
    rw [HA.out, HKN.out] at hAl
    have hA : A ≤ 1099511627776 := by have := cntL_length t.items; rw [cntT_eq] at hn; rw [HA.out] at this; omega
    rw [HA.out, HKN.out]
    obtain ⟨E, HE⟩ : ∃ E, Hid (oneE t about = E) := ⟨_, hid rfl⟩
    obtain ⟨R, HR⟩ : ∃ E, Hid (checkT t about = E) := ⟨_, hid rfl⟩
    rw [HE.out] at hAl hct hlt
    rw [HR.out] at hct ⊢
    have HCT := hid hct
    have HAl := hid hAl
    have HLT := hid hlt
    have HI := hid hi
    have HIH := hid ih
    have HN := hid hn
    have HGl := hid hG
    obtain ⟨W0, hW0⟩ : ∃ W0, w.alloc (.cells #[.int .i64 t.kind, .bool t.flag, .int .i64 t.n, .string t.text, .slice ka KN kc, .slice ia A ic] 25) = W0 := ⟨_, rfl⟩
    have c0 := boxed w (.int .i64 t.kind) (.bool t.flag) (.int .i64 t.n) (.string t.text) (.slice ka KN kc) (.slice ia A ic)
    have g0 : w.grownBy W0 none := by rw [← hW0]; exact galloc _ _ none
    rw [hW0] at c0
    have HG0 := hid g0
    have HB : Hid (∀ u : World, W0.grownBy u none → u.heap[w.heap.size]? = some (.cells #[.int .i64 t.kind, .bool t.flag, .int .i64 t.n, .string t.text, .slice ka KN kc, .slice ia A ic] 25 (0, 0))) := fun u hu => (hu.block _ (Array.getElem?_eq_some_iff.1 c0).1 (by simp)).trans c0
    obtain ⟨⟨x0, x1, x2, x3, x4, x5⟩, xf⟩ := cells6 c0
    clear c0 g0 hi ih hn hN hct hAl hlt hG hv0 hkr hc
    by_cases hE0 : E = 0
    · subst hE0
      have HCL : Hid (R = checkL t.items (about + 1)) := by rw [HCT.out, if_pos rfl]; exact rfl
      clear HCT
      go_enter Tryz.func12, Tryz.ntmps12
      go_wp2_with (go_at_call 18; refine (HAl.out _ HG0.out).mono ?_; rintro e u2 ⟨rfl, hg2⟩; obtain ⟨⟨x0, x1, x2, x3, x4, x5⟩, xf⟩ := cells6 (HB.out _ hg2))
      have HG1 := hid (gtrans HG0.out hg2)
      clear hg2
      go_loopw [18] (fun iv wr => ∃ (i : Nat), iv = .int .i64 i ∧ i ≤ A ∧ Hid (w.grownBy wr none) ∧ Hid (R = checkL (t.items.drop i) (about + 1))) (fun iv _ => A - (intOf iv).toNat)
      case atStart => exact ⟨0, rfl, Nat.zero_le _, HG1, HCL⟩
      case round =>
        obtain ⟨i, rfl, hi', HG, HD⟩ := hrel
        by_cases hlt : i < A
        · have hd : decide ((i : Int) < (A : Int)) = true := decide_eq_true (by omega)
          have hitl : i < t.items.length := by have := HA.out; omega
          obtain ⟨g, o, rfl, hg, hF', hRd⟩ := HI.out (by omega)
          obtain ⟨a0, a1, a2, a3, b4, c4, d4, b5, c5, d5, z0, z1, z2, z3, z4, z5, hT⟩ := hRd.atS (Stays.none HG.out) hF' hg i hitl
          have hab : about < 32 := HLT.out (by first | rfl | trivial) (by omega)
          have hgz : wr.grownBy (wr.alloc (.cells #[.int .i64 a0, .bool a1, .int .i64 a2, .string a3, .slice b4 c4 d4, .slice b5 c5 d5] 25)) none := galloc _ _ none
          have k1 := boxed wr (.int .i64 a0) (.bool a1) (.int .i64 a2) (.string a3) (.slice b4 c4 d4) (.slice b5 c5 d5)
          obtain ⟨W1, hW1⟩ : ∃ W1, wr.alloc (.cells #[.int .i64 a0, .bool a1, .int .i64 a2, .string a3, .slice b4 c4 d4, .slice b5 c5 d5] 25) = W1 := ⟨_, rfl⟩
          rw [hW1] at k1 hgz
          have HC : Hid (Calls Tryz.prog 12 #[.agg #[.int .i64 a0, .bool a1, .int .i64 a2, .string a3, .slice b4 c4 d4, .slice b5 c5 d5], .int .i64 ((about + 1 : Nat) : Int)] W1 fun e w' => e = .returned (.int .i64 (checkT t.items[i] (about + 1))) ∧ W1.grownBy w' none) := hid (HIH.out t.items[i] (by have h1 := cntL_mem (List.getElem_mem hitl); have h2 := HN.out; rw [cntT_eq] at h2; omega) (about + 1) W1 F _ (hT.on (Stays.none hgz)) (HGl.out.grown (gtrans HG.out hgz) (fun k hk => by cases hk)) (by omega))
          have HGz := hid (gtrans HG.out hgz)
          obtain ⟨⟨q0, q1, q2, q3, q4, q5⟩, qf⟩ := cells6 k1
          have hdr : checkL (t.items.drop i) (about + 1) = if checkT t.items[i] (about + 1) = 0 then checkL (t.items.drop (i + 1)) (about + 1) else checkT t.items[i] (about + 1) := by rw [List.drop_eq_getElem_cons hitl, checkL]
          obtain ⟨X, HX⟩ : ∃ E, Hid (checkT t.items[i] (about + 1) = E) := ⟨_, hid rfl⟩
          rw [HX.out] at hdr HC
          have HDR := hid hdr
          clear hT hRd hgz k1 hdr
          go_wp2_with fail
          refine HC.out.mono ?_
          rintro e w2 ⟨rfl, hg2⟩
          have HG2 := hid (gtrans HGz.out hg2)
          clear hg2
          by_cases hX0 : X = 0
          · subst hX0
            go_wp2_with fail
            exact ⟨⟨i + 1, rfl, by omega, HG2, hid (by rw [HD.out, HDR.out]; simp)⟩, by simp only [intOf]; omega⟩
          · have hxb : (X != 0) = true := by simpa using hX0
            have HX0 := hid hX0
            clear hX0
            go_wp2_with fail
            go_ret
            exact ⟨by rw [HD.out, HDR.out, if_neg HX0.out]; rfl, HG2.out⟩
        · have hd : decide ((i : Int) < (A : Int)) = false := decide_eq_false (by omega)
          go_wp2_with fail
          go_ret
          refine ⟨?_, HG.out⟩
          rw [HD.out, List.drop_eq_nil_of_le (by have := HA.out; omega)]
          rfl
    · have heb : (E != 0) = true := by simpa using hE0
      have HF : Hid (R = E) := by rw [HCT.out, if_neg hE0]; exact rfl
      clear hE0 HCT
      go_enter Tryz.func12, Tryz.ntmps12
      go_wp2_with (go_at_call 18; refine (HAl.out _ HG0.out).mono ?_; rintro e u2 ⟨rfl, hg2⟩)
      go_ret
      exact ⟨by rw [HF.out]; rfl, gtrans HG0.out hg2⟩
set_option maxRecDepth 100000 in
theorem checkF_any (t : Tree) (hn : cntT t ≤ 1099511627776) (w : World) (F : Nat → Prop) (v : Value) (hv : RdT w F t v) (hG : Glob w) :
    Calls Tryz.prog 6 #[v] w fun e w' => e = .returned (.int .i64 (checkT t 0)) ∧ w.grownBy w' none := by
  have hv0 := hv
  rw [RdT_eq] at hv
  obtain ⟨kv, ia, ic, rfl, ⟨ka, kc, rfl, hkr⟩, hc, hi⟩ := hv
  obtain ⟨A, HA⟩ : ∃ A, Hid (t.items.length = A) := ⟨_, hid rfl⟩
  obtain ⟨KN, HKN⟩ : ∃ A, Hid (t.keys.length = A) := ⟨_, hid rfl⟩
  rw [HA.out, HKN.out] at hv0 ⊢
  have g0 : w.grownBy (w.alloc (.cells #[.int .i64 t.kind, .bool t.flag, .int .i64 t.n, .string t.text, .slice ka KN kc, .slice ia A ic] 25)) none := galloc _ _ none
  have c0 := boxed w (.int .i64 t.kind) (.bool t.flag) (.int .i64 t.n) (.string t.text) (.slice ka KN kc) (.slice ia A ic)
  obtain ⟨W0, hW0⟩ : ∃ W0, w.alloc (.cells #[.int .i64 t.kind, .bool t.flag, .int .i64 t.n, .string t.text, .slice ka KN kc, .slice ia A ic] 25) = W0 := ⟨_, rfl⟩
  rw [hW0] at c0 g0
  have HC := hid (check_any _ hn t (Nat.le_refl _) 0 W0 F _ (hv0.on (Stays.none g0)) (hG.grown g0 (fun k hk => by cases hk)) (by omega))
  have HG0 := hid g0
  obtain ⟨⟨x0, x1, x2, x3, x4, x5⟩, xf⟩ := cells6 c0
  obtain ⟨R, HR⟩ : ∃ E, Hid (checkT t 0 = E) := ⟨_, hid rfl⟩
  rw [HR.out] at HC ⊢
  clear c0 g0 hv0 hkr hc hi hG hn
  go_enter Tryz.func6, Tryz.ntmps6
  go_wp2_with fail
  refine HC.out.mono ?_
  rintro e w' ⟨rfl, hg⟩
  have HG1 := hid (gtrans HG0.out hg)
  clear hg
  go_wp2_with fail
  go_ret
  exact ⟨rfl, HG1.out⟩
end Go.Proofs.YtihbpkebknifdaaGreatDoor
