/- Equal: equal, Equal: walked. -/
import Derived.Test.YtihbpkebknifdaaGreatDoorX48
namespace Go.Proofs.YtihbpkebknifdaaGreatDoor
open Go Go.RowKit Go.Maps
open Go.RowKit (wrap32 wrap64)

set_option maxRecDepth 100000 in
set_option maxHeartbeats 4000000 in
theorem equal_any : ∀ (n : Nat), n ≤ 1099511627776 → EqOk n
  | 0, _ => fun t _ hn => by rw [cntT_eq] at hn; omega
  | n + 1, hN => fun t u hn hu hgt hgu w F G a b ha hb => by
    have ih := equal_any n (by omega)
    have HM : Hid (∀ w' : World, w.grownBy w' none → t.kind = 6 → u.kind = 6 → Calls Tryz.prog 24 #[a, b] w' fun e w2 => e = .returned (.bool (eqM t.items t.keys u.keys u.items)) ∧ w'.grownBy w2 none) := fun w' hg h1 h2 =>
      equalMaps_any n ih t u (by rw [cntT_eq] at hn; omega) (by omega) (by omega) hu hgt hgu h1 h2 w' F G a b (ha.on (Stays.none hg)) (hb.on (Stays.none hg))
    obtain ⟨ka, ia, rfl, hka, hia⟩ := RdT_split ha
    obtain ⟨kb, ib, rfl, hkb, hib⟩ := RdT_split hb
    have HF : Hid (∀ w' : World, w.grownBy w' none → t.items.length = u.items.length → Calls Tryz.prog 23 #[ia, ib, .func (.func 17) #[] #[]] w' fun e w2 => e = .returned (.bool (eqL t.items u.items)) ∧ w'.grownBy w2 none) := fun w' hg h1 =>
      equalFunc_any n ih t.items u.items (by rw [cntT_eq] at hn; omega) (by omega) (by rw [cntT_eq] at hu; omega) h1 (fun x hx => hgt.item hx) (fun x hx => hgu.item hx) w' F G ia ib (hia.on (Stays.none hg)) (hib.on (Stays.none hg)) _ rfl
    have h8 : t.items.length ≤ 1099511627776 := by have := cntL_length t.items; rw [cntT_eq] at hn; omega
    have h9 : u.items.length ≤ 1099511627776 := by have := cntL_length u.items; rw [cntT_eq] at hu; omega
    have HEQ := hid (eqT_eq t u)
    clear ih hN hn hu ha hb hgt hgu
    obtain ⟨pa, ca, rfl, hca, hka⟩ := hka
    obtain ⟨pb, cb, rfl, hcb, hkb⟩ := hkb
    obtain ⟨qa, da, rfl, hda, hia⟩ := hia
    obtain ⟨qb, db, rfl, hdb, hib⟩ := hib
    clear hka hkb hia hib hca hcb hda hdb
    obtain ⟨R, HR⟩ : ∃ R, Hid (eqT t u = R) := ⟨_, hid rfl⟩
    rw [HR.out] at HEQ ⊢
    obtain ⟨EL, HEL⟩ : ∃ E, Hid (eqL t.items u.items = E) := ⟨_, hid rfl⟩
    obtain ⟨EM, HEM⟩ : ∃ E, Hid (eqM t.items t.keys u.keys u.items = E) := ⟨_, hid rfl⟩
    rw [HEL.out] at HF HEQ
    rw [HEM.out] at HM HEQ
    obtain ⟨A1, HA1⟩ : ∃ A, Hid (t.items.length = A) := ⟨_, hid rfl⟩
    obtain ⟨A2, HA2⟩ : ∃ A, Hid (u.items.length = A) := ⟨_, hid rfl⟩
    rw [HA1.out] at HF HM HEQ h8 ⊢
    rw [HA2.out] at HF HM HEQ h9 ⊢
    obtain ⟨B1, HB1⟩ : ∃ A, Hid (t.keys.length = A) := ⟨_, hid rfl⟩
    obtain ⟨B2, HB2⟩ : ∃ A, Hid (u.keys.length = A) := ⟨_, hid rfl⟩
    rw [HB1.out] at HM ⊢
    rw [HB2.out] at HM ⊢
    obtain ⟨k1, HK1⟩ : ∃ k, Hid (t.kind = k) := ⟨_, hid rfl⟩
    obtain ⟨k2, HK2⟩ : ∃ k, Hid (u.kind = k) := ⟨_, hid rfl⟩
    rw [HK1.out] at HM HEQ ⊢
    rw [HK2.out] at HM HEQ ⊢
    obtain ⟨f1, HF1⟩ : ∃ k, Hid (t.flag = k) := ⟨_, hid rfl⟩
    obtain ⟨f2, HF2⟩ : ∃ k, Hid (u.flag = k) := ⟨_, hid rfl⟩
    rw [HF1.out] at HM HEQ ⊢
    rw [HF2.out] at HM HEQ ⊢
    obtain ⟨n1, HN1⟩ : ∃ k, Hid (t.n = k) := ⟨_, hid rfl⟩
    obtain ⟨n2, HN2⟩ : ∃ k, Hid (u.n = k) := ⟨_, hid rfl⟩
    rw [HN1.out] at HM HEQ ⊢
    rw [HN2.out] at HM HEQ ⊢
    obtain ⟨s1, HS1⟩ : ∃ k, Hid (t.text = k) := ⟨_, hid rfl⟩
    obtain ⟨s2, HS2⟩ : ∃ k, Hid (u.text = k) := ⟨_, hid rfl⟩
    rw [HS1.out] at HM HEQ ⊢
    rw [HS2.out] at HM HEQ ⊢
    clear HEL HEM HA1 HA2 HB1 HB2 HK1 HK2 HF1 HF2 HN1 HN2 HS1 HS2 HR
    obtain ⟨W0, hW0⟩ : ∃ W0, (w.alloc (.cells #[.int .i64 k1, .bool f1, .int .i64 n1, .string s1, .slice pa B1 ca, .slice qa A1 da] 25)).alloc (.cells #[.int .i64 k2, .bool f2, .int .i64 n2, .string s2, .slice pb B2 cb, .slice qb A2 db] 25) = W0 := ⟨_, rfl⟩
    have c0 : W0.heap[w.heap.size]? = some (.cells #[.int .i64 k1, .bool f1, .int .i64 n1, .string s1, .slice pa B1 ca, .slice qa A1 da] 25 (0, 0)) := by
      rw [← hW0]; exact alloc_keeps (heap_alloc_new w _) _
    have c1 : W0.heap[w.heap.size + 1]? = some (.cells #[.int .i64 k2, .bool f2, .int .i64 n2, .string s2, .slice pb B2 cb, .slice qb A2 db] 25 (0, 0)) := by
      rw [← hW0]
      have := heap_alloc_new (w.alloc (.cells #[.int .i64 k1, .bool f1, .int .i64 n1, .string s1, .slice pa B1 ca, .slice qa A1 da] 25)) (.cells #[.int .i64 k2, .bool f2, .int .i64 n2, .string s2, .slice pb B2 cb, .slice qb A2 db] 25)
      simpa using this
    have g0 : w.grownBy W0 none := by rw [← hW0]; exact gtrans (galloc _ _ none) (galloc _ _ none)
    obtain ⟨⟨x0, x1, x2, x3, x4, x5⟩, xf⟩ := cells6 c0
    obtain ⟨⟨y0, y1, y2, y3, y4, y5⟩, yf⟩ := cells6 c1
    have HG0 := hid g0
    clear c0 c1 g0
    by_cases hk : k1 = k2
    · subst hk
      have ek : (k1 != k1) = false := by simp
      by_cases hA : A1 = A2
      · subst hA
        have eA : ((A1 : Int) != (A1 : Int)) = false := by simp
        have HEQ2 : Hid (R = (if k1 = 5 then EL else if k1 = 6 then EM else (f1 == f2 && n1 == n2) && s1.toList == s2.toList)) := hid (by rw [HEQ.out]; simp)
        clear HEQ
        by_cases h5 : k1 = 5
        · have e5 : (k1 == 5) = true := by rw [h5]; rfl
          have HRE : Hid (R = EL) := by rw [HEQ2.out, if_pos h5]; exact rfl
          have HF' := hid (HF.out W0 HG0.out rfl)
          clear h5 HEQ2 HM HF
          go_enter Tryz.func17, Tryz.ntmps17
          go_wp2_with (go_at_call 23; refine HF'.out.mono ?_; rintro e w2 ⟨rfl, hg2⟩)
          go_ret
          exact ⟨by rw [HRE.out]; rfl, gtrans HG0.out hg2⟩
        · have e5 : (k1 == 5) = false := beq_eq_false_iff_ne.2 h5
          by_cases h6 : k1 = 6
          · have e6 : (k1 == 6) = true := by rw [h6]; rfl
            have HRE : Hid (R = EM) := by rw [HEQ2.out, if_neg h5, if_pos h6]; exact rfl
            have HM' := hid (HM.out W0 HG0.out h6 h6)
            clear h5 h6 HEQ2 HM HF
            go_enter Tryz.func17, Tryz.ntmps17
            go_wp2_with (go_at_call 24; refine HM'.out.mono ?_; rintro e w2 ⟨rfl, hg2⟩)
            go_ret
            exact ⟨by rw [HRE.out]; rfl, gtrans HG0.out hg2⟩
          · have e6 : (k1 == 6) = false := beq_eq_false_iff_ne.2 h6
            have HRE : Hid (R = ((f1 == f2 && n1 == n2) && s1.toList == s2.toList)) := by rw [HEQ2.out, if_neg h5, if_neg h6]; exact rfl
            clear h5 h6 HEQ2 HM HF
            cases hf : f1 == f2 with
            | false =>
              have HRF : Hid (R = false) := by rw [HRE.out, hf]; exact rfl
              clear HRE
              go_enter Tryz.func17, Tryz.ntmps17
              go_wp2_with fail
              go_ret
              exact ⟨by rw [HRF.out]; rfl, HG0.out⟩
            | true =>
              cases hn1 : n1 == n2 with
              | false =>
                have HRF : Hid (R = false) := by rw [HRE.out, hf, hn1]; exact rfl
                clear HRE
                go_enter Tryz.func17, Tryz.ntmps17
                go_wp2_with fail
                go_ret
                exact ⟨by rw [HRF.out]; rfl, HG0.out⟩
              | true =>
                have HRF : Hid (R = (s1.toList == s2.toList)) := by rw [HRE.out, hf, hn1]; exact rfl
                clear HRE
                go_enter Tryz.func17, Tryz.ntmps17
                go_wp2_with fail
                go_ret
                exact ⟨by rw [HRF.out]; rfl, HG0.out⟩
      · have eA : ((A1 : Int) != (A2 : Int)) = true := by simp; omega
        have eA2 : (A1 == A2) = false := by simp; omega
        have HRF : Hid (R = false) := hid (by rw [HEQ.out, eA2]; simp)
        clear HEQ HM HF
        go_enter Tryz.func17, Tryz.ntmps17
        go_wp2_with fail
        go_ret
        exact ⟨by rw [HRF.out]; rfl, HG0.out⟩
    · have ek : (k1 != k2) = true := by simpa using hk
      have ek2 : (k1 == k2) = false := by simpa using hk
      have HRF : Hid (R = false) := by rw [HEQ.out, ek2]; exact rfl
      clear HEQ HM HF hk
      go_enter Tryz.func17, Tryz.ntmps17
      go_wp2_with fail
      go_ret
      exact ⟨by rw [HRF.out]; rfl, HG0.out⟩

set_option maxRecDepth 100000 in
set_option maxHeartbeats 4000000 in
/-- Equal of two trees that may be. -/
theorem equalF_any (t u : Tree) (ht : cntT t ≤ 1099511627776) (hu : cntT u ≤ 1099511627776) (hct : checkT t 0 = 0) (hcu : checkT u 0 = 0) (w : World) (F G : Nat → Prop) (a b : Value) (ha : RdT w F t a) (hb : RdT w G u b) (hG : Glob w) :
    Calls Tryz.prog 11 #[a, b] w fun e w' => e = .returned (.bool (eqT t u)) ∧ w.grownBy w' none := by
  have HC1 : Hid (∀ w' : World, w.grownBy w' none → Calls Tryz.prog 6 #[a] w' fun e w2 => e = .returned (.int .i64 0) ∧ w'.grownBy w2 none) := fun w' hg => by
    have := checkF_any t ht w' F a (ha.on (Stays.none hg)) (hG.grown hg (fun k hk => by cases hk))
    rw [hct] at this
    exact this
  have HC2 : Hid (∀ w' : World, w.grownBy w' none → Calls Tryz.prog 6 #[b] w' fun e w2 => e = .returned (.int .i64 0) ∧ w'.grownBy w2 none) := fun w' hg => by
    have := checkF_any u hu w' G b (hb.on (Stays.none hg)) (hG.grown hg (fun k hk => by cases hk))
    rw [hcu] at this
    exact this
  have HE : Hid (∀ w' : World, w.grownBy w' none → Calls Tryz.prog 17 #[a, b] w' fun e w2 => e = .returned (.bool (eqT t u)) ∧ w'.grownBy w2 none) := fun w' hg =>
    equal_any _ ht t u (Nat.le_refl _) hu ⟨0, hct⟩ ⟨0, hcu⟩ w' F G a b (ha.on (Stays.none hg)) (hb.on (Stays.none hg))
  obtain ⟨ka, ia, rfl, hka, hia⟩ := RdT_split ha
  obtain ⟨kb, ib, rfl, hkb, hib⟩ := RdT_split hb
  clear ht hu ha hb hct hcu hG
  obtain ⟨pa, ca, rfl, hca, hka⟩ := hka
  obtain ⟨pb, cb, rfl, hcb, hkb⟩ := hkb
  obtain ⟨qa, da, rfl, hda, hia⟩ := hia
  obtain ⟨qb, db, rfl, hdb, hib⟩ := hib
  clear hka hkb hia hib hca hcb hda hdb
  generalize t.items.length = A1 at *
  generalize u.items.length = A2 at *
  generalize t.keys.length = B1 at *
  generalize u.keys.length = B2 at *
  generalize eqT t u = R at *
  generalize t.kind = k1 at *
  generalize u.kind = k2 at *
  generalize t.flag = f1 at *
  generalize u.flag = f2 at *
  generalize t.n = n1 at *
  generalize u.n = n2 at *
  generalize t.text = s1 at *
  generalize u.text = s2 at *
  obtain ⟨W0, hW0⟩ : ∃ W0, (w.alloc (.cells #[.int .i64 k1, .bool f1, .int .i64 n1, .string s1, .slice pa B1 ca, .slice qa A1 da] 25)).alloc (.cells #[.int .i64 k2, .bool f2, .int .i64 n2, .string s2, .slice pb B2 cb, .slice qb A2 db] 25) = W0 := ⟨_, rfl⟩
  have c0 : W0.heap[w.heap.size]? = some (.cells #[.int .i64 k1, .bool f1, .int .i64 n1, .string s1, .slice pa B1 ca, .slice qa A1 da] 25 (0, 0)) := by
    rw [← hW0]; exact alloc_keeps (heap_alloc_new w _) _
  have c1 : W0.heap[w.heap.size + 1]? = some (.cells #[.int .i64 k2, .bool f2, .int .i64 n2, .string s2, .slice pb B2 cb, .slice qb A2 db] 25 (0, 0)) := by
    rw [← hW0]
    have := heap_alloc_new (w.alloc (.cells #[.int .i64 k1, .bool f1, .int .i64 n1, .string s1, .slice pa B1 ca, .slice qa A1 da] 25)) (.cells #[.int .i64 k2, .bool f2, .int .i64 n2, .string s2, .slice pb B2 cb, .slice qb A2 db] 25)
    simpa using this
  have g0 : w.grownBy W0 none := by rw [← hW0]; exact gtrans (galloc _ _ none) (galloc _ _ none)
  have HX : Hid (∀ v : World, W0.grownBy v none → v.heap[w.heap.size]? = some (.cells #[.int .i64 k1, .bool f1, .int .i64 n1, .string s1, .slice pa B1 ca, .slice qa A1 da] 25 (0, 0)) ∧ v.heap[w.heap.size + 1]? = some (.cells #[.int .i64 k2, .bool f2, .int .i64 n2, .string s2, .slice pb B2 cb, .slice qb A2 db] 25 (0, 0))) := fun v hv =>
    ⟨(hv.block _ (Array.getElem?_eq_some_iff.1 c0).1 (by simp)).trans c0, (hv.block _ (Array.getElem?_eq_some_iff.1 c1).1 (by simp)).trans c1⟩
  obtain ⟨⟨x0, x1, x2, x3, x4, x5⟩, xf⟩ := cells6 c0
  obtain ⟨⟨y0, y1, y2, y3, y4, y5⟩, yf⟩ := cells6 c1
  have HG0 := hid g0
  clear c0 c1 g0
  go_enter Tryz.func11, Tryz.ntmps11
  go_wp2_with (first
    | (go_at_call 6; refine (HC1.out _ HG0.out).mono ?_; rintro e u1 ⟨rfl, hg1⟩; have HU1 := hid hg1; obtain ⟨⟨x0, x1, x2, x3, x4, x5⟩, xf⟩ := cells6 (HX.out _ hg1).1; obtain ⟨⟨y0, y1, y2, y3, y4, y5⟩, yf⟩ := cells6 (HX.out _ hg1).2; clear hg1)
    | (go_at_call 6; refine (HC2.out _ (gtrans HG0.out HU1.out)).mono ?_; rintro e u2 ⟨rfl, hg2⟩; have HU2 := hid (gtrans HU1.out hg2); obtain ⟨⟨x0, x1, x2, x3, x4, x5⟩, xf⟩ := cells6 (HX.out _ HU2.out).1; obtain ⟨⟨y0, y1, y2, y3, y4, y5⟩, yf⟩ := cells6 (HX.out _ HU2.out).2; clear hg2)
    | (go_at_call 17; refine (HE.out _ (gtrans HG0.out HU2.out)).mono ?_; rintro e u3 ⟨rfl, hg3⟩))
  go_ret
  exact ⟨rfl, gtrans HG0.out (gtrans HU2.out hg3)⟩
end Go.Proofs.YtihbpkebknifdaaGreatDoor
