/- Equal: equalMaps, equal, Equal: walked. -/
import Derived.Test.YtdmnhkgiojkphaaGreatDoorEqA
namespace Go.Proofs.YtdmnhkgiojkphaaGreatDoor
open Go Go.RowKit Go.Maps
open Go.RowKit (wrap32 wrap64)

set_option maxRecDepth 100000 in
set_option maxHeartbeats 4000000 in
theorem equalMaps_any (n : Nat) (hE : EqOk n) (t u : Tree) (hl : cntL t.items ≤ n) (hn : n ≤ 1099511627776) (ht : cntT t ≤ 1099511627776) (hu : cntT u ≤ 1099511627776) (hgt : GoodP t) (hgu : GoodP u) (hkt : t.kind = 6) (hku : u.kind = 6)
    (w : World) (F G : Nat → Prop) (a b : Value) (ha : RdT w F t a) (hb : RdT w G u b) :
    Calls Tryz.prog 123 #[a, b] w fun e w' => e = .returned (.bool (eqM t.items t.keys u.keys u.items)) ∧ w.grownBy w' none := by
  obtain ⟨q1, q2⟩ := hgt.keys hkt
  obtain ⟨q3, q4⟩ := hgu.keys hku
  obtain ⟨ka, ia, rfl, hka, hia⟩ := RdT_split ha
  obtain ⟨kb, ib, rfl, hkb, hib⟩ := RdT_split hb
  have hkn : keyN u.keys ≤ 1099511627776 := by rw [cntT_eq] at hu; omega
  have hkn1 : keyN t.keys ≤ 1099511627776 := by rw [cntT_eq] at ht; omega
  have hln : cntL u.items ≤ 1099511627776 := by rw [cntT_eq] at hu; omega
  have HP : Hid (∀ w' : World, w.grownBy w' none → _) := fun w' hg => places_look u.keys w' G kb (hkb.kept (Stays.none hg) (fun _ h _ => h)) hkn
  have HKM : Hid (∀ k ∈ t.keys, k.size ≤ 1099511627776) := fun k hk => by have := keyN_mem hk; omega
  obtain ⟨pa, ca, rfl, hca, hka⟩ := hka
  obtain ⟨pb, cb, rfl, hcb, hkb⟩ := hkb
  obtain ⟨qa, da, rfl, hda, hia⟩ := hia
  obtain ⟨qb, db, rfl, hdb, hib⟩ := hib
  have hA : t.items.length ≤ 1099511627776 := by have := cntL_length t.items; omega
  have hB : u.items.length ≤ 1099511627776 := by have := cntL_length u.items; omega
  rw [q1] at hca hka ⊢
  rw [q3] at hcb hkb HP ⊢
  obtain ⟨A, HA⟩ : ∃ A, Hid (t.items.length = A) := ⟨_, hid rfl⟩
  obtain ⟨B, HB⟩ : ∃ A, Hid (u.items.length = A) := ⟨_, hid rfl⟩
  rw [HA.out] at hca hka hda hia hA q1 ⊢
  rw [HB.out] at hcb hkb hdb hib hB q3 HP ⊢
  have HKA := hid hka
  have HIA := hid hia
  have HIB := hid hib
  have HE := hid hE
  have HLn := hid hl
  have HUn := hid hln
  have HGT := hid hgt
  have HGU := hid hgu
  have HQ1 := hid q1
  have HQ3 := hid q3
  have HQ4 := hid q4
  obtain ⟨R, HR⟩ : ∃ R, Hid (eqM t.items t.keys u.keys u.items = R) := ⟨_, hid rfl⟩
  rw [HR.out]
  obtain ⟨W0, hW0⟩ : ∃ W0, (w.alloc (.cells #[.int .i64 t.kind, .bool t.flag, .int .i64 t.n, .string t.text, .slice pa A ca, .slice qa A da] 26)).alloc (.cells #[.int .i64 u.kind, .bool u.flag, .int .i64 u.n, .string u.text, .slice pb B cb, .slice qb B db] 26) = W0 := ⟨_, rfl⟩
  have c0 : W0.heap[w.heap.size]? = some (.cells #[.int .i64 t.kind, .bool t.flag, .int .i64 t.n, .string t.text, .slice pa A ca, .slice qa A da] 26 (0, 0)) := by
    rw [← hW0]; exact alloc_keeps (heap_alloc_new w _) _
  have c1 : W0.heap[w.heap.size + 1]? = some (.cells #[.int .i64 u.kind, .bool u.flag, .int .i64 u.n, .string u.text, .slice pb B cb, .slice qb B db] 26 (0, 0)) := by
    rw [← hW0]
    have := heap_alloc_new (w.alloc (.cells #[.int .i64 t.kind, .bool t.flag, .int .i64 t.n, .string t.text, .slice pa A ca, .slice qa A da] 26)) (.cells #[.int .i64 u.kind, .bool u.flag, .int .i64 u.n, .string u.text, .slice pb B cb, .slice qb B db] 26)
    simpa using this
  have g0 : w.grownBy W0 none := by rw [← hW0]; exact gtrans (galloc _ _ none) (galloc _ _ none)
  have HC0 := hid c0
  have HC1 := hid c1
  have HG0 := hid g0
  have hne : w.heap.size ≠ w.heap.size + 1 := by omega
  obtain ⟨⟨x0, x1, x2, x3, x4, x5⟩, xf⟩ := cells6 c0
  obtain ⟨⟨y0, y1, y2, y3, y4, y5⟩, yf⟩ := cells6 c1
  clear hka hkb hia hib hE hl hn ht hu hgt hgu q2 q4 q1 q3 hkn hkn1 hln ha hb c0 c1 g0 hkt hku
  go_enter Tryz.func123, Tryz.ntmps123
  go_wp2_with (go_at_call 174; refine (HP.out _ HG0.out).mono ?_; rintro e w1 ⟨mb, mn, D, rfl, hg1, hown, hhas, hat⟩; have HG1 := hid (gtrans HG0.out hg1); have HC0 := hid ((hg1.block _ (Array.getElem?_eq_some_iff.1 HC0.out).1 (by simp)).trans HC0.out); have HC1 := hid ((hg1.block _ (Array.getElem?_eq_some_iff.1 HC1.out).1 (by simp)).trans HC1.out); have HOwn := hid hown; have HHas := hid hhas; have HAt := hid hat; clear hhas hat hown hg1; obtain ⟨⟨x0, x1, x2, x3, x4, x5⟩, xf⟩ := cells6 HC0.out)
  go_loopw [16] (fun iv wr => ∃ (i : Nat), iv = .int .i64 i ∧ i ≤ A ∧ Hid (w1.grownBy wr none) ∧ Hid (R = eqM (t.items.drop i) (t.keys.drop i) u.keys u.items)) (fun iv _ => A - (intOf iv).toNat)
  case atStart => exact ⟨0, rfl, Nat.zero_le _, grefl _ _, hid (by rw [← HR.out]; rfl)⟩
  case round =>
    obtain ⟨i, rfl, hi, HG, HI⟩ := hrel
    by_cases hlt : i < A
    · have hd : decide ((i : Int) < (A : Int)) = true := decide_eq_true (by omega)
      have hit : i < t.items.length := by have := HA.out; omega
      have hik : i < t.keys.length := by have := HQ1.out; omega
      obtain ⟨g, o, rfl, hg, _, hck⟩ := HKA.out (by omega)
      obtain ⟨g1, o1, rfl, hg1, hF1, hr⟩ := HIA.out (by omega)
      have hgr : w.grownBy wr none := gtrans HG1.out HG.out
      have z := hck i _ (List.getElem?_eq_getElem hik)
      rw [← World.cell?_of_block (w := w) (a := ⟨g, o + i, none⟩) (hgr.block g hg (by simp))] at z
      obtain ⟨K, HK⟩ : ∃ K, Hid (t.keys[i] = K) := ⟨_, hid rfl⟩
      rw [HK.out] at z
      have hKs : K.size ≤ 1099511627776 := by rw [← HK.out]; exact HKM.out _ (List.getElem_mem hik)
      have hkey : keyOf Tryz.prog 9 (.string K) = some (.string K.data.toList) := WideMaps.keyOf_string_mk Tryz.underlying9 (by unfold maxLen; omega)
      have hown := HOwn.out.kept HG.out (by simp)
      have c0 := (HG.out.block _ (Array.getElem?_eq_some_iff.1 HC0.out).1 (by simp)).trans HC0.out
      have c1 := (HG.out.block _ (Array.getElem?_eq_some_iff.1 HC1.out).1 (by simp)).trans HC1.out
      obtain ⟨⟨x0, x1, x2, x3, x4, x5⟩, xf⟩ := cells6 c0
      obtain ⟨⟨y0, y1, y2, y3, y4, y5⟩, yf⟩ := cells6 c1
      have HST := hid (eqM_at (l := t.items) (ks := t.keys) (bk := u.keys) (bi := u.items) i hit hik)
      rw [HK.out] at HST
      cases hh : hasK u.keys K with
      | false =>
        have hhd : Maps.has D (.string K.data.toList) = false := by rw [HHas.out, hh]
        have HPN := hid (posK_none hh)
        clear hck hr c0 c1 hh
        go_wp2_with (at_lookup; refine wpList_lookup_own_ok_int _ rfl _ _ 159 rfl 9 3 .i64 law9 Tryz.underlying159 Tryz.underlying3 (Tryz.zeroValue3 _) mb mn D rfl hown _ _ rfl hkey ?_; intro c hat hwc)
        go_quiet (fail)
        go_wp2_with fail
        go_ret
        exact ⟨by rw [HI.out, HST.out, HPN.out]; rfl, gtrans hgr (gdrew wr nq none)⟩
      | true =>
        have hhd : Maps.has D (.string K.data.toList) = true := by rw [HHas.out, hh]
        obtain ⟨j, hj, hat⟩ := HAt.out K hh
        have hjb : j < u.keys.length := (List.getElem?_eq_some_iff.1 hj).1
        have hju : j < u.items.length := by have := HQ3.out; have := HB.out; omega
        have hjB : j < B := by have := HB.out; omega
        have hjBi : (j : Int) < (B : Int) := by omega
        have HPN := hid (posK_at HQ4.out hj)
        obtain ⟨g2, o2, rfl, hg2, hF2, hr2⟩ := HIB.out (by omega)
        obtain ⟨k1, f1, n1, e1, ka1, kn1, kc1, ia1, il1, ic1, z0, z1, z2, z3, z4, z5, hT⟩ := hr.shaped (Stays.none hgr) hF1 hg1 i hit
        obtain ⟨k2, f2, n2, e2, ka2, kn2, kc2, ia2, il2, ic2, v0, v1, v2, v3, v4, v5, hU⟩ := hr2.shaped (Stays.none hgr) hF2 hg2 j hju
        have hgd : u.items.getD j zeroT = u.items[j] := by simp [hju]
        rw [HPN.out] at HST
        simp only [hgd] at HST
        obtain ⟨q, HQ⟩ : ∃ q, Hid (eqT t.items[i] u.items[j] = q) := ⟨_, hid rfl⟩
        rw [HQ.out] at HST
        have ht1 : cntT t.items[i] ≤ n := by have h1 := cntL_mem (List.getElem_mem hit); have h2 := HLn.out; omega
        have hu1 : cntT u.items[j] ≤ 1099511627776 := by have h1 := cntL_mem (List.getElem_mem hju); have h2 := HUn.out; omega
        have HC : Hid (∀ k : Nat, Calls Tryz.prog 60 #[.agg #[.int .i64 k1, .bool f1, .int .i64 n1, .string e1, .slice ka1 kn1 kc1, .slice ia1 il1 ic1], .agg #[.int .i64 k2, .bool f2, .int .i64 n2, .string e2, .slice ka2 kn2 kc2, .slice ia2 il2 ic2]] (wr.drewN k) fun e w' => e = .returned (.bool q) ∧ wr.grownBy w' none) := fun k => by
          refine (HE.out t.items[i] u.items[j] ht1 hu1 (HGT.out.item (List.getElem_mem hit)) (HGU.out.item (List.getElem_mem hju)) (wr.drewN k) F G _ _ (hT.on (Stays.none (gdrew wr k none))) (hU.on (Stays.none (gdrew wr k none)))).mono ?_
          rintro e w' ⟨h1, h2⟩
          rw [HQ.out] at h1
          exact ⟨h1, gtrans (gdrew wr k none) h2⟩
        have HAt2 := hid hat
        clear hck hr hr2 hT hU c0 c1 hh hgd ht1 hu1 hj hat
        cases q with
        | true =>
          go_wp2_with (at_lookup; refine wpList_lookup_own_ok_int _ rfl _ _ 159 rfl 9 3 .i64 law9 Tryz.underlying159 Tryz.underlying3 (Tryz.zeroValue3 _) mb mn D rfl hown _ _ rfl hkey ?_; intro c hat hwc; rw [HAt2.out] at hat; obtain rfl : c = (j : Int) := (by injection hat with hat; injection hat with _ hat; exact hat.symm); clear hat hwc)
          go_region_with (go_at_call 60; refine (HC.out _).mono ?_; rintro e w2 ⟨rfl, hg3⟩)
          all_goals
            have HG2 := hid (gtrans HG.out hg3)
            clear hg3
            go_wp2_with fail
            exact ⟨⟨i + 1, rfl, by omega, HG2, hid (by rw [HI.out, HST.out, Bool.true_and])⟩, by simp only [intOf]; omega⟩
        | false =>
          go_wp2_with (at_lookup; refine wpList_lookup_own_ok_int _ rfl _ _ 159 rfl 9 3 .i64 law9 Tryz.underlying159 Tryz.underlying3 (Tryz.zeroValue3 _) mb mn D rfl hown _ _ rfl hkey ?_; intro c hat hwc; rw [HAt2.out] at hat; obtain rfl : c = (j : Int) := (by injection hat with hat; injection hat with _ hat; exact hat.symm); clear hat hwc)
          go_region_with (go_at_call 60; refine (HC.out _).mono ?_; rintro e w2 ⟨rfl, hg3⟩)
          all_goals
            have HG2 := hid (gtrans hgr hg3)
            clear hg3
            go_wp2_with fail
            go_ret
            exact ⟨by rw [HI.out, HST.out, Bool.false_and]; rfl, HG2.out⟩
    · have hd : decide ((i : Int) < (A : Int)) = false := decide_eq_false (by omega)
      have HRT : Hid (R = true) := by rw [HI.out, List.drop_eq_nil_of_le (by have := HA.out; omega), eqM]; exact rfl
      have HGF := hid (gtrans HG1.out HG.out)
      go_wp2_with fail
      go_ret
      exact ⟨by rw [HRT.out]; rfl, HGF.out⟩
end Go.Proofs.YtdmnhkgiojkphaaGreatDoor

namespace Go.Proofs.YtdmnhkgiojkphaaGreatDoor
open Go Go.RowKit Go.Maps
open Go.RowKit (wrap32 wrap64)

set_option maxRecDepth 100000 in
set_option maxHeartbeats 4000000 in
theorem equal_any : ∀ (n : Nat), n ≤ 1099511627776 → EqOk n
  | 0, _ => fun t _ hn => by rw [cntT_eq] at hn; omega
  | n + 1, hN => fun t u hn hu hgt hgu w F G a b ha hb => by
    have ih := equal_any n (by omega)
    have HM : Hid (∀ w' : World, w.grownBy w' none → t.kind = 6 → u.kind = 6 → Calls Tryz.prog 123 #[a, b] w' fun e w2 => e = .returned (.bool (eqM t.items t.keys u.keys u.items)) ∧ w'.grownBy w2 none) := fun w' hg h1 h2 =>
      equalMaps_any n ih t u (by rw [cntT_eq] at hn; omega) (by omega) (by omega) hu hgt hgu h1 h2 w' F G a b (ha.on (Stays.none hg)) (hb.on (Stays.none hg))
    obtain ⟨ka, ia, rfl, hka, hia⟩ := RdT_split ha
    obtain ⟨kb, ib, rfl, hkb, hib⟩ := RdT_split hb
    have HF : Hid (∀ w' : World, w.grownBy w' none → t.items.length = u.items.length → Calls Tryz.prog 122 #[ia, ib, .func (.func 60) #[] #[]] w' fun e w2 => e = .returned (.bool (eqL t.items u.items)) ∧ w'.grownBy w2 none) := fun w' hg h1 =>
      equalFunc_any n ih t.items u.items (by rw [cntT_eq] at hn; omega) (by omega) (by rw [cntT_eq] at hu; omega) h1 (fun x hx => hgt.item hx) (fun x hx => hgu.item hx) w' F G ia ib (hia.on (Stays.none hg)) (hib.on (Stays.none hg)) _ rfl
    have h8 : t.items.length ≤ 1099511627776 := by have := cntL_length t.items; rw [cntT_eq] at hn; omega
    have h9 : u.items.length ≤ 1099511627776 := by have := cntL_length u.items; rw [cntT_eq] at hu; omega
    have HEQ := hid (eqT_eq t u)
    clear ih hN hn hu ha hb hgt hgu
    obtain ⟨pa, ca, rfl, hca, hka⟩ := hka
    obtain ⟨pb, cb, rfl, hcb, hkb⟩ := hkb
    obtain ⟨qa, da, rfl, hda, hia⟩ := hia
    obtain ⟨qb, db, rfl, hdb, hib⟩ := hib
    clear hka hkb hia hib hca hcb hda hdb
    obtain ⟨R, HR⟩ : ∃ R, Hid (eqT t u = R) := ⟨_, hid rfl⟩
    rw [HR.out] at HEQ ⊢
    obtain ⟨EL, HEL⟩ : ∃ E, Hid (eqL t.items u.items = E) := ⟨_, hid rfl⟩
    obtain ⟨EM, HEM⟩ : ∃ E, Hid (eqM t.items t.keys u.keys u.items = E) := ⟨_, hid rfl⟩
    rw [HEL.out] at HF HEQ
    rw [HEM.out] at HM HEQ
    obtain ⟨A1, HA1⟩ : ∃ A, Hid (t.items.length = A) := ⟨_, hid rfl⟩
    obtain ⟨A2, HA2⟩ : ∃ A, Hid (u.items.length = A) := ⟨_, hid rfl⟩
    rw [HA1.out] at HF HM HEQ h8 ⊢
    rw [HA2.out] at HF HM HEQ h9 ⊢
    obtain ⟨B1, HB1⟩ : ∃ A, Hid (t.keys.length = A) := ⟨_, hid rfl⟩
    obtain ⟨B2, HB2⟩ : ∃ A, Hid (u.keys.length = A) := ⟨_, hid rfl⟩
    rw [HB1.out] at HM ⊢
    rw [HB2.out] at HM ⊢
    obtain ⟨k1, HK1⟩ : ∃ k, Hid (t.kind = k) := ⟨_, hid rfl⟩
    obtain ⟨k2, HK2⟩ : ∃ k, Hid (u.kind = k) := ⟨_, hid rfl⟩
    rw [HK1.out] at HM HEQ ⊢
    rw [HK2.out] at HM HEQ ⊢
    obtain ⟨f1, HF1⟩ : ∃ k, Hid (t.flag = k) := ⟨_, hid rfl⟩
    obtain ⟨f2, HF2⟩ : ∃ k, Hid (u.flag = k) := ⟨_, hid rfl⟩
    rw [HF1.out] at HM HEQ ⊢
    rw [HF2.out] at HM HEQ ⊢
    obtain ⟨n1, HN1⟩ : ∃ k, Hid (t.n = k) := ⟨_, hid rfl⟩
    obtain ⟨n2, HN2⟩ : ∃ k, Hid (u.n = k) := ⟨_, hid rfl⟩
    rw [HN1.out] at HM HEQ ⊢
    rw [HN2.out] at HM HEQ ⊢
    obtain ⟨s1, HS1⟩ : ∃ k, Hid (t.text = k) := ⟨_, hid rfl⟩
    obtain ⟨s2, HS2⟩ : ∃ k, Hid (u.text = k) := ⟨_, hid rfl⟩
    rw [HS1.out] at HM HEQ ⊢
    rw [HS2.out] at HM HEQ ⊢
    clear HEL HEM HA1 HA2 HB1 HB2 HK1 HK2 HF1 HF2 HN1 HN2 HS1 HS2 HR
    obtain ⟨W0, hW0⟩ : ∃ W0, (w.alloc (.cells #[.int .i64 k1, .bool f1, .int .i64 n1, .string s1, .slice pa B1 ca, .slice qa A1 da] 26)).alloc (.cells #[.int .i64 k2, .bool f2, .int .i64 n2, .string s2, .slice pb B2 cb, .slice qb A2 db] 26) = W0 := ⟨_, rfl⟩
    have c0 : W0.heap[w.heap.size]? = some (.cells #[.int .i64 k1, .bool f1, .int .i64 n1, .string s1, .slice pa B1 ca, .slice qa A1 da] 26 (0, 0)) := by
      rw [← hW0]; exact alloc_keeps (heap_alloc_new w _) _
    have c1 : W0.heap[w.heap.size + 1]? = some (.cells #[.int .i64 k2, .bool f2, .int .i64 n2, .string s2, .slice pb B2 cb, .slice qb A2 db] 26 (0, 0)) := by
      rw [← hW0]
      have := heap_alloc_new (w.alloc (.cells #[.int .i64 k1, .bool f1, .int .i64 n1, .string s1, .slice pa B1 ca, .slice qa A1 da] 26)) (.cells #[.int .i64 k2, .bool f2, .int .i64 n2, .string s2, .slice pb B2 cb, .slice qb A2 db] 26)
      simpa using this
    have g0 : w.grownBy W0 none := by rw [← hW0]; exact gtrans (galloc _ _ none) (galloc _ _ none)
    obtain ⟨⟨x0, x1, x2, x3, x4, x5⟩, xf⟩ := cells6 c0
    obtain ⟨⟨y0, y1, y2, y3, y4, y5⟩, yf⟩ := cells6 c1
    have HG0 := hid g0
    clear c0 c1 g0
    by_cases hk : k1 = k2
    · subst hk
      have ek : (k1 != k1) = false := by simp
      by_cases hA : A1 = A2
      · subst hA
        have eA : ((A1 : Int) != (A1 : Int)) = false := by simp
        have HEQ2 : Hid (R = (if k1 = 5 then EL else if k1 = 6 then EM else (f1 == f2 && n1 == n2) && s1.toList == s2.toList)) := hid (by rw [HEQ.out]; simp)
        clear HEQ
        by_cases h5 : k1 = 5
        · have e5 : (k1 == 5) = true := by rw [h5]; rfl
          have HRE : Hid (R = EL) := by rw [HEQ2.out, if_pos h5]; exact rfl
          have HF' := hid (HF.out W0 HG0.out rfl)
          clear h5 HEQ2 HM HF
          go_enter Tryz.func60, Tryz.ntmps60
          go_wp2_with (go_at_call 122; refine HF'.out.mono ?_; rintro e w2 ⟨rfl, hg2⟩)
          go_ret
          exact ⟨by rw [HRE.out]; rfl, gtrans HG0.out hg2⟩
        · have e5 : (k1 == 5) = false := beq_eq_false_iff_ne.2 h5
          by_cases h6 : k1 = 6
          · have e6 : (k1 == 6) = true := by rw [h6]; rfl
            have HRE : Hid (R = EM) := by rw [HEQ2.out, if_neg h5, if_pos h6]; exact rfl
            have HM' := hid (HM.out W0 HG0.out h6 h6)
            clear h5 h6 HEQ2 HM HF
            go_enter Tryz.func60, Tryz.ntmps60
            go_wp2_with (go_at_call 123; refine HM'.out.mono ?_; rintro e w2 ⟨rfl, hg2⟩)
            go_ret
            exact ⟨by rw [HRE.out]; rfl, gtrans HG0.out hg2⟩
          · have e6 : (k1 == 6) = false := beq_eq_false_iff_ne.2 h6
            have HRE : Hid (R = ((f1 == f2 && n1 == n2) && s1.toList == s2.toList)) := by rw [HEQ2.out, if_neg h5, if_neg h6]; exact rfl
            clear h5 h6 HEQ2 HM HF
            cases hf : f1 == f2 with
            | false =>
              have HRF : Hid (R = false) := by rw [HRE.out, hf]; exact rfl
              clear HRE
              go_enter Tryz.func60, Tryz.ntmps60
              go_wp2_with fail
              go_ret
              exact ⟨by rw [HRF.out]; rfl, HG0.out⟩
            | true =>
              cases hn1 : n1 == n2 with
              | false =>
                have HRF : Hid (R = false) := by rw [HRE.out, hf, hn1]; exact rfl
                clear HRE
                go_enter Tryz.func60, Tryz.ntmps60
                go_wp2_with fail
                go_ret
                exact ⟨by rw [HRF.out]; rfl, HG0.out⟩
              | true =>
                have HRF : Hid (R = (s1.toList == s2.toList)) := by rw [HRE.out, hf, hn1]; exact rfl
                clear HRE
                go_enter Tryz.func60, Tryz.ntmps60
                go_wp2_with fail
                go_ret
                exact ⟨by rw [HRF.out]; rfl, HG0.out⟩
      · have eA : ((A1 : Int) != (A2 : Int)) = true := by simp; omega
        have eA2 : (A1 == A2) = false := by simp; omega
        have HRF : Hid (R = false) := hid (by rw [HEQ.out, eA2]; simp)
        clear HEQ HM HF
        go_enter Tryz.func60, Tryz.ntmps60
        go_wp2_with fail
        go_ret
        exact ⟨by rw [HRF.out]; rfl, HG0.out⟩
    · have ek : (k1 != k2) = true := by simpa using hk
      have ek2 : (k1 == k2) = false := by simpa using hk
      have HRF : Hid (R = false) := by rw [HEQ.out, ek2]; exact rfl
      clear HEQ HM HF hk
      go_enter Tryz.func60, Tryz.ntmps60
      go_wp2_with fail
      go_ret
      exact ⟨by rw [HRF.out]; rfl, HG0.out⟩

set_option maxRecDepth 100000 in
set_option maxHeartbeats 4000000 in
/-- Equal of two trees that may be. -/
theorem equalF_any (t u : Tree) (ht : cntT t ≤ 1099511627776) (hu : cntT u ≤ 1099511627776) (hct : checkT t 0 = 0) (hcu : checkT u 0 = 0) (w : World) (F G : Nat → Prop) (a b : Value) (ha : RdT w F t a) (hb : RdT w G u b) (hG : Glob w) :
    Calls Tryz.prog 28 #[a, b] w fun e w' => e = .returned (.bool (eqT t u)) ∧ w.grownBy w' none := by
  have HC1 : Hid (∀ w' : World, w.grownBy w' none → Calls Tryz.prog 15 #[a] w' fun e w2 => e = .returned (.int .i64 0) ∧ w'.grownBy w2 none) := fun w' hg => by
    have := checkF_any t ht w' F a (ha.on (Stays.none hg)) (hG.grown hg (fun k hk => by cases hk))
    rw [hct] at this
    exact this
  have HC2 : Hid (∀ w' : World, w.grownBy w' none → Calls Tryz.prog 15 #[b] w' fun e w2 => e = .returned (.int .i64 0) ∧ w'.grownBy w2 none) := fun w' hg => by
    have := checkF_any u hu w' G b (hb.on (Stays.none hg)) (hG.grown hg (fun k hk => by cases hk))
    rw [hcu] at this
    exact this
  have HE : Hid (∀ w' : World, w.grownBy w' none → Calls Tryz.prog 60 #[a, b] w' fun e w2 => e = .returned (.bool (eqT t u)) ∧ w'.grownBy w2 none) := fun w' hg =>
    equal_any _ ht t u (Nat.le_refl _) hu ⟨0, hct⟩ ⟨0, hcu⟩ w' F G a b (ha.on (Stays.none hg)) (hb.on (Stays.none hg))
  obtain ⟨ka, ia, rfl, hka, hia⟩ := RdT_split ha
  obtain ⟨kb, ib, rfl, hkb, hib⟩ := RdT_split hb
  clear ht hu ha hb hct hcu hG
  obtain ⟨pa, ca, rfl, hca, hka⟩ := hka
  obtain ⟨pb, cb, rfl, hcb, hkb⟩ := hkb
  obtain ⟨qa, da, rfl, hda, hia⟩ := hia
  obtain ⟨qb, db, rfl, hdb, hib⟩ := hib
  clear hka hkb hia hib hca hcb hda hdb
  generalize t.items.length = A1 at *
  generalize u.items.length = A2 at *
  generalize t.keys.length = B1 at *
  generalize u.keys.length = B2 at *
  generalize eqT t u = R at *
  generalize t.kind = k1 at *
  generalize u.kind = k2 at *
  generalize t.flag = f1 at *
  generalize u.flag = f2 at *
  generalize t.n = n1 at *
  generalize u.n = n2 at *
  generalize t.text = s1 at *
  generalize u.text = s2 at *
  obtain ⟨W0, hW0⟩ : ∃ W0, (w.alloc (.cells #[.int .i64 k1, .bool f1, .int .i64 n1, .string s1, .slice pa B1 ca, .slice qa A1 da] 26)).alloc (.cells #[.int .i64 k2, .bool f2, .int .i64 n2, .string s2, .slice pb B2 cb, .slice qb A2 db] 26) = W0 := ⟨_, rfl⟩
  have c0 : W0.heap[w.heap.size]? = some (.cells #[.int .i64 k1, .bool f1, .int .i64 n1, .string s1, .slice pa B1 ca, .slice qa A1 da] 26 (0, 0)) := by
    rw [← hW0]; exact alloc_keeps (heap_alloc_new w _) _
  have c1 : W0.heap[w.heap.size + 1]? = some (.cells #[.int .i64 k2, .bool f2, .int .i64 n2, .string s2, .slice pb B2 cb, .slice qb A2 db] 26 (0, 0)) := by
    rw [← hW0]
    have := heap_alloc_new (w.alloc (.cells #[.int .i64 k1, .bool f1, .int .i64 n1, .string s1, .slice pa B1 ca, .slice qa A1 da] 26)) (.cells #[.int .i64 k2, .bool f2, .int .i64 n2, .string s2, .slice pb B2 cb, .slice qb A2 db] 26)
    simpa using this
  have g0 : w.grownBy W0 none := by rw [← hW0]; exact gtrans (galloc _ _ none) (galloc _ _ none)
  have HX : Hid (∀ v : World, W0.grownBy v none → v.heap[w.heap.size]? = some (.cells #[.int .i64 k1, .bool f1, .int .i64 n1, .string s1, .slice pa B1 ca, .slice qa A1 da] 26 (0, 0)) ∧ v.heap[w.heap.size + 1]? = some (.cells #[.int .i64 k2, .bool f2, .int .i64 n2, .string s2, .slice pb B2 cb, .slice qb A2 db] 26 (0, 0))) := fun v hv =>
    ⟨(hv.block _ (Array.getElem?_eq_some_iff.1 c0).1 (by simp)).trans c0, (hv.block _ (Array.getElem?_eq_some_iff.1 c1).1 (by simp)).trans c1⟩
  obtain ⟨⟨x0, x1, x2, x3, x4, x5⟩, xf⟩ := cells6 c0
  obtain ⟨⟨y0, y1, y2, y3, y4, y5⟩, yf⟩ := cells6 c1
  have HG0 := hid g0
  clear c0 c1 g0
  go_enter Tryz.func28, Tryz.ntmps28
  go_wp2_with (first
    | (go_at_call 15; refine (HC1.out _ HG0.out).mono ?_; rintro e u1 ⟨rfl, hg1⟩; have HU1 := hid hg1; obtain ⟨⟨x0, x1, x2, x3, x4, x5⟩, xf⟩ := cells6 (HX.out _ hg1).1; obtain ⟨⟨y0, y1, y2, y3, y4, y5⟩, yf⟩ := cells6 (HX.out _ hg1).2; clear hg1)
    | (go_at_call 15; refine (HC2.out _ (gtrans HG0.out HU1.out)).mono ?_; rintro e u2 ⟨rfl, hg2⟩; have HU2 := hid (gtrans HU1.out hg2); obtain ⟨⟨x0, x1, x2, x3, x4, x5⟩, xf⟩ := cells6 (HX.out _ HU2.out).1; obtain ⟨⟨y0, y1, y2, y3, y4, y5⟩, yf⟩ := cells6 (HX.out _ HU2.out).2; clear hg2)
    | (go_at_call 60; refine (HE.out _ (gtrans HG0.out HU2.out)).mono ?_; rintro e u3 ⟨rfl, hg3⟩))
  go_ret
  exact ⟨rfl, gtrans HG0.out (gtrans HU2.out hg3)⟩
end Go.Proofs.YtdmnhkgiojkphaaGreatDoor

namespace Go.Proofs.YtdmnhkgiojkphaaGreatDoor
open Go Go.RowKit Go.Maps
open Go.RowKit (wrap32 wrap64)

set_option maxRecDepth 100000 in
set_option maxHeartbeats 4000000 in
theorem equalX_any (t u : Tree) (ht : cntT t ≤ 1099511627776) (hct : checkT t 0 ≠ 0) (w : World) (F G : Nat → Prop) (a b : Value) (ha : RdT w F t a) (hb : RdT w G u b) (hG : Glob w) :
    Calls Tryz.prog 28 #[a, b] w fun e w' => e = .returned (.bool false) ∧ w.grownBy w' none := by
  have HC1 : Hid (∀ w' : World, w.grownBy w' none → Calls Tryz.prog 15 #[a] w' fun e w2 => e = .returned (.int .i64 (checkT t 0)) ∧ w'.grownBy w2 none) := hid (fun w' hg => checkF_any t ht w' F a (ha.on (Stays.none hg)) (hG.grown hg (fun k hk => by cases hk)))
  obtain ⟨E, HE⟩ : ∃ z, Hid (checkT t 0 = z) := ⟨_, hid rfl⟩
  rw [HE.out] at HC1 hct
  have heb : (E == 0) = false := by simpa using hct
  obtain ⟨ka, ia, rfl, hka, hia⟩ := RdT_split ha
  obtain ⟨kb, ib, rfl, hkb, hib⟩ := RdT_split hb
  clear ht ha hb hG
  obtain ⟨pa, ca, rfl, hca, hka⟩ := hka
  obtain ⟨pb, cb, rfl, hcb, hkb⟩ := hkb
  obtain ⟨qa, da, rfl, hda, hia⟩ := hia
  obtain ⟨qb, db, rfl, hdb, hib⟩ := hib
  clear hka hkb hia hib hca hcb hda hdb
  generalize t.items.length = A1 at *
  generalize u.items.length = A2 at *
  generalize t.keys.length = B1 at *
  generalize u.keys.length = B2 at *
  generalize t.kind = k1 at *
  generalize u.kind = k2 at *
  generalize t.flag = f1 at *
  generalize u.flag = f2 at *
  generalize t.n = n1 at *
  generalize u.n = n2 at *
  generalize t.text = s1 at *
  generalize u.text = s2 at *
  obtain ⟨W0, hW0⟩ : ∃ W0, (w.alloc (.cells #[.int .i64 k1, .bool f1, .int .i64 n1, .string s1, .slice pa B1 ca, .slice qa A1 da] 26)).alloc (.cells #[.int .i64 k2, .bool f2, .int .i64 n2, .string s2, .slice pb B2 cb, .slice qb A2 db] 26) = W0 := ⟨_, rfl⟩
  have c0 : W0.heap[w.heap.size]? = some (.cells #[.int .i64 k1, .bool f1, .int .i64 n1, .string s1, .slice pa B1 ca, .slice qa A1 da] 26 (0, 0)) := by
    rw [← hW0]; exact alloc_keeps (heap_alloc_new w _) _
  have c1 : W0.heap[w.heap.size + 1]? = some (.cells #[.int .i64 k2, .bool f2, .int .i64 n2, .string s2, .slice pb B2 cb, .slice qb A2 db] 26 (0, 0)) := by
    rw [← hW0]
    have := heap_alloc_new (w.alloc (.cells #[.int .i64 k1, .bool f1, .int .i64 n1, .string s1, .slice pa B1 ca, .slice qa A1 da] 26)) (.cells #[.int .i64 k2, .bool f2, .int .i64 n2, .string s2, .slice pb B2 cb, .slice qb A2 db] 26)
    simpa using this
  have g0 : w.grownBy W0 none := by rw [← hW0]; exact gtrans (galloc _ _ none) (galloc _ _ none)
  have HX : Hid (∀ v : World, W0.grownBy v none → v.heap[w.heap.size]? = some (.cells #[.int .i64 k1, .bool f1, .int .i64 n1, .string s1, .slice pa B1 ca, .slice qa A1 da] 26 (0, 0)) ∧ v.heap[w.heap.size + 1]? = some (.cells #[.int .i64 k2, .bool f2, .int .i64 n2, .string s2, .slice pb B2 cb, .slice qb A2 db] 26 (0, 0))) := fun v hv =>
    ⟨(hv.block _ (Array.getElem?_eq_some_iff.1 c0).1 (by simp)).trans c0, (hv.block _ (Array.getElem?_eq_some_iff.1 c1).1 (by simp)).trans c1⟩
  obtain ⟨⟨x0, x1, x2, x3, x4, x5⟩, xf⟩ := cells6 c0
  obtain ⟨⟨y0, y1, y2, y3, y4, y5⟩, yf⟩ := cells6 c1
  have HG0 := hid g0
  clear c0 c1 g0
  go_enter Tryz.func28, Tryz.ntmps28
  go_wp2_with (go_at_call 15; refine (HC1.out _ HG0.out).mono ?_; rintro e u1 ⟨rfl, hg1⟩; have HU1 := hid hg1; obtain ⟨⟨x0, x1, x2, x3, x4, x5⟩, xf⟩ := cells6 (HX.out _ hg1).1; obtain ⟨⟨y0, y1, y2, y3, y4, y5⟩, yf⟩ := cells6 (HX.out _ hg1).2; clear hg1)
  go_ret
  exact ⟨rfl, gtrans HG0.out HU1.out⟩
set_option maxRecDepth 100000 in
set_option maxHeartbeats 4000000 in
theorem equalY_any (t u : Tree) (ht : cntT t ≤ 1099511627776) (hu : cntT u ≤ 1099511627776) (hct : checkT t 0 = 0) (hcu : checkT u 0 ≠ 0) (w : World) (F G : Nat → Prop) (a b : Value) (ha : RdT w F t a) (hb : RdT w G u b) (hG : Glob w) :
    Calls Tryz.prog 28 #[a, b] w fun e w' => e = .returned (.bool false) ∧ w.grownBy w' none := by
  have HC1 : Hid (∀ w' : World, w.grownBy w' none → Calls Tryz.prog 15 #[a] w' fun e w2 => e = .returned (.int .i64 0) ∧ w'.grownBy w2 none) := hid (fun w' hg => by
    have := checkF_any t ht w' F a (ha.on (Stays.none hg)) (hG.grown hg (fun k hk => by cases hk))
    rw [hct] at this
    exact this)
  have HC2 : Hid (∀ w' : World, w.grownBy w' none → Calls Tryz.prog 15 #[b] w' fun e w2 => e = .returned (.int .i64 (checkT u 0)) ∧ w'.grownBy w2 none) := hid (fun w' hg => checkF_any u hu w' G b (hb.on (Stays.none hg)) (hG.grown hg (fun k hk => by cases hk)))
  obtain ⟨E, HE⟩ : ∃ z, Hid (checkT u 0 = z) := ⟨_, hid rfl⟩
  rw [HE.out] at HC2 hcu
  have heb : (E == 0) = false := by simpa using hcu
  obtain ⟨ka, ia, rfl, hka, hia⟩ := RdT_split ha
  obtain ⟨kb, ib, rfl, hkb, hib⟩ := RdT_split hb
  clear ht hu ha hb hct hG
  obtain ⟨pa, ca, rfl, hca, hka⟩ := hka
  obtain ⟨pb, cb, rfl, hcb, hkb⟩ := hkb
  obtain ⟨qa, da, rfl, hda, hia⟩ := hia
  obtain ⟨qb, db, rfl, hdb, hib⟩ := hib
  clear hka hkb hia hib hca hcb hda hdb
  generalize t.items.length = A1 at *
  generalize u.items.length = A2 at *
  generalize t.keys.length = B1 at *
  generalize u.keys.length = B2 at *
  generalize t.kind = k1 at *
  generalize u.kind = k2 at *
  generalize t.flag = f1 at *
  generalize u.flag = f2 at *
  generalize t.n = n1 at *
  generalize u.n = n2 at *
  generalize t.text = s1 at *
  generalize u.text = s2 at *
  obtain ⟨W0, hW0⟩ : ∃ W0, (w.alloc (.cells #[.int .i64 k1, .bool f1, .int .i64 n1, .string s1, .slice pa B1 ca, .slice qa A1 da] 26)).alloc (.cells #[.int .i64 k2, .bool f2, .int .i64 n2, .string s2, .slice pb B2 cb, .slice qb A2 db] 26) = W0 := ⟨_, rfl⟩
  have c0 : W0.heap[w.heap.size]? = some (.cells #[.int .i64 k1, .bool f1, .int .i64 n1, .string s1, .slice pa B1 ca, .slice qa A1 da] 26 (0, 0)) := by
    rw [← hW0]; exact alloc_keeps (heap_alloc_new w _) _
  have c1 : W0.heap[w.heap.size + 1]? = some (.cells #[.int .i64 k2, .bool f2, .int .i64 n2, .string s2, .slice pb B2 cb, .slice qb A2 db] 26 (0, 0)) := by
    rw [← hW0]
    have := heap_alloc_new (w.alloc (.cells #[.int .i64 k1, .bool f1, .int .i64 n1, .string s1, .slice pa B1 ca, .slice qa A1 da] 26)) (.cells #[.int .i64 k2, .bool f2, .int .i64 n2, .string s2, .slice pb B2 cb, .slice qb A2 db] 26)
    simpa using this
  have g0 : w.grownBy W0 none := by rw [← hW0]; exact gtrans (galloc _ _ none) (galloc _ _ none)
  have HX : Hid (∀ v : World, W0.grownBy v none → v.heap[w.heap.size]? = some (.cells #[.int .i64 k1, .bool f1, .int .i64 n1, .string s1, .slice pa B1 ca, .slice qa A1 da] 26 (0, 0)) ∧ v.heap[w.heap.size + 1]? = some (.cells #[.int .i64 k2, .bool f2, .int .i64 n2, .string s2, .slice pb B2 cb, .slice qb A2 db] 26 (0, 0))) := fun v hv =>
    ⟨(hv.block _ (Array.getElem?_eq_some_iff.1 c0).1 (by simp)).trans c0, (hv.block _ (Array.getElem?_eq_some_iff.1 c1).1 (by simp)).trans c1⟩
  obtain ⟨⟨x0, x1, x2, x3, x4, x5⟩, xf⟩ := cells6 c0
  obtain ⟨⟨y0, y1, y2, y3, y4, y5⟩, yf⟩ := cells6 c1
  have HG0 := hid g0
  clear c0 c1 g0
  go_enter Tryz.func28, Tryz.ntmps28
  go_wp2_with (first
    | (go_at_call 15; refine (HC1.out _ HG0.out).mono ?_; rintro e u1 ⟨rfl, hg1⟩; have HU1 := hid hg1; obtain ⟨⟨x0, x1, x2, x3, x4, x5⟩, xf⟩ := cells6 (HX.out _ hg1).1; obtain ⟨⟨y0, y1, y2, y3, y4, y5⟩, yf⟩ := cells6 (HX.out _ hg1).2; clear hg1)
    | (go_at_call 15; refine (HC2.out _ (gtrans HG0.out HU1.out)).mono ?_; rintro e u2 ⟨rfl, hg2⟩; have HU2 := hid (gtrans HU1.out hg2); obtain ⟨⟨x0, x1, x2, x3, x4, x5⟩, xf⟩ := cells6 (HX.out _ HU2.out).1; obtain ⟨⟨y0, y1, y2, y3, y4, y5⟩, yf⟩ := cells6 (HX.out _ HU2.out).2; clear hg2))
  go_ret
  exact ⟨rfl, gtrans HG0.out HU2.out⟩
/-- Equal of any trees. -/
theorem equalA_any (t u : Tree) (ht : cntT t ≤ 1099511627776) (hu : cntT u ≤ 1099511627776) (w : World) (F G : Nat → Prop) (a b : Value) (ha : RdT w F t a) (hb : RdT w G u b) (hG : Glob w) :
    Calls Tryz.prog 28 #[a, b] w fun e w' => e = .returned (.bool (if checkT t 0 = 0 ∧ checkT u 0 = 0 then eqT t u else false)) ∧ w.grownBy w' none := by
  by_cases h1 : checkT t 0 = 0
  · by_cases h2 : checkT u 0 = 0
    · rw [if_pos ⟨h1, h2⟩]; exact equalF_any t u ht hu h1 h2 w F G a b ha hb hG
    · rw [if_neg (fun h => h2 h.2)]; exact equalY_any t u ht hu h1 h2 w F G a b ha hb hG
  · rw [if_neg (fun h => h1 h.1)]; exact equalX_any t u ht h1 w F G a b ha hb hG
end Go.Proofs.YtdmnhkgiojkphaaGreatDoor
