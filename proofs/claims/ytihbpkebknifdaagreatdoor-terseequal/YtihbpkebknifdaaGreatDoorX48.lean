/- turned, whatever the value. -/
import Derived.Test.YtihbpkebknifdaaGreatDoorTuCa
import Derived.Test.YtihbpkebknifdaaGreatDoorTuCb
import Derived.Test.YtihbpkebknifdaaGreatDoorTuCc
import Derived.Test.YtihbpkebknifdaaGreatDoorEqA
namespace Go.Proofs.YtihbpkebknifdaaGreatDoor
open Go Go.RowKit

theorem turned_any : ∀ m, m ≤ 1099511627776 → TurnOk m
  | 0, _, t, ht, hgd, n, hn, w, F, v, hv => by rw [cntT_eq] at ht; omega
  | mm + 1, hm, t, ht, hgd, n, hn, w, F, v, hv => by
    have hrec := turned_any mm (by omega)
    by_cases h6 : t.kind = 6
    · by_cases ho : n % 2 = 1
      · exact turned_odd mm hm hrec t ht hgd n hn w F v hv h6 ho
      · exact turned_even mm hm hrec t ht hgd n hn w F v hv h6 ho
    · exact turned_other mm hm hrec t ht hgd n hn w F v hv h6
end Go.Proofs.YtihbpkebknifdaaGreatDoor

namespace Go.Proofs.YtihbpkebknifdaaGreatDoor
open Go Go.RowKit Go.Maps
open Go.RowKit (wrap32 wrap64)

set_option maxRecDepth 100000 in
set_option maxHeartbeats 4000000 in
theorem equalMaps_any (n : Nat) (hE : EqOk n) (t u : Tree) (hl : cntL t.items ≤ n) (hn : n ≤ 1099511627776) (ht : cntT t ≤ 1099511627776) (hu : cntT u ≤ 1099511627776) (hgt : GoodP t) (hgu : GoodP u) (hkt : t.kind = 6) (hku : u.kind = 6)
    (w : World) (F G : Nat → Prop) (a b : Value) (ha : RdT w F t a) (hb : RdT w G u b) :
    Calls Tryz.prog 24 #[a, b] w fun e w' => e = .returned (.bool (eqM t.items t.keys u.keys u.items)) ∧ w.grownBy w' none := by
  obtain ⟨q1, q2⟩ := hgt.keys hkt
  obtain ⟨q3, q4⟩ := hgu.keys hku
  obtain ⟨ka, ia, rfl, hka, hia⟩ := RdT_split ha
  obtain ⟨kb, ib, rfl, hkb, hib⟩ := RdT_split hb
  have hkn : keyN u.keys ≤ 1099511627776 := by rw [cntT_eq] at hu; omega
  have hkn1 : keyN t.keys ≤ 1099511627776 := by rw [cntT_eq] at ht; omega
  have hln : cntL u.items ≤ 1099511627776 := by rw [cntT_eq] at hu; omega
  have HP : Hid (∀ w' : World, w.grownBy w' none → _) := fun w' hg => places_look u.keys w' G kb (hkb.kept (Stays.none hg) (fun _ h _ => h)) hkn
  have HKM : Hid (∀ k ∈ t.keys, k.size ≤ 1099511627776) := fun k hk => by have := keyN_mem hk; omega
  obtain ⟨pa, ca, rfl, hca, hka⟩ := hka
  obtain ⟨pb, cb, rfl, hcb, hkb⟩ := hkb
  obtain ⟨qa, da, rfl, hda, hia⟩ := hia
  obtain ⟨qb, db, rfl, hdb, hib⟩ := hib
  have hA : t.items.length ≤ 1099511627776 := by have := cntL_length t.items; omega
  have hB : u.items.length ≤ 1099511627776 := by have := cntL_length u.items; omega
  rw [q1] at hca hka ⊢
  rw [q3] at hcb hkb HP ⊢
  obtain ⟨A, HA⟩ : ∃ A, Hid (t.items.length = A) := ⟨_, hid rfl⟩
  obtain ⟨B, HB⟩ : ∃ A, Hid (u.items.length = A) := ⟨_, hid rfl⟩
  rw [HA.out] at hca hka hda hia hA q1 ⊢
  rw [HB.out] at hcb hkb hdb hib hB q3 HP ⊢
  have HKA := hid hka
  have HIA := hid hia
  have HIB := hid hib
  have HE := hid hE
  have HLn := hid hl
  have HUn := hid hln
  have HGT := hid hgt
  have HGU := hid hgu
  have HQ1 := hid q1
  have HQ3 := hid q3
  have HQ4 := hid q4
  obtain ⟨R, HR⟩ : ∃ R, Hid (eqM t.items t.keys u.keys u.items = R) := ⟨_, hid rfl⟩
  rw [HR.out]
  obtain ⟨W0, hW0⟩ : ∃ W0, (w.alloc (.cells #[.int .i64 t.kind, .bool t.flag, .int .i64 t.n, .string t.text, .slice pa A ca, .slice qa A da] 25)).alloc (.cells #[.int .i64 u.kind, .bool u.flag, .int .i64 u.n, .string u.text, .slice pb B cb, .slice qb B db] 25) = W0 := ⟨_, rfl⟩
  have c0 : W0.heap[w.heap.size]? = some (.cells #[.int .i64 t.kind, .bool t.flag, .int .i64 t.n, .string t.text, .slice pa A ca, .slice qa A da] 25 (0, 0)) := by
    rw [← hW0]; exact alloc_keeps (heap_alloc_new w _) _
  have c1 : W0.heap[w.heap.size + 1]? = some (.cells #[.int .i64 u.kind, .bool u.flag, .int .i64 u.n, .string u.text, .slice pb B cb, .slice qb B db] 25 (0, 0)) := by
    rw [← hW0]
    have := heap_alloc_new (w.alloc (.cells #[.int .i64 t.kind, .bool t.flag, .int .i64 t.n, .string t.text, .slice pa A ca, .slice qa A da] 25)) (.cells #[.int .i64 u.kind, .bool u.flag, .int .i64 u.n, .string u.text, .slice pb B cb, .slice qb B db] 25)
    simpa using this
  have g0 : w.grownBy W0 none := by rw [← hW0]; exact gtrans (galloc _ _ none) (galloc _ _ none)
  have HC0 := hid c0
  have HC1 := hid c1
  have HG0 := hid g0
  have hne : w.heap.size ≠ w.heap.size + 1 := by omega
  obtain ⟨⟨x0, x1, x2, x3, x4, x5⟩, xf⟩ := cells6 c0
  obtain ⟨⟨y0, y1, y2, y3, y4, y5⟩, yf⟩ := cells6 c1
  clear hka hkb hia hib hE hl hn ht hu hgt hgu q2 q4 q1 q3 hkn hkn1 hln ha hb c0 c1 g0 hkt hku
  go_enter Tryz.func24, Tryz.ntmps24
  go_wp2_with (go_at_call 41; refine (HP.out _ HG0.out).mono ?_; rintro e w1 ⟨mb, mn, D, rfl, hg1, hown, hhas, hat⟩; have HG1 := hid (gtrans HG0.out hg1); have HC0 := hid ((hg1.block _ (Array.getElem?_eq_some_iff.1 HC0.out).1 (by simp)).trans HC0.out); have HC1 := hid ((hg1.block _ (Array.getElem?_eq_some_iff.1 HC1.out).1 (by simp)).trans HC1.out); have HOwn := hid hown; have HHas := hid hhas; have HAt := hid hat; clear hhas hat hown hg1; obtain ⟨⟨x0, x1, x2, x3, x4, x5⟩, xf⟩ := cells6 HC0.out)
  go_loopw [16] (fun iv wr => ∃ (i : Nat), iv = .int .i64 i ∧ i ≤ A ∧ Hid (w1.grownBy wr none) ∧ Hid (R = eqM (t.items.drop i) (t.keys.drop i) u.keys u.items)) (fun iv _ => A - (intOf iv).toNat)
  case atStart => exact ⟨0, rfl, Nat.zero_le _, grefl _ _, hid (by rw [← HR.out]; rfl)⟩
  case round =>
    obtain ⟨i, rfl, hi, HG, HI⟩ := hrel
    by_cases hlt : i < A
    · have hd : decide ((i : Int) < (A : Int)) = true := decide_eq_true (by omega)
      have hit : i < t.items.length := by have := HA.out; omega
      have hik : i < t.keys.length := by have := HQ1.out; omega
      obtain ⟨g, o, rfl, hg, _, hck⟩ := HKA.out (by omega)
      obtain ⟨g1, o1, rfl, hg1, hF1, hr⟩ := HIA.out (by omega)
      have hgr : w.grownBy wr none := gtrans HG1.out HG.out
      have z := hck i _ (List.getElem?_eq_getElem hik)
      rw [← World.cell?_of_block (w := w) (a := ⟨g, o + i, none⟩) (hgr.block g hg (by simp))] at z
      obtain ⟨K, HK⟩ : ∃ K, Hid (t.keys[i] = K) := ⟨_, hid rfl⟩
      rw [HK.out] at z
      have hKs : K.size ≤ 1099511627776 := by rw [← HK.out]; exact HKM.out _ (List.getElem_mem hik)
      have hkey : keyOf Tryz.prog 9 (.string K) = some (.string K.data.toList) := WideMaps.keyOf_string_mk Tryz.underlying9 (by unfold maxLen; omega)
      have hown := HOwn.out.kept HG.out (by simp)
      have c0 := (HG.out.block _ (Array.getElem?_eq_some_iff.1 HC0.out).1 (by simp)).trans HC0.out
      have c1 := (HG.out.block _ (Array.getElem?_eq_some_iff.1 HC1.out).1 (by simp)).trans HC1.out
      obtain ⟨⟨x0, x1, x2, x3, x4, x5⟩, xf⟩ := cells6 c0
      obtain ⟨⟨y0, y1, y2, y3, y4, y5⟩, yf⟩ := cells6 c1
      have HST := hid (eqM_at (l := t.items) (ks := t.keys) (bk := u.keys) (bi := u.items) i hit hik)
      rw [HK.out] at HST
      cases hh : hasK u.keys K with
      | false =>
        have hhd : Maps.has D (.string K.data.toList) = false := by rw [HHas.out, hh]
        have HPN := hid (posK_none hh)
        clear hck hr c0 c1 hh
        go_wp2_with (at_lookup; refine wpList_lookup_own_ok_int _ rfl _ _ 66 rfl 9 3 .i64 law9 Tryz.underlying66 Tryz.underlying3 (Tryz.zeroValue3 _) mb mn D rfl hown _ _ rfl hkey ?_; intro c hat hwc)
        go_quiet (fail)
        go_wp2_with fail
        go_ret
        exact ⟨by rw [HI.out, HST.out, HPN.out]; rfl, gtrans hgr (gdrew wr nq none)⟩
      | true =>
        have hhd : Maps.has D (.string K.data.toList) = true := by rw [HHas.out, hh]
        obtain ⟨j, hj, hat⟩ := HAt.out K hh
        have hjb : j < u.keys.length := (List.getElem?_eq_some_iff.1 hj).1
        have hju : j < u.items.length := by have := HQ3.out; have := HB.out; omega
        have hjB : j < B := by have := HB.out; omega
        have hjBi : (j : Int) < (B : Int) := by omega
        have HPN := hid (posK_at HQ4.out hj)
        obtain ⟨g2, o2, rfl, hg2, hF2, hr2⟩ := HIB.out (by omega)
        obtain ⟨k1, f1, n1, e1, ka1, kn1, kc1, ia1, il1, ic1, z0, z1, z2, z3, z4, z5, hT⟩ := hr.shaped (Stays.none hgr) hF1 hg1 i hit
        obtain ⟨k2, f2, n2, e2, ka2, kn2, kc2, ia2, il2, ic2, v0, v1, v2, v3, v4, v5, hU⟩ := hr2.shaped (Stays.none hgr) hF2 hg2 j hju
        have hgd : u.items.getD j zeroT = u.items[j] := by simp [hju]
        rw [HPN.out] at HST
        simp only [hgd] at HST
        obtain ⟨q, HQ⟩ : ∃ q, Hid (eqT t.items[i] u.items[j] = q) := ⟨_, hid rfl⟩
        rw [HQ.out] at HST
        have ht1 : cntT t.items[i] ≤ n := by have h1 := cntL_mem (List.getElem_mem hit); have h2 := HLn.out; omega
        have hu1 : cntT u.items[j] ≤ 1099511627776 := by have h1 := cntL_mem (List.getElem_mem hju); have h2 := HUn.out; omega
        have HC : Hid (∀ k : Nat, Calls Tryz.prog 17 #[.agg #[.int .i64 k1, .bool f1, .int .i64 n1, .string e1, .slice ka1 kn1 kc1, .slice ia1 il1 ic1], .agg #[.int .i64 k2, .bool f2, .int .i64 n2, .string e2, .slice ka2 kn2 kc2, .slice ia2 il2 ic2]] (wr.drewN k) fun e w' => e = .returned (.bool q) ∧ wr.grownBy w' none) := fun k => by
          refine (HE.out t.items[i] u.items[j] ht1 hu1 (HGT.out.item (List.getElem_mem hit)) (HGU.out.item (List.getElem_mem hju)) (wr.drewN k) F G _ _ (hT.on (Stays.none (gdrew wr k none))) (hU.on (Stays.none (gdrew wr k none)))).mono ?_
          rintro e w' ⟨h1, h2⟩
          rw [HQ.out] at h1
          exact ⟨h1, gtrans (gdrew wr k none) h2⟩
        have HAt2 := hid hat
        clear hck hr hr2 hT hU c0 c1 hh hgd ht1 hu1 hj hat
        cases q with
        | true =>
          go_wp2_with (at_lookup; refine wpList_lookup_own_ok_int _ rfl _ _ 66 rfl 9 3 .i64 law9 Tryz.underlying66 Tryz.underlying3 (Tryz.zeroValue3 _) mb mn D rfl hown _ _ rfl hkey ?_; intro c hat hwc; rw [HAt2.out] at hat; obtain rfl : c = (j : Int) := (by injection hat with hat; injection hat with _ hat; exact hat.symm); clear hat hwc)
          go_region_with (go_at_call 17; refine (HC.out _).mono ?_; rintro e w2 ⟨rfl, hg3⟩)
          all_goals
            have HG2 := hid (gtrans HG.out hg3)
            clear hg3
            go_wp2_with fail
            exact ⟨⟨i + 1, rfl, by omega, HG2, hid (by rw [HI.out, HST.out, Bool.true_and])⟩, by simp only [intOf]; omega⟩
        | false =>
          go_wp2_with (at_lookup; refine wpList_lookup_own_ok_int _ rfl _ _ 66 rfl 9 3 .i64 law9 Tryz.underlying66 Tryz.underlying3 (Tryz.zeroValue3 _) mb mn D rfl hown _ _ rfl hkey ?_; intro c hat hwc; rw [HAt2.out] at hat; obtain rfl : c = (j : Int) := (by injection hat with hat; injection hat with _ hat; exact hat.symm); clear hat hwc)
          go_region_with (go_at_call 17; refine (HC.out _).mono ?_; rintro e w2 ⟨rfl, hg3⟩)
          all_goals
            have HG2 := hid (gtrans hgr hg3)
            clear hg3
            go_wp2_with fail
            go_ret
            exact ⟨by rw [HI.out, HST.out, Bool.false_and]; rfl, HG2.out⟩
    · have hd : decide ((i : Int) < (A : Int)) = false := decide_eq_false (by omega)
      have HRT : Hid (R = true) := by rw [HI.out, List.drop_eq_nil_of_le (by have := HA.out; omega), eqM]; exact rfl
      have HGF := hid (gtrans HG1.out HG.out)
      go_wp2_with fail
      go_ret
      exact ⟨by rw [HRT.out]; rfl, HGF.out⟩
end Go.Proofs.YtihbpkebknifdaaGreatDoor
