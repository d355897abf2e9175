/- The walks of EqStrings, EqValues, EqValue: two that hold the same tree. -/
import Derived.Test.YtdmnhkgiojkphaaGreatDoorWalkO
import Derived.BigQuiet
import Derived.Deep.RegionHeld3
import Derived.Deep.RegionWith
namespace Go.Proofs.YtdmnhkgiojkphaaGreatDoor
open Go Go.RowKit
open Go.RowKit (wrap32 wrap64)

set_option maxRecDepth 100000 in
set_option maxHeartbeats 1000000 in
theorem eqStrings_same (ks : List ByteArray) (w : World) (F G : Nat → Prop) (a b : Value) (ha : RdK w F ks a) (hb : RdK w G ks b) (hn : ks.length ≤ 1099511627776) :
    Calls Tryz.prog 52 #[a, b] w fun e w' => e = .returned (.bool true) ∧ w.grownBy w' none := by
  obtain ⟨pa, ca, rfl, hca, hka⟩ := ha
  obtain ⟨pb, cb, rfl, hcb, hkb⟩ := hb
  obtain ⟨A, HA⟩ : ∃ A, Hid (ks.length = A) := ⟨_, hid rfl⟩
  rw [HA.out] at hn hca hcb ⊢
  have HKA := hid hka
  have HKB := hid hkb
  clear hka hkb
  go_enter Tryz.func52, Tryz.ntmps52
  go_wp2_with fail
  go_loopw [5] (fun iv wr => ∃ (i : Nat), iv = .int .i64 i ∧ i ≤ A ∧ Hid (w.grownBy wr none)) (fun iv _ => A - (intOf iv).toNat)
  case atStart => exact ⟨0, rfl, Nat.zero_le _, grefl _ _⟩
  case round =>
    obtain ⟨i, rfl, hi, HG⟩ := hrel
    by_cases hlt : i < A
    · have hd : decide ((i : Int) < (A : Int)) = true := decide_eq_true (by omega)
      have hit : i < ks.length := by have := HA.out; omega
      obtain ⟨g, o, rfl, hg, _, hc⟩ := HKA.out (by omega)
      obtain ⟨g', o', rfl, hg', _, hc'⟩ := HKB.out (by omega)
      have z := hc i _ (List.getElem?_eq_getElem hit)
      have z' := hc' i _ (List.getElem?_eq_getElem hit)
      rw [← World.cell?_of_block (w := w) (a := ⟨g, o + i, none⟩) (HG.out.block g hg (by simp))] at z
      rw [← World.cell?_of_block (w := w) (a := ⟨g', o' + i, none⟩) (HG.out.block g' hg' (by simp))] at z'
      clear hc hc'
      go_wp2_with fail
      go_quiet (fail)
      go_wp2_with fail
      exact ⟨⟨i + 1, rfl, by omega, gtrans HG.out (gdrew wr nq none)⟩, by simp only [intOf]; omega⟩
    · have hd : decide ((i : Int) < (A : Int)) = false := decide_eq_false (by omega)
      go_wp2_with fail
      go_ret
      exact ⟨rfl, HG.out⟩

/-- Items in memory, as a slice. -/
def RdS (w : World) (F : Nat → Prop) (l : List Tree) (v : Value) : Prop :=
  ∃ (a : Option Addr) (c : Nat), v = .slice a l.length c ∧ l.length ≤ c ∧ (0 < l.length → ∃ g o, a = some ⟨g, o, none⟩ ∧ g < w.heap.size ∧ F g ∧ RdIs w F g o l)
theorem RdS.on {w w' : World} {F : Nat → Prop} {l : List Tree} {v : Value} (h : RdS w F l v) (hs : Stays F w w') : RdS w' F l v := by
  obtain ⟨a, c, rfl, hc, hi⟩ := h
  refine ⟨a, c, rfl, hc, fun h0 => ?_⟩
  obtain ⟨g, o, rfl, hg, hF, hr⟩ := hi h0
  exact ⟨g, o, rfl, Nat.lt_of_lt_of_le hg hs.1, hF, RdIs.kept hs (fun _ h _ => h) hF hg _ hr⟩
theorem RdT_split {w : World} {F : Nat → Prop} {t : Tree} {v : Value} (h : RdT w F t v) : ∃ kv iv, v = .agg #[.int .i64 t.kind, .bool t.flag, .int .i64 t.n, .string t.text, kv, iv] ∧ RdK w F t.keys kv ∧ RdS w F t.items iv := by
  rw [RdT_eq] at h
  obtain ⟨kv, a, c, rfl, hk, hc, hi⟩ := h
  exact ⟨kv, _, rfl, hk, a, c, rfl, hc, hi⟩
set_option maxRecDepth 100000 in
set_option maxHeartbeats 1000000 in
theorem eqValues_same (n : Nat) (hE : ∀ (t : Tree), cntT t ≤ n → ∀ (w : World) (F G : Nat → Prop) (a b : Value), RdT w F t a → RdT w G t b →
      Calls Tryz.prog 20 #[a, b] w fun e w' => e = .returned (.bool true) ∧ w.grownBy w' none)
    (l : List Tree) (hl : cntL l ≤ n) (hn : n ≤ 1099511627776) (w : World) (F G : Nat → Prop) (a b : Value) (ha : RdS w F l a) (hb : RdS w G l b) :
    Calls Tryz.prog 53 #[a, b] w fun e w' => e = .returned (.bool true) ∧ w.grownBy w' none := by
  obtain ⟨pa, ca, rfl, hca, hka⟩ := ha
  obtain ⟨pb, cb, rfl, hcb, hkb⟩ := hb
  have hA : l.length ≤ 1099511627776 := by have := cntL_length l; omega
  obtain ⟨A, HA⟩ : ∃ A, Hid (l.length = A) := ⟨_, hid rfl⟩
  rw [HA.out] at hA hca hcb ⊢
  have HKA := hid hka
  have HKB := hid hkb
  have HE := hid hE
  have HLn := hid hl
  clear hka hkb hE hl hn
  go_enter Tryz.func53, Tryz.ntmps53
  go_wp2_with fail
  go_loopw [5] (fun iv wr => ∃ (i : Nat), iv = .int .i64 i ∧ i ≤ A ∧ Hid (w.grownBy wr none)) (fun iv _ => A - (intOf iv).toNat)
  case atStart => exact ⟨0, rfl, Nat.zero_le _, grefl _ _⟩
  case round =>
    obtain ⟨i, rfl, hi, HG⟩ := hrel
    by_cases hlt : i < A
    · have hd : decide ((i : Int) < (A : Int)) = true := decide_eq_true (by omega)
      have hit : i < l.length := by have := HA.out; omega
      obtain ⟨g, o, rfl, hg, hF, hr⟩ := HKA.out (by omega)
      obtain ⟨g', o', rfl, hg', hF', hr'⟩ := HKB.out (by omega)
      obtain ⟨a0, a1, a2, a3, a4, a5, z0, z1, z2, z3, z4, z5, hT⟩ := hr.at (Stays.none HG.out) hF hg i hit
      obtain ⟨b0, b1, b2, b3, b4, b5, y0, y1, y2, y3, y4, y5, hU⟩ := hr'.at (Stays.none HG.out) hF' hg' i hit
      have HC : Hid (∀ k : Nat, Calls Tryz.prog 20 #[.agg #[a0, a1, a2, a3, a4, a5], .agg #[b0, b1, b2, b3, b4, b5]] (wr.drewN k) fun e w' => e = .returned (.bool true) ∧ wr.grownBy w' none) := fun k => by
        refine (HE.out l[i] (by have h1 := cntL_mem (List.getElem_mem hit); have h2 := HLn.out; omega) (wr.drewN k) F G _ _ (hT.on (Stays.none (gdrew wr k none))) (hU.on (Stays.none (gdrew wr k none)))).mono ?_
        rintro e w' ⟨h1, h2⟩
        exact ⟨h1, gtrans (gdrew wr k none) h2⟩
      clear hr hr' hT hU
      go_wp2_with fail
      go_region_with (go_at_call 20; refine (HC.out _).mono ?_; rintro e w2 ⟨rfl, hg2⟩)
      all_goals
        have HG2 := hid (gtrans HG.out hg2)
        clear hg2
        go_wp2_with fail
        exact ⟨⟨i + 1, rfl, by omega, HG2⟩, by simp only [intOf]; omega⟩
    · have hd : decide ((i : Int) < (A : Int)) = false := decide_eq_false (by omega)
      go_wp2_with fail
      go_ret
      exact ⟨rfl, HG.out⟩

set_option maxRecDepth 100000 in
set_option maxHeartbeats 1000000 in
theorem eqValue_same : ∀ (n : Nat), n ≤ 1099511627776 → ∀ (t : Tree), cntT t ≤ n → ∀ (w : World) (F G : Nat → Prop) (a b : Value), RdT w F t a → RdT w G t b →
    Calls Tryz.prog 20 #[a, b] w fun e w' => e = .returned (.bool true) ∧ w.grownBy w' none
  | 0, _, t, hn, _, _, _, _, _, _, _ => by rw [cntT_eq] at hn; omega
  | n + 1, hN, t, hn, w, F, G, a, b, ha, hb => by
    have ih := eqValue_same n (by omega)
    obtain ⟨ka, ia, rfl, hka, hia⟩ := RdT_split ha
    obtain ⟨kb, ib, rfl, hkb, hib⟩ := RdT_split hb
    have HK : Hid (∀ w' : World, w.grownBy w' none → Calls Tryz.prog 52 #[ka, kb] w' fun e w2 => e = .returned (.bool true) ∧ w'.grownBy w2 none) := fun w' hg =>
      eqStrings_same t.keys w' F G ka kb (hka.kept (Stays.none hg) (fun _ h _ => h)) (hkb.kept (Stays.none hg) (fun _ h _ => h)) (by have := keyN_length t.keys; rw [cntT_eq] at hn; omega)
    have HI : Hid (∀ w' : World, w.grownBy w' none → Calls Tryz.prog 53 #[ia, ib] w' fun e w2 => e = .returned (.bool true) ∧ w'.grownBy w2 none) := fun w' hg =>
      eqValues_same n ih t.items (by rw [cntT_eq] at hn; omega) (by omega) w' F G ia ib (hia.on (Stays.none hg)) (hib.on (Stays.none hg))
    have G2 : Hid (∀ x y : Obj, w.grownBy ((w.alloc x).alloc y) none) := fun x y => gtrans (galloc w x none) (galloc _ y none)
    clear ih hN hn ha hb
    obtain ⟨pa, ca, rfl, hca, hka⟩ := hka
    obtain ⟨pb, cb, rfl, hcb, hkb⟩ := hkb
    obtain ⟨qa, da, rfl, hda, hia⟩ := hia
    obtain ⟨qb, db, rfl, hdb, hib⟩ := hib
    clear hka hkb hia hib hca hcb hda hdb
    obtain ⟨A, HA⟩ : ∃ A, Hid (t.items.length = A) := ⟨_, hid rfl⟩
    obtain ⟨B, HB⟩ : ∃ A, Hid (t.keys.length = A) := ⟨_, hid rfl⟩
    rw [HA.out] at HI
    rw [HB.out] at HK
    rw [HA.out, HB.out]
    obtain ⟨W0, hW0⟩ : ∃ W0, (w.alloc (.cells #[.int .i64 t.kind, .bool t.flag, .int .i64 t.n, .string t.text, .slice pa B ca, .slice qa A da] 26)).alloc (.cells #[.int .i64 t.kind, .bool t.flag, .int .i64 t.n, .string t.text, .slice pb B cb, .slice qb A db] 26) = W0 := ⟨_, rfl⟩
    have c0 : W0.heap[w.heap.size]? = some (.cells #[.int .i64 t.kind, .bool t.flag, .int .i64 t.n, .string t.text, .slice pa B ca, .slice qa A da] 26 (0, 0)) := by
      rw [← hW0]; exact alloc_keeps (heap_alloc_new w _) _
    have c1 : W0.heap[w.heap.size + 1]? = some (.cells #[.int .i64 t.kind, .bool t.flag, .int .i64 t.n, .string t.text, .slice pb B cb, .slice qb A db] 26 (0, 0)) := by
      rw [← hW0]
      have := heap_alloc_new (w.alloc (.cells #[.int .i64 t.kind, .bool t.flag, .int .i64 t.n, .string t.text, .slice pa B ca, .slice qa A da] 26)) (.cells #[.int .i64 t.kind, .bool t.flag, .int .i64 t.n, .string t.text, .slice pb B cb, .slice qb A db] 26)
      simpa using this
    have g0 : w.grownBy W0 none := by rw [← hW0]; exact G2.out _ _
    have HC0 := hid c0
    have HC1 := hid c1
    have HG0 := hid g0
    obtain ⟨⟨x0, x1, x2, x3, x4, x5⟩, xf⟩ := cells6 c0
    obtain ⟨⟨y0, y1, y2, y3, y4, y5⟩, yf⟩ := cells6 c1
    clear c0 c1 g0 G2
    go_enter Tryz.func20, Tryz.ntmps20
    go_wp2_with fail
    refine (HK.out W0 HG0.out).mono ?_
    rintro e w1 ⟨rfl, hg1⟩
    have z0 := HC0.out
    have z1 := HC1.out
    rw [← hg1.block _ (Array.getElem?_eq_some_iff.1 z0).1 (by simp)] at z0
    rw [← hg1.block _ (Array.getElem?_eq_some_iff.1 z1).1 (by simp)] at z1
    have HG1 := hid (gtrans HG0.out hg1)
    obtain ⟨⟨_, _, _, _, _, u5⟩, _⟩ := cells6 z0
    obtain ⟨⟨_, _, _, _, _, v5⟩, _⟩ := cells6 z1
    clear hg1 z0 z1
    go_wp2_with fail
    refine (HI.out w1 HG1.out).mono ?_
    rintro e w2 ⟨rfl, hg2⟩
    have HG2 := hid (gtrans HG1.out hg2)
    clear hg2
    go_wp2_with fail
    go_ret
    exact ⟨rfl, HG2.out⟩
end Go.Proofs.YtdmnhkgiojkphaaGreatDoor
