/- The walks of EqStrings, EqValues, EqValue: two that hold the same tree. -/
import Derived.Test.YtdmnhkgiojkphaaGreatDoorX14
import Derived.BigQuiet
import Derived.Deep.RegionHeld3
import Derived.Deep.RegionWith
import Derived.Test.YtdmnhkgiojkphaaGreatDoorShelf
import Derived.Deep.RegionLaw
import Derived.Deep.AppendLies
import Derived.Lib.AppendStr
namespace Go.Proofs.YtdmnhkgiojkphaaGreatDoor
open Go Go.RowKit
open Go.RowKit (wrap32 wrap64)

set_option maxRecDepth 100000 in
set_option maxHeartbeats 1000000 in
theorem eqStrings_same (ks : List ByteArray) (w : World) (F G : Nat → Prop) (a b : Value) (ha : RdK w F ks a) (hb : RdK w G ks b) (hn : ks.length ≤ 1099511627776) :
    Calls Tryz.prog 52 #[a, b] w fun e w' => e = .returned (.bool true) ∧ w.grownBy w' none := by
  obtain ⟨pa, ca, rfl, hca, hka⟩ := ha
  obtain ⟨pb, cb, rfl, hcb, hkb⟩ := hb
  obtain ⟨A, HA⟩ : ∃ A, Hid (ks.length = A) := ⟨_, hid rfl⟩
  rw [HA.out] at hn hca hcb ⊢
  have HKA := hid hka
  have HKB := hid hkb
  clear hka hkb
  go_enter Tryz.func52, Tryz.ntmps52
  go_wp2_with fail
  go_loopw [5] (fun iv wr => ∃ (i : Nat), iv = .int .i64 i ∧ i ≤ A ∧ Hid (w.grownBy wr none)) (fun iv _ => A - (intOf iv).toNat)
  case atStart => exact ⟨0, rfl, Nat.zero_le _, grefl _ _⟩
  case round =>
    obtain ⟨i, rfl, hi, HG⟩ := hrel
    by_cases hlt : i < A
    · have hd : decide ((i : Int) < (A : Int)) = true := decide_eq_true (by omega)
      have hit : i < ks.length := by have := HA.out; omega
      obtain ⟨g, o, rfl, hg, _, hc⟩ := HKA.out (by omega)
      obtain ⟨g', o', rfl, hg', _, hc'⟩ := HKB.out (by omega)
      have z := hc i _ (List.getElem?_eq_getElem hit)
      have z' := hc' i _ (List.getElem?_eq_getElem hit)
      rw [← World.cell?_of_block (w := w) (a := ⟨g, o + i, none⟩) (HG.out.block g hg (by simp))] at z
      rw [← World.cell?_of_block (w := w) (a := ⟨g', o' + i, none⟩) (HG.out.block g' hg' (by simp))] at z'
      clear hc hc'
      go_wp2_with fail
      go_quiet (fail)
      go_wp2_with fail
      exact ⟨⟨i + 1, rfl, by omega, gtrans HG.out (gdrew wr nq none)⟩, by simp only [intOf]; omega⟩
    · have hd : decide ((i : Int) < (A : Int)) = false := decide_eq_false (by omega)
      go_wp2_with fail
      go_ret
      exact ⟨rfl, HG.out⟩

/-- Items in memory, as a slice. -/
def RdS (w : World) (F : Nat → Prop) (l : List Tree) (v : Value) : Prop :=
  ∃ (a : Option Addr) (c : Nat), v = .slice a l.length c ∧ l.length ≤ c ∧ (0 < l.length → ∃ g o, a = some ⟨g, o, none⟩ ∧ g < w.heap.size ∧ F g ∧ RdIs w F g o l)
theorem RdS.on {w w' : World} {F : Nat → Prop} {l : List Tree} {v : Value} (h : RdS w F l v) (hs : Stays F w w') : RdS w' F l v := by
  obtain ⟨a, c, rfl, hc, hi⟩ := h
  refine ⟨a, c, rfl, hc, fun h0 => ?_⟩
  obtain ⟨g, o, rfl, hg, hF, hr⟩ := hi h0
  exact ⟨g, o, rfl, Nat.lt_of_lt_of_le hg hs.1, hF, RdIs.kept hs (fun _ h _ => h) hF hg _ hr⟩
theorem RdT_split {w : World} {F : Nat → Prop} {t : Tree} {v : Value} (h : RdT w F t v) : ∃ kv iv, v = .agg #[.int .i64 t.kind, .bool t.flag, .int .i64 t.n, .string t.text, kv, iv] ∧ RdK w F t.keys kv ∧ RdS w F t.items iv := by
  rw [RdT_eq] at h
  obtain ⟨kv, a, c, rfl, hk, hc, hi⟩ := h
  exact ⟨kv, _, rfl, hk, a, c, rfl, hc, hi⟩
set_option maxRecDepth 100000 in
set_option maxHeartbeats 1000000 in
theorem eqValues_same (n : Nat) (hE : ∀ (t : Tree), cntT t ≤ n → ∀ (w : World) (F G : Nat → Prop) (a b : Value), RdT w F t a → RdT w G t b →
      Calls Tryz.prog 20 #[a, b] w fun e w' => e = .returned (.bool true) ∧ w.grownBy w' none)
    (l : List Tree) (hl : cntL l ≤ n) (hn : n ≤ 1099511627776) (w : World) (F G : Nat → Prop) (a b : Value) (ha : RdS w F l a) (hb : RdS w G l b) :
    Calls Tryz.prog 53 #[a, b] w fun e w' => e = .returned (.bool true) ∧ w.grownBy w' none := by
  obtain ⟨pa, ca, rfl, hca, hka⟩ := ha
  obtain ⟨pb, cb, rfl, hcb, hkb⟩ := hb
  have hA : l.length ≤ 1099511627776 := by have := cntL_length l; omega
  obtain ⟨A, HA⟩ : ∃ A, Hid (l.length = A) := ⟨_, hid rfl⟩
  rw [HA.out] at hA hca hcb ⊢
  have HKA := hid hka
  have HKB := hid hkb
  have HE := hid hE
  have HLn := hid hl
  clear hka hkb hE hl hn
  go_enter Tryz.func53, Tryz.ntmps53
  go_wp2_with fail
  go_loopw [5] (fun iv wr => ∃ (i : Nat), iv = .int .i64 i ∧ i ≤ A ∧ Hid (w.grownBy wr none)) (fun iv _ => A - (intOf iv).toNat)
  case atStart => exact ⟨0, rfl, Nat.zero_le _, grefl _ _⟩
  case round =>
    obtain ⟨i, rfl, hi, HG⟩ := hrel
    by_cases hlt : i < A
    · have hd : decide ((i : Int) < (A : Int)) = true := decide_eq_true (by omega)
      have hit : i < l.length := by have := HA.out; omega
      obtain ⟨g, o, rfl, hg, hF, hr⟩ := HKA.out (by omega)
      obtain ⟨g', o', rfl, hg', hF', hr'⟩ := HKB.out (by omega)
      obtain ⟨a0, a1, a2, a3, a4, a5, z0, z1, z2, z3, z4, z5, hT⟩ := hr.at (Stays.none HG.out) hF hg i hit
      obtain ⟨b0, b1, b2, b3, b4, b5, y0, y1, y2, y3, y4, y5, hU⟩ := hr'.at (Stays.none HG.out) hF' hg' i hit
      have HC : Hid (∀ k : Nat, Calls Tryz.prog 20 #[.agg #[a0, a1, a2, a3, a4, a5], .agg #[b0, b1, b2, b3, b4, b5]] (wr.drewN k) fun e w' => e = .returned (.bool true) ∧ wr.grownBy w' none) := fun k => by
        refine (HE.out l[i] (by have h1 := cntL_mem (List.getElem_mem hit); have h2 := HLn.out; omega) (wr.drewN k) F G _ _ (hT.on (Stays.none (gdrew wr k none))) (hU.on (Stays.none (gdrew wr k none)))).mono ?_
        rintro e w' ⟨h1, h2⟩
        exact ⟨h1, gtrans (gdrew wr k none) h2⟩
      clear hr hr' hT hU
      go_wp2_with fail
      go_region_with (go_at_call 20; refine (HC.out _).mono ?_; rintro e w2 ⟨rfl, hg2⟩)
      all_goals
        have HG2 := hid (gtrans HG.out hg2)
        clear hg2
        go_wp2_with fail
        exact ⟨⟨i + 1, rfl, by omega, HG2⟩, by simp only [intOf]; omega⟩
    · have hd : decide ((i : Int) < (A : Int)) = false := decide_eq_false (by omega)
      go_wp2_with fail
      go_ret
      exact ⟨rfl, HG.out⟩

set_option maxRecDepth 100000 in
set_option maxHeartbeats 1000000 in
theorem eqValue_same : ∀ (n : Nat), n ≤ 1099511627776 → ∀ (t : Tree), cntT t ≤ n → ∀ (w : World) (F G : Nat → Prop) (a b : Value), RdT w F t a → RdT w G t b →
    Calls Tryz.prog 20 #[a, b] w fun e w' => e = .returned (.bool true) ∧ w.grownBy w' none
  | 0, _, t, hn, _, _, _, _, _, _, _ => by rw [cntT_eq] at hn; omega
  | n + 1, hN, t, hn, w, F, G, a, b, ha, hb => by
    have ih := eqValue_same n (by omega)
    obtain ⟨ka, ia, rfl, hka, hia⟩ := RdT_split ha
    obtain ⟨kb, ib, rfl, hkb, hib⟩ := RdT_split hb
    have HK : Hid (∀ w' : World, w.grownBy w' none → Calls Tryz.prog 52 #[ka, kb] w' fun e w2 => e = .returned (.bool true) ∧ w'.grownBy w2 none) := fun w' hg =>
      eqStrings_same t.keys w' F G ka kb (hka.kept (Stays.none hg) (fun _ h _ => h)) (hkb.kept (Stays.none hg) (fun _ h _ => h)) (by have := keyN_length t.keys; rw [cntT_eq] at hn; omega)
    have HI : Hid (∀ w' : World, w.grownBy w' none → Calls Tryz.prog 53 #[ia, ib] w' fun e w2 => e = .returned (.bool true) ∧ w'.grownBy w2 none) := fun w' hg =>
      eqValues_same n ih t.items (by rw [cntT_eq] at hn; omega) (by omega) w' F G ia ib (hia.on (Stays.none hg)) (hib.on (Stays.none hg))
    have G2 : Hid (∀ x y : Obj, w.grownBy ((w.alloc x).alloc y) none) := fun x y => gtrans (galloc w x none) (galloc _ y none)
    clear ih hN hn ha hb
    obtain ⟨pa, ca, rfl, hca, hka⟩ := hka
    obtain ⟨pb, cb, rfl, hcb, hkb⟩ := hkb
    obtain ⟨qa, da, rfl, hda, hia⟩ := hia
    obtain ⟨qb, db, rfl, hdb, hib⟩ := hib
    clear hka hkb hia hib hca hcb hda hdb
    obtain ⟨A, HA⟩ : ∃ A, Hid (t.items.length = A) := ⟨_, hid rfl⟩
    obtain ⟨B, HB⟩ : ∃ A, Hid (t.keys.length = A) := ⟨_, hid rfl⟩
    rw [HA.out] at HI
    rw [HB.out] at HK
    rw [HA.out, HB.out]
    obtain ⟨W0, hW0⟩ : ∃ W0, (w.alloc (.cells #[.int .i64 t.kind, .bool t.flag, .int .i64 t.n, .string t.text, .slice pa B ca, .slice qa A da] 26)).alloc (.cells #[.int .i64 t.kind, .bool t.flag, .int .i64 t.n, .string t.text, .slice pb B cb, .slice qb A db] 26) = W0 := ⟨_, rfl⟩
    have c0 : W0.heap[w.heap.size]? = some (.cells #[.int .i64 t.kind, .bool t.flag, .int .i64 t.n, .string t.text, .slice pa B ca, .slice qa A da] 26 (0, 0)) := by
      rw [← hW0]; exact alloc_keeps (heap_alloc_new w _) _
    have c1 : W0.heap[w.heap.size + 1]? = some (.cells #[.int .i64 t.kind, .bool t.flag, .int .i64 t.n, .string t.text, .slice pb B cb, .slice qb A db] 26 (0, 0)) := by
      rw [← hW0]
      have := heap_alloc_new (w.alloc (.cells #[.int .i64 t.kind, .bool t.flag, .int .i64 t.n, .string t.text, .slice pa B ca, .slice qa A da] 26)) (.cells #[.int .i64 t.kind, .bool t.flag, .int .i64 t.n, .string t.text, .slice pb B cb, .slice qb A db] 26)
      simpa using this
    have g0 : w.grownBy W0 none := by rw [← hW0]; exact G2.out _ _
    have HC0 := hid c0
    have HC1 := hid c1
    have HG0 := hid g0
    obtain ⟨⟨x0, x1, x2, x3, x4, x5⟩, xf⟩ := cells6 c0
    obtain ⟨⟨y0, y1, y2, y3, y4, y5⟩, yf⟩ := cells6 c1
    clear c0 c1 g0 G2
    go_enter Tryz.func20, Tryz.ntmps20
    go_wp2_with fail
    refine (HK.out W0 HG0.out).mono ?_
    rintro e w1 ⟨rfl, hg1⟩
    have z0 := HC0.out
    have z1 := HC1.out
    rw [← hg1.block _ (Array.getElem?_eq_some_iff.1 z0).1 (by simp)] at z0
    rw [← hg1.block _ (Array.getElem?_eq_some_iff.1 z1).1 (by simp)] at z1
    have HG1 := hid (gtrans HG0.out hg1)
    obtain ⟨⟨_, _, _, _, _, u5⟩, _⟩ := cells6 z0
    obtain ⟨⟨_, _, _, _, _, v5⟩, _⟩ := cells6 z1
    clear hg1 z0 z1
    go_wp2_with fail
    refine (HI.out w1 HG1.out).mono ?_
    rintro e w2 ⟨rfl, hg2⟩
    have HG2 := hid (gtrans HG1.out hg2)
    clear hg2
    go_wp2_with fail
    go_ret
    exact ⟨rfl, HG2.out⟩
end Go.Proofs.YtdmnhkgiojkphaaGreatDoor

namespace Go.Proofs.YtdmnhkgiojkphaaGreatDoor
open Go Go.RowKit
open Go.RowKit (wrap32 wrap64)

theorem Tryz.info5 : (Tryz.prog.info? 5).map (fun i => (i.zero, i.size, i.bytes)) = some (some (.int .u8 0), 1, 1) := by kernel_rfl

/-- Bytes that the call owns, from block B on. -/
def Out (B : Nat) (w : World) (v : Value) (acc : List UInt8) : Prop := w.ownsRow B 5 1 v acc.length (Lib.byteCells acc)
/-- All blocks below B stay, and all above that hold no bytes. -/
def Kept (B : Nat) (w w' : World) : Prop := Below B w w' ∧ Lib.OthersKept 5 none w w'
theorem Kept.refl (B : Nat) (w : World) : Kept B w w := ⟨Below.refl _ _, Lib.OthersKept.refl _ _ _⟩
theorem Kept.trans {B : Nat} {a b c : World} (h : Kept B a b) (k : Kept B b c) : Kept B a c := ⟨h.1.trans k.1, h.2.trans k.2⟩
theorem Out.kind {B : Nat} {w : World} {v : Value} {acc : List UInt8} (h : Out B w v acc) : ∀ g, v.ownBlock = some g → ∃ c fz, w.heap[g]? = some (.cells c 5 fz) := by
  intro g hg
  rcases h.2 with ⟨rfl, _⟩ | ⟨g', cap, cur, rfl, _, hgg, _⟩
  · simp [Value.ownBlock] at hg
  · simp [Value.ownBlock] at hg
    subst hg
    exact ⟨cur, _, hgg⟩
theorem Kept.grown {B : Nat} {a w w' : World} {v : Value} {acc : List UInt8} (h : Kept B a w) (ho : Out B w v acc) (hB : B ≤ w.heap.size) (hg : w.grownBy w' v.ownBlock) : Kept B a w' :=
  ⟨h.1.trans ⟨hg.os, hg.tape, hg.output, hg.size, fun k hk => hg.block k (by omega) (fun e => by have := (ho.lt k e.symm).1; omega)⟩, h.2.grown hg ho.kind⟩
theorem Kept.none {B : Nat} {a w w' : World} (h : Kept B a w) (hB : B ≤ w.heap.size) (hg : w.grownBy w' none) : Kept B a w' :=
  ⟨h.1.trans ⟨hg.os, hg.tape, hg.output, hg.size, fun k hk => hg.block k (by omega) (by simp)⟩, h.2.grown hg (fun g hg => by cases hg)⟩
theorem Out.none {B : Nat} {w w' : World} {v : Value} {acc : List UInt8} (h : Out B w v acc) (hg : w.grownBy w' none) : Out B w' v acc := by
  refine World.ownsRow.kept h hg ?_
  cases hv : v.ownBlock with
  | none => exact .inl rfl
  | some g => exact .inr (by simp)

/-- A byte that is to be appended, in a block of its own beside the row. -/
def Lit (w : World) (v : Value) (L : Nat) (c : UInt8) : Prop := w.heap[L]? = some (.cells #[.int .u8 c.toNat] 5 (0, 0)) ∧ v.ownBlock ≠ some L
def NotLit (acc : List UInt8) (c : UInt8) : Prop := acc ≠ [] ∧ acc ≠ [c]
theorem NotLit.more {acc acc' : List UInt8} {c : UInt8} (h : NotLit acc c) (hp : acc <+: acc') : NotLit acc' c := by
  obtain ⟨bs, rfl⟩ := hp
  refine ⟨fun e => h.1 (List.append_eq_nil_iff.1 e).1, fun e => ?_⟩
  cases acc with
  | nil => exact h.1 rfl
  | cons a r =>
    cases r with
    | nil =>
      rw [List.cons_append] at e
      injection e with e1 _
      exact h.2 (by rw [e1])
    | cons b r => simp at e
/-- A row of other bytes lies in another block. -/
theorem Out.notLit {B : Nat} {w : World} {v : Value} {acc : List UInt8} {L : Nat} {c : UInt8} (h : Out B w v acc) (hn : NotLit acc c) (hL : w.heap[L]? = some (.cells #[.int .u8 c.toNat] 5 (0, 0))) : v.ownBlock ≠ some L := by
  intro hv
  have hc := h.cells (g := L) hv
  have hlen : acc.length ≤ 1 := by
    rcases h.2 with ⟨rfl, h0⟩ | ⟨g', cap, cur, rfl, _, hgg, hle, _, hs, _⟩
    · omega
    · simp [Value.ownBlock] at hv
      subst hv
      rw [hL] at hgg
      injection hgg with hgg
      injection hgg with hgg _ _
      subst hgg
      simp at hs
      omega
  cases acc with
  | nil => exact hn.1 rfl
  | cons a r =>
    cases r with
    | cons b r => simp at hlen
    | nil =>
      have := hc 0 (.int .u8 a.toNat) rfl
      simp [World.cell?, hL, Addr.add] at this
      exact hn.2 (by rw [UInt8.toNat_inj.1 (by omega : a.toNat = c.toNat)])
/-- What an append keeps, and what stands beside. -/
def KeptV (B : Nat) (w : World) (v : Value) (acc : List UInt8) (w' : World) (v' : Value) : Prop := Kept B w w' ∧ ∀ L c, Lit w v L c → NotLit acc c → Lit w' v' L c
theorem KeptV.refl (B : Nat) (w : World) (v : Value) (acc : List UInt8) : KeptV B w v acc w v := ⟨Kept.refl B w, fun _ _ h _ => h⟩
theorem KeptV.trans {B : Nat} {a w w' : World} {va v v' : Value} {acc0 acc : List UInt8} (h : KeptV B a va acc0 w v) (k : KeptV B w v acc w' v') (hp : acc0 <+: acc) : KeptV B a va acc0 w' v' :=
  ⟨h.1.trans k.1, fun L c hl hn => k.2 L c (h.2 L c hl hn) (hn.more hp)⟩
theorem KeptV.none {B : Nat} {a w w' : World} {va v : Value} {acc0 : List UInt8} (h : KeptV B a va acc0 w v) (hB : B ≤ w.heap.size) (hg : w.grownBy w' none) : KeptV B a va acc0 w' v :=
  ⟨h.1.none hB hg, fun L c hl hn => by
    have := h.2 L c hl hn
    exact ⟨(hg.block L (Array.getElem?_eq_some_iff.1 this.1).1 (by simp)).trans this.1, this.2⟩⟩
theorem KeptV.grown {B : Nat} {a w w' : World} {va v v' : Value} {acc0 acc acc' : List UInt8} (h : KeptV B a va acc0 w v) (ho : Out B w v acc) (hB : B ≤ w.heap.size) (hg : w.grownBy w' v.ownBlock) (ho' : Out B w' v' acc') (hp : acc0 <+: acc') : KeptV B a va acc0 w' v' :=
  ⟨h.1.grown ho hB hg, fun L c hl hn => by
    have := h.2 L c hl hn
    have h2 := (hg.block L (Array.getElem?_eq_some_iff.1 this.1).1 (fun e => this.2 e.symm)).trans this.1
    exact ⟨h2, ho'.notLit (hn.more hp) h2⟩⟩

/-- A code point as it stands in a text. -/
def runeP (c : Int) : List UInt8 :=
  if c = 34 ∨ c = 92 then [92, UInt8.ofNat c.toNat]
  else if c = 10 then [92, 110] else if c = 13 then [92, 114] else if c = 9 then [92, 116]
  else if c < 32 then [92, 117, 48, 48, hexd (c.toNat / 16), hexd (c.toNat % 16)]
  else Lib.encodeRune c
theorem byteCells_append (a b : List UInt8) : Lib.byteCells (a ++ b) = Lib.byteCells a ++ Lib.byteCells b := by simp [Lib.byteCells]
theorem Out.more {B : Nat} {w : World} {v : Value} {acc bs : List UInt8} {n : Nat} {xs : List Value} (h : w.ownsRow B 5 1 v n xs) (hn : n = acc.length + bs.length) (hx : xs = Lib.byteCells acc ++ Lib.byteCells bs) : Out B w v (acc ++ bs) := by
  unfold Out
  rw [byteCells_append, List.length_append, ← hn, ← hx]
  exact h
theorem newsN (w : World) (cs : Array Value) (t : TypeId) : ∀ j u, cs.toList[j]? = some u → (w.alloc (.cells cs t)).cell? ((⟨w.heap.size, 0, none⟩ : Addr).add j) = some u :=
  World.news_of_block (B := w.heap.size) (cs := cs) (t := t) (fr := (0, 0)) (by show (w.heap.push _)[w.heap.size]? = _; simp)
theorem and15 (k : Nat) (hk : k < 32) : bits .and .i32 (k : Int) 15 = ((k % 16 : Nat) : Int) := by
  have : ∀ j : Fin 32, bits .and .i32 ((j.val : Nat) : Int) 15 = ((j.val % 16 : Nat) : Int) := by decide
  exact this ⟨k, hk⟩
def hexS : ByteArray := ⟨#[48, 49, 50, 51, 52, 53, 54, 55, 56, 57, 97, 98, 99, 100, 101, 102]⟩
theorem hexS_at (i : Nat) (h : i < hexS.size) : hexS[i] = hexd i := by
  have : ∀ j : Fin 16, hexS[j.val]'(j.isLt) = hexd j.val := by decide
  exact this ⟨i, h⟩

set_option maxRecDepth 100000 in
set_option maxHeartbeats 1000000 in
theorem appendRune_any (B : Nat) (w : World) (v : Value) (acc : List UInt8) (c : Int) (h0 : 0 ≤ c) (h1 : c ≤ 1114111) (ho : Out B w v acc) (hlen : acc.length ≤ 35184372088832) (hB : B ≤ w.heap.size) :
    Calls Tryz.prog 133 #[v, .int .i32 c] w fun e w' => ∃ v', e = .returned v' ∧ Out B w' v' (acc ++ runeP c) ∧ KeptV B w v acc w' v' := by
  obtain ⟨i0, hi, hz0, hz1, hz2⟩ := info_parts Tryz.info5
  have HO := hid ho
  have ho' : w.ownsRow B 5 1 v acc.length (Lib.byteCells acc) := ho
  have HOW := hid ho'
  obtain ⟨N, HN⟩ : ∃ N, Hid (acc.length = N) := ⟨_, hid rfl⟩
  rw [HN.out] at HOW hlen
  clear ho ho'
  by_cases h34 : c = 34 ∨ c = 92
  · have HR : Hid (runeP c = [92, UInt8.ofNat c.toNat]) := by unfold runeP; rw [if_pos h34]; exact rfl
    have hm : N + 2 ≤ maxLen := by unfold maxLen; omega
    rcases h34 with rfl | rfl
    · go_enter Tryz.func133, Tryz.ntmps133
      go_wp2_with (at_builtin; refine wpList_append_own _ rfl _ _ 84 rfl B 5 i0 (.int .u8 0) 1 1 Tryz.underlying84 hi hz0 hz1 hz2 rfl (by decide) _ _ _ rfl (HOW.out.alloc _) ⟨w.heap.size, 0, none⟩ 2 2 [.int .u8 92, .int .u8 34] rfl rfl (by exact fun j u hu => newsN w _ _ j u hu) (by intro u hu; simp at hu; rcases hu with rfl | rfl <;> rfl) hm (by omega) (by simp; omega) ?_; intro v' w2 hown' hgrow _)
      go_wp2_with fail
      go_ret
      have hO' : Out B w2 v' (acc ++ runeP 34) := by
        rw [HR.out]
        exact Out.more hown' (by rw [HN.out]; rfl) rfl
      exact ⟨v', rfl, hO', ((KeptV.refl B w v acc).none hB (galloc w _ none)).grown (HO.out.none (galloc w _ none)) (by simp; omega) hgrow hO' (List.prefix_append _ _)⟩
    · go_enter Tryz.func133, Tryz.ntmps133
      go_wp2_with (at_builtin; refine wpList_append_own _ rfl _ _ 84 rfl B 5 i0 (.int .u8 0) 1 1 Tryz.underlying84 hi hz0 hz1 hz2 rfl (by decide) _ _ _ rfl (HOW.out.alloc _) ⟨w.heap.size, 0, none⟩ 2 2 [.int .u8 92, .int .u8 92] rfl rfl (by exact fun j u hu => newsN w _ _ j u hu) (by intro u hu; simp at hu; rcases hu with rfl | rfl <;> rfl) hm (by omega) (by simp; omega) ?_; intro v' w2 hown' hgrow _)
      go_wp2_with fail
      go_ret
      have hO' : Out B w2 v' (acc ++ runeP 92) := by
        rw [HR.out]
        exact Out.more hown' (by rw [HN.out]; rfl) rfl
      exact ⟨v', rfl, hO', ((KeptV.refl B w v acc).none hB (galloc w _ none)).grown (HO.out.none (galloc w _ none)) (by simp; omega) hgrow hO' (List.prefix_append _ _)⟩
  · have e34 : (c == 34) = false := beq_eq_false_iff_ne.2 (fun h => h34 (.inl h))
    have e92 : (c == 92) = false := beq_eq_false_iff_ne.2 (fun h => h34 (.inr h))
    have H34 := hid h34
    clear h34
    by_cases h10 : c = 10 ∨ c = 13 ∨ c = 9
    · have hm : N + 2 ≤ maxLen := by unfold maxLen; omega
      rcases h10 with rfl | rfl | rfl
      · go_enter Tryz.func133, Tryz.ntmps133
        go_wp2_with (at_builtin; refine Lib.wpList_append_own_string _ rfl _ _ 84 9 rfl B 5 i0 Tryz.underlying84 Tryz.underlying9 hi hz0 hz1 hz2 _ _ _ rfl HOW.out ⟨#[92, 110]⟩ rfl hm (by show N + 2 ≤ _; omega) hB ?_; intro v' w2 hown' hgrow _)
        go_wp2_with fail
        go_ret
        have hO' : Out B w2 v' (acc ++ runeP 10) := Out.more hown' (by rw [HN.out]; rfl) rfl
        exact ⟨v', rfl, hO', (KeptV.refl B w v acc).grown HO.out hB hgrow hO' (List.prefix_append _ _)⟩
      · go_enter Tryz.func133, Tryz.ntmps133
        go_wp2_with (at_builtin; refine Lib.wpList_append_own_string _ rfl _ _ 84 9 rfl B 5 i0 Tryz.underlying84 Tryz.underlying9 hi hz0 hz1 hz2 _ _ _ rfl HOW.out ⟨#[92, 114]⟩ rfl hm (by show N + 2 ≤ _; omega) hB ?_; intro v' w2 hown' hgrow _)
        go_wp2_with fail
        go_ret
        have hO' : Out B w2 v' (acc ++ runeP 13) := Out.more hown' (by rw [HN.out]; rfl) rfl
        exact ⟨v', rfl, hO', (KeptV.refl B w v acc).grown HO.out hB hgrow hO' (List.prefix_append _ _)⟩
      · go_enter Tryz.func133, Tryz.ntmps133
        go_wp2_with (at_builtin; refine Lib.wpList_append_own_string _ rfl _ _ 84 9 rfl B 5 i0 Tryz.underlying84 Tryz.underlying9 hi hz0 hz1 hz2 _ _ _ rfl HOW.out ⟨#[92, 116]⟩ rfl hm (by show N + 2 ≤ _; omega) hB ?_; intro v' w2 hown' hgrow _)
        go_wp2_with fail
        go_ret
        have hO' : Out B w2 v' (acc ++ runeP 9) := Out.more hown' (by rw [HN.out]; rfl) rfl
        exact ⟨v', rfl, hO', (KeptV.refl B w v acc).grown HO.out hB hgrow hO' (List.prefix_append _ _)⟩
    · have e10 : (c == 10) = false := beq_eq_false_iff_ne.2 (fun h => h10 (.inl h))
      have e13 : (c == 13) = false := beq_eq_false_iff_ne.2 (fun h => h10 (.inr (.inl h)))
      have e9 : (c == 9) = false := beq_eq_false_iff_ne.2 (fun h => h10 (.inr (.inr h)))
      have H10 := hid h10
      clear h10
      by_cases h32 : c < 32
      · have hd : decide (c < 32) = true := decide_eq_true h32
        have hm : N + 6 ≤ maxLen := by unfold maxLen; omega
        obtain ⟨k, rfl⟩ : ∃ k : Nat, c = (k : Int) := ⟨c.toNat, by omega⟩
        have hk : k < 32 := by omega
        obtain ⟨i1, hi1, li1⟩ : ∃ i1 : Nat, (k : Int) / 16 = (i1 : Int) ∧ i1 < 16 := ⟨k / 16, by omega, by omega⟩
        obtain ⟨i2, hi2, li2⟩ : ∃ i2 : Nat, bits .and .i32 (k : Int) 15 = (i2 : Int) ∧ i2 < 16 := ⟨k % 16, and15 k hk, by omega⟩
        have li1' : (i1 : Int) < 16 := by omega
        have li2' : (i2 : Int) < 16 := by omega
        have HR : Hid (runeP (k : Int) = [92, 117, 48, 48, hexS[i1]'li1, hexS[i2]'li2]) := by
          unfold runeP
          rw [if_neg H34.out, if_neg (fun h => H10.out (.inl h)), if_neg (fun h => H10.out (.inr (.inl h))), if_neg (fun h => H10.out (.inr (.inr h))), if_pos h32, hexS_at i1 li1, hexS_at i2 li2]
          rw [and15 k hk] at hi2
          have e1 : (k : Int).toNat / 16 = i1 := by omega
          have e2 : (k : Int).toNat % 16 = i2 := by omega
          rw [e1, e2]
          exact rfl
        go_enter Tryz.func133, Tryz.ntmps133
        go_wp2_with fail
        go_region_law (refine step_append_lies _ rfl _ _ 84 rfl B 5 i0 (.int .u8 0) 1 1 Tryz.underlying84 hi hz0 hz1 hz2 rfl (by decide) v N _ rfl (by exact HOW.out.alloc _) ⟨w.heap.size, 0, none⟩ 6 6 (Lib.byteCells [92, 117, 48, 48, hexS[i1]'li1, hexS[i2]'li2]) rfl rfl (by exact fun j u hu => newsN w _ _ j u hu) (by intro u hu; simp [Lib.byteCells] at hu; rcases hu with rfl | rfl | rfl | rfl | rfl <;> rfl) (by decide) hm (by omega) (by simp; omega) (w.heap.size + 1) (by simp) ?_; intro g cap w2 hown2 hg2 hat hlt2)
        all_goals
          have HOW2 := hid hown2
          have HG2 := hid hg2
          clear hown2 hg2
          go_wp2_with fail
          go_ret
          have hO' : Out B w2 (.slice (some ⟨g, 0, none⟩) (N + 6) cap) (acc ++ runeP (k : Int)) := by
            rw [HR.out]
            exact Out.more HOW2.out (by rw [HN.out]; rfl) rfl
          refine ⟨_, rfl, hO', ?_⟩
          refine ((KeptV.refl B w v acc).none hB (?_ : w.grownBy _ none)).grown (HO.out.none (?_ : w.grownBy _ none)) ?_ HG2.out hO' (List.prefix_append _ _)
          · exact gtrans (gdrew1 w none) (galloc _ _ none)
          · exact gtrans (gdrew1 w none) (galloc _ _ none)
          · simp; omega
      · have hd : decide (c < 32) = false := decide_eq_false h32
        have HR : Hid (runeP c = Lib.encodeRune c) := by
          unfold runeP
          rw [if_neg H34.out, if_neg (fun h => H10.out (.inl h)), if_neg (fun h => H10.out (.inr (.inl h))), if_neg (fun h => H10.out (.inr (.inr h))), if_neg h32]
          exact rfl
        go_enter Tryz.func133, Tryz.ntmps133
        go_wp2_with fail
        refine (Tryz.utf8_AppendRune_plain B v N (Lib.byteCells acc) c (by omega) (by omega) w HOW.out (by omega) hB).mono ?_
        rintro e w2 ⟨v', rfl, hown', o, hg2⟩
        have HOW2 := hid hown'
        have HG2 := hid hg2
        clear hown' hg2
        go_wp2_with fail
        go_ret
        have hO' : Out B w2 v' (acc ++ runeP c) := by
          rw [HR.out]
          have := HOW2.out
          rw [← Lib.byteCells_encodeRune] at this
          exact Out.more this (by rw [HN.out]; simp [Lib.byteCells]) rfl
        exact ⟨v', rfl, hO', ((KeptV.refl B w v acc).none hB (galloc w o none)).grown (HO.out.none (galloc w o none)) (by simp; omega) HG2.out hO' (List.prefix_append _ _)⟩
end Go.Proofs.YtdmnhkgiojkphaaGreatDoor
