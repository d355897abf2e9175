/- The walks of radix's functions that tell bytes as texts. -/
import Derived.Test.YtipjjhccbgbdiaaGreatDoorProg
import Derived.Test.YtipjjhccbgbdiaaGreatDoorPlain
import Derived.WalkKit
import Derived.WalkSpells
import Derived.WalkLawsBesides
import Derived.WalkMore
import Derived.ScopeJumps
import Derived.KernelRfl
import Derived.Deep.AppendLies
namespace Go.Proofs.YtipjjhccbgbdiaaGreatDoor
open Go Go.RowKit
open Go.RowKit (wrap32 wrap64)

theorem Tryz.info5 : (Tryz.prog.info? 5).map (fun i => (i.zero, i.size, i.bytes)) = some (some (.int .u8 0), 1, 1) := by kernel_rfl

theorem at_base (base : ByteArray) (i : Nat) (h : i < base.size) : base[i] = lt base.data.toList i := by
  simp [lt, List.getD, ByteArray.getElem_eq_getElem_data]
  rw [Array.getElem?_eq_getElem (by simpa using h)]
  rfl

theorem news_new (w : World) (cs : Array Value) (t : TypeId) : ∀ j u, cs.toList[j]? = some u → (w.alloc (.cells cs t)).cell? ((⟨w.heap.size, 0, none⟩ : Addr).add j) = some u :=
  World.news_of_block (B := w.heap.size) (cs := cs) (t := t) (fr := (0, 0)) (by show (w.heap.push _)[w.heap.size]? = _; simp)

theorem gtrans {a b c : World} {row : Option Nat} (h : a.grownBy b row) (k : b.grownBy c row) : a.grownBy c row :=
  ⟨k.os.trans h.os, k.tape.trans h.tape, k.output.trans h.output, Nat.le_trans h.size k.size, fun i hi hr => (k.block i (Nat.lt_of_lt_of_le hi h.size) hr).trans (h.block i hi hr)⟩

set_option maxRecDepth 100000 in
set_option maxHeartbeats 400000 in
theorem appendLetters3 (B n : Nat) (tv : Value) (t : List Value) (gb go gc : Nat) (y0 y1 y2 : Int) (i0 i1 i2 i3 : Nat) (base : ByteArray) (w : World)
   (hb : base.size = 64) (a0 : 0 ≤ y0) (b0 : y0 < 256) (a1 : 0 ≤ y1) (b1 : y1 < 256) (a2 : 0 ≤ y2) (b2 : y2 < 256)
   (h0 : w.cell? ⟨gb, go, none⟩ = some (.int .u8 y0)) (h1 : w.cell? ⟨gb, go+1, none⟩ = some (.int .u8 y1)) (h2 : w.cell? ⟨gb, go+2, none⟩ = some (.int .u8 y2)) (hgb : gb < w.heap.size)
   (l0 : i0 < 64) (l1 : i1 < 64) (l2 : i2 < 64) (l3 : i3 < 64)
   (e1 : bits .or .i64 0 y2 = y2) (e2 : bits .and .i64 y2 63 = (i3 : Int)) (e3 : bits .or .i64 y2 (y1 * 256) = y2 + y1 * 256) (e4 : bits .and .i64 ((y2 + y1 * 256) / 64) 63 = (i2 : Int))
   (e5 : bits .or .i64 (y2 + y1 * 256) (y0 * 65536) = y2 + y1 * 256 + y0 * 65536) (e6 : bits .and .i64 ((y2 + y1 * 256 + y0 * 65536) / 4096) 63 = (i1 : Int)) (e7 : (y2 + y1 * 256 + y0 * 65536) / 262144 = (i0 : Int))
   (hown : w.ownsRow B 5 1 tv n t) (hB : B ≤ w.heap.size) (hn : n ≤ 1099511627776)
   : Calls Tryz.prog 90 #[tv, .slice (some ⟨gb, go, none⟩) 3 gc, .string base] w fun e w' => ∃ v', e = .returned v' ∧ w'.ownsRow B 5 1 v' (n + 4) (t ++ cb [lt base.data.toList i0, lt base.data.toList i1, lt base.data.toList i2, lt base.data.toList i3]) ∧ w.grownBy w' tv.ownBlock := by
  obtain ⟨inf, hi, hz0, hz1, hz2⟩ := info_parts Tryz.info5
  go_enter Tryz.func90, Tryz.ntmps90
  go_wp2_with (at_builtin; refine wpList_append_own _ rfl _ _ 58 rfl B 5 inf (.int .u8 0) 1 1 Tryz.underlying58 hi hz0 hz1 hz2 rfl (by decide) tv n t rfl (hown.alloc _) ⟨w.heap.size, 0, none⟩ 4 4 (cb [base[i0], base[i1], base[i2], base[i3]]) rfl rfl ?hnews ?hone ?h63 ?hbytes ?hbase ?_)
  case hnews =>
    intro j u hu
    exact news_new w _ _ j u (by simpa [cb] using hu)
  case hone => intro u hu; simp [cb] at hu; rcases hu with rfl | rfl | rfl | rfl <;> rfl
  case h63 => unfold maxLen; omega
  case hbytes => omega
  case hbase => simp; omega
  intro v' w' hown' hg hnil
  go_wp2
  go_ret
  refine ⟨v', rfl, ?_, gtrans (World.grownBy_alloc _ _ _) hg⟩
  simpa only [at_base] using hown'

set_option maxRecDepth 100000 in
set_option maxHeartbeats 400000 in
theorem appendLetters2 (B n : Nat) (tv : Value) (t : List Value) (gb go gc : Nat) (y0 y1 : Int) (i0 i1 i2 : Nat) (base : ByteArray) (w : World)
   (hb : base.size = 64) (a0 : 0 ≤ y0) (b0 : y0 < 256) (a1 : 0 ≤ y1) (b1 : y1 < 256)
   (h0 : w.cell? ⟨gb, go, none⟩ = some (.int .u8 y0)) (h1 : w.cell? ⟨gb, go+1, none⟩ = some (.int .u8 y1)) (hgb : gb < w.heap.size)
   (l0 : i0 < 64) (l1 : i1 < 64) (l2 : i2 < 64)
   (e3 : bits .or .i64 0 (y1 * 256) = y1 * 256) (e4 : bits .and .i64 ((y1 * 256) / 64) 63 = (i2 : Int))
   (e5 : bits .or .i64 (y1 * 256) (y0 * 65536) = y1 * 256 + y0 * 65536) (e6 : bits .and .i64 ((y1 * 256 + y0 * 65536) / 4096) 63 = (i1 : Int)) (e7 : (y1 * 256 + y0 * 65536) / 262144 = (i0 : Int))
   (hown : w.ownsRow B 5 1 tv n t) (hB : B ≤ w.heap.size) (hn : n ≤ 1099511627776)
   : Calls Tryz.prog 90 #[tv, .slice (some ⟨gb, go, none⟩) 2 gc, .string base] w fun e w' => ∃ v', e = .returned v' ∧ w'.ownsRow B 5 1 v' (n + 3) (t ++ cb [lt base.data.toList i0, lt base.data.toList i1, lt base.data.toList i2]) ∧ w.grownBy w' tv.ownBlock := by
  obtain ⟨inf, hi, hz0, hz1, hz2⟩ := info_parts Tryz.info5
  go_enter Tryz.func90, Tryz.ntmps90
  go_wp2_with (at_builtin; refine wpList_append_own _ rfl _ _ 58 rfl B 5 inf (.int .u8 0) 1 1 Tryz.underlying58 hi hz0 hz1 hz2 rfl (by decide) tv n t rfl (hown.alloc _) ⟨w.heap.size, 0, none⟩ 3 4 (cb [base[i0], base[i1], base[i2]]) rfl rfl ?hnews ?hone ?h63 ?hbytes ?hbase ?_)
  case hnews =>
    intro j u hu
    refine news_new w _ _ j u ?_
    have hj : j < 3 := by have := (List.getElem?_eq_some_iff.1 hu).1; simpa [cb] using this
    rw [← hu]
    simp only [cb]
    rcases j with _ | _ | _ | j
    · rfl
    · rfl
    · rfl
    · omega
  case hone => intro u hu; simp [cb] at hu; rcases hu with rfl | rfl | rfl <;> rfl
  case h63 => unfold maxLen; omega
  case hbytes => omega
  case hbase => simp; omega
  intro v' w' hown' hg hnil
  go_wp2
  go_ret
  refine ⟨v', rfl, ?_, gtrans (World.grownBy_alloc _ _ _) hg⟩
  simpa only [at_base] using hown'

set_option maxRecDepth 100000 in
set_option maxHeartbeats 400000 in
theorem appendLetters1 (B n : Nat) (tv : Value) (t : List Value) (gb go gc : Nat) (y0 : Int) (i0 i1 : Nat) (base : ByteArray) (w : World)
   (hb : base.size = 64) (a0 : 0 ≤ y0) (b0 : y0 < 256)
   (h0 : w.cell? ⟨gb, go, none⟩ = some (.int .u8 y0)) (hgb : gb < w.heap.size)
   (l0 : i0 < 64) (l1 : i1 < 64)
   (e5 : bits .or .i64 0 (y0 * 65536) = y0 * 65536) (e6 : bits .and .i64 ((y0 * 65536) / 4096) 63 = (i1 : Int)) (e7 : (y0 * 65536) / 262144 = (i0 : Int))
   (hown : w.ownsRow B 5 1 tv n t) (hB : B ≤ w.heap.size) (hn : n ≤ 1099511627776)
   : Calls Tryz.prog 90 #[tv, .slice (some ⟨gb, go, none⟩) 1 gc, .string base] w fun e w' => ∃ v', e = .returned v' ∧ w'.ownsRow B 5 1 v' (n + 2) (t ++ cb [lt base.data.toList i0, lt base.data.toList i1]) ∧ w.grownBy w' tv.ownBlock := by
  obtain ⟨inf, hi, hz0, hz1, hz2⟩ := info_parts Tryz.info5
  go_enter Tryz.func90, Tryz.ntmps90
  go_wp2_with (at_builtin; refine wpList_append_own _ rfl _ _ 58 rfl B 5 inf (.int .u8 0) 1 1 Tryz.underlying58 hi hz0 hz1 hz2 rfl (by decide) tv n t rfl (hown.alloc _) ⟨w.heap.size, 0, none⟩ 2 4 (cb [base[i0], base[i1]]) rfl rfl ?hnews ?hone ?h63 ?hbytes ?hbase ?_)
  case hnews =>
    intro j u hu
    refine news_new w _ _ j u ?_
    have hj : j < 2 := by have := (List.getElem?_eq_some_iff.1 hu).1; simpa [cb] using this
    rw [← hu]
    simp only [cb]
    rcases j with _ | _ | j
    · rfl
    · rfl
    · omega
  case hone => intro u hu; simp [cb] at hu; rcases hu with rfl | rfl <;> rfl
  case h63 => unfold maxLen; omega
  case hbytes => omega
  case hbase => simp; omega
  intro v' w' hown' hg hnil
  go_wp2
  go_ret
  refine ⟨v', rfl, ?_, gtrans (World.grownBy_alloc _ _ _) hg⟩
  simpa only [at_base] using hown'

theorem u8_bd (x : UInt8) : 0 ≤ (x.toNat : Int) ∧ (x.toNat : Int) < 256 := by have := x.toNat_lt; omega

/-- appendLetters: the letters of a group of one to three bytes lie behind the text. -/
theorem appendLetters_any (B n : Nat) (tv : Value) (t : List Value) (gb go gc : Nat) (g : List UInt8) (base : ByteArray) (w : World)
   (hb : base.size = 64) (h1 : 1 ≤ g.length) (h3 : g.length ≤ 3) (hgb : gb < w.heap.size)
   (hc : ∀ i (h : i < g.length), w.cell? ⟨gb, go + i, none⟩ = some (.int .u8 g[i].toNat))
   (hown : w.ownsRow B 5 1 tv n t) (hB : B ≤ w.heap.size) (hn : n ≤ 1099511627776)
   : Calls Tryz.prog 90 #[tv, .slice (some ⟨gb, go, none⟩) g.length gc, .string base] w fun e w' => ∃ v', e = .returned v' ∧ w'.ownsRow B 5 1 v' (n + (g.length + 1)) (t ++ cb (enc base.data.toList g)) ∧ w.grownBy w' tv.ownBlock := by
  match g, h1, h3, hc with
  | [a], _, _, hc =>
    have ba := u8_bd a
    refine appendLetters1 B n tv t gb go gc a.toNat (a.toNat / 4) (a.toNat % 4 * 16) base w hb ba.1 ba.2 (hc 0 (by simp)) hgb (by omega) (by omega) (or0 _ (by omega) (by omega)) ?_ (by omega) hown hB hn
    rw [and63 _ (by omega) (by omega)]; omega
  | [a, b], _, _, hc =>
    have ba := u8_bd a
    have bb := u8_bd b
    refine appendLetters2 B n tv t gb go gc a.toNat b.toNat (a.toNat / 4) (a.toNat % 4 * 16 + b.toNat / 16) (b.toNat % 16 * 4) base w hb ba.1 ba.2 bb.1 bb.2 (hc 0 (by simp)) (hc 1 (by simp)) hgb (by omega) (by omega) (by omega) (or0 _ (by omega) (by omega)) ?_ (or16 _ _ (by omega) (by omega) (by omega) (by omega) (by omega)) ?_ (by omega) hown hB hn
    · rw [and63 _ (by omega) (by omega)]; omega
    · rw [and63 _ (by omega) (by omega)]; omega
  | [a, b, c], _, _, hc =>
    have ba := u8_bd a
    have bb := u8_bd b
    have bc := u8_bd c
    refine appendLetters3 B n tv t gb go gc a.toNat b.toNat c.toNat (a.toNat / 4) (a.toNat % 4 * 16 + b.toNat / 16) (b.toNat % 16 * 4 + c.toNat / 64) (c.toNat % 64) base w hb ba.1 ba.2 bb.1 bb.2 bc.1 bc.2 (hc 0 (by simp)) (hc 1 (by simp)) (hc 2 (by simp)) hgb (by omega) (by omega) (by omega) (by omega) (or0 _ (by omega) (by omega)) ?_ (or8 _ _ (by omega) (by omega) (by omega) (by omega) (by omega)) ?_ (or16 _ _ (by omega) (by omega) (by omega) (by omega) (by omega)) ?_ (by omega) hown hB hn
    · rw [and63 _ (by omega) (by omega)]; omega
    · rw [and63 _ (by omega) (by omega)]; omega
    · rw [and63 _ (by omega) (by omega)]; omega

end Go.Proofs.YtipjjhccbgbdiaaGreatDoor
