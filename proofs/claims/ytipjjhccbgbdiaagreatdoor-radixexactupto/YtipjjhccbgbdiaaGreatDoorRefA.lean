/- The walks of the reference's Read, place and bits, and of radix's Read at every length. -/
import Derived.Test.YtipjjhccbgbdiaaGreatDoorWalkN
namespace Go.Proofs.YtipjjhccbgbdiaaGreatDoor
open Go Go.RowKit
open Go.RowKit (wrap32 wrap64)

/-- What Read tells, and its error's number. -/
def rdN (l : List UInt8) : Nat := if 1 ≤ l.length ∧ l.length ≤ 8 then beVal l else 0
def rdE (l : List UInt8) : Nat := if 1 ≤ l.length ∧ l.length ≤ 8 then 0 else 11

set_option maxRecDepth 100000 in
set_option maxHeartbeats 400000 in
theorem read_bad (l : List UInt8) (a : Option Addr) (c : Nat) (w : World) (hl : l.length ≤ 140737488355328) (h : ¬ (1 ≤ l.length ∧ l.length ≤ 8)) :
    Calls Tryz.prog 17 #[.slice a l.length c] w fun e w' => e = .returned (.tuple #[.int .u64 0, .int .i64 11]) ∧ w' = w := by
  obtain ⟨x, hx⟩ : ∃ x : Int, (l.length : Int) = x := ⟨_, rfl⟩
  have hx0 : 0 ≤ x := by omega
  have hx1 : x ≤ 140737488355328 := by omega
  have HX := hid hx
  by_cases h1 : x < 1
  · go_enter Tryz.func17, Tryz.ntmps17
    go_wp2
    go_ret2
    exact ⟨rfl, rfl⟩
  · have h8 : 8 < x := by have := HX.out; omega
    go_enter Tryz.func17, Tryz.ntmps17
    go_wp2
    go_ret2
    exact ⟨rfl, rfl⟩

/-- Read at every row of bytes. -/
theorem Rd.readAll {w : World} {v : Value} {l : List UInt8} (h : Rd w v l) (hl : l.length ≤ 140737488355328) :
    Calls Tryz.prog 17 #[v] w fun e w' => e = .returned (.tuple #[.int .u64 (rdN l), .int .i64 (rdE l)]) ∧ w' = w := by
  by_cases hb : 1 ≤ l.length ∧ l.length ≤ 8
  · unfold rdN rdE
    rw [if_pos hb, if_pos hb]
    exact h.read hb.1 hb.2
  · unfold rdN rdE
    rw [if_neg hb, if_neg hb]
    obtain ⟨a, b, off, c, rfl, hc, _, ha, hcell⟩ := h
    exact read_bad l a c w hl hb

set_option maxRecDepth 100000 in
set_option maxHeartbeats 400000 in
/-- The reference's Read. -/
theorem refRead_any (l : List UInt8) (a : Option Addr) (b off c : Nat) (w : World) (hl : l.length ≤ 140737488355328)
    (ha : 0 < l.length → a = some ⟨b, off, none⟩ ∧ b < w.heap.size)
    (hcell : ∀ i (h : i < l.length), w.cell? ⟨b, off + i, none⟩ = some (.int .u8 l[i].toNat)) :
    Calls Tryz.prog 18 #[.slice a l.length c] w fun e w' => e = .returned (.tuple #[.int .u64 (rdN l), .int .i64 (rdE l)]) ∧ w' = w := by
  have HA := hid ha
  have HC := hid hcell
  clear ha hcell
  obtain ⟨x, hx⟩ : ∃ x : Int, (l.length : Int) = x := ⟨_, rfl⟩
  have hx0 : 0 ≤ x := by omega
  have hx1 : x ≤ 140737488355328 := by omega
  have HX := hid hx
  by_cases h1 : x < 1
  · unfold rdN rdE
    rw [if_neg (by have := HX.out; omega), if_neg (by have := HX.out; omega)]
    go_enter Tryz.func18, Tryz.ntmps18
    go_wp2
    go_ret2
    exact ⟨rfl, rfl⟩
  · by_cases h8 : 8 < x
    · unfold rdN rdE
      rw [if_neg (by have := HX.out; omega), if_neg (by have := HX.out; omega)]
      go_enter Tryz.func18, Tryz.ntmps18
      go_wp2
      go_ret2
      exact ⟨rfl, rfl⟩
    · obtain ⟨rfl, hbw⟩ := HA.out (by have := HX.out; omega)
      have hx1' : 1 ≤ x := by omega
      have hx8 : x ≤ 8 := by omega
      unfold rdN rdE
      rw [if_pos (by have := HX.out; omega), if_pos (by have := HX.out; omega)]
      go_enter Tryz.func18, Tryz.ntmps18
      go_wp2
      go_loop [4, 5] (fun nv iv => ∃ (k : Nat) (m : Int), k ≤ l.length ∧ iv = .int .i64 k ∧ nv = .int .u64 m ∧ Hid (m = (beVal (l.take k) : Int))) (fun _ iv => l.length - (intOf iv).toNat)
      case atStart => exact ⟨0, 0, Nat.zero_le _, rfl, rfl, hid rfl⟩
      case round =>
        obtain ⟨k, m, hk, rfl, rfl, HM⟩ := hrel
        by_cases hlt : k < l.length
        · have hlt' : (k : Int) < x := by have := HX.out; omega
          have hck := HC.out k hlt
          have bd := u8_bd l[k]
          obtain ⟨y, HY⟩ : ∃ y : Int, Hid ((l[k].toNat : Int) = y) := ⟨(l[k].toNat : Int), hid rfl⟩
          rw [HY.out] at hck bd
          have hm0 : 0 ≤ m := by have := HM.out; omega
          have hm1 : m < 72057594037927936 := by
            have h2 := beVal_lt (l.take k)
            have h3 : (l.take k).length ≤ 7 := by rw [List.length_take]; have := HX.out; omega
            have h4 : 256 ^ (l.take k).length ≤ 256 ^ 7 := Nat.pow_le_pow_right (by decide) h3
            have h5 : (256 : Nat) ^ 7 = 72057594037927936 := by decide
            have := HM.out
            omega
          have bd1 := bd.1
          have bd2 := bd.2
          clear bd
          go_wp2
          refine ⟨⟨k + 1, 256 * m + y, hlt, by go_num, by go_num, hid ?_⟩, by simp [intOf]; omega⟩
          rw [List.take_succ_eq_append_getElem hlt, beVal_snoc]
          have := HM.out
          have := HY.out
          omega
        · have hge : x ≤ (k : Int) := by have := HX.out; omega
          go_wp2
          go_ret2
          have e : (beVal l : Int) = m := by
            have := HM.out
            rw [show k = l.length by have := HX.out; omega, List.take_length] at this
            exact this.symm
          rw [e]
          exact ⟨rfl, rfl⟩

theorem Rd.refRead {w : World} {v : Value} {l : List UInt8} (h : Rd w v l) (hl : l.length ≤ 140737488355328) :
    Calls Tryz.prog 18 #[v] w fun e w' => e = .returned (.tuple #[.int .u64 (rdN l), .int .i64 (rdE l)]) ∧ w' = w := by
  obtain ⟨a, b, off, c, rfl, hc, _, ha, hcell⟩ := h
  exact refRead_any l a b off c w hl ha hcell

/-- A byte's first place in a row. -/
theorem index_is : ∀ (l : List UInt8) (c : UInt8) (i : Nat), (∀ j, j < i → l[j]? ≠ some c) → l[i]? = some c → Lib.indexByte l c = i := by
  intro l c i h1 h2
  have h3 : Lib.indexByte l c ≠ -1 := fun k => Lib.indexByte_none k i h2
  have h4 : -1 ≤ Lib.indexByte l c := Lib.indexByte_ge l c
  have h5 := Lib.indexByte_some (l := l) (c := c) (o := (Lib.indexByte l c).toNat) (by omega)
  have h6 : ¬ (Lib.indexByte l c).toNat < i := fun k => h1 _ k h5.1
  have h7 : ¬ i < (Lib.indexByte l c).toNat := fun k => h5.2 i k h2
  omega

theorem index_not (l : List UInt8) (c : UInt8) (h : ∀ j : Nat, l[j]? ≠ some c) : Lib.indexByte l c = -1 := by
  have h4 : -1 ≤ Lib.indexByte l c := Lib.indexByte_ge l c
  apply Decidable.byContradiction
  intro h3
  exact h _ (Lib.indexByte_some (l := l) (c := c) (o := (Lib.indexByte l c).toNat) (by omega)).1

set_option maxRecDepth 100000 in
set_option maxHeartbeats 400000 in
/-- place: where a letter stands in a set. -/
theorem place_any (s : ByteArray) (c : UInt8) (w : World) (hs : s.size ≤ 1048576) :
    Calls Tryz.prog 94 #[.string s, .int .u8 c.toNat] w fun e w' => e = .returned (.int .i64 (Lib.indexByte s.data.toList c)) ∧ w' = w := by
  obtain ⟨y, hy⟩ : ∃ y : Int, (c.toNat : Int) = y := ⟨_, rfl⟩
  have HY := hid hy
  rw [hy]
  clear hy
  go_enter Tryz.func94, Tryz.ntmps94
  go_wp2
  go_loop [5] (fun iv => ∃ k : Nat, k ≤ s.size ∧ iv = .int .i64 k ∧ Hid (∀ j, j < k → s.data.toList[j]? ≠ some c)) (fun iv => s.size - (intOf iv).toNat)
  case atStart => exact ⟨0, Nat.zero_le _, rfl, hid (fun j h => by omega)⟩
  case round =>
    obtain ⟨k, hk, rfl, HN⟩ := hrel
    by_cases hlt : k < s.size
    · have hlt' : (k : Int) < (s.size : Int) := by omega
      have hat : s.data.toList[k]? = some s[k] := Lib.data_getElem? s k hlt
      have HAT := hid hat
      clear hat
      cases hd : ((s[k].toNat : Int) == y) with
      | true =>
        have e : s[k] = c := UInt8.toNat_inj.1 (by have := beq_iff_eq.1 hd; have := HY.out; omega)
        have hi := index_is s.data.toList c k HN.out (by rw [HAT.out, e])
        clear e
        go_wp2
        go_ret
        exact ⟨rfl, rfl⟩
      | false =>
        have e : s[k] ≠ c := fun k' => by
          rw [beq_eq_false_iff_ne, k', HY.out] at hd
          exact hd rfl
        have HE := hid e
        clear e
        go_wp2
        refine ⟨⟨k + 1, hlt, by go_num, hid (fun j hj => ?_)⟩, by simp [intOf]; omega⟩
        by_cases hjk : j < k
        · exact HN.out j hjk
        · rw [show j = k by omega, HAT.out]
          intro h
          exact HE.out (Option.some.inj h)
    · have hge : (s.size : Int) ≤ (k : Int) := by omega
      go_wp2
      go_ret
      rw [index_not s.data.toList c (fun j => by
        by_cases hj : j < k
        · exact HN.out j hj
        · rw [List.getElem?_eq_none (by rw [size_list]; omega)]
          intro h; cases h)]
      exact ⟨rfl, rfl⟩
end Go.Proofs.YtipjjhccbgbdiaaGreatDoor

/- The walks of the reference's text and bits. -/
namespace Go.Proofs.YtipjjhccbgbdiaaGreatDoor
open Go Go.RowKit
open Go.RowKit (wrap32 wrap64)

theorem str_of (s : ByteArray) (l : List UInt8) (h : s.data.toList = l) : (⟨l.toArray⟩ : ByteArray) = s := by rw [← h]

/-- The number in k bits from place i on; behind the last one noughts. -/
def bv (l : List UInt8) (i : Nat) : Nat → Nat
  | 0 => 0
  | k + 1 => 2 * bv l i k + (l.getD (i + k) 0).toNat

theorem bv_lt (l : List UInt8) (h : ∀ i (h : i < l.length), l[i].toNat ≤ 1) (i : Nat) : ∀ k, bv l i k < 2 ^ k
  | 0 => by simp [bv]
  | k + 1 => by
    have ih := bv_lt l h i k
    have hb : (l.getD (i + k) 0).toNat ≤ 1 := by
      by_cases hk : i + k < l.length
      · simp only [List.getD, List.getElem?_eq_getElem hk]; exact h _ hk
      · simp [List.getD, List.getElem?_eq_none (show l.length ≤ i + k by omega)]
    show 2 * bv l i k + (l.getD (i + k) 0).toNat < 2 ^ (k + 1)
    rw [Nat.pow_succ]
    omega

/-- Bits in letters of so many bits. -/
def textL (set : List UInt8) (wd : Nat) (l : List UInt8) : List UInt8 := (List.range ((l.length + (wd - 1)) / wd)).map fun j => lt set (bv l (j * wd) wd)

theorem extract1 (s : ByteArray) (g : Nat) (h : g < s.size) : (s.extract g (g + 1)).data.toList = [lt s.data.toList g] := by
  rw [ByteArray.data_extract, Array.toList_extract]
  have hl : g < s.data.toList.length := by rw [size_list]; exact h
  simp only [List.extract_eq_take_drop]
  rw [show g + 1 - g = 1 by omega, List.drop_eq_getElem_cons hl]
  simp [lt, List.getD, List.getElem?_eq_getElem hl]

set_option maxRecDepth 100000 in
set_option maxHeartbeats 800000 in
/-- text, in letters of 6 bits. -/
theorem text6_any (l : List UInt8) (set : ByteArray) (a : Option Addr) (b off c : Nat) (w : World) (hl : l.length ≤ 8388608) (hbit : ∀ i (h : i < l.length), l[i].toNat ≤ 1) (hset : set.size = 64)
    (ha : 0 < l.length → a = some ⟨b, off, none⟩ ∧ b < w.heap.size)
    (hcell : ∀ i (h : i < l.length), w.cell? ⟨b, off + i, none⟩ = some (.int .u8 l[i].toNat)) :
    Calls Tryz.prog 44 #[.slice a l.length c, .string set, .int .i64 6] w fun e w' => e = .returned (.string ⟨(textL set.data.toList 6 l).toArray⟩) ∧ w' = w := by
  have HA := hid ha
  have HC := hid hcell
  have HBIT := hid hbit
  have HSET := hid hset
  clear ha hcell hbit
  obtain ⟨x, hx⟩ : ∃ x : Int, (l.length : Int) = x := ⟨_, rfl⟩
  have hx0 : 0 ≤ x := by omega
  have hx1 : x ≤ 8388608 := by omega
  have HX := hid hx
  go_enter Tryz.func44, Tryz.ntmps44
  go_wp2
  go_loop [7, 8] (fun sv iv => ∃ (j i : Nat) (s : ByteArray), sv = .string s ∧ iv = .int .i64 i ∧ i ≤ 8388618 ∧ Hid (i = j * 6 ∧ j ≤ (l.length + (6 - 1)) / 6) ∧ Hid (s.data.toList = (List.range j).map fun j => lt set.data.toList (bv l (j * 6) 6))) (fun _ iv => l.length + 6 - (intOf iv).toNat)
  case atStart => exact ⟨0, 0, ⟨#[]⟩, rfl, rfl, by omega, hid (by omega), hid rfl⟩
  case round =>
    obtain ⟨j, i, s, rfl, rfl, hi, HJ, HS⟩ := hrel
    have hsz : s.size = j := by rw [← size_list, HS.out]; simp
    have hsz2 : s.size ≤ 8388618 := by have := HJ.out; omega
    have HSZ := hid hsz
    clear hsz
    by_cases hlt : i < l.length
    · have hlt' : (i : Int) < x := by have := HX.out; omega
      obtain ⟨rfl, hbw⟩ := HA.out (by omega)
      go_wp2
      go_loop [9, 10] (fun nv kv => ∃ (p : Nat) (m : Int), nv = .int .i64 m ∧ kv = .int .i64 p ∧ i ≤ p ∧ p ≤ i + 6 ∧ 0 ≤ m ∧ m < 64 ∧ Hid (m = (bv l i (p - i) : Int))) (fun _ kv => i + 6 - (intOf kv).toNat)
      case atStart => exact ⟨i, 0, rfl, rfl, by omega, by omega, by omega, by omega, hid (by rw [Nat.sub_self]; rfl)⟩
      case round =>
        obtain ⟨p, m, rfl, rfl, hp1, hp2, hm0, hm1, HM⟩ := hrel
        by_cases hpl : p < i + 6
        · have hpl' : (p : Int) < (i : Int) + 6 := by omega
          have hq := bv_lt l (fun k hk => HBIT.out k hk) i (p - i + 1)
          have hq2 : 2 ^ (p - i + 1) ≤ 64 := by
            have := Nat.pow_le_pow_right (show 0 < 2 by decide) (show p - i + 1 ≤ 6 by omega)
            simpa using this
          have hbs : bv l i (p - i + 1) = 2 * bv l i (p - i) + (l.getD p 0).toNat := by
            show 2 * bv l i (p - i) + (l.getD (i + (p - i)) 0).toNat = _
            rw [show i + (p - i) = p by omega]
          by_cases hin : p < l.length
          · have hin' : (p : Int) < x := by have := HX.out; omega
            have hck := HC.out p hin
            have hb1 := HBIT.out p hin
            have hgd : l.getD p 0 = l[p] := by simp [List.getD, List.getElem?_eq_getElem hin]
            rw [hgd] at hbs
            obtain ⟨y, HY⟩ : ∃ y : Int, Hid ((l[p].toNat : Int) = y) := ⟨(l[p].toNat : Int), hid rfl⟩
            rw [HY.out] at hck
            have hy0 : 0 ≤ y := by have := HY.out; omega
            have hy1 : y ≤ 1 := by have := HY.out; omega
            have HB := hid (And.intro hbs (And.intro hq hq2))
            clear hbs hq hq2 hgd hb1
            have hmy : 2 * m + y < 64 := by have := HM.out; have := HY.out; have := HB.out; omega
            go_wp2
            refine ⟨⟨p + 1, 2 * m + y, rfl, by go_num, by omega, by omega, by omega, by omega, hid ?_⟩, by simp [intOf]; omega⟩
            rw [show p + 1 - i = p - i + 1 by omega]
            have := HM.out
            have := HY.out
            have := HB.out
            omega
          · have hin' : x ≤ (p : Int) := by have := HX.out; omega
            have hgd : l.getD p 0 = 0 := by simp [List.getD, List.getElem?_eq_none (show l.length ≤ p by omega)]
            rw [hgd] at hbs
            have HB := hid (And.intro hbs (And.intro hq hq2))
            clear hbs hq hq2 hgd
            have hmy : 2 * m < 64 := by have := HM.out; have := HB.out; simp at this; omega
            go_wp2
            refine ⟨⟨p + 1, 2 * m, rfl, by go_num, by omega, by omega, by omega, by omega, hid ?_⟩, by simp [intOf]; omega⟩
            rw [show p + 1 - i = p - i + 1 by omega]
            have := HM.out
            have := HB.out
            simp at this
            omega
        · have hpl' : (i : Int) + 6 ≤ (p : Int) := by omega
          obtain ⟨g, HG⟩ : ∃ g : Nat, Hid (g = bv l i 6) := ⟨_, hid rfl⟩
          have hmg : m = (g : Int) := by have := HM.out; rw [show p - i = 6 by omega] at this; rw [HG.out]; exact this
          subst hmg
          have hg1 : (g : Int) + 1 ≤ (set.size : Int) := by have := HSET.out; omega
          clear HM
          go_wp2
          refine ⟨⟨j + 1, i + 6, s ++ set.extract g (g + 1), rfl, by go_num, by have := HX.out; omega, hid ?_, hid ?_⟩, by simp [intOf]; omega⟩
          · have := HJ.out
            constructor
            · omega
            · omega
          · rw [ByteArray.data_append, Array.toList_append, HS.out, List.range_succ, List.map_append]
            congr 1
            show _ = [lt set.data.toList (bv l (j * 6) 6)]
            rw [← HJ.out.1, ← HG.out]
            exact extract1 set g (by have := HSET.out; omega)
    · have hge : x ≤ (i : Int) := by have := HX.out; omega
      go_wp2
      go_ret
      refine ⟨?_, rfl⟩
      have e : (⟨(textL set.data.toList 6 l).toArray⟩ : ByteArray) = s := by
        apply str_of
        rw [HS.out]
        unfold textL
        rw [show j = (l.length + (6 - 1)) / 6 by have := HJ.out; omega]
      rw [e]
      rfl

set_option maxRecDepth 100000 in
set_option maxHeartbeats 800000 in
/-- text, in letters of 4 bits. -/
theorem text4_any (l : List UInt8) (set : ByteArray) (a : Option Addr) (b off c : Nat) (w : World) (hl : l.length ≤ 8388608) (hbit : ∀ i (h : i < l.length), l[i].toNat ≤ 1) (hset : set.size = 16)
    (ha : 0 < l.length → a = some ⟨b, off, none⟩ ∧ b < w.heap.size)
    (hcell : ∀ i (h : i < l.length), w.cell? ⟨b, off + i, none⟩ = some (.int .u8 l[i].toNat)) :
    Calls Tryz.prog 44 #[.slice a l.length c, .string set, .int .i64 4] w fun e w' => e = .returned (.string ⟨(textL set.data.toList 4 l).toArray⟩) ∧ w' = w := by
  have HA := hid ha
  have HC := hid hcell
  have HBIT := hid hbit
  have HSET := hid hset
  clear ha hcell hbit
  obtain ⟨x, hx⟩ : ∃ x : Int, (l.length : Int) = x := ⟨_, rfl⟩
  have hx0 : 0 ≤ x := by omega
  have hx1 : x ≤ 8388608 := by omega
  have HX := hid hx
  go_enter Tryz.func44, Tryz.ntmps44
  go_wp2
  go_loop [7, 8] (fun sv iv => ∃ (j i : Nat) (s : ByteArray), sv = .string s ∧ iv = .int .i64 i ∧ i ≤ 8388618 ∧ Hid (i = j * 4 ∧ j ≤ (l.length + (4 - 1)) / 4) ∧ Hid (s.data.toList = (List.range j).map fun j => lt set.data.toList (bv l (j * 4) 4))) (fun _ iv => l.length + 4 - (intOf iv).toNat)
  case atStart => exact ⟨0, 0, ⟨#[]⟩, rfl, rfl, by omega, hid (by omega), hid rfl⟩
  case round =>
    obtain ⟨j, i, s, rfl, rfl, hi, HJ, HS⟩ := hrel
    have hsz : s.size = j := by rw [← size_list, HS.out]; simp
    have hsz2 : s.size ≤ 8388618 := by have := HJ.out; omega
    have HSZ := hid hsz
    clear hsz
    by_cases hlt : i < l.length
    · have hlt' : (i : Int) < x := by have := HX.out; omega
      obtain ⟨rfl, hbw⟩ := HA.out (by omega)
      go_wp2
      go_loop [9, 10] (fun nv kv => ∃ (p : Nat) (m : Int), nv = .int .i64 m ∧ kv = .int .i64 p ∧ i ≤ p ∧ p ≤ i + 4 ∧ 0 ≤ m ∧ m < 16 ∧ Hid (m = (bv l i (p - i) : Int))) (fun _ kv => i + 4 - (intOf kv).toNat)
      case atStart => exact ⟨i, 0, rfl, rfl, by omega, by omega, by omega, by omega, hid (by rw [Nat.sub_self]; rfl)⟩
      case round =>
        obtain ⟨p, m, rfl, rfl, hp1, hp2, hm0, hm1, HM⟩ := hrel
        by_cases hpl : p < i + 4
        · have hpl' : (p : Int) < (i : Int) + 4 := by omega
          have hq := bv_lt l (fun k hk => HBIT.out k hk) i (p - i + 1)
          have hq2 : 2 ^ (p - i + 1) ≤ 16 := by
            have := Nat.pow_le_pow_right (show 0 < 2 by decide) (show p - i + 1 ≤ 4 by omega)
            simpa using this
          have hbs : bv l i (p - i + 1) = 2 * bv l i (p - i) + (l.getD p 0).toNat := by
            show 2 * bv l i (p - i) + (l.getD (i + (p - i)) 0).toNat = _
            rw [show i + (p - i) = p by omega]
          by_cases hin : p < l.length
          · have hin' : (p : Int) < x := by have := HX.out; omega
            have hck := HC.out p hin
            have hb1 := HBIT.out p hin
            have hgd : l.getD p 0 = l[p] := by simp [List.getD, List.getElem?_eq_getElem hin]
            rw [hgd] at hbs
            obtain ⟨y, HY⟩ : ∃ y : Int, Hid ((l[p].toNat : Int) = y) := ⟨(l[p].toNat : Int), hid rfl⟩
            rw [HY.out] at hck
            have hy0 : 0 ≤ y := by have := HY.out; omega
            have hy1 : y ≤ 1 := by have := HY.out; omega
            have HB := hid (And.intro hbs (And.intro hq hq2))
            clear hbs hq hq2 hgd hb1
            have hmy : 2 * m + y < 16 := by have := HM.out; have := HY.out; have := HB.out; omega
            go_wp2
            refine ⟨⟨p + 1, 2 * m + y, rfl, by go_num, by omega, by omega, by omega, by omega, hid ?_⟩, by simp [intOf]; omega⟩
            rw [show p + 1 - i = p - i + 1 by omega]
            have := HM.out
            have := HY.out
            have := HB.out
            omega
          · have hin' : x ≤ (p : Int) := by have := HX.out; omega
            have hgd : l.getD p 0 = 0 := by simp [List.getD, List.getElem?_eq_none (show l.length ≤ p by omega)]
            rw [hgd] at hbs
            have HB := hid (And.intro hbs (And.intro hq hq2))
            clear hbs hq hq2 hgd
            have hmy : 2 * m < 16 := by have := HM.out; have := HB.out; simp at this; omega
            go_wp2
            refine ⟨⟨p + 1, 2 * m, rfl, by go_num, by omega, by omega, by omega, by omega, hid ?_⟩, by simp [intOf]; omega⟩
            rw [show p + 1 - i = p - i + 1 by omega]
            have := HM.out
            have := HB.out
            simp at this
            omega
        · have hpl' : (i : Int) + 4 ≤ (p : Int) := by omega
          obtain ⟨g, HG⟩ : ∃ g : Nat, Hid (g = bv l i 4) := ⟨_, hid rfl⟩
          have hmg : m = (g : Int) := by have := HM.out; rw [show p - i = 4 by omega] at this; rw [HG.out]; exact this
          subst hmg
          have hg1 : (g : Int) + 1 ≤ (set.size : Int) := by have := HSET.out; omega
          clear HM
          go_wp2
          refine ⟨⟨j + 1, i + 4, s ++ set.extract g (g + 1), rfl, by go_num, by have := HX.out; omega, hid ?_, hid ?_⟩, by simp [intOf]; omega⟩
          · have := HJ.out
            constructor
            · omega
            · omega
          · rw [ByteArray.data_append, Array.toList_append, HS.out, List.range_succ, List.map_append]
            congr 1
            show _ = [lt set.data.toList (bv l (j * 4) 4)]
            rw [← HJ.out.1, ← HG.out]
            exact extract1 set g (by have := HSET.out; omega)
    · have hge : x ≤ (i : Int) := by have := HX.out; omega
      go_wp2
      go_ret
      refine ⟨?_, rfl⟩
      have e : (⟨(textL set.data.toList 4 l).toArray⟩ : ByteArray) = s := by
        apply str_of
        rw [HS.out]
        unfold textL
        rw [show j = (l.length + (4 - 1)) / 4 by have := HJ.out; omega]
      rw [e]
      rfl
end Go.Proofs.YtipjjhccbgbdiaaGreatDoor

/- The walk of the reference's bits. -/
namespace Go.Proofs.YtipjjhccbgbdiaaGreatDoor
open Go Go.RowKit
open Go.RowKit (wrap32 wrap64)

/-- Bit m of a byte. -/
def bitOf (x : UInt8) (m : Nat) : UInt8 := UInt8.ofNat (x.toNat / 2 ^ m % 2)
/-- The first j bits of a byte, the highest first. -/
def bitsTo (x : UInt8) (j : Nat) : List UInt8 := (List.range j).map fun i => bitOf x (7 - i)
/-- All bits of some bytes. -/
def bitsL (l : List UInt8) : List UInt8 := l.flatMap fun x => bitsTo x 8

theorem bitOf_nat (x : UInt8) (m : Nat) : (bitOf x m).toNat = x.toNat / 2 ^ m % 2 := by
  unfold bitOf
  rw [UInt8.toNat_ofNat']
  omega

theorem bitsTo_succ (x : UInt8) (j : Nat) : bitsTo x (j + 1) = bitsTo x j ++ [bitOf x (7 - j)] := by
  simp [bitsTo, List.range_succ]

theorem bitsL_length (l : List UInt8) : (bitsL l).length = 8 * l.length := by
  induction l with
  | nil => rfl
  | cons a r ih => simp only [bitsL, List.flatMap_cons, List.length_append, bitsTo, List.length_map, List.length_range, List.length_cons] at *; omega

theorem bitsL_snoc (l : List UInt8) (x : UInt8) : bitsL (l ++ [x]) = bitsL l ++ bitsTo x 8 := by simp [bitsL]

theorem u8_and1 (x : Int) (h0 : 0 ≤ x) (h1 : x < 256) : bits .and .u8 x 1 = x % 2 := bits_mask .u8 8 (by decide) (fun n a b => by rw [IntKind.wrap_u8]; omega) 1 (by decide) x h0 h1

theorem bit_bits (x : UInt8) (m : Nat) (y : Int) (hy : (x.toNat : Int) = y) : bits .and .u8 (y / 2 ^ m) 1 = ((bitOf x m).toNat : Int) := by
  have h := x.toNat_lt
  have e : y / 2 ^ m = ((x.toNat / 2 ^ m : Nat) : Int) := by rw [← hy]; push_cast; rfl
  have h2 : x.toNat / 2 ^ m ≤ x.toNat := Nat.div_le_self _ _
  rw [bitOf_nat]
  generalize x.toNat / 2 ^ m = d at *
  rw [e, u8_and1 _ (by omega) (by omega)]
  omega

set_option maxRecDepth 100000 in
set_option maxHeartbeats 800000 in
/-- bits. -/
theorem bits_any (l : List UInt8) (a : Option Addr) (b off c : Nat) (w : World) (hl : l.length ≤ 1048576)
    (ha : 0 < l.length → a = some ⟨b, off, none⟩ ∧ b < w.heap.size)
    (hcell : ∀ i (h : i < l.length), w.cell? ⟨b, off + i, none⟩ = some (.int .u8 l[i].toNat)) :
    Calls Tryz.prog 45 #[.slice a l.length c] w fun e w' => ∃ v, e = .returned v ∧ w'.ownsRow w.heap.size 5 1 v (8 * l.length) (cb (bitsL l)) ∧ Below w.heap.size w w' := by
  obtain ⟨inf, hi, hz0, hz1, hz2⟩ := info_parts Tryz.info5
  have HA := hid ha
  have HC := hid hcell
  clear ha hcell
  obtain ⟨x, hx⟩ : ∃ x : Int, (l.length : Int) = x := ⟨_, rfl⟩
  have hx0 : 0 ≤ x := by omega
  have hx1 : x ≤ 1048576 := by omega
  have HX := hid hx
  go_enter Tryz.func45, Tryz.ntmps45
  go_wp2
  go_loopw [3, 4] (fun tv iv wr => ∃ i : Nat, i ≤ 1048576 ∧ iv = .int .i64 i ∧ Hid (i ≤ l.length) ∧ Hid (wr.ownsRow w.heap.size 5 1 tv (8 * i) (cb (bitsL (l.take i)))) ∧ Hid (Below w.heap.size w wr)) (fun _ iv _ => l.length - (intOf iv).toNat)
  case atStart => exact ⟨0, by omega, rfl, hid (Nat.zero_le _), hid (World.ownsRow_nil w _ 5 1), hid (Below.refl _ _)⟩
  case round =>
    as_aux_lemma =>
    obtain ⟨i, hi1, rfl, HI, HO, HB⟩ := hrel
    by_cases hlt : i < l.length
    · have hlt' : (i : Int) < x := by have := HX.out; omega
      obtain ⟨rfl, hbw⟩ := HA.out (by omega)
      go_wp2
      go_loopw [3, 5] (fun tv kv wr => ∃ (j n : Nat) (z : Int), kv = .int .i64 z ∧ -1 ≤ z ∧ z ≤ 7 ∧ j ≤ 8 ∧ n ≤ 8388608 ∧ Hid (z = 7 - (j : Int) ∧ n = 8 * i + j) ∧ Hid (wr.ownsRow w.heap.size 5 1 tv n (cb (bitsL (l.take i) ++ bitsTo l[i] j))) ∧ Hid (Below w.heap.size w wr)) (fun _ kv _ => (intOf kv + 1).toNat)
      case atStart => exact ⟨0, 8 * i, 7, rfl, by omega, by omega, by omega, by have := HI.out; omega, hid (by omega), hid (by simpa [bitsTo] using HO.out), HB⟩
      case round =>
        as_aux_lemma =>
        clear HO HB
        obtain ⟨j, n, z, rfl, hz1', hz2', hj, hn, HZ, HO, HB⟩ := hrel
        by_cases hz : 0 ≤ z
        · obtain ⟨m, rfl⟩ : ∃ m : Nat, z = (m : Int) := ⟨z.toNat, by omega⟩
          have hck := HC.out i hlt
          rw [← HB.out.cell (p := ⟨b, off + i, none⟩) hbw] at hck
          have hbw2 : b < wr.heap.size := Nat.lt_of_lt_of_le hbw HB.out.size
          have bd := u8_bd l[i]
          obtain ⟨y, HY⟩ : ∃ y : Int, Hid ((l[i].toNat : Int) = y) := ⟨(l[i].toNat : Int), hid rfl⟩
          rw [HY.out] at hck bd
          have bd1 := bd.1
          have bd2 := bd.2
          clear bd
          have hbit := bit_bits l[i] m y HY.out
          have hsz := HB.out.size
          have hown := HO.out
          obtain ⟨q, HQ⟩ : ∃ q : UInt8, Hid (q = bitOf l[i] m) := ⟨_, hid rfl⟩
          rw [← HQ.out] at hbit
          have hm7 : (m : Int) < 64 := by omega
          go_wp2_with (at_builtin; refine wpList_append_own _ rfl _ _ 58 rfl w.heap.size 5 inf (.int .u8 0) 1 1 Tryz.underlying58 hi hz0 hz1 hz2 rfl (by decide) u3 n _ rfl (hown.alloc _) ⟨wr.heap.size, 0, none⟩ 1 1 (cb [q]) rfl rfl ?hnews ?hone ?h63 ?hbytes ?hbase ?_)
          case hnews => exact fun j u hu => news_new wr _ _ j u hu
          case hone => intro u hu; simp [cb] at hu; rcases hu with rfl; rfl
          case h63 => unfold maxLen; omega
          case hbytes => omega
          case hbase => simp; omega
          intro v' w2 hown2 hg2 hnil
          go_wp2
          refine ⟨⟨j + 1, n + 1, (m : Int) - 1, by go_num, by omega, by omega, by have := HZ.out; omega, by have := HZ.out; have := HI.out; omega, hid (by have := HZ.out; omega), hid ?_, hid ((HB.out.alloc hsz _).grown hg2 (by simp; omega) (fun j hj => (hown.lt j hj).1))⟩, by simp [intOf]⟩
          rw [bitsTo_succ, ← List.append_assoc, cb_append]
          rw [show 7 - j = m by have := HZ.out; omega, ← HQ.out]
          exact hown2
        · have hz3 : z = -1 := by omega
          subst hz3
          have hj8 : j = 8 := by have := HZ.out; omega
          subst hj8
          have hn8 : n = 8 * (i + 1) := by have := HZ.out; omega
          subst hn8
          go_wp2
          refine ⟨⟨i + 1, by omega, by go_num, hid (by omega), hid ?_, HB⟩, by simp [intOf]; omega⟩
          rw [List.take_succ_eq_append_getElem hlt, bitsL_snoc]
          exact HO.out
    · have hge : x ≤ (i : Int) := by have := HX.out; omega
      have he : i = l.length := by have := HX.out; have := HI.out; omega
      go_wp2
      go_ret
      have ho := HO.out
      rw [he, List.take_length] at ho
      exact ⟨_, rfl, ho, HB.out⟩
end Go.Proofs.YtipjjhccbgbdiaaGreatDoor

/- Plain facts: bits in letters are the texts of radix. -/
namespace Go.Proofs.YtipjjhccbgbdiaaGreatDoor
open Go Go.RowKit

theorem getD_right (p q : List UInt8) (i : Nat) : (p ++ q).getD (p.length + i) 0 = q.getD i 0 := by
  simp [List.getD, List.getElem?_append_right]

theorem getD_left (p q : List UInt8) (i : Nat) (h : i < p.length) : (p ++ q).getD i 0 = p.getD i 0 := by
  simp [List.getD, List.getElem?_append_left h]

theorem bv_shift (p q : List UInt8) (i : Nat) : ∀ k, bv (p ++ q) (p.length + i) k = bv q i k
  | 0 => rfl
  | k + 1 => by
    show 2 * bv (p ++ q) (p.length + i) k + ((p ++ q).getD (p.length + i + k) 0).toNat = 2 * bv q i k + (q.getD (i + k) 0).toNat
    rw [bv_shift p q i k, Nat.add_assoc, getD_right]

theorem bv_left (p q : List UInt8) (i : Nat) : ∀ k, i + k ≤ p.length → bv (p ++ q) i k = bv p i k
  | 0, _ => rfl
  | k + 1, h => by
    show 2 * bv (p ++ q) i k + ((p ++ q).getD (i + k) 0).toNat = 2 * bv p i k + (p.getD (i + k) 0).toNat
    rw [bv_left p q i k (by omega), getD_left p q (i + k) (by omega)]

theorem textL_append (set : List UInt8) (wd : Nat) (hwd : 0 < wd) (p q : List UInt8) (m : Nat) (hp : p.length = m * wd) : textL set wd (p ++ q) = textL set wd p ++ textL set wd q := by
  unfold textL
  have e1 : ((p ++ q).length + (wd - 1)) / wd = m + (q.length + (wd - 1)) / wd := by
    rw [List.length_append, hp, Nat.add_assoc, Nat.add_comm (m * wd), Nat.add_mul_div_right _ _ hwd, Nat.add_comm]
  have e2 : (p.length + (wd - 1)) / wd = m := by
    rw [hp, Nat.add_comm, Nat.add_mul_div_right _ _ hwd, Nat.div_eq_of_lt (by omega), Nat.zero_add]
  rw [e1, e2, List.range_add, List.map_append]
  congr 1
  · apply List.map_congr_left
    intro j hj
    have hj := List.mem_range.1 hj
    rw [bv_left p q]
    rw [hp]
    have : (j + 1) * wd ≤ m * wd := Nat.mul_le_mul_right _ hj
    rw [Nat.add_mul] at this
    omega
  · rw [List.map_map]
    apply List.map_congr_left
    intro j _
    show lt set (bv (p ++ q) ((m + j) * wd) wd) = _
    rw [Nat.add_mul, ← hp, bv_shift]

theorem bitsTo8 (x : UInt8) : bitsTo x 8 = [bitOf x 7, bitOf x 6, bitOf x 5, bitOf x 4, bitOf x 3, bitOf x 2, bitOf x 1, bitOf x 0] := by
  simp [bitsTo, List.range_succ]

theorem bitsL_cons (x : UInt8) (l : List UInt8) : bitsL (x :: l) = bitsTo x 8 ++ bitsL l := by simp [bitsL]

theorem bits_le (l : List UInt8) : ∀ i (h : i < (bitsL l).length), (bitsL l)[i].toNat ≤ 1 := by
  intro i h
  have hm : (bitsL l)[i] ∈ bitsL l := List.getElem_mem h
  unfold bitsL at hm
  obtain ⟨x, _, hx⟩ := List.mem_flatMap.1 hm
  unfold bitsTo at hx
  obtain ⟨j, _, hj⟩ := List.mem_map.1 hx
  have e : (bitsL l)[i] = bitOf x (7 - j) := hj.symm
  rw [e, bitOf_nat]
  omega

theorem text_3 (base : List UInt8) (a b c : UInt8) : textL base 6 (bitsTo a 8 ++ (bitsTo b 8 ++ bitsTo c 8)) = [lt base (a.toNat / 4), lt base (a.toNat % 4 * 16 + b.toNat / 16), lt base (b.toNat % 16 * 4 + c.toNat / 64), lt base (c.toNat % 64)] := by
  rw [bitsTo8, bitsTo8, bitsTo8]
  have h1 := a.toNat_lt
  have h2 := b.toNat_lt
  have h3 := c.toNat_lt
  simp only [List.cons_append, List.nil_append]
  simp only [textL, List.length_cons, List.length_nil, List.range_succ, List.range_zero, Nat.reduceAdd, Nat.reduceSub, Nat.reduceDiv, Nat.reduceMul, List.nil_append, List.cons_append, List.map_cons, List.map_nil, bv, List.getD_cons_zero, List.getD_cons_succ, bitOf_nat, Nat.reducePow]
  refine List.cons_eq_cons.2 ⟨?_, List.cons_eq_cons.2 ⟨?_, List.cons_eq_cons.2 ⟨?_, List.cons_eq_cons.2 ⟨?_, rfl⟩⟩⟩⟩ <;> congr 1 <;> omega

theorem text_2 (base : List UInt8) (a b : UInt8) : textL base 6 (bitsTo a 8 ++ bitsTo b 8) = [lt base (a.toNat / 4), lt base (a.toNat % 4 * 16 + b.toNat / 16), lt base (b.toNat % 16 * 4)] := by
  rw [bitsTo8, bitsTo8]
  have h1 := a.toNat_lt
  have h2 := b.toNat_lt
  simp only [List.cons_append, List.nil_append]
  simp only [textL, List.length_cons, List.length_nil, List.range_succ, List.range_zero, Nat.reduceAdd, Nat.reduceSub, Nat.reduceDiv, Nat.reduceMul, List.nil_append, List.cons_append, List.map_cons, List.map_nil, bv, List.getD_cons_zero, List.getD_cons_succ, bitOf_nat, Nat.reducePow, List.getD_nil, UInt8.toNat_zero]
  refine List.cons_eq_cons.2 ⟨?_, List.cons_eq_cons.2 ⟨?_, List.cons_eq_cons.2 ⟨?_, rfl⟩⟩⟩ <;> congr 1 <;> omega

theorem text_1 (base : List UInt8) (a : UInt8) : textL base 6 (bitsTo a 8) = [lt base (a.toNat / 4), lt base (a.toNat % 4 * 16)] := by
  rw [bitsTo8]
  have h1 := a.toNat_lt
  simp only [textL, List.length_cons, List.length_nil, List.range_succ, List.range_zero, Nat.reduceAdd, Nat.reduceSub, Nat.reduceDiv, Nat.reduceMul, List.nil_append, List.cons_append, List.map_cons, List.map_nil, bv, List.getD_cons_zero, List.getD_cons_succ, bitOf_nat, Nat.reducePow, List.getD_nil, UInt8.toNat_zero]
  refine List.cons_eq_cons.2 ⟨?_, List.cons_eq_cons.2 ⟨?_, rfl⟩⟩ <;> congr 1 <;> omega

theorem enc_bits (base : List UInt8) : ∀ l : List UInt8, textL base 6 (bitsL l) = enc base l
  | a :: b :: c :: r => by
    rw [bitsL_cons, bitsL_cons, bitsL_cons, ← List.append_assoc, ← List.append_assoc, List.append_assoc (bitsTo a 8)]
    rw [textL_append base 6 (by decide) _ _ 4 (by simp [bitsTo]), enc_bits base r, text_3]
    rfl
  | [a, b] => by
    rw [bitsL_cons, bitsL_cons]
    show textL base 6 (bitsTo a 8 ++ (bitsTo b 8 ++ [])) = _
    rw [List.append_nil, text_2]
    rfl
  | [a] => by
    rw [bitsL_cons]
    show textL base 6 (bitsTo a 8 ++ []) = _
    rw [List.append_nil, text_1]
    rfl
  | [] => rfl

theorem hex_1 (a : UInt8) : textL hexL 4 (bitsTo a 8) = [lt hexL (a.toNat / 16), lt hexL (a.toNat % 16)] := by
  rw [bitsTo8]
  have h1 := a.toNat_lt
  simp only [textL, List.length_cons, List.length_nil, List.range_succ, List.range_zero, Nat.reduceAdd, Nat.reduceSub, Nat.reduceDiv, Nat.reduceMul, List.nil_append, List.cons_append, List.map_cons, List.map_nil, bv, List.getD_cons_zero, List.getD_cons_succ, bitOf_nat, Nat.reducePow]
  refine List.cons_eq_cons.2 ⟨?_, List.cons_eq_cons.2 ⟨?_, rfl⟩⟩ <;> congr 1 <;> omega

theorem enc16_bits : ∀ l : List UInt8, textL hexL 4 (bitsL l) = enc16 l
  | [] => rfl
  | a :: r => by
    rw [bitsL_cons, textL_append hexL 4 (by decide) _ _ 2 (by simp [bitsTo]), enc16_bits r, hex_1]
    rfl
end Go.Proofs.YtipjjhccbgbdiaaGreatDoor

/- The walks of the reference's Text64, TextPad, Text16. -/
namespace Go.Proofs.YtipjjhccbgbdiaaGreatDoor
open Go Go.RowKit
open Go.RowKit (wrap32 wrap64)

/-- The reference's bits, of a slice that can be read. -/
theorem Rd.bits {w : World} {v : Value} {l : List UInt8} (h : Rd w v l) (hl : l.length ≤ 1048576) :
    Calls Tryz.prog 45 #[v] w fun e w' => ∃ v', e = .returned v' ∧ Rd w' v' (bitsL l) ∧ Below w.heap.size w w' := by
  obtain ⟨a, b, off, c, rfl, hc, _, ha, hcell⟩ := h
  refine (bits_any l a b off c w hl ha hcell).mono ?_
  rintro e w' ⟨v', rfl, hown, hb⟩
  exact ⟨v', rfl, Rd.own hown, hb⟩

theorem Rd.text6 {w : World} {v : Value} {l : List UInt8} (set : ByteArray) (h : Rd w v (bitsL l)) (hl : l.length ≤ 1048576) (hset : set.size = 64) :
    Calls Tryz.prog 44 #[v, .string set, .int .i64 6] w fun e w' => e = .returned (.string ⟨(enc set.data.toList l).toArray⟩) ∧ w' = w := by
  obtain ⟨a, b, off, c, rfl, hc, _, ha, hcell⟩ := h
  rw [← enc_bits]
  exact text6_any (bitsL l) set a b off c w (by rw [bitsL_length]; omega) (bits_le l) hset ha hcell

theorem Rd.text4 {w : World} {v : Value} {l : List UInt8} (h : Rd w v (bitsL l)) (hl : l.length ≤ 1048576) :
    Calls Tryz.prog 44 #[v, .string hexB, .int .i64 4] w fun e w' => e = .returned (.string ⟨(enc16 l).toArray⟩) ∧ w' = w := by
  obtain ⟨a, b, off, c, rfl, hc, _, ha, hcell⟩ := h
  rw [← enc16_bits]
  exact text4_any (bitsL l) hexB a b off c w (by rw [bitsL_length]; omega) (bits_le l) rfl ha hcell

def urlB : ByteArray := ⟨urlL.toArray⟩
def padB : ByteArray := ⟨padL.toArray⟩

set_option maxRecDepth 100000 in
set_option maxHeartbeats 400000 in
/-- The reference's Text64. -/
theorem Rd.refText64 {w : World} {v : Value} {l : List UInt8} (h : Rd w v l) (hl : l.length ≤ 1048576) :
    Calls Tryz.prog 20 #[v] w fun e w' => e = .returned (.string ⟨(enc urlL l).toArray⟩) ∧ Below w.heap.size w w' := by
  have H := hid h
  clear h
  go_enter Tryz.func20, Tryz.ntmps20
  go_wp2_with fail
  refine (H.out.bits hl).mono ?_
  rintro e w1 ⟨v1, rfl, r1, hb1⟩
  have R1 := hid r1
  have HB1 := hid hb1
  clear r1 hb1 H
  have HT := hid (R1.out.text6 urlB hl rfl)
  go_wp2_with fail
  refine HT.out.mono ?_
  rintro e w' ⟨rfl, hw⟩
  have hw' := hw.symm
  clear hw
  subst hw'
  go_wp2
  go_ret
  exact ⟨rfl, HB1.out⟩

set_option maxRecDepth 100000 in
set_option maxHeartbeats 400000 in
/-- The reference's Text16. -/
theorem Rd.refText16 {w : World} {v : Value} {l : List UInt8} (h : Rd w v l) (hl : l.length ≤ 1048576) :
    Calls Tryz.prog 24 #[v] w fun e w' => e = .returned (.string ⟨(enc16 l).toArray⟩) ∧ Below w.heap.size w w' := by
  have H := hid h
  clear h
  go_enter Tryz.func24, Tryz.ntmps24
  go_wp2_with fail
  refine (H.out.bits hl).mono ?_
  rintro e w1 ⟨v1, rfl, r1, hb1⟩
  have R1 := hid r1
  have HB1 := hid hb1
  clear r1 hb1 H
  have HT := hid (R1.out.text4 hl)
  go_wp2_with fail
  refine HT.out.mono ?_
  rintro e w' ⟨rfl, hw⟩
  have hw' := hw.symm
  clear hw
  subst hw'
  go_wp2
  go_ret
  exact ⟨rfl, HB1.out⟩

theorem pads_full (L n : Nat) (h : n ≤ (3 - L % 3) % 3) : ((4 * L + 2) / 3 + n) % 4 = 0 ↔ n = (3 - L % 3) % 3 := by
  obtain ⟨q, r, hr, rfl⟩ : ∃ q r, r < 3 ∧ L = 3 * q + r := ⟨L / 3, L % 3, by omega, by omega⟩
  have e : (3 * q + r) % 3 = r := by omega
  rw [e] at h ⊢
  rcases (show r = 0 ∨ r = 1 ∨ r = 2 by omega) with rfl | rfl | rfl
  · simp at h; subst h; simp; omega
  · simp at h ⊢; omega
  · simp at h ⊢; omega

theorem rep_snoc (n : Nat) : List.replicate (n + 1) (61 : UInt8) = List.replicate n 61 ++ [61] := by
  rw [List.replicate_succ']

set_option maxRecDepth 100000 in
set_option maxHeartbeats 400000 in
/-- The reference's TextPad. -/
theorem Rd.refTextPad {w : World} {v : Value} {l : List UInt8} (h : Rd w v l) (hl : l.length ≤ 1048576) :
    Calls Tryz.prog 22 #[v] w fun e w' => e = .returned (.string ⟨(encPad l).toArray⟩) ∧ Below w.heap.size w w' := by
  have H := hid h
  clear h
  go_enter Tryz.func22, Tryz.ntmps22
  go_wp2_with fail
  refine (H.out.bits hl).mono ?_
  rintro e w1 ⟨v1, rfl, r1, hb1⟩
  have R1 := hid r1
  have HB1 := hid hb1
  clear r1 hb1 H
  have HT := hid (R1.out.text6 padB hl rfl)
  go_wp2_with fail
  refine HT.out.mono ?_
  rintro e w' ⟨rfl, hw⟩
  have hw' := hw.symm
  clear hw
  subst hw'
  clear HT
  go_wp2
  go_loop [3] (fun sv => ∃ (s : ByteArray) (n : Nat), sv = .string s ∧ s.size ≤ 2097152 ∧ Hid (n ≤ (3 - l.length % 3) % 3) ∧ Hid (s.data.toList = enc padL l ++ List.replicate n 61)) (fun sv => 2097152 - strlen sv)
  case atStart => exact ⟨_, 0, rfl, by rw [← size_list]; show (enc padL l).length ≤ _; rw [enc_length]; omega, hid (Nat.zero_le _), hid (by simp; rfl)⟩
  case round =>
    obtain ⟨s, n, rfl, hs, HN, HS⟩ := hrel
    have hsz : s.size = (4 * l.length + 2) / 3 + n := by rw [← size_list, HS.out, List.length_append, enc_length, List.length_replicate]
    have hnn := HN.out
    have HSZ := hid hsz
    by_cases h4 : s.size % 4 = 0
    · have h4' : (s.size : Int) % 4 = 0 := by omega
      clear hsz hnn h4
      go_wp2
      go_ret
      refine ⟨?_, HB1.out⟩
      have e : (⟨(encPad l).toArray⟩ : ByteArray) = s := by
        apply str_of
        rw [HS.out]
        unfold encPad
        rw [(pads_full l.length n HN.out).1 (by have := HSZ.out; omega)]
      rw [e]
      rfl
    · have h4' : ((s.size : Int) % 4 != 0) = true := by simp; omega
      have hs2 : s.size + 1 ≤ 2097152 := by omega
      clear hsz hnn
      go_wp2
      refine ⟨⟨_, n + 1, rfl, ?_, hid ?_, hid ?_⟩, ?_⟩
      · rw [ByteArray.size_append]; exact hs2
      · have h5 := HN.out
        have h6 : ¬ n = (3 - l.length % 3) % 3 := fun k => h4 (by rw [HSZ.out]; exact (pads_full l.length n h5).2 k)
        omega
      · rw [ByteArray.data_append, Array.toList_append, HS.out, rep_snoc, List.append_assoc]
      · simp [strlen, ByteArray.size_append]
        show 2097152 - (s.size + 1) < _
        omega
end Go.Proofs.YtipjjhccbgbdiaaGreatDoor
