/- Plain facts: numbers in bytes, frames. -/
import Derived.Test.YtpbiofnncdneoaaGreatDoorX07
import Derived.Test.YtpbiofnncdneoaaGreatDoorX00
import Derived.Lib.LazyBuf
import Derived.Laws.MakeOwn
namespace Go.Proofs.YtpbiofnncdneoaaGreatDoor

/-- The first m of the k bytes of a number, the highest first. -/
def layP (n k m : Nat) : List UInt8 := (List.range m).map fun i => UInt8.ofNat (n / 2 ^ (8 * (k - 1 - i)))
def layL (n k : Nat) : List UInt8 := layP n k k
def numL (l : List UInt8) : Nat := l.foldl (fun n c => n * 256 + c.toNat) 0
theorem layP_length (n k m : Nat) : (layP n k m).length = m := by simp [layP]
theorem layL_length (n k : Nat) : (layL n k).length = k := layP_length ..
theorem layP_succ (n k m : Nat) : layP n k (m + 1) = layP n k m ++ [UInt8.ofNat (n / 2 ^ (8 * (k - 1 - m)))] := by
 unfold layP; rw [List.range_succ, List.map_append]; rfl
theorem layL_succ (n k : Nat) : layL n (k + 1) = layL (n / 256) k ++ [UInt8.ofNat n] := by
 unfold layL
 rw [layP_succ]
 congr 1
 ·unfold layP
  refine List.map_congr_left fun i hi => ?_
  have := List.mem_range.1 hi
  rw [Nat.div_div_eq_div_mul, show (256 : Nat) = 2 ^ 8 by decide, ← Nat.pow_add]
  congr 3
  omega
 ·rw [show k + 1 - 1 - k = 0 by omega]; simp
theorem numL_snoc (l : List UInt8) (c : UInt8) : numL (l ++ [c]) = numL l * 256 + c.toNat := by simp [numL, List.foldl_append]
theorem numL_layL : ∀ (k n : Nat), n < 256 ^ k → numL (layL n k) = n
 | 0, n, h => by simp at h; subst h; rfl
 | k + 1, n, h => by
  rw [layL_succ, numL_snoc, numL_layL k (n / 256) (by rw [Nat.pow_succ] at h; omega)]
  simp [UInt8.toNat_ofNat']; omega
theorem snoc_of {l : List UInt8} (h : l ≠ []) : ∃ m c, l = m ++ [c] := ⟨l.dropLast, l.getLast h, (List.dropLast_concat_getLast h).symm⟩
theorem layL_numL : ∀ (k : Nat) (l : List UInt8), l.length = k → layL (numL l) k = l
 | 0, l, h => by rw [List.eq_nil_of_length_eq_zero h]; rfl
 | k + 1, l, h => by
  obtain ⟨m, c, rfl⟩ := snoc_of (l := l) (fun e => by rw [e] at h; simp at h)
  have hc := c.toNat_lt
  rw [layL_succ, numL_snoc, show (numL m * 256 + c.toNat) / 256 = numL m by omega, layL_numL k m (by simpa using h)]
  congr 2
  apply UInt8.toNat_inj.1
  simp
theorem numL_lt : ∀ (k : Nat) (l : List UInt8), l.length = k → numL l < 256 ^ k
 | 0, l, h => by rw [List.eq_nil_of_length_eq_zero h]; decide
 | k + 1, l, h => by
  obtain ⟨m, c, rfl⟩ := snoc_of (l := l) (fun e => by rw [e] at h; simp at h)
  have := numL_lt k m (by simpa using h)
  have hc := c.toNat_lt
  rw [numL_snoc, Nat.pow_succ]; omega
def head5 (n : Nat) : List UInt8 := 201 :: layL n 4
def frameL (b : List UInt8) : List UInt8 := head5 b.length ++ layL (sumL (head5 b.length)) 4 ++ b ++ layL (sumL b) 4
theorem frameL_length (b : List UInt8) : (frameL b).length = b.length + 13 := by simp [frameL, head5, layL_length]; omega

def cnt (b : List UInt8) : Nat := numL ((b.drop 1).take 4)
def headE (b : List UInt8) : Nat :=
 if b.length = 0 then 30 else if b.headD 0 ≠ 201 then 34 else if b.length < 9 then 30
 else if numL ((b.drop 5).take 4) ≠ sumL (b.take 5) then 32 else if 16777216 < cnt b then 31 else 0
def unfrE (b : List UInt8) : Nat :=
 if headE b ≠ 0 then headE b else if b.length < cnt b + 13 then 30
 else if numL ((b.drop (9 + cnt b)).take 4) ≠ sumL ((b.drop 9).take (cnt b)) then 32 else 0
def bodyL (b : List UInt8) : List UInt8 := (b.drop 9).take (cnt b)

theorem parts9 (m : UInt8) (A S r : List UInt8) (hA : A.length = 4) (hS : S.length = 4) :
  (m :: (A ++ S ++ r)).take 5 = m :: A ∧ ((m :: (A ++ S ++ r)).drop 1).take 4 = A ∧ ((m :: (A ++ S ++ r)).drop 5).take 4 = S ∧ (m :: (A ++ S ++ r)).drop 9 = r := by
 match A, hA with
 | [a, b, c, d], _ =>
  match S, hS with
  | [e, f, g, h], _ => simp
theorem headE_parts (m : UInt8) (A S r : List UInt8) (hA : A.length = 4) (hS : S.length = 4) :
  headE (m :: (A ++ S ++ r)) = if m ≠ 201 then 34 else if numL S ≠ sumL (m :: A) then 32 else if 16777216 < numL A then 31 else 0 := by
 obtain ⟨h1, h2, h3, _⟩ := parts9 m A S r hA hS
 unfold headE cnt
 rw [h1, h2, h3]
 have : (m :: (A ++ S ++ r)).length = r.length + 9 := by simp; omega
 have hh : (m :: (A ++ S ++ r)).headD 0 = m := rfl
 rw [this, if_neg (by omega), hh]
 by_cases hm : m ≠ 201
 ·rw [if_pos hm, if_pos hm]
 ·rw [if_neg hm, if_neg hm, if_neg (by omega)]
theorem unfrE_parts (m : UInt8) (A S B Z t : List UInt8) (hA : A.length = 4) (hS : S.length = 4) (hZ : Z.length = 4) (hn : numL A = B.length) (hB : B.length ≤ 16777216) :
  unfrE (m :: (A ++ S ++ (B ++ Z ++ t))) = if m ≠ 201 then 34 else if numL S ≠ sumL (m :: A) then 32 else if numL Z ≠ sumL B then 32 else 0 := by
 obtain ⟨h1, h2, h3, h4⟩ := parts9 m A S (B ++ Z ++ t) hA hS
 unfold unfrE
 rw [headE_parts m A S _ hA hS]
 have hc : cnt (m :: (A ++ S ++ (B ++ Z ++ t))) = B.length := by unfold cnt; rw [h2, hn]
 rw [hc, h4, hn]
 have hl : (m :: (A ++ S ++ (B ++ Z ++ t))).length = B.length + 13 + t.length := by simp; omega
 have hd : ((m :: (A ++ S ++ (B ++ Z ++ t))).drop (9 + B.length)).take 4 = Z := by
  rw [← List.drop_drop, h4, List.append_assoc, List.drop_left, ← hZ, List.take_left]
 have ht : (B ++ Z ++ t).take B.length = B := by rw [List.append_assoc, List.take_left]
 rw [hl, hd, ht]
 by_cases e1 : m ≠ 201
 ·rw [if_pos e1, if_pos e1, if_pos (by decide)]
 ·rw [if_neg e1, if_neg e1]
  by_cases e2 : numL S ≠ sumL (m :: A)
  ·rw [if_pos e2, if_pos e2, if_pos (by decide)]
  ·rw [if_neg e2, if_neg e2, if_neg (show ¬ 16777216 < B.length by omega), if_neg (by simp), if_neg (by omega)]

theorem frameL_parts (b t : List UInt8) : frameL b ++ t = 201 :: (layL b.length 4 ++ layL (sumL (head5 b.length)) 4 ++ (b ++ layL (sumL b) 4 ++ t)) := by
 simp [frameL, head5]
theorem sum_num (l : List UInt8) : numL (layL (sumL l) 4) = sumL l := numL_layL 4 _ (by have := sumL_lt l; omega)
theorem len_num (b : List UInt8) (h : b.length ≤ 16777216) : numL (layL b.length 4) = b.length := numL_layL 4 _ (by omega)
/-- What is framed, whatever stands behind it, is taken again. -/
theorem unfr_frame (b t : List UInt8) (hb : b.length ≤ 16777216) : unfrE (frameL b ++ t) = 0 ∧ cnt (frameL b ++ t) = b.length ∧ bodyL (frameL b ++ t) = b := by
 rw [frameL_parts]
 have hc : cnt (201 :: (layL b.length 4 ++ layL (sumL (head5 b.length)) 4 ++ (b ++ layL (sumL b) 4 ++ t))) = b.length := by
  obtain ⟨_, h2, _, _⟩ := parts9 201 (layL b.length 4) (layL (sumL (head5 b.length)) 4) (b ++ layL (sumL b) 4 ++ t) (layL_length ..) (layL_length ..)
  unfold cnt; rw [h2, len_num b hb]
 refine ⟨?_, hc, ?_⟩
 ·rw [unfrE_parts 201 _ _ _ _ _ (layL_length ..) (layL_length ..) (layL_length ..) (len_num b hb) hb, if_neg (by decide), sum_num, sum_num, if_neg (by unfold head5; simp), if_neg (by simp)]
 ·unfold bodyL
  obtain ⟨_, _, _, h4⟩ := parts9 201 (layL b.length 4) (layL (sumL (head5 b.length)) 4) (b ++ layL (sumL b) 4 ++ t) (layL_length ..) (layL_length ..)
  rw [h4, hc, List.append_assoc, List.take_left]
/-- Each shorter beginning is too short. -/
theorem unfr_short (b : List UInt8) (hb : b.length ≤ 16777216) (k : Nat) (hk : k < b.length + 13) : unfrE ((frameL b).take k) = 30 := by
 have hlen := frameL_length b
 have hl : ((frameL b).take k).length = k := by rw [List.length_take]; omega
 have hp := frameL_parts b []
 rw [List.append_nil] at hp
 have h0 : headE (frameL b) = 0 := by
  rw [hp, headE_parts 201 _ _ _ (layL_length ..) (layL_length ..), if_neg (by decide), sum_num, if_neg (by unfold head5; simp), len_num b hb, if_neg (by omega)]
 have hc := (unfr_frame b [] hb).2.1
 rw [List.append_nil] at hc
 by_cases k0 : k = 0
 ·subst k0; rfl
 ·have hh : ((frameL b).take k).headD 0 = 201 := by
   rw [hp]
   cases k with
   | zero => omega
   | succ k => simp
  by_cases k9 : k < 9
  ·have : headE ((frameL b).take k) = 30 := by
    unfold headE
    rw [hl, hh, if_neg k0, if_neg (by simp), if_pos k9]
   unfold unfrE
   rw [this, if_pos (by decide)]
  ·have t5 : ((frameL b).take k).take 5 = (frameL b).take 5 := by rw [List.take_take, Nat.min_eq_left (by omega)]
   have t4 : (((frameL b).take k).drop 5).take 4 = ((frameL b).drop 5).take 4 := by rw [List.drop_take, List.take_take, Nat.min_eq_left (by omega)]
   have t1 : (((frameL b).take k).drop 1).take 4 = ((frameL b).drop 1).take 4 := by rw [List.drop_take, List.take_take, Nat.min_eq_left (by omega)]
   have hc2 : cnt ((frameL b).take k) = b.length := by unfold cnt; rw [t1]; exact hc
   have : headE ((frameL b).take k) = 0 := by
    have hh0 : (frameL b).headD 0 = 201 := by rw [hp]; rfl
    unfold headE at h0 ⊢
    rw [hl, hh, t4, t5, hc2, if_neg k0, if_neg (by simp), if_neg k9]
    rw [hlen, hh0, hc, if_neg (by omega), if_neg (by simp), if_neg (by omega)] at h0
    exact h0
   unfold unfrE
   rw [this, hc2, hl, if_neg (by simp), if_pos (by omega)]
end Go.Proofs.YtpbiofnncdneoaaGreatDoor

namespace Go.Proofs.YtpbiofnncdneoaaGreatDoor
open Go Go.RowKit

/-- The table that the program's text lays. -/
def Tab (w : World) : Prop := 0 < w.heap.size ∧ ∀ i, i < 16 → w.cell? ⟨0, i, none⟩ = some (.int .u32 (tb i))
theorem Tab.on {w w' : World} {row : Option Nat} (h : Tab w) (hg : w.grownBy w' row) (hr : row ≠ some 0) : Tab w' :=
 ⟨Nat.lt_of_lt_of_le h.1 hg.size, fun i hi => by rw [cell_at hg h.1 hr]; exact h.2 i hi⟩
theorem Tab.keep {w w' : World} (h : Tab w) (hg : w.grownBy w' none) : Tab w' := h.on hg (by simp)
end Go.Proofs.YtpbiofnncdneoaaGreatDoor

namespace Go.Proofs.YtpbiofnncdneoaaGreatDoor
open Go Go.RowKit
open Go.RowKit (wrap32 wrap64)

theorem take_snocL (l : List UInt8) (k : Nat) (h : k < l.length) : l.take (k + 1) = l.take k ++ [l[k]] := by
 rw [List.take_succ_eq_append_getElem h]
theorem and15 (n : Nat) (h : n < 2 ^ 32) : bits .and .u32 (n : Int) 15 = ((n % 16 : Nat) : Int) := by
 have := u32_and_nat n 15 (by omega) (by decide)
 rw [show (15 : Nat) = 2 ^ 4 - 1 by decide, Nat.and_two_pow_sub_one_eq_mod] at this
 exact this
theorem nib_int (n : Nat) (h : n < 2 ^ 32) : bits .xor .u32 ((n : Int) / 16) ((tb (n % 16) : Nat) : Int) = ((nib n : Nat) : Int) := by
 have := u32_xor_nat (n / 16) (tb (n % 16)) (by omega) (tb_lt _)
 rw [show ((n / 16 : Nat) : Int) = (n : Int) / 16 by omega] at this
 exact this

set_option maxHeartbeats 400000 in
theorem sum_any (l : List UInt8) (F : Nat → Prop) (v : Value) (w : World) (hl : l.length ≤ 140737488355328) (hr : Rd w F v l) (ht : Tab w) :
  Calls Tryz.prog 150 #[v] w fun e w' => e = .returned (.int .u32 (sumL l)) ∧ w' = w := by
 obtain ⟨a, b, off, c, rfl, hc, hn, ha, hcell⟩ := hr
 have HC := hid hcell
 have HT := hid ht
 have HA := hid ha
 clear hcell ht ha hn
 have HS : Hid (sumL l = 4294967295 - crcL 4294967295 (l.take l.length)) := by rw [List.take_length]; exact rfl
 generalize sumL l = R at HS
 go_enter Tryz.func150, Tryz.ntmps150
 go_wp2
 go_loop [3, 8] (fun sv iv => ∃ k : Nat, k ≤ l.length ∧ iv = .int .i64 k ∧ sv = .int .u32 (crcL 4294967295 (l.take k))) (fun _ iv => l.length - (intOf iv).toNat)
 case atStart => exact ⟨0, Nat.zero_le _, rfl, rfl⟩
 case round =>
  obtain ⟨k, hk, rfl, rfl⟩ := hrel
  have hs := crcL_lt (l.take k) 4294967295 (by decide)
  obtain ⟨S, HSS⟩ : ∃ S, Hid (crcL 4294967295 (l.take k) = S) := ⟨_, hid rfl⟩
  rw [HSS.out] at hs ⊢
  by_cases hlt : k < l.length
  ·obtain ⟨rfl, hb, _⟩ := HA.out (by omega)
   have hck := HC.out k hlt
   obtain ⟨x, HX⟩ : ∃ x, Hid (l[k] = x) := ⟨_, hid rfl⟩
   rw [HX.out] at hck
   have hxb := u8_bd x
   have hX : S ^^^ x.toNat < 2 ^ 32 := Nat.xor_lt_two_pow hs (u8_lt32 x)
   have e1 := u32_xor_nat S x.toNat hs (u8_lt32 x)
   obtain ⟨X, HXX⟩ : ∃ X, Hid (S ^^^ x.toNat = X) := ⟨_, hid rfl⟩
   rw [HXX.out] at hX e1
   have e2 := and15 X hX
   have e3 := nib_int X hX
   have hY := nib_lt X hX
   obtain ⟨Y, HY⟩ : ∃ Y, Hid (nib X = Y) := ⟨_, hid rfl⟩
   rw [HY.out] at hY e3
   have e4 := and15 Y hY
   have e5 := nib_int Y hY
   obtain ⟨Z, HZ⟩ : ∃ Z, Hid (nib Y = Z) := ⟨_, hid rfl⟩
   rw [HZ.out] at e5
   have t1 := HT.out.2 (X % 16) (Nat.mod_lt _ (by decide))
   have t2 := HT.out.2 (Y % 16) (Nat.mod_lt _ (by decide))
   have j1 : X % 16 < 16 := Nat.mod_lt _ (by decide)
   have j2 : Y % 16 < 16 := Nat.mod_lt _ (by decide)
   generalize X % 16 = J1 at e2 e3 t1 j1
   generalize Y % 16 = J2 at e4 e5 t2 j2
   generalize tb J1 = T1 at e3 t1
   generalize tb J2 = T2 at e5 t2
   have HB := hid (show crcL 4294967295 (l.take (k + 1)) = Z by
    rw [take_snocL l k hlt, crcL_snoc, HSS.out, HX.out, crcB, HXX.out, HY.out, HZ.out])
   go_wp2
   go_round
   case rel => exact ⟨k + 1, by omega, by go_num, by rw [HB.out]⟩
   case measure => simp [intOf]; omega
  ·have hkl : k = l.length := by omega
   have HR : Hid (R = 4294967295 - S) := by rw [HS.out, ← HSS.out, hkl]; exact rfl
   clear hkl
   go_wp2
   go_ret
   exact ⟨ret_int (by
    have e := u32_xor_nat 4294967295 S (by decide) hs
    rw [HR.out, sub_xor S hs]
    exact e), rfl⟩

theorem or8 (n : Nat) (x : UInt8) (h : n < 72057594037927936) : bits .or .u64 ((n : Int) * 256) (x.toNat : Int) = ((n * 256 + x.toNat : Nat) : Int) := by
 have hx := x.toNat_lt
 have := u64_or_nat (n * 256) x.toNat (by omega) (by omega)
 rw [show ((n * 256 : Nat) : Int) = (n : Int) * 256 by omega] at this
 rw [this]
 have e := Nat.shiftLeft_add_eq_or_of_lt (i := 8) (b := x.toNat) hx n
 rw [Nat.shiftLeft_eq] at e
 rw [show n * 256 = n * 2 ^ 8 by rfl, ← e]

set_option maxHeartbeats 400000 in
theorem number_any (l : List UInt8) (F : Nat → Prop) (v : Value) (w : World) (hl : l.length ≤ 8) (hr : Rd w F v l) :
  Calls Tryz.prog 167 #[v] w fun e w' => e = .returned (.int .u64 (numL l)) ∧ w' = w := by
 obtain ⟨a, b, off, c, rfl, hc, hn, ha, hcell⟩ := hr
 have HC := hid hcell
 have HA := hid ha
 clear hcell ha hn
 have HS : Hid (numL l = numL (l.take l.length)) := by rw [List.take_length]; exact rfl
 generalize numL l = R at HS
 go_enter Tryz.func167, Tryz.ntmps167
 go_wp2
 go_loop [3, 8] (fun sv iv => ∃ k : Nat, k ≤ l.length ∧ iv = .int .i64 k ∧ sv = .int .u64 (numL (l.take k))) (fun _ iv => l.length - (intOf iv).toNat)
 case atStart => exact ⟨0, Nat.zero_le _, rfl, rfl⟩
 case round =>
  obtain ⟨k, hk, rfl, rfl⟩ := hrel
  have hs := numL_lt k (l.take k) (by rw [List.length_take]; omega)
  obtain ⟨S, HSS⟩ : ∃ S, Hid (numL (l.take k) = S) := ⟨_, hid rfl⟩
  rw [HSS.out] at hs ⊢
  by_cases hlt : k < l.length
  ·obtain ⟨rfl, hb, _⟩ := HA.out (by omega)
   have hck := HC.out k hlt
   obtain ⟨x, HX⟩ : ∃ x, Hid (l[k] = x) := ⟨_, hid rfl⟩
   rw [HX.out] at hck
   have hxb := u8_bd x
   have h7 : S < 72057594037927936 := by
    have : (256 : Nat) ^ k ≤ 256 ^ 7 := Nat.pow_le_pow_right (by decide) (by omega)
    have : (256 : Nat) ^ 7 = 72057594037927936 := by decide
    omega
   have e1 := or8 S x h7
   obtain ⟨Z, HZ⟩ : ∃ Z, Hid (S * 256 + x.toNat = Z) := ⟨_, hid rfl⟩
   rw [HZ.out] at e1
   have HB := hid (show numL (l.take (k + 1)) = Z by
    rw [take_snocL l k hlt, numL_snoc, HSS.out, HX.out, HZ.out])
   clear hs
   go_wp2
   go_round
   case rel => exact ⟨k + 1, by omega, by go_num, by rw [HB.out]⟩
   case measure => simp [intOf]; omega
  ·have hkl : k = l.length := by omega
   have HR : Hid (R = S) := by rw [HS.out, ← HSS.out, hkl]; exact rfl
   clear hkl hs
   go_wp2
   go_ret
   exact ⟨ret_int (by rw [HR.out]), rfl⟩
end Go.Proofs.YtpbiofnncdneoaaGreatDoor

namespace Go.Proofs.YtpbiofnncdneoaaGreatDoor
open Go Go.RowKit
open Go.RowKit (wrap32 wrap64)

theorem rbelow_grown {w w' : World} {row : Option Nat} {B : Nat} (hg : w.grownBy w' row) (hB : B ≤ w.heap.size) (hr : ∀ k, row = some k → B ≤ k) : Below B w w' :=
 ⟨hg.os, hg.tape, hg.output, hg.size, fun k hk => hg.block k (by omega) (fun e => by have := hr k e.symm; omega)⟩
theorem lay_byte (N J : Nat) : (N : Int) / 2 ^ (8 * J) % 256 = ((UInt8.ofNat (N / 2 ^ (8 * J))).toNat : Int) := by
 simp

set_option maxRecDepth 100000 in
set_option maxHeartbeats 1000000 in
theorem appendNumber_any (B N k : Nat) (v : Value) (acc : List UInt8) (w : World) (_hN : N < 18446744073709551616) (hk : k ≤ 8) (ho : Out B w v acc) (hB : B ≤ w.heap.size) (hacc : acc.length ≤ 17592186044416) :
  Calls Tryz.prog 105 #[v, .int .u64 N, .int .i64 k] w fun e w' => ∃ v', e = .returned v' ∧ Out B w' v' (acc ++ layL N k) ∧ Below B w w' := by
 have HO := hid ho
 clear ho
 go_enter Tryz.func105, Tryz.ntmps105
 go_wp2_with fail
 go_loopw [0, 7] (fun ov iv wr => ∃ j : Nat, j ≤ k ∧ iv = .int .i64 ((j : Int) - 1) ∧ Hid (Out B wr ov (acc ++ layP N k (k - j))) ∧ Hid (Below B w wr) ∧ B ≤ wr.heap.size) (fun _ iv _ => (intOf iv + 1).toNat)
 case atStart => exact ⟨k, Nat.le_refl _, rfl, by rw [Nat.sub_self]; show Hid (Out B w v (acc ++ [])); rw [List.append_nil]; exact HO, Below.refl _ _, hB⟩
 case round =>
  obtain ⟨j, hj, rfl, HW, HL, hBr⟩ := hrel
  by_cases hj0 : j = 0
  ·subst hj0
   have hd : decide ((0 : Int) ≤ ((0 : Nat) : Int) - 1) = false := by decide
   go_wp2_with fail
   go_ret
   exact ⟨_, rfl, HW.out, HL.out⟩
  ·obtain ⟨J, rfl⟩ : ∃ J, j = J + 1 := ⟨j - 1, by omega⟩
   have e0 : ((J + 1 : Nat) : Int) - 1 = (J : Int) := by omega
   rw [e0]
   have eb := lay_byte N J
   obtain ⟨c, HC⟩ : ∃ c, Hid (UInt8.ofNat (N / 2 ^ (8 * J)) = c) := ⟨_, hid rfl⟩
   rw [HC.out] at eb
   have t8 : (8 * (J : Int)).toNat = 8 * J := by omega
   have HS := hid (layP_succ N k (k - (J + 1)))
   have HK : Hid (k - 1 - (k - (J + 1)) = J) := hid (by omega)
   have hll : (acc ++ layP N k (k - (J + 1))).length ≤ 17592186044416 + 8 := by rw [List.length_append, layP_length]; omega
   go_wp2_with (at_builtin; refine wpList_append_byte rfl _ _ rfl B wr.heap.size _ c (HW.out.keep (galloc wr _ none)) rfl (litL wr _) (by omega) (by simp; omega) ?_; intro v2 w2 hO2 hg2)
   refine ⟨⟨J, by omega, rfl, ?_, ?_, ?_⟩, by simp only [intOf]; omega⟩
   ·rw [show k - J = k - (J + 1) + 1 by omega, HS.out, HK.out, HC.out, ← List.append_assoc]
    exact hid hO2
   ·exact hid ((HL.out.trans ((Below.refl _ _).alloc hBr _)).trans (rbelow_grown hg2 (by simp; omega) (fun j hj => HW.out.block j hj)))
   ·have := hg2.size
    simp at this
    omega

theorem made0r (w : World) : Out w.heap.size (w.alloc (.cells #[] 5)) (.slice (some ⟨w.heap.size, 0, none⟩) 0 0) [] :=
 ⟨rfl, .inr ⟨w.heap.size, 0, #[], rfl, Nat.le_refl _, heap_new w _ _, Nat.le_refl _, by decide, rfl, rfl⟩⟩

set_option maxRecDepth 100000 in
set_option maxHeartbeats 1000000 in
/-- bytes.Clone: the same bytes in a row of its own; nil of nil. -/
theorem rclone_any (l : List UInt8) (F : Nat → Prop) (v : Value) (w : World) (hl : l.length ≤ 17592186044416) (hr : Rd w F v l) :
  Calls Tryz.prog 64 #[v] w fun e w' => ∃ v', e = .returned v' ∧ Out w.heap.size w' v' l ∧ w.grownBy w' none := by
 have HR := hid hr
 obtain ⟨a, b, off, c, rfl, hc, hn, ha, hcell⟩ := hr
 clear hcell
 have hnil := fun w a l c => Go.run_eql_slice_nil (P := Tryz.prog) w 74 5 a l c Tryz.underlying74
 cases a with
 | none =>
  have c0 := hn rfl
  have hl0 : l = [] := List.eq_nil_of_length_eq_zero (by omega)
  subst hl0
  subst c0
  go_enter Tryz.func64, Tryz.ntmps64
  go_wp2_with fail
  go_ret
  exact ⟨_, rfl, Out.nil _ _, grefl _ _⟩
 | some q =>
  clear ha hn
  go_enter Tryz.func64, Tryz.ntmps64
  go_wp2_with (at_builtin; refine wpList_append_rd rfl _ _ rfl w.heap.size F [] l (made0r w) (HR.out.keep (galloc w _ none)) (by simp; omega) (by simp) ?_; intro v2 w2 hO2 hg2 _)
  go_ret
  exact ⟨_, rfl, hO2, (galloc w _ none).andThen hg2 (fun j hj => .inl ((made0r w).block j hj))⟩

set_option maxHeartbeats 400000 in
theorem isSum_any (l m : List UInt8) (F G : Nat → Prop) (v u : Value) (w : World) (hl : l.length ≤ 8) (hm : m.length ≤ 140737488355328) (hv : Rd w F v l) (hu : Rd w G u m) (ht : Tab w) :
  Calls Tryz.prog 149 #[v, u] w fun e w' => e = .returned (.bool (decide (numL l = sumL m))) ∧ w' = w := by
 have H1 := hid (number_any l F v w hl hv)
 have H2 := hid (sum_any m G u w hm hu ht)
 have hb := sumL_lt m
 clear hv hu ht
 generalize sumL m = S at H2 hb
 generalize numL l = N at H1
 have HD : Hid (decide (N = S) = ((N : Int) == (S : Int))) := hid (by by_cases h : N = S <;> simp [h, Int.ofNat_inj])
 go_enter Tryz.func149, Tryz.ntmps149
 go_wp2_with (first
  | (go_at_call 167; refine (H1.out).mono ?_; rintro e w' ⟨rfl, hw⟩; have hw' := hw.symm; clear hw; subst hw')
  | (go_at_call 150; refine (H2.out).mono ?_; rintro e w' ⟨rfl, hw⟩; have hw' := hw.symm; clear hw; subst hw'))
 go_ret
 exact ⟨by rw [HD.out]; rfl, rfl⟩

set_option maxRecDepth 100000 in
set_option maxHeartbeats 1000000 in
theorem appendSum_any (B : Nat) (m : List UInt8) (F : Nat → Prop) (v u : Value) (acc : List UInt8) (w : World) (ho : Out B w v acc) (hB : B ≤ w.heap.size) (hacc : acc.length ≤ 17592186044416) (hm : m.length ≤ 140737488355328) (hu : Rd w F u m) (ht : Tab w) :
  Calls Tryz.prog 106 #[v, u] w fun e w' => ∃ v', e = .returned v' ∧ Out B w' v' (acc ++ layL (sumL m) 4) ∧ Below B w w' := by
 have H2 := hid (sum_any m F u w hm hu ht)
 have hb := sumL_lt m
 have H1 := hid (appendNumber_any B (sumL m) 4 v acc w (by omega) (by decide) ho hB hacc)
 clear hu ht ho
 generalize sumL m = S at H2 hb H1 ⊢
 go_enter Tryz.func106, Tryz.ntmps106
 go_wp2_with (first
  | (go_at_call 150; refine (H2.out).mono ?_; rintro e w' ⟨rfl, hw⟩; have hw' := hw.symm; clear hw; subst hw')
  | (go_at_call 105; refine (H1.out).mono ?_; rintro e w' ⟨v', rfl, hO, hb⟩))
 go_ret
 exact ⟨_, rfl, hO, hb⟩
end Go.Proofs.YtpbiofnncdneoaaGreatDoor

namespace Go.Proofs.YtpbiofnncdneoaaGreatDoor
open Go Go.RowKit
open Go.RowKit (wrap32 wrap64)

theorem make0 (w : World) (n : Nat) (hn : n ≤ 140737488355328) : ∃ w', (Instr.makeSlice 74 (.int .i64 0) (.int .i64 (n : Int))).run Tryz.prog w = .ok (.slice (some ⟨w.heap.size, 0, none⟩) 0 n) w' ∧ Out w.heap.size w' (.slice (some ⟨w.heap.size, 0, none⟩) 0 n) [] ∧ w.grownBy w' none := by
 obtain ⟨inf, hi, hz0, hz1, hz2⟩ := info_parts Tryz.info5
 exact run_make_own w w.heap.size 74 5 inf (.int .u8 0) 1 Tryz.underlying74 hi hz0 hz1 .i64 .i64 n (by rw [hz2]; omega) (by unfold maxLen; omega) (Nat.le_refl _)

set_option maxRecDepth 100000 in
set_option maxHeartbeats 2000000 in
/-- Frame of a body that may be. -/
theorem frame_ok (l : List UInt8) (F : Nat → Prop) (v : Value) (w : World) (hl : l.length ≤ 16777216) (hr : Rd w F v l) (ht : Tab w) :
  Calls Tryz.prog 50 #[v] w fun e w' => ∃ v', e = .returned (.tuple #[v', .int .i64 0]) ∧ Out w.heap.size w' v' (frameL l) ∧ w.grownBy w' none := by
 have HR : Hid (∀ u : World, Below w.heap.size w u → Rd u F v l) := fun u hu => hr.keep (gof hu none)
 have HT : Hid (∀ u : World, Below w.heap.size w u → Tab u) := fun u hu => ht.keep (gof hu none)
 obtain ⟨w1, hmk, ho1, hg1⟩ := make0 w (l.length + 13) (by omega)
 rw [show ((l.length + 13 : Nat) : Int) = 9 + (l.length : Int) + 4 by omega] at hmk
 have HO1 := hid ho1
 have HB1 := hid (gbelow hg1)
 have hz1 := hg1.size
 obtain ⟨a, b, off, c, rfl, -⟩ := hr
 have hd : decide ((16777216 : Int) < (l.length : Int)) = false := decide_eq_false (by omega)
 have HFL : Hid (frameL l = [] ++ [201] ++ layL l.length 4 ++ layL (sumL ([] ++ [201] ++ layL l.length 4)) 4 ++ l ++ layL (sumL l) 4) := hid (by simp [frameL, head5])
 clear ho1 hg1 ht
 have k1 := layL_length l.length 4
 have k2 := layL_length (sumL ([] ++ [201] ++ layL l.length 4)) 4
 obtain ⟨L, HL⟩ : ∃ L, Hid (l.length = L) := ⟨_, hid rfl⟩
 have HLE : Hid (∀ x : List UInt8, x.length ≤ 33554432 → x.length ≤ 17592186044416 ∧ x.length ≤ 140737488355328) := hid (fun x hx => by omega)
 have HLA : Hid (([] ++ [201] : List UInt8).length ≤ 33554432 ∧ ([] ++ [201] ++ layL l.length 4).length ≤ 33554432 ∧ ([] ++ [201] ++ layL l.length 4 ++ layL (sumL ([] ++ [201] ++ layL l.length 4)) 4).length ≤ 33554432 ∧ ([] ++ [201] ++ layL l.length 4 ++ layL (sumL ([] ++ [201] ++ layL l.length 4)) 4 ++ l).length ≤ 33554432 ∧ l.length ≤ 33554432 ∧ ([] ++ [201] ++ layL l.length 4 ++ layL (sumL ([] ++ [201] ++ layL l.length 4)) 4).length + l.length ≤ 33554432) := hid (by
  simp only [List.length_append, List.length_cons, List.length_nil, layL_length]; omega)
 clear k1 k2
 go_enter Tryz.func50, Tryz.ntmps50
 go_wp2_with (first
  | (at_builtin; refine wpList_append_byte rfl _ _ rfl w.heap.size w1.heap.size _ 201 (HO1.out.keep (galloc w1 _ none)) rfl (litL w1 _) (by simp) (by simp; omega) ?_; intro v2 w2 hO2 hg2; have HO2 := hid hO2; have HB2 := hid ((HB1.out.trans ((Below.refl _ _).alloc hz1 _)).trans (rbelow_grown hg2 (by simp; omega) (fun j hj => HO1.out.block j hj))); have hz2 := HB2.out.size; clear hO2 hg2)
  | (go_at_call 105; refine (appendNumber_any w.heap.size l.length 4 _ _ _ (by omega) (by decide) HO2.out hz2 (HLE.out _ HLA.out.1).1).mono ?_; rintro e w3 ⟨v3, rfl, hO3, hB3⟩; have HO3 := hid hO3; have HB3 := hid (HB2.out.trans hB3); have hz3 := HB3.out.size; clear hO3 hB3)
  | (go_at_call 106; refine (appendSum_any w.heap.size _ _ _ _ _ _ HO3.out hz3 (HLE.out _ HLA.out.2.1).1 (HLE.out _ HLA.out.2.1).2 HO3.out.rd (HT.out _ HB3.out)).mono ?_; rintro e w4 ⟨v4, rfl, hO4, hB4⟩; have HO4 := hid hO4; have HB4 := hid (HB3.out.trans hB4); have hz4 := HB4.out.size; clear hO4 hB4)
  | (at_builtin; refine wpList_append_rd rfl _ _ rfl w.heap.size F _ l HO4.out (HR.out _ HB4.out) (by have := HLA.out.2.2.2.2.2; omega) hz4 ?_; intro v5 w5 hO5 hg5 _; have HO5 := hid hO5; have HB5 := hid (HB4.out.trans (rbelow_grown hg5 hz4 (fun j hj => HO4.out.block j hj))); have hz5 := HB5.out.size; clear hO5 hg5)
  | (go_at_call 106; refine (appendSum_any w.heap.size l F _ _ _ _ HO5.out hz5 (HLE.out _ HLA.out.2.2.2.1).1 (HLE.out _ HLA.out.2.2.2.2.1).2 (HR.out _ HB5.out) (HT.out _ HB5.out)).mono ?_; rintro e w6 ⟨v6, rfl, hO6, hB6⟩; have HO6 := hid hO6; have HB6 := hid (HB5.out.trans hB6); clear hO6 hB6))
 go_ret2
 exact ⟨_, rfl, by rw [HFL.out]; exact HO6.out, gof HB6.out none⟩

/-- A part of a slice that can be read. -/
theorem Rd.part {w : World} {F : Nat → Prop} {a : Option Addr} {b off : Nat} {l : List UInt8} (ha : 0 < l.length → a = some ⟨b, off, none⟩ ∧ b < w.heap.size ∧ F b) (hcell : ∀ i (h : i < l.length), w.cell? ⟨b, off + i, none⟩ = some (.int .u8 l[i].toNat))
  (i n cc : Nat) (h : i + n ≤ l.length) (hn : 0 < n) (hcc : n ≤ cc) : Rd w F (.slice (some ⟨b, off + i, none⟩) n cc) ((l.drop i).take n) := by
 have hl : ((l.drop i).take n).length = n := by rw [List.length_take, List.length_drop]; omega
 refine ⟨some ⟨b, off + i, none⟩, b, off + i, cc, by rw [hl], by rw [hl]; exact hcc, (fun h => by cases h), fun _ => ⟨rfl, (ha (by omega)).2⟩, fun j hj => ?_⟩
 rw [hl] at hj
 have := hcell (i + j) (by omega)
 rw [show off + i + j = off + (i + j) by omega, this]
 simp
end Go.Proofs.YtpbiofnncdneoaaGreatDoor

namespace Go.Proofs.YtpbiofnncdneoaaGreatDoor
open Go Go.RowKit
open Go.RowKit (wrap32 wrap64)

theorem headE_nil : headE [] = 30 := rfl
theorem headE_form (x : UInt8) (r : List UInt8) (h : x ≠ 201) : headE (x :: r) = 34 := by
 have hh : (x :: r).headD 0 = x := rfl
 unfold headE
 rw [if_neg (by simp), hh, if_pos h]
theorem headE_short (r : List UInt8) (h : r.length < 8) : headE (201 :: r) = 30 := by
 unfold headE
 rw [if_neg (by simp), if_neg (by simp), if_pos (by simp; omega)]
theorem headE_long (r : List UInt8) (h : 8 ≤ r.length) : headE (201 :: r) = if numL (((201 :: r).drop 5).take 4) ≠ sumL ((201 :: r).take 5) then 32 else if 16777216 < cnt (201 :: r) then 31 else 0 := by
 have hh : (201 :: r).headD 0 = 201 := rfl
 unfold headE
 rw [if_neg (by simp), hh, if_neg (by simp), if_neg (by simp; omega)]
theorem byte_ne {c k : UInt8} (h : c ≠ k) : ((c.toNat : Int) != (k.toNat : Int)) = true ∧ (c.toNat != k.toNat) = true :=
 ⟨by simpa using fun e => h (UInt8.toNat_inj.1 (by omega)), by simpa using fun e => h (UInt8.toNat_inj.1 e)⟩

set_option maxRecDepth 100000 in
set_option maxHeartbeats 1000000 in
theorem readHead_any (l : List UInt8) (F : Nat → Prop) (v : Value) (w : World) (hl : l.length ≤ 140737488355328) (hr : Rd w F v l) (ht : Tab w) :
  Calls Tryz.prog 148 #[v] w fun e w' => e = .returned (.tuple #[.int .i64 (if headE l = 0 then (cnt l : Int) else 0), .int .i64 (headE l)]) ∧ ∃ n, w' = w.drewN n := by
 have HRd := hid hr
 obtain ⟨a, b, off, c, rfl, hc, hn, ha, hcell⟩ := hr
 match l, hl, hc, ha, hcell, HRd with
 | [], hl, hc, ha, hcell, HRd =>
  rw [headE_nil, if_neg (by decide)]
  clear ha hcell hn
  go_enter Tryz.func148, Tryz.ntmps148
  go_wp2_with fail
  go_ret2
  exact ⟨rfl, 0, rfl⟩
 | x :: r, hl, hc, ha, hcell, HRd =>
  obtain ⟨rfl, hb, hF⟩ := ha (by simp)
  have h0 := hcell 0 (by simp)
  simp only [List.getElem_cons_zero, Nat.add_zero] at h0
  have HC := hid hcell
  have HA := hid ha
  clear hcell hn ha
  have hxb := u8_bd x
  obtain ⟨n, HN⟩ : ∃ n, Hid ((x :: r).length = n) := ⟨_, hid rfl⟩
  have hrn : r.length + 1 = n := by have := HN.out; simp at this; omega
  have HRN := hid hrn
  have hn0 : 1 ≤ n := by omega
  rw [HN.out] at hl hc ⊢
  clear hrn
  by_cases hx : x = 201
  ·subst hx
   change w.cell? ⟨b, off, none⟩ = some (.int .u8 201) at h0
   by_cases h9 : n < 9
   ·rw [headE_short r (by have := HRN.out; omega), if_neg (by decide)]
    go_enter Tryz.func148, Tryz.ntmps148
    go_wp2_with fail
    go_ret2
    exact ⟨rfl, 0, rfl⟩
   ·have hlong := headE_long r (by have := HRN.out; omega)
    have HP : ∀ (i m cc : Nat), i + m ≤ n → 0 < m → m ≤ cc → ∀ k, Rd (w.drewN k) F (.slice (some ⟨b, off + i, none⟩) m cc) (((201 :: r).drop i).take m) := fun i m cc h1 h2 h3 k => (Rd.part HA.out HC.out i m cc (by rw [HN.out]; exact h1) h2 h3).keep (gdrew w k none)
    have HLn : ∀ (i m : Nat), i + m ≤ n → (((201 :: r).drop i).take m).length = m := fun i m h => by rw [List.length_take, List.length_drop, HN.out]; omega
    have HI : Hid (∀ k, Calls Tryz.prog 149 #[.slice (some ⟨b, off + 5, none⟩) 4 (c - 5), .slice (some ⟨b, off, none⟩) 5 c] (w.drewN k) fun e w' => e = .returned (.bool (decide (numL (((201 :: r).drop 5).take 4) = sumL ((201 :: r).take 5)))) ∧ w' = w.drewN k) := fun k =>
     isSum_any _ _ F F _ _ _ (by rw [HLn 5 4 (by omega)]; decide) (by have := HLn 0 5 (by omega); rw [List.drop_zero] at this; rw [this]; decide) (HP 5 4 (c - 5) (by omega) (by decide) (by omega) k) (HP 0 5 c (by omega) (by decide) (by omega) k) (ht.keep (gdrew w k none))
    have HNm : Hid (∀ k, Calls Tryz.prog 167 #[.slice (some ⟨b, off + 1, none⟩) 4 (c - 1)] (w.drewN k) fun e w' => e = .returned (.int .u64 (cnt (201 :: r))) ∧ w' = w.drewN k) := fun k =>
     number_any _ F _ _ (by rw [HLn 1 4 (by omega)]; decide) (HP 1 4 (c - 1) (by omega) (by decide) (by omega) k)
    have hcl : cnt (201 :: r) < 4294967296 := numL_lt 4 _ (HLn 1 4 (by omega))
    clear HP HLn
    generalize cnt (201 :: r) = C at hlong HNm hcl ⊢
    generalize headE (201 :: r) = E at hlong ⊢
    generalize numL (((201 :: r).drop 5).take 4) = X at hlong HI
    generalize sumL ((201 :: r).take 5) = Y at hlong HI
    by_cases hxy : X = Y
    ·rw [decide_eq_true hxy] at HI
     rw [if_neg (by simpa using hxy)] at hlong
     clear hxy
     by_cases hC : 16777216 < C
     ·rw [if_pos hC] at hlong
      subst hlong
      rw [if_neg (by decide)]
      have hd : decide ((16777216 : Int) < (C : Int)) = true := decide_eq_true (by omega)
      go_enter Tryz.func148, Tryz.ntmps148
      go_wp2_with fail
      go_quiet ((go_at_call 149; exact Calls.quiet_of_same (HI.out _)))
      rename_i nq
      go_wp2_with (go_at_call 167; refine (HNm.out nq).mono ?_; rintro e w' ⟨rfl, hw⟩; subst hw)
      go_ret2
      exact ⟨rfl, nq, rfl⟩
     ·rw [if_neg hC] at hlong
      subst hlong
      rw [if_pos rfl]
      have hd : decide ((16777216 : Int) < (C : Int)) = false := decide_eq_false (by omega)
      go_enter Tryz.func148, Tryz.ntmps148
      go_wp2_with fail
      go_quiet ((go_at_call 149; exact Calls.quiet_of_same (HI.out _)))
      rename_i nq
      go_wp2_with (go_at_call 167; refine (HNm.out nq).mono ?_; rintro e w' ⟨rfl, hw⟩; subst hw)
      go_ret2
      exact ⟨rfl, nq, rfl⟩
    ·rw [decide_eq_false hxy] at HI
     rw [if_pos hxy] at hlong
     subst hlong
     rw [if_neg (by decide)]
     clear hxy
     go_enter Tryz.func148, Tryz.ntmps148
     go_wp2_with fail
     go_quiet ((go_at_call 149; exact Calls.quiet_of_same (HI.out _)))
     rename_i nq
     go_wp2_with fail
     go_ret2
     exact ⟨rfl, nq, rfl⟩
  ·rw [headE_form x r hx, if_neg (by decide)]
   obtain ⟨e1, e2⟩ := byte_ne (k := 201) hx
   change ((x.toNat : Int) != 201) = true at e1
   change (x.toNat != 201) = true at e2
   clear hx
   go_enter Tryz.func148, Tryz.ntmps148
   go_wp2_with fail
   go_ret2
   exact ⟨rfl, 0, rfl⟩

theorem unfrE_head (l : List UInt8) (h : headE l ≠ 0) : unfrE l = headE l := by unfold unfrE; rw [if_pos h]
theorem unfrE_short (l : List UInt8) (h : headE l = 0) (hs : l.length < cnt l + 13) : unfrE l = 30 := by unfold unfrE; rw [if_neg (by simpa using h), if_pos hs]
theorem unfrE_rest (l : List UInt8) (h : headE l = 0) (hs : ¬ l.length < cnt l + 13) : unfrE l = if numL ((l.drop (9 + cnt l)).take 4) ≠ sumL (bodyL l) then 32 else 0 := by
 unfold unfrE bodyL
 rw [if_neg (by simpa using h), if_neg hs]
theorem headE_cnt (l : List UInt8) (h : headE l = 0) : cnt l ≤ 16777216 ∧ 9 ≤ l.length := by
 unfold headE at h
 by_cases h1 : l.length = 0
 ·rw [if_pos h1] at h; cases h
 ·rw [if_neg h1] at h
  by_cases h2 : l.headD 0 ≠ 201
  ·rw [if_pos h2] at h; cases h
  ·rw [if_neg h2] at h
   by_cases h3 : l.length < 9
   ·rw [if_pos h3] at h; cases h
   ·rw [if_neg h3] at h
    by_cases h4 : numL ((l.drop 5).take 4) ≠ sumL (l.take 5)
    ·rw [if_pos h4] at h; cases h
    ·rw [if_neg h4] at h
     by_cases h5 : 16777216 < cnt l
     ·rw [if_pos h5] at h; cases h
     ·omega

def unfB (l : List UInt8) : List UInt8 := if unfrE l = 0 then bodyL l else []

set_option maxRecDepth 100000 in
set_option maxHeartbeats 2000000 in
theorem unframe_any (l : List UInt8) (F : Nat → Prop) (v : Value) (w : World) (hl : l.length ≤ 140737488355328) (hr : Rd w F v l) (ht : Tab w) :
  Calls Tryz.prog 102 #[v] w fun e w' => ∃ v', e = .returned (.tuple #[v', .int .i64 (if unfrE l = 0 then ((cnt l + 13 : Nat) : Int) else 0), .int .i64 (unfrE l)]) ∧ Out w.heap.size w' v' (unfB l) ∧ w.grownBy w' none := by
 have HH := hid (readHead_any l F v w hl hr ht)
 have HRd := hid hr
 by_cases h0 : headE l = 0
 ·rw [if_pos h0, h0] at HH
  obtain ⟨hcnt, h9⟩ := headE_cnt l h0
  obtain ⟨a, b, off, c, rfl, hc, hn, ha, hcell⟩ := hr
  obtain ⟨rfl, hb, hF⟩ := ha (by omega)
  by_cases hs : l.length < cnt l + 13
  ·have he := unfrE_short l h0 hs
   have hB : unfB l = [] := by unfold unfB; rw [he, if_neg (by decide)]
   rw [he, hB, if_neg (by decide)]
   clear ha hcell hn h0 HRd ht he hB
   generalize cnt l = C at *
   generalize l.length = n at *
   have hd : decide ((n : Int) < 9 + (C : Int) + 4) = true := decide_eq_true (by omega)
   go_enter Tryz.func102, Tryz.ntmps102
   go_wp2_with (go_at_call 148; refine (HH.out).mono ?_; rintro e w' ⟨rfl, nq, hw⟩; subst hw)
   go_ret3
   exact ⟨_, rfl, Out.nil _ _, gdrew _ _ _⟩
  ·have he := unfrE_rest l h0 hs
   have HP : ∀ (i m cc : Nat), i + m ≤ l.length → 0 < m → m ≤ cc → ∀ k, Rd (w.drewN k) F (.slice (some ⟨b, off + i, none⟩) m cc) ((l.drop i).take m) := fun i m cc h1 h2 h3 k => (Rd.part ha hcell i m cc h1 h2 h3).keep (gdrew w k none)
   have HLn : ∀ (i m : Nat), i + m ≤ l.length → ((l.drop i).take m).length = m := fun i m h => by rw [List.length_take, List.length_drop]; omega
   have hbl : (bodyL l).length = cnt l := HLn 9 _ (by omega)
   have hbody : ∀ k, Rd (w.drewN k) F (.slice (if cnt l = 0 then some ⟨b, off, none⟩ else some ⟨b, off + 9, none⟩) (cnt l) (cnt l)) (bodyL l) := fun k => by
    by_cases hz : cnt l = 0
    ·have : bodyL l = [] := List.eq_nil_of_length_eq_zero (by omega)
     rw [this, if_pos hz, hz]
     exact ⟨some ⟨b, off, none⟩, 0, 0, 0, rfl, Nat.le_refl _, (fun h => by cases h), (fun h => by simp at h), fun i h => by simp at h⟩
    ·rw [if_neg hz]
     exact HP 9 (cnt l) (cnt l) (by omega) (by omega) (Nat.le_refl _) k
   have HI : Hid (∀ k, Calls Tryz.prog 149 #[.slice (some ⟨b, off + (9 + cnt l), none⟩) 4 (c - (9 + cnt l)), .slice (if cnt l = 0 then some ⟨b, off, none⟩ else some ⟨b, off + 9, none⟩) (cnt l) (cnt l)] (w.drewN k) fun e w' => e = .returned (.bool (decide (numL ((l.drop (9 + cnt l)).take 4) = sumL (bodyL l)))) ∧ w' = w.drewN k) := fun k =>
    isSum_any _ _ F F _ _ _ (by rw [HLn (9 + cnt l) 4 (by omega)]; decide) (by rw [hbl]; omega) (HP (9 + cnt l) 4 (c - (9 + cnt l)) (by omega) (by decide) (by omega) k) (hbody k) (ht.keep (gdrew w k none))
   have HCl : Hid (∀ k, Calls Tryz.prog 64 #[.slice (if cnt l = 0 then some ⟨b, off, none⟩ else some ⟨b, off + 9, none⟩) (cnt l) (cnt l)] (w.drewN k) fun e w' => ∃ v', e = .returned v' ∧ Out w.heap.size w' v' (bodyL l) ∧ (w.drewN k).grownBy w' none) := fun k =>
    rclone_any _ F _ _ (by rw [hbl]; omega) (hbody k)
   have HB : Hid (unfrE l = 0 → unfB l = bodyL l) := hid (fun h => by unfold unfB; rw [if_pos h])
   have HB2 : Hid (unfrE l ≠ 0 → unfB l = []) := hid (fun h => by unfold unfB; rw [if_neg h])
   clear HP HLn hbl hbody ha hcell hn h0 HRd ht
   generalize unfrE l = E at *
   generalize unfB l = UB at *
   generalize bodyL l = Bd at *
   generalize cnt l = C at *
   generalize numL ((l.drop (9 + C)).take 4) = X at *
   generalize sumL Bd = Y at *
   generalize l.length = n at *
   have hd : decide ((n : Int) < 9 + (C : Int) + 4) = false := decide_eq_false (by omega)
   by_cases hxy : X = Y
   ·rw [decide_eq_true hxy] at HI
    rw [if_neg (by simpa using hxy)] at he
    subst he
    rw [if_pos rfl, HB.out rfl]
    clear hxy HB HB2
    go_enter Tryz.func102, Tryz.ntmps102
    go_wp2_with (first
     | (go_at_call 148; refine (HH.out).mono ?_; rintro e w' ⟨rfl, nq, hw⟩; subst hw)
     | (go_at_call 149; refine (HI.out nq).mono ?_; rintro e w' ⟨rfl, hw⟩; subst hw)
     | (go_at_call 64; refine (HCl.out nq).mono ?_; rintro e w2 ⟨v2, rfl, hO2, hg2⟩))
    all_goals
     go_ret3
     exact ⟨_, by first | rfl | (rw [show (C : Int) + 13 = 9 + (C : Int) + 4 by omega]; rfl), hO2, gtrans (gdrew _ _ _) hg2⟩
   ·rw [decide_eq_false hxy] at HI
    rw [if_pos hxy] at he
    subst he
    rw [if_neg (by decide), HB2.out (by decide)]
    clear hxy HB HB2
    go_enter Tryz.func102, Tryz.ntmps102
    go_wp2_with (first
     | (go_at_call 148; refine (HH.out).mono ?_; rintro e w' ⟨rfl, nq, hw⟩; subst hw)
     | (go_at_call 149; refine (HI.out nq).mono ?_; rintro e w' ⟨rfl, hw⟩; subst hw))
    all_goals
     go_ret3
     exact ⟨_, rfl, Out.nil _ _, gdrew _ _ _⟩
 ·rw [if_neg h0] at HH
  have he := unfrE_head l h0
  have hB : unfB l = [] := by unfold unfB; rw [he, if_neg h0]
  rw [he, hB, if_neg h0]
  obtain ⟨a, b, off, c, rfl, -⟩ := hr
  generalize headE l = E at *
  have hE : ((E : Int) != 0) = true := by simpa using h0
  have hE2 : (E != 0) = true := by simpa using h0
  clear h0
  go_enter Tryz.func102, Tryz.ntmps102
  go_wp2_with (go_at_call 148; refine (HH.out).mono ?_; rintro e w' ⟨rfl, nq, hw⟩; subst hw)
  go_ret3
  exact ⟨_, rfl, Out.nil _ _, gdrew _ _ _⟩
end Go.Proofs.YtpbiofnncdneoaaGreatDoor
