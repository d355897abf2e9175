/- The walks of radix's appendBytes, spareBits, readGroups, Bytes64. -/
import Derived.Test.YtipjjhccbgbdiaaGreatDoorWalkE
import Derived.Deep.QuietTactic
import Derived.BigQuiet
namespace Go.Proofs.YtipjjhccbgbdiaaGreatDoor
open Go Go.RowKit
open Go.RowKit (wrap32 wrap64)

set_option maxRecDepth 100000 in
set_option maxHeartbeats 400000 in
theorem appendBytes4 (B n : Nat) (ov : Value) (o : List Value) (grp base : ByteArray) (w : World) (v0 v1 v2 v3 S : Int) (x0 x1 x2 : UInt8)
   (hgs : grp.size = 4) (hv0 : Lib.indexByte base.data.toList grp[0] = v0) (hv1 : Lib.indexByte base.data.toList grp[1] = v1) (hv2 : Lib.indexByte base.data.toList grp[2] = v2) (hv3 : Lib.indexByte base.data.toList grp[3] = v3)
   (a0 : 0 ≤ v0) (b0 : v0 < 64) (a1 : 0 ≤ v1) (b1 : v1 < 64) (a2 : 0 ≤ v2) (b2 : v2 < 64) (s0 : 0 ≤ S) (s1 : S < 16777216)
   (e1 : bits .or .i64 0 v3 = v3) (e2 : bits .or .i64 v3 (v2 * 64) = v3 + v2 * 64) (e3 : bits .or .i64 (v1 * 4096) (v0 * 262144) = v1 * 4096 + v0 * 262144) (e4 : bits .or .i64 (v3 + v2 * 64) (v1 * 4096 + v0 * 262144) = S)
   (q0 : S / 65536 = (x0.toNat : Int)) (q1 : S / 256 % 256 = (x1.toNat : Int)) (q2 : S % 256 = (x2.toNat : Int))
   (hown : w.ownsRow B 5 1 ov n o) (hB : B ≤ w.heap.size) (hn : n ≤ 1099511627776)
   : Calls Tryz.prog 92 #[ov, .string grp, .string base] w fun e w' => ∃ v', e = .returned v' ∧ w'.ownsRow B 5 1 v' (n + 3) (o ++ cb [x0, x1, x2]) ∧ w.grownBy w' ov.ownBlock := by
  obtain ⟨inf, hi, hz0, hz1, hz2⟩ := info_parts Tryz.info5
  go_enter Tryz.func92, Tryz.ntmps92
  go_wp2_with (go_at_call 50; refine (worth_any _ _ _).mono ?_; rintro e w' ⟨rfl, hw⟩; have hw' := hw.symm; clear hw; subst hw')
  go_quiet ((go_at_call 50; exact Calls.quiet_of_same (worth_any _ _ _)))
  rename_i nq
  have hown2 : (w.drewN nq).ownsRow B 5 1 ov n o := hown
  have hB2 : B ≤ (w.drewN nq).heap.size := hB
  have hg0 : w.grownBy (w.drewN nq) ov.ownBlock := ⟨rfl, rfl, rfl, Nat.le_refl _, fun _ _ _ => rfl⟩
  clear hown hB
  generalize w.drewN nq = w2 at hown2 hB2 hg0 ⊢
  go_wp2_with (at_builtin; refine wpList_append_own _ rfl _ _ 58 rfl B 5 inf (.int .u8 0) 1 1 Tryz.underlying58 hi hz0 hz1 hz2 rfl (by decide) ov n o rfl (hown2.alloc _) ⟨w2.heap.size, 0, none⟩ 3 3 (cb [x0, x1, x2]) rfl rfl ?hnews ?hone ?h63 ?hbytes ?hbase ?_)
  case hnews =>
    intro j u hu
    refine news_new w2 _ _ j u ?_
    have hj : j < 3 := by have := (List.getElem?_eq_some_iff.1 hu).1; simpa [cb] using this
    rw [← hu]
    simp only [cb]
    rcases j with _ | _ | _ | j
    · rfl
    · rfl
    · rfl
    · omega
  case hone => intro u hu; simp [cb] at hu; rcases hu with rfl | rfl | rfl <;> rfl
  case h63 => unfold maxLen; omega
  case hbytes => omega
  case hbase => simp; omega
  intro v' w' hown' hg hnil
  go_wp2
  go_ret
  exact ⟨v', rfl, hown', gtrans hg0 (gtrans (World.grownBy_alloc _ _ _) hg)⟩

set_option maxRecDepth 100000 in
set_option maxHeartbeats 400000 in
theorem appendBytes3 (B n : Nat) (ov : Value) (o : List Value) (grp base : ByteArray) (w : World) (v0 v1 v2 S : Int) (x0 x1 : UInt8)
   (hgs : grp.size = 3) (hv0 : Lib.indexByte base.data.toList grp[0] = v0) (hv1 : Lib.indexByte base.data.toList grp[1] = v1) (hv2 : Lib.indexByte base.data.toList grp[2] = v2)
   (a0 : 0 ≤ v0) (b0 : v0 < 64) (a1 : 0 ≤ v1) (b1 : v1 < 64) (a2 : 0 ≤ v2) (b2 : v2 < 64) (s0 : 0 ≤ S) (s1 : S < 16777216)
   (e2 : bits .or .i64 0 (v2 * 64) = v2 * 64) (e3 : bits .or .i64 (v1 * 4096) (v0 * 262144) = v1 * 4096 + v0 * 262144) (e4 : bits .or .i64 (v2 * 64) (v1 * 4096 + v0 * 262144) = S)
   (q0 : S / 65536 = (x0.toNat : Int)) (q1 : S / 256 % 256 = (x1.toNat : Int))
   (hown : w.ownsRow B 5 1 ov n o) (hB : B ≤ w.heap.size) (hn : n ≤ 1099511627776)
   : Calls Tryz.prog 92 #[ov, .string grp, .string base] w fun e w' => ∃ v', e = .returned v' ∧ w'.ownsRow B 5 1 v' (n + 2) (o ++ cb [x0, x1]) ∧ w.grownBy w' ov.ownBlock := by
  obtain ⟨inf, hi, hz0, hz1, hz2⟩ := info_parts Tryz.info5
  go_enter Tryz.func92, Tryz.ntmps92
  go_wp2_with (go_at_call 50; refine (worth_any _ _ _).mono ?_; rintro e w' ⟨rfl, hw⟩; have hw' := hw.symm; clear hw; subst hw')
  go_quiet ((go_at_call 50; exact Calls.quiet_of_same (worth_any _ _ _)))
  rename_i nq
  have hown2 : (w.drewN nq).ownsRow B 5 1 ov n o := hown
  have hB2 : B ≤ (w.drewN nq).heap.size := hB
  have hg0 : w.grownBy (w.drewN nq) ov.ownBlock := ⟨rfl, rfl, rfl, Nat.le_refl _, fun _ _ _ => rfl⟩
  clear hown hB
  generalize w.drewN nq = w2 at hown2 hB2 hg0 ⊢
  go_wp2_with (at_builtin; refine wpList_append_own _ rfl _ _ 58 rfl B 5 inf (.int .u8 0) 1 1 Tryz.underlying58 hi hz0 hz1 hz2 rfl (by decide) ov n o rfl (hown2.alloc _) ⟨w2.heap.size, 0, none⟩ 2 3 (cb [x0, x1]) rfl rfl ?hnews ?hone ?h63 ?hbytes ?hbase ?_)
  case hnews =>
    intro j u hu
    refine news_new w2 _ _ j u ?_
    have hj : j < 2 := by have := (List.getElem?_eq_some_iff.1 hu).1; simpa [cb] using this
    rw [← hu]
    simp only [cb]
    rcases j with _ | _ | j
    · rfl
    · rfl
    · omega
  case hone => intro u hu; simp [cb] at hu; rcases hu with rfl | rfl <;> rfl
  case h63 => unfold maxLen; omega
  case hbytes => omega
  case hbase => simp; omega
  intro v' w' hown' hg hnil
  go_wp2
  go_ret
  exact ⟨v', rfl, hown', gtrans hg0 (gtrans (World.grownBy_alloc _ _ _) hg)⟩

set_option maxRecDepth 100000 in
set_option maxHeartbeats 400000 in
theorem appendBytes2 (B n : Nat) (ov : Value) (o : List Value) (grp base : ByteArray) (w : World) (v0 v1 S : Int) (x0 : UInt8)
   (hgs : grp.size = 2) (hv0 : Lib.indexByte base.data.toList grp[0] = v0) (hv1 : Lib.indexByte base.data.toList grp[1] = v1)
   (a0 : 0 ≤ v0) (b0 : v0 < 64) (a1 : 0 ≤ v1) (b1 : v1 < 64) (s0 : 0 ≤ S) (s1 : S < 16777216)
   (e3 : bits .or .i64 (v1 * 4096) (v0 * 262144) = v1 * 4096 + v0 * 262144) (e4 : bits .or .i64 0 (v1 * 4096 + v0 * 262144) = S)
   (q0 : S / 65536 = (x0.toNat : Int))
   (hown : w.ownsRow B 5 1 ov n o) (hB : B ≤ w.heap.size) (hn : n ≤ 1099511627776)
   : Calls Tryz.prog 92 #[ov, .string grp, .string base] w fun e w' => ∃ v', e = .returned v' ∧ w'.ownsRow B 5 1 v' (n + 1) (o ++ cb [x0]) ∧ w.grownBy w' ov.ownBlock := by
  obtain ⟨inf, hi, hz0, hz1, hz2⟩ := info_parts Tryz.info5
  go_enter Tryz.func92, Tryz.ntmps92
  go_wp2_with (go_at_call 50; refine (worth_any _ _ _).mono ?_; rintro e w' ⟨rfl, hw⟩; have hw' := hw.symm; clear hw; subst hw')
  go_quiet ((go_at_call 50; exact Calls.quiet_of_same (worth_any _ _ _)))
  rename_i nq
  have hown2 : (w.drewN nq).ownsRow B 5 1 ov n o := hown
  have hB2 : B ≤ (w.drewN nq).heap.size := hB
  have hg0 : w.grownBy (w.drewN nq) ov.ownBlock := ⟨rfl, rfl, rfl, Nat.le_refl _, fun _ _ _ => rfl⟩
  clear hown hB
  generalize w.drewN nq = w2 at hown2 hB2 hg0 ⊢
  go_wp2_with (at_builtin; refine wpList_append_own _ rfl _ _ 58 rfl B 5 inf (.int .u8 0) 1 1 Tryz.underlying58 hi hz0 hz1 hz2 rfl (by decide) ov n o rfl (hown2.alloc _) ⟨w2.heap.size, 0, none⟩ 1 3 (cb [x0]) rfl rfl ?hnews ?hone ?h63 ?hbytes ?hbase ?_)
  case hnews =>
    intro j u hu
    refine news_new w2 _ _ j u ?_
    have hj : j < 1 := by have := (List.getElem?_eq_some_iff.1 hu).1; simpa [cb] using this
    rw [← hu]
    simp only [cb]
    rcases j with _ | j
    · rfl
    · omega
  case hone => intro u hu; simp [cb] at hu; rcases hu with rfl <;> rfl
  case h63 => unfold maxLen; omega
  case hbytes => omega
  case hbase => simp; omega
  intro v' w' hown' hg hnil
  go_wp2
  go_ret
  exact ⟨v', rfl, hown', gtrans hg0 (gtrans (World.grownBy_alloc _ _ _) hg)⟩


/-- What a letter is worth. -/
def val (base : List UInt8) (c : UInt8) : Nat := (Lib.indexByte base c).toNat

theorem index_lt (base : List UInt8) (c : UInt8) : Lib.indexByte base c < base.length := by
  induction base with
  | nil => simp [Lib.indexByte]
  | cons b l ih =>
    unfold Lib.indexByte
    split
    · simp
    · split
      · simp; omega
      · simp; omega

theorem val_eq (base : List UInt8) (c : UInt8) (h : 0 ≤ Lib.indexByte base c) : Lib.indexByte base c = (val base c : Int) := by unfold val; omega
theorem val_lt (base : List UInt8) (c : UInt8) (hb : base.length = 64) : val base c < 64 := by have := index_lt base c; unfold val; omega

/-- The bytes of letters. -/
def dec (base : List UInt8) : List UInt8 → List UInt8
  | a :: b :: c :: d :: r => UInt8.ofNat (val base a * 4 + val base b / 16) :: UInt8.ofNat (val base b % 16 * 16 + val base c / 4) :: UInt8.ofNat (val base c % 4 * 64 + val base d) :: dec base r
  | [a, b, c] => [UInt8.ofNat (val base a * 4 + val base b / 16), UInt8.ofNat (val base b % 16 * 16 + val base c / 4)]
  | [a, b] => [UInt8.ofNat (val base a * 4 + val base b / 16)]
  | _ => []

theorem dec_length (base : List UInt8) : ∀ l, (dec base l).length = l.length * 3 / 4
  | a :: b :: c :: d :: r => by simp [dec, dec_length base r]; omega
  | [a, b, c] => by simp [dec]
  | [a, b] => by simp [dec]
  | [a] => by simp [dec]
  | [] => by simp [dec]

theorem dec_append (base : List UInt8) : ∀ l m : List UInt8, l.length % 4 = 0 → dec base (l ++ m) = dec base l ++ dec base m
  | a :: b :: c :: d :: r, m, h => by simp only [List.cons_append, dec]; rw [dec_append base r m (by simp at h; omega)]
  | [a, b, c], m, h => by simp at h
  | [a, b], m, h => by simp at h
  | [a], m, h => by simp at h
  | [], m, _ => by simp [dec]

theorem ofNat_toNat (n : Nat) (h : n < 256) : ((UInt8.ofNat n).toNat : Int) = n := by simp [UInt8.toNat_ofNat']; omega

/-- appendBytes: the bytes of a group of two to four letters lie behind what was there. -/
theorem appendBytes_any (B n : Nat) (ov : Value) (o : List Value) (grp base : ByteArray) (g : List UInt8) (w : World)
   (hb : base.data.toList.length = 64) (hg : grp.data.toList = g) (h1 : 2 ≤ g.length) (h3 : g.length ≤ 4) (hall : allIn base.data.toList g = true)
   (hown : w.ownsRow B 5 1 ov n o) (hB : B ≤ w.heap.size) (hn : n ≤ 1099511627776)
   : Calls Tryz.prog 92 #[ov, .string grp, .string base] w fun e w' => ∃ v', e = .returned v' ∧ w'.ownsRow B 5 1 v' (n + (g.length - 1)) (o ++ cb (dec base.data.toList g)) ∧ w.grownBy w' ov.ownBlock := by
  have hgrp : grp = ⟨g.toArray⟩ := by rw [← hg]
  subst hgrp
  clear hg
  match g, h1, h3, hall with
  | [a, b], _, _, hall =>
    simp [allIn] at hall
    have va := val_lt base.data.toList a hb
    have vb := val_lt base.data.toList b hb
    have q := appendBytes2 B n ov o ⟨#[a, b]⟩ base w (val base.data.toList a) (val base.data.toList b) (val base.data.toList b * 4096 + val base.data.toList a * 262144) (UInt8.ofNat (val base.data.toList a * 4 + val base.data.toList b / 16))
      rfl (val_eq _ _ hall.1) (val_eq _ _ hall.2) (by omega) (by omega) (by omega) (by omega) (by omega) (by omega)
      (bits_low .i64 32 (by decide) wraps_i64s 18 _ _ (by omega) (by omega) (by omega) (by omega) (by omega) (by omega)) (or0 _ (by omega) (by omega)) (by rw [ofNat_toNat _ (by omega)]; omega) hown hB hn
    exact q
  | [a, b, c], _, _, hall =>
    simp [allIn] at hall
    have va := val_lt base.data.toList a hb
    have vb := val_lt base.data.toList b hb
    have vc := val_lt base.data.toList c hb
    have q := appendBytes3 B n ov o ⟨#[a, b, c]⟩ base w (val base.data.toList a) (val base.data.toList b) (val base.data.toList c) (val base.data.toList c * 64 + (val base.data.toList b * 4096 + val base.data.toList a * 262144)) (UInt8.ofNat (val base.data.toList a * 4 + val base.data.toList b / 16)) (UInt8.ofNat (val base.data.toList b % 16 * 16 + val base.data.toList c / 4))
      rfl (val_eq _ _ hall.1) (val_eq _ _ hall.2.1) (val_eq _ _ hall.2.2) (by omega) (by omega) (by omega) (by omega) (by omega) (by omega) (by omega) (by omega)
      (or0 _ (by omega) (by omega)) (bits_low .i64 32 (by decide) wraps_i64s 18 _ _ (by omega) (by omega) (by omega) (by omega) (by omega) (by omega)) (or12 _ _ (by omega) (by omega) (by omega) (by omega) (by omega)) (by rw [ofNat_toNat _ (by omega)]; omega) (by rw [ofNat_toNat _ (by omega)]; omega) hown hB hn
    exact q
  | [a, b, c, d], _, _, hall =>
    simp [allIn] at hall
    have va := val_lt base.data.toList a hb
    have vb := val_lt base.data.toList b hb
    have vc := val_lt base.data.toList c hb
    have vd := val_lt base.data.toList d hb
    have q := appendBytes4 B n ov o ⟨#[a, b, c, d]⟩ base w (val base.data.toList a) (val base.data.toList b) (val base.data.toList c) (val base.data.toList d) (val base.data.toList d + val base.data.toList c * 64 + (val base.data.toList b * 4096 + val base.data.toList a * 262144)) (UInt8.ofNat (val base.data.toList a * 4 + val base.data.toList b / 16)) (UInt8.ofNat (val base.data.toList b % 16 * 16 + val base.data.toList c / 4)) (UInt8.ofNat (val base.data.toList c % 4 * 64 + val base.data.toList d))
      rfl (val_eq _ _ hall.1) (val_eq _ _ hall.2.1) (val_eq _ _ hall.2.2.1) (val_eq _ _ hall.2.2.2) (by omega) (by omega) (by omega) (by omega) (by omega) (by omega) (by omega) (by omega)
      (or0 _ (by omega) (by omega)) (or6 _ _ (by omega) (by omega) (by omega) (by omega) (by omega)) (bits_low .i64 32 (by decide) wraps_i64s 18 _ _ (by omega) (by omega) (by omega) (by omega) (by omega) (by omega)) (or12 _ _ (by omega) (by omega) (by omega) (by omega) (by omega)) (by rw [ofNat_toNat _ (by omega)]; omega) (by rw [ofNat_toNat _ (by omega)]; omega) (by rw [ofNat_toNat _ (by omega)]; omega) hown hB hn
    exact q

end Go.Proofs.YtipjjhccbgbdiaaGreatDoor
