/- The walks of Frame, readHead, Unframe. -/
import Derived.Test.YtpbiofnncdneoaaGreatDoorX09
import Derived.Laws.MakeOwn
import Derived.Test.YtpbiofnncdneoaaGreatDoorX08
import Derived.ScopeJumps
import Derived.WalkMore
namespace Go.Proofs.YtpbiofnncdneoaaGreatDoor
open Go Go.RowKit
open Go.RowKit (wrap32 wrap64)

theorem make0 (w : World) (n : Nat) (hn : n ≤ 140737488355328) : ∃ w', (Instr.makeSlice 74 (.int .i64 0) (.int .i64 (n : Int))).run Tryz.prog w = .ok (.slice (some ⟨w.heap.size, 0, none⟩) 0 n) w' ∧ Out w.heap.size w' (.slice (some ⟨w.heap.size, 0, none⟩) 0 n) [] ∧ w.grownBy w' none := by
  obtain ⟨inf, hi, hz0, hz1, hz2⟩ := info_parts Tryz.info5
  exact run_make_own w w.heap.size 74 5 inf (.int .u8 0) 1 Tryz.underlying74 hi hz0 hz1 .i64 .i64 n (by rw [hz2]; omega) (by unfold maxLen; omega) (Nat.le_refl _)

set_option maxRecDepth 100000 in
set_option maxHeartbeats 2000000 in
/-- Frame of a body that may be. -/
theorem frame_ok (l : List UInt8) (F : Nat → Prop) (v : Value) (w : World) (hl : l.length ≤ 16777216) (hr : Rd w F v l) (ht : Tab w) :
    Calls Tryz.prog 50 #[v] w fun e w' => ∃ v', e = .returned (.tuple #[v', .int .i64 0]) ∧ Out w.heap.size w' v' (frameL l) ∧ w.grownBy w' none := by
  have HR : Hid (∀ u : World, Below w.heap.size w u → Rd u F v l) := fun u hu => hr.keep (gof hu none)
  have HT : Hid (∀ u : World, Below w.heap.size w u → Tab u) := fun u hu => ht.keep (gof hu none)
  obtain ⟨w1, hmk, ho1, hg1⟩ := make0 w (l.length + 13) (by omega)
  rw [show ((l.length + 13 : Nat) : Int) = 9 + (l.length : Int) + 4 by omega] at hmk
  have HO1 := hid ho1
  have HB1 := hid (gbelow hg1)
  have hz1 := hg1.size
  obtain ⟨a, b, off, c, rfl, -⟩ := hr
  have hd : decide ((16777216 : Int) < (l.length : Int)) = false := decide_eq_false (by omega)
  have HFL : Hid (frameL l = [] ++ [201] ++ layL l.length 4 ++ layL (sumL ([] ++ [201] ++ layL l.length 4)) 4 ++ l ++ layL (sumL l) 4) := hid (by simp [frameL, head5])
  clear ho1 hg1 ht
  have k1 := layL_length l.length 4
  have k2 := layL_length (sumL ([] ++ [201] ++ layL l.length 4)) 4
  obtain ⟨L, HL⟩ : ∃ L, Hid (l.length = L) := ⟨_, hid rfl⟩
  have HLE : Hid (∀ x : List UInt8, x.length ≤ 33554432 → x.length ≤ 17592186044416 ∧ x.length ≤ 140737488355328) := hid (fun x hx => by omega)
  have HLA : Hid (([] ++ [201] : List UInt8).length ≤ 33554432 ∧ ([] ++ [201] ++ layL l.length 4).length ≤ 33554432 ∧ ([] ++ [201] ++ layL l.length 4 ++ layL (sumL ([] ++ [201] ++ layL l.length 4)) 4).length ≤ 33554432 ∧ ([] ++ [201] ++ layL l.length 4 ++ layL (sumL ([] ++ [201] ++ layL l.length 4)) 4 ++ l).length ≤ 33554432 ∧ l.length ≤ 33554432 ∧ ([] ++ [201] ++ layL l.length 4 ++ layL (sumL ([] ++ [201] ++ layL l.length 4)) 4).length + l.length ≤ 33554432) := hid (by
    simp only [List.length_append, List.length_cons, List.length_nil, layL_length]; omega)
  clear k1 k2
  go_enter Tryz.func50, Tryz.ntmps50
  go_wp2_with (first
    | (at_builtin; refine wpList_append_byte rfl _ _ rfl w.heap.size w1.heap.size _ 201 (HO1.out.keep (galloc w1 _ none)) rfl (litL w1 _) (by simp) (by simp; omega) ?_; intro v2 w2 hO2 hg2; have HO2 := hid hO2; have HB2 := hid ((HB1.out.trans ((Below.refl _ _).alloc hz1 _)).trans (rbelow_grown hg2 (by simp; omega) (fun j hj => HO1.out.block j hj))); have hz2 := HB2.out.size; clear hO2 hg2)
    | (go_at_call 105; refine (appendNumber_any w.heap.size l.length 4 _ _ _ (by omega) (by decide) HO2.out hz2 (HLE.out _ HLA.out.1).1).mono ?_; rintro e w3 ⟨v3, rfl, hO3, hB3⟩; have HO3 := hid hO3; have HB3 := hid (HB2.out.trans hB3); have hz3 := HB3.out.size; clear hO3 hB3)
    | (go_at_call 106; refine (appendSum_any w.heap.size _ _ _ _ _ _ HO3.out hz3 (HLE.out _ HLA.out.2.1).1 (HLE.out _ HLA.out.2.1).2 HO3.out.rd (HT.out _ HB3.out)).mono ?_; rintro e w4 ⟨v4, rfl, hO4, hB4⟩; have HO4 := hid hO4; have HB4 := hid (HB3.out.trans hB4); have hz4 := HB4.out.size; clear hO4 hB4)
    | (at_builtin; refine wpList_append_rd rfl _ _ rfl w.heap.size F _ l HO4.out (HR.out _ HB4.out) (by have := HLA.out.2.2.2.2.2; omega) hz4 ?_; intro v5 w5 hO5 hg5 _; have HO5 := hid hO5; have HB5 := hid (HB4.out.trans (rbelow_grown hg5 hz4 (fun j hj => HO4.out.block j hj))); have hz5 := HB5.out.size; clear hO5 hg5)
    | (go_at_call 106; refine (appendSum_any w.heap.size l F _ _ _ _ HO5.out hz5 (HLE.out _ HLA.out.2.2.2.1).1 (HLE.out _ HLA.out.2.2.2.2.1).2 (HR.out _ HB5.out) (HT.out _ HB5.out)).mono ?_; rintro e w6 ⟨v6, rfl, hO6, hB6⟩; have HO6 := hid hO6; have HB6 := hid (HB5.out.trans hB6); clear hO6 hB6))
  go_ret2
  exact ⟨_, rfl, by rw [HFL.out]; exact HO6.out, gof HB6.out none⟩

set_option maxHeartbeats 400000 in
theorem frame_no (v : Value) (n c : Nat) (a : Option Addr) (w : World) (hv : v = .slice a n c) (hn : 16777216 < n) (hn2 : n ≤ 140737488355328) :
    Calls Tryz.prog 50 #[v] w fun e w' => e = .returned (.tuple #[.slice none 0 0, .int .i64 31]) ∧ w' = w := by
  subst hv
  have hd : decide ((16777216 : Int) < (n : Int)) = true := decide_eq_true (by omega)
  go_enter Tryz.func50, Tryz.ntmps50
  go_wp2_with fail
  go_ret2
  exact ⟨rfl, rfl⟩

/-- A part of a slice that can be read. -/
theorem Rd.part {w : World} {F : Nat → Prop} {a : Option Addr} {b off : Nat} {l : List UInt8} (ha : 0 < l.length → a = some ⟨b, off, none⟩ ∧ b < w.heap.size ∧ F b) (hcell : ∀ i (h : i < l.length), w.cell? ⟨b, off + i, none⟩ = some (.int .u8 l[i].toNat))
    (i n cc : Nat) (h : i + n ≤ l.length) (hn : 0 < n) (hcc : n ≤ cc) : Rd w F (.slice (some ⟨b, off + i, none⟩) n cc) ((l.drop i).take n) := by
  have hl : ((l.drop i).take n).length = n := by rw [List.length_take, List.length_drop]; omega
  refine ⟨some ⟨b, off + i, none⟩, b, off + i, cc, by rw [hl], by rw [hl]; exact hcc, (fun h => by cases h), fun _ => ⟨rfl, (ha (by omega)).2⟩, fun j hj => ?_⟩
  rw [hl] at hj
  have := hcell (i + j) (by omega)
  rw [show off + i + j = off + (i + j) by omega, this]
  simp
end Go.Proofs.YtpbiofnncdneoaaGreatDoor

namespace Go.Proofs.YtpbiofnncdneoaaGreatDoor
open Go Go.RowKit
open Go.RowKit (wrap32 wrap64)

theorem headE_nil : headE [] = 30 := rfl
theorem headE_form (x : UInt8) (r : List UInt8) (h : x ≠ 201) : headE (x :: r) = 34 := by
  have hh : (x :: r).headD 0 = x := rfl
  unfold headE
  rw [if_neg (by simp), hh, if_pos h]
theorem headE_short (r : List UInt8) (h : r.length < 8) : headE (201 :: r) = 30 := by
  unfold headE
  rw [if_neg (by simp), if_neg (by simp), if_pos (by simp; omega)]
theorem headE_long (r : List UInt8) (h : 8 ≤ r.length) : headE (201 :: r) = if numL (((201 :: r).drop 5).take 4) ≠ sumL ((201 :: r).take 5) then 32 else if 16777216 < cnt (201 :: r) then 31 else 0 := by
  have hh : (201 :: r).headD 0 = 201 := rfl
  unfold headE
  rw [if_neg (by simp), hh, if_neg (by simp), if_neg (by simp; omega)]
theorem byte_ne {c k : UInt8} (h : c ≠ k) : ((c.toNat : Int) != (k.toNat : Int)) = true ∧ (c.toNat != k.toNat) = true :=
  ⟨by simpa using fun e => h (UInt8.toNat_inj.1 (by omega)), by simpa using fun e => h (UInt8.toNat_inj.1 e)⟩

set_option maxRecDepth 100000 in
set_option maxHeartbeats 1000000 in
theorem readHead_any (l : List UInt8) (F : Nat → Prop) (v : Value) (w : World) (hl : l.length ≤ 140737488355328) (hr : Rd w F v l) (ht : Tab w) :
    Calls Tryz.prog 148 #[v] w fun e w' => e = .returned (.tuple #[.int .i64 (if headE l = 0 then (cnt l : Int) else 0), .int .i64 (headE l)]) ∧ ∃ n, w' = w.drewN n := by
  have HRd := hid hr
  obtain ⟨a, b, off, c, rfl, hc, hn, ha, hcell⟩ := hr
  match l, hl, hc, ha, hcell, HRd with
  | [], hl, hc, ha, hcell, HRd =>
    rw [headE_nil, if_neg (by decide)]
    clear ha hcell hn
    go_enter Tryz.func148, Tryz.ntmps148
    go_wp2_with fail
    go_ret2
    exact ⟨rfl, 0, rfl⟩
  | x :: r, hl, hc, ha, hcell, HRd =>
    obtain ⟨rfl, hb, hF⟩ := ha (by simp)
    have h0 := hcell 0 (by simp)
    simp only [List.getElem_cons_zero, Nat.add_zero] at h0
    have HC := hid hcell
    have HA := hid ha
    clear hcell hn ha
    have hxb := u8_bd x
    obtain ⟨n, HN⟩ : ∃ n, Hid ((x :: r).length = n) := ⟨_, hid rfl⟩
    have hrn : r.length + 1 = n := by have := HN.out; simp at this; omega
    have HRN := hid hrn
    have hn0 : 1 ≤ n := by omega
    rw [HN.out] at hl hc ⊢
    clear hrn
    by_cases hx : x = 201
    · subst hx
      change w.cell? ⟨b, off, none⟩ = some (.int .u8 201) at h0
      by_cases h9 : n < 9
      · rw [headE_short r (by have := HRN.out; omega), if_neg (by decide)]
        go_enter Tryz.func148, Tryz.ntmps148
        go_wp2_with fail
        go_ret2
        exact ⟨rfl, 0, rfl⟩
      · have hlong := headE_long r (by have := HRN.out; omega)
        have HP : ∀ (i m cc : Nat), i + m ≤ n → 0 < m → m ≤ cc → ∀ k, Rd (w.drewN k) F (.slice (some ⟨b, off + i, none⟩) m cc) (((201 :: r).drop i).take m) := fun i m cc h1 h2 h3 k => (Rd.part HA.out HC.out i m cc (by rw [HN.out]; exact h1) h2 h3).keep (gdrew w k none)
        have HLn : ∀ (i m : Nat), i + m ≤ n → (((201 :: r).drop i).take m).length = m := fun i m h => by rw [List.length_take, List.length_drop, HN.out]; omega
        have HI : Hid (∀ k, Calls Tryz.prog 149 #[.slice (some ⟨b, off + 5, none⟩) 4 (c - 5), .slice (some ⟨b, off, none⟩) 5 c] (w.drewN k) fun e w' => e = .returned (.bool (decide (numL (((201 :: r).drop 5).take 4) = sumL ((201 :: r).take 5)))) ∧ w' = w.drewN k) := fun k =>
          isSum_any _ _ F F _ _ _ (by rw [HLn 5 4 (by omega)]; decide) (by have := HLn 0 5 (by omega); rw [List.drop_zero] at this; rw [this]; decide) (HP 5 4 (c - 5) (by omega) (by decide) (by omega) k) (HP 0 5 c (by omega) (by decide) (by omega) k) (ht.keep (gdrew w k none))
        have HNm : Hid (∀ k, Calls Tryz.prog 167 #[.slice (some ⟨b, off + 1, none⟩) 4 (c - 1)] (w.drewN k) fun e w' => e = .returned (.int .u64 (cnt (201 :: r))) ∧ w' = w.drewN k) := fun k =>
          number_any _ F _ _ (by rw [HLn 1 4 (by omega)]; decide) (HP 1 4 (c - 1) (by omega) (by decide) (by omega) k)
        have hcl : cnt (201 :: r) < 4294967296 := numL_lt 4 _ (HLn 1 4 (by omega))
        clear HP HLn
        generalize cnt (201 :: r) = C at hlong HNm hcl ⊢
        generalize headE (201 :: r) = E at hlong ⊢
        generalize numL (((201 :: r).drop 5).take 4) = X at hlong HI
        generalize sumL ((201 :: r).take 5) = Y at hlong HI
        by_cases hxy : X = Y
        · rw [decide_eq_true hxy] at HI
          rw [if_neg (by simpa using hxy)] at hlong
          clear hxy
          by_cases hC : 16777216 < C
          · rw [if_pos hC] at hlong
            subst hlong
            rw [if_neg (by decide)]
            have hd : decide ((16777216 : Int) < (C : Int)) = true := decide_eq_true (by omega)
            go_enter Tryz.func148, Tryz.ntmps148
            go_wp2_with fail
            go_quiet ((go_at_call 149; exact Calls.quiet_of_same (HI.out _)))
            rename_i nq
            go_wp2_with (go_at_call 167; refine (HNm.out nq).mono ?_; rintro e w' ⟨rfl, hw⟩; subst hw)
            go_ret2
            exact ⟨rfl, nq, rfl⟩
          · rw [if_neg hC] at hlong
            subst hlong
            rw [if_pos rfl]
            have hd : decide ((16777216 : Int) < (C : Int)) = false := decide_eq_false (by omega)
            go_enter Tryz.func148, Tryz.ntmps148
            go_wp2_with fail
            go_quiet ((go_at_call 149; exact Calls.quiet_of_same (HI.out _)))
            rename_i nq
            go_wp2_with (go_at_call 167; refine (HNm.out nq).mono ?_; rintro e w' ⟨rfl, hw⟩; subst hw)
            go_ret2
            exact ⟨rfl, nq, rfl⟩
        · rw [decide_eq_false hxy] at HI
          rw [if_pos hxy] at hlong
          subst hlong
          rw [if_neg (by decide)]
          clear hxy
          go_enter Tryz.func148, Tryz.ntmps148
          go_wp2_with fail
          go_quiet ((go_at_call 149; exact Calls.quiet_of_same (HI.out _)))
          rename_i nq
          go_wp2_with fail
          go_ret2
          exact ⟨rfl, nq, rfl⟩
    · rw [headE_form x r hx, if_neg (by decide)]
      obtain ⟨e1, e2⟩ := byte_ne (k := 201) hx
      change ((x.toNat : Int) != 201) = true at e1
      change (x.toNat != 201) = true at e2
      clear hx
      go_enter Tryz.func148, Tryz.ntmps148
      go_wp2_with fail
      go_ret2
      exact ⟨rfl, 0, rfl⟩

theorem unfrE_head (l : List UInt8) (h : headE l ≠ 0) : unfrE l = headE l := by unfold unfrE; rw [if_pos h]
theorem unfrE_short (l : List UInt8) (h : headE l = 0) (hs : l.length < cnt l + 13) : unfrE l = 30 := by unfold unfrE; rw [if_neg (by simpa using h), if_pos hs]
theorem unfrE_rest (l : List UInt8) (h : headE l = 0) (hs : ¬ l.length < cnt l + 13) : unfrE l = if numL ((l.drop (9 + cnt l)).take 4) ≠ sumL (bodyL l) then 32 else 0 := by
  unfold unfrE bodyL
  rw [if_neg (by simpa using h), if_neg hs]
theorem headE_cnt (l : List UInt8) (h : headE l = 0) : cnt l ≤ 16777216 ∧ 9 ≤ l.length := by
  unfold headE at h
  by_cases h1 : l.length = 0
  · rw [if_pos h1] at h; cases h
  · rw [if_neg h1] at h
    by_cases h2 : l.headD 0 ≠ 201
    · rw [if_pos h2] at h; cases h
    · rw [if_neg h2] at h
      by_cases h3 : l.length < 9
      · rw [if_pos h3] at h; cases h
      · rw [if_neg h3] at h
        by_cases h4 : numL ((l.drop 5).take 4) ≠ sumL (l.take 5)
        · rw [if_pos h4] at h; cases h
        · rw [if_neg h4] at h
          by_cases h5 : 16777216 < cnt l
          · rw [if_pos h5] at h; cases h
          · omega

/-- What Unframe tells. -/
def unfV (l : List UInt8) (v' : Value) : Value := .tuple #[v', .int .i64 (if unfrE l = 0 then ((cnt l + 13 : Nat) : Int) else 0), .int .i64 (unfrE l)]
def unfB (l : List UInt8) : List UInt8 := if unfrE l = 0 then bodyL l else []

set_option maxRecDepth 100000 in
set_option maxHeartbeats 2000000 in
theorem unframe_any (l : List UInt8) (F : Nat → Prop) (v : Value) (w : World) (hl : l.length ≤ 140737488355328) (hr : Rd w F v l) (ht : Tab w) :
    Calls Tryz.prog 102 #[v] w fun e w' => ∃ v', e = .returned (.tuple #[v', .int .i64 (if unfrE l = 0 then ((cnt l + 13 : Nat) : Int) else 0), .int .i64 (unfrE l)]) ∧ Out w.heap.size w' v' (unfB l) ∧ w.grownBy w' none := by
  have HH := hid (readHead_any l F v w hl hr ht)
  have HRd := hid hr
  by_cases h0 : headE l = 0
  · rw [if_pos h0, h0] at HH
    obtain ⟨hcnt, h9⟩ := headE_cnt l h0
    obtain ⟨a, b, off, c, rfl, hc, hn, ha, hcell⟩ := hr
    obtain ⟨rfl, hb, hF⟩ := ha (by omega)
    by_cases hs : l.length < cnt l + 13
    · have he := unfrE_short l h0 hs
      have hB : unfB l = [] := by unfold unfB; rw [he, if_neg (by decide)]
      rw [he, hB, if_neg (by decide)]
      clear ha hcell hn h0 HRd ht he hB
      generalize cnt l = C at *
      generalize l.length = n at *
      have hd : decide ((n : Int) < 9 + (C : Int) + 4) = true := decide_eq_true (by omega)
      go_enter Tryz.func102, Tryz.ntmps102
      go_wp2_with (go_at_call 148; refine (HH.out).mono ?_; rintro e w' ⟨rfl, nq, hw⟩; subst hw)
      go_ret3
      exact ⟨_, rfl, Out.nil _ _, gdrew _ _ _⟩
    · have he := unfrE_rest l h0 hs
      have HP : ∀ (i m cc : Nat), i + m ≤ l.length → 0 < m → m ≤ cc → ∀ k, Rd (w.drewN k) F (.slice (some ⟨b, off + i, none⟩) m cc) ((l.drop i).take m) := fun i m cc h1 h2 h3 k => (Rd.part ha hcell i m cc h1 h2 h3).keep (gdrew w k none)
      have HLn : ∀ (i m : Nat), i + m ≤ l.length → ((l.drop i).take m).length = m := fun i m h => by rw [List.length_take, List.length_drop]; omega
      have hbl : (bodyL l).length = cnt l := HLn 9 _ (by omega)
      have hbody : ∀ k, Rd (w.drewN k) F (.slice (if cnt l = 0 then some ⟨b, off, none⟩ else some ⟨b, off + 9, none⟩) (cnt l) (cnt l)) (bodyL l) := fun k => by
        by_cases hz : cnt l = 0
        · have : bodyL l = [] := List.eq_nil_of_length_eq_zero (by omega)
          rw [this, if_pos hz, hz]
          exact ⟨some ⟨b, off, none⟩, 0, 0, 0, rfl, Nat.le_refl _, (fun h => by cases h), (fun h => by simp at h), fun i h => by simp at h⟩
        · rw [if_neg hz]
          exact HP 9 (cnt l) (cnt l) (by omega) (by omega) (Nat.le_refl _) k
      have HI : Hid (∀ k, Calls Tryz.prog 149 #[.slice (some ⟨b, off + (9 + cnt l), none⟩) 4 (c - (9 + cnt l)), .slice (if cnt l = 0 then some ⟨b, off, none⟩ else some ⟨b, off + 9, none⟩) (cnt l) (cnt l)] (w.drewN k) fun e w' => e = .returned (.bool (decide (numL ((l.drop (9 + cnt l)).take 4) = sumL (bodyL l)))) ∧ w' = w.drewN k) := fun k =>
        isSum_any _ _ F F _ _ _ (by rw [HLn (9 + cnt l) 4 (by omega)]; decide) (by rw [hbl]; omega) (HP (9 + cnt l) 4 (c - (9 + cnt l)) (by omega) (by decide) (by omega) k) (hbody k) (ht.keep (gdrew w k none))
      have HCl : Hid (∀ k, Calls Tryz.prog 64 #[.slice (if cnt l = 0 then some ⟨b, off, none⟩ else some ⟨b, off + 9, none⟩) (cnt l) (cnt l)] (w.drewN k) fun e w' => ∃ v', e = .returned v' ∧ Out w.heap.size w' v' (bodyL l) ∧ (w.drewN k).grownBy w' none) := fun k =>
        rclone_any _ F _ _ (by rw [hbl]; omega) (hbody k)
      have HB : Hid (unfrE l = 0 → unfB l = bodyL l) := hid (fun h => by unfold unfB; rw [if_pos h])
      have HB2 : Hid (unfrE l ≠ 0 → unfB l = []) := hid (fun h => by unfold unfB; rw [if_neg h])
      clear HP HLn hbl hbody ha hcell hn h0 HRd ht
      generalize unfrE l = E at *
      generalize unfB l = UB at *
      generalize bodyL l = Bd at *
      generalize cnt l = C at *
      generalize numL ((l.drop (9 + C)).take 4) = X at *
      generalize sumL Bd = Y at *
      generalize l.length = n at *
      have hd : decide ((n : Int) < 9 + (C : Int) + 4) = false := decide_eq_false (by omega)
      by_cases hxy : X = Y
      · rw [decide_eq_true hxy] at HI
        rw [if_neg (by simpa using hxy)] at he
        subst he
        rw [if_pos rfl, HB.out rfl]
        clear hxy HB HB2
        go_enter Tryz.func102, Tryz.ntmps102
        go_wp2_with (first
          | (go_at_call 148; refine (HH.out).mono ?_; rintro e w' ⟨rfl, nq, hw⟩; subst hw)
          | (go_at_call 149; refine (HI.out nq).mono ?_; rintro e w' ⟨rfl, hw⟩; subst hw)
          | (go_at_call 64; refine (HCl.out nq).mono ?_; rintro e w2 ⟨v2, rfl, hO2, hg2⟩))
        all_goals
          go_ret3
          exact ⟨_, by first | rfl | (rw [show (C : Int) + 13 = 9 + (C : Int) + 4 by omega]; rfl), hO2, gtrans (gdrew _ _ _) hg2⟩
      · rw [decide_eq_false hxy] at HI
        rw [if_pos hxy] at he
        subst he
        rw [if_neg (by decide), HB2.out (by decide)]
        clear hxy HB HB2
        go_enter Tryz.func102, Tryz.ntmps102
        go_wp2_with (first
          | (go_at_call 148; refine (HH.out).mono ?_; rintro e w' ⟨rfl, nq, hw⟩; subst hw)
          | (go_at_call 149; refine (HI.out nq).mono ?_; rintro e w' ⟨rfl, hw⟩; subst hw))
        all_goals
          go_ret3
          exact ⟨_, rfl, Out.nil _ _, gdrew _ _ _⟩
  · rw [if_neg h0] at HH
    have he := unfrE_head l h0
    have hB : unfB l = [] := by unfold unfB; rw [he, if_neg h0]
    rw [he, hB, if_neg h0]
    obtain ⟨a, b, off, c, rfl, -⟩ := hr
    generalize headE l = E at *
    have hE : ((E : Int) != 0) = true := by simpa using h0
    have hE2 : (E != 0) = true := by simpa using h0
    clear h0
    go_enter Tryz.func102, Tryz.ntmps102
    go_wp2_with (go_at_call 148; refine (HH.out).mono ?_; rintro e w' ⟨rfl, nq, hw⟩; subst hw)
    go_ret3
    exact ⟨_, rfl, Out.nil _ _, gdrew _ _ _⟩
end Go.Proofs.YtpbiofnncdneoaaGreatDoor

namespace Go.Proofs.YtpbiofnncdneoaaGreatDoor
open Go Go.RowKit Go.MapKept Go.MuLone
open Go.RowKit (wrap32 wrap64)

/-- As Q; by a goto to label l: J l. -/
def jumps (J : Nat → Act → World → Prop) (Q : Exit → Act → World → Prop) : Exit → Act → World → Prop
  | .goto l, a, w => J l a w
  | e, a, w => Q e a w
theorem wp_scope_many {P : Program} {a : Act} {w : World} {Q : Exit → Act → World → Prop} {c : Code} (J : Nat → Act → World → Prop) (μ : Nat → Act → World → Nat)
    (first : c.wp P (jumps J Q) a w)
    (pass : ∀ l a w, J l a w → ∃ rest, findLabel c l = some rest ∧ rest.wp P (jumps (fun l' a' w' => J l' a' w' ∧ μ l' a' w' < μ l a w) Q) a w) : (Code.scope c).wp P Q a w := by
  intro b k cs
  have hg : ∀ l rest, findLabel c l = some rest → gotoIn l (.inScope c :: k) = some (.code rest :: .inScope c :: k) := fun l rest hf => by simp [gotoIn, hf]
  have key : ∀ n l a w, μ l a w = n → J l a w → ∀ rest, findLabel c l = some rest → ∃ e a' w', Q e a' w' ∧ Arrives P (lone (b.at a (.code rest :: .inScope c :: k)) cs w) b k cs e a' w' := by
    intro n
    induction n using Nat.strongRecOn with
    | _ n ih =>
      intro l a w hn hJ rest hf
      obtain ⟨rest', hf', hp⟩ := pass l a w hJ
      rw [hf] at hf'
      injection hf' with hf'
      subst hf'
      obtain ⟨e, a₁, w₁, hq, harr⟩ := hp b (.inScope c :: k) cs
      cases e with
      | normal => exact ⟨.normal, a₁, w₁, hq, Steps.trans harr (.one step_inScope)⟩
      | exit id => exact ⟨.exit id, a₁, w₁, hq, fun k' hk => harr k' (by simp [exitTo, hk])⟩
      | goto l' =>
        obtain ⟨hJ', hlt⟩ := hq
        obtain ⟨rest₂, hf₂, _⟩ := pass l' a₁ w₁ hJ'
        obtain ⟨e₂, a₂, w₂, hq₂, harr₂⟩ := ih _ (by omega) l' a₁ w₁ rfl hJ' rest₂ hf₂
        exact ⟨e₂, a₂, w₂, hq₂, .of_steps (harr _ (hg l' rest₂ hf₂)) harr₂⟩
      | ret => exact ⟨_, a₁, w₁, hq, harr⟩
      | panic ch => exact ⟨_, a₁, w₁, hq, harr⟩
      | outgrown => exact ⟨_, a₁, w₁, hq, harr⟩
  obtain ⟨e, a₁, w₁, hq, harr⟩ := first b (.inScope c :: k) cs
  cases e with
  | normal => exact ⟨.normal, a₁, w₁, hq, .head step_scope (Steps.trans harr (.one step_inScope))⟩
  | exit id => exact ⟨.exit id, a₁, w₁, hq, fun k' hk => .head step_scope (harr k' (by simp [exitTo, hk]))⟩
  | goto l' =>
    obtain ⟨rest₂, hf₂, _⟩ := pass l' a₁ w₁ hq
    obtain ⟨e₂, a₂, w₂, hq₂, harr₂⟩ := key _ l' a₁ w₁ rfl hq rest₂ hf₂
    exact ⟨e₂, a₂, w₂, hq₂, .of_steps (.head step_scope (harr _ (hg l' rest₂ hf₂))) harr₂⟩
  | ret => exact ⟨_, a₁, w₁, hq, .of_steps (.one step_scope) harr⟩
  | panic ch => exact ⟨_, a₁, w₁, hq, .of_steps (.one step_scope) harr⟩
  | outgrown => exact ⟨_, a₁, w₁, hq, .of_steps (.one step_scope) harr⟩

theorem jumps_mono {J J' : Nat → Act → World → Prop} {Q : Exit → Act → World → Prop} (h : ∀ l a w, J l a w → J' l a w) : ∀ e a w, jumps J Q e a w → jumps J' Q e a w := by
  intro e a w q
  cases e with
  | goto l => exact h l a w q
  | _ => exact q
theorem wp_scope_from {P : Program} {a : Act} {w : World} {Q : Exit → Act → World → Prop} {c y : Code} (l0 : Nat) (J : Nat → Act → World → Prop) (μ : Nat → Act → World → Nat) (hf : findLabel c l0 = some (.seq .skip y))
    (first : (∀ a w, J l0 a w → y.wp P (jumps J Q) a w) → c.wp P (jumps J Q) a w)
    (pass0 : ∀ a w, J l0 a w → y.wp P (jumps (fun l' a' w' => J l' a' w' ∧ μ l' a' w' < μ l0 a w) Q) a w)
    (pass : ∀ l a w, l ≠ l0 → J l a w → ∃ rest, findLabel c l = some rest ∧ rest.wp P (jumps (fun l' a' w' => J l' a' w' ∧ μ l' a' w' < μ l a w) Q) a w) : (Code.scope c).wp P Q a w := by
  refine wp_scope_many J μ (first fun a w hJ => Code.wp_mono (jumps_mono fun _ _ _ h => h.1) (pass0 a w hJ)) fun l a w hJ => ?_
  by_cases e : l = l0
  · subst e
    exact ⟨_, hf, wp_seq (wp_skip (pass0 a w hJ))⟩
  · exact pass l a w e hJ
/-- A slice of bytes that lies below B, or is a row of the call's own. -/
def Rb (B C : Nat) (w : World) (v : Value) (l : List UInt8) : Prop := Rd w (fun k => k < C) v l ∨ Out B w v l
theorem Rb.on {B C : Nat} {w w' : World} {v : Value} {l : List UInt8} {row : Option Nat} (h : Rb B C w v l) (hg : w.grownBy w' row) (h1 : ∀ k, row = some k → C ≤ k) (h2 : ∀ k, row = some k → Out B w v l → v.ownBlock ≠ some k) : Rb B C w' v l := by
  rcases h with h | h
  · refine .inl ?_
    obtain ⟨a, b, off, c, e, hc, hn, ha, hcell⟩ := h
    refine ⟨a, b, off, c, e, hc, hn, fun h0 => ⟨(ha h0).1, Nat.lt_of_lt_of_le (ha h0).2.1 hg.size, (ha h0).2.2⟩, fun i hi => ?_⟩
    have := ha (by omega)
    rw [← hcell i hi]
    exact cell_at hg this.2.1 (fun e => by have := h1 _ e; omega)
  · exact .inr (h.on hg (fun k hk => h2 k hk h))
theorem Rb.keep {B C : Nat} {w w' : World} {v : Value} {l : List UInt8} (h : Rb B C w v l) (hg : w.grownBy w' none) : Rb B C w' v l := h.on hg (fun k hk => by cases hk) (fun k hk => by cases hk)
theorem Rb.rd {B C : Nat} {w : World} {v : Value} {l : List UInt8} (h : Rb B C w v l) : ∃ F, Rd w F v l := by
  rcases h with h | h
  · exact ⟨_, h⟩
  · exact ⟨_, h.rd⟩
theorem Rb.len {B C : Nat} {w : World} {v : Value} {l : List UInt8} (h : Rb B C w v l) : ∃ a c, v = .slice a l.length c := by
  obtain ⟨F, a, b, off, c, e, _⟩ := h.rd
  exact ⟨a, c, e⟩
/-- Rows of bytes in memory, one slice a cell. -/
inductive Each (R : Value → List UInt8 → Prop) : List Value → List (List UInt8) → Prop
  | nil : Each R [] []
  | cons {v : Value} {l : List UInt8} {vs : List Value} {ls : List (List UInt8)} (h : R v l) (t : Each R vs ls) : Each R (v :: vs) (l :: ls)
theorem Each.mono {R S : Value → List UInt8 → Prop} (hs : ∀ v l, R v l → S v l) : ∀ {vs ls}, Each R vs ls → Each S vs ls
  | _, _, .nil => .nil
  | _, _, .cons h t => .cons (hs _ _ h) (t.mono hs)
theorem Each.app {R : Value → List UInt8 → Prop} {v : Value} {l : List UInt8} (h : R v l) : ∀ {vs ls}, Each R vs ls → Each R (vs ++ [v]) (ls ++ [l])
  | _, _, .nil => .cons h .nil
  | _, _, .cons h' t => .cons h' (Each.app h t)
theorem Each.len {R : Value → List UInt8 → Prop} : ∀ {vs ls}, Each R vs ls → vs.length = ls.length
  | _, _, .nil => rfl
  | _, _, .cons _ t => by simp only [List.length_cons, t.len]
theorem Each.get {R : Value → List UInt8 → Prop} : ∀ {vs ls}, Each R vs ls → ∀ i (h : i < ls.length), ∃ v, vs[i]? = some v ∧ R v ls[i]
  | _, _, .nil, i, h => by cases h
  | _, _, .cons h' t, 0, h => ⟨_, rfl, h'⟩
  | _, _, .cons h' t, i + 1, h => by
    obtain ⟨v, h1, h2⟩ := t.get i (by simpa using h)
    exact ⟨v, by simpa using h1, by simpa using h2⟩
/-- A row of slices of the call's own. -/
structure OutS (B C : Nat) (w : World) (v : Value) (ls : List (List UInt8)) : Prop where
  ex : ∃ vs, w.ownsRow B 74 1 v ls.length vs ∧ Each (Rb B C w) vs ls
theorem OutS.len {B C : Nat} {w : World} {v : Value} {ls : List (List UInt8)} (h : OutS B C w v ls) : ∃ a c, v = .slice a ls.length c := by
  obtain ⟨vs, h, -⟩ := h.ex
  rcases h.2 with ⟨h1, h2⟩ | ⟨g, cap, cur, h1, _⟩
  · exact ⟨none, 0, by rw [h1, h2]⟩
  · exact ⟨_, _, h1⟩
theorem OutS.keep {B C : Nat} {w w' : World} {v : Value} {ls : List (List UInt8)} (h : OutS B C w v ls) (hg : w.grownBy w' none) : OutS B C w' v ls := by
  obtain ⟨vs, h1, h2⟩ := h.ex
  exact ⟨vs, World.ownsRow.kept h1 hg (by cases v.ownBlock <;> simp), h2.mono (fun v l h => h.keep hg)⟩
theorem OutS.nil (B C : Nat) (w : World) : OutS B C w (.slice none 0 0) [] := ⟨[], ⟨rfl, .inl ⟨rfl, rfl⟩⟩, .nil⟩
theorem Tryz.info74 : (Tryz.prog.info? 74).map (fun i => (i.zero, i.size, i.bytes)) = some (some (.slice none 0 0), 1, 24) := by kernel_rfl
set_option maxRecDepth 100000 in
/-- append of one slice. -/
theorem app_row {w : World} {B C g : Nat} {vs : Value} {ls : List (List UInt8)} {v : Value} {l : List UInt8} (h : OutS B C w vs ls) (hb : Blk w g [v] 74) (ho : Rb B C w v l) (hE : ls.length ≤ 1000000) (hB : B ≤ w.heap.size) (hC : C ≤ B) (ty : TypeId) :
    ∃ v' w', (Builtin.append_ #[37, 37] ty #[vs, .slice (some ⟨g, 0, none⟩) 1 1]).run Tryz.prog w = .ok v' w' ∧ OutS B C w' v' (ls ++ [l]) ∧ w.grownBy w' vs.ownBlock ∧ (v'.ownBlock = vs.ownBlock ∨ v'.ownBlock = some w.heap.size) := by
  obtain ⟨inf, hi, hz0, hz1, hz2⟩ := info_parts Tryz.info74
  obtain ⟨xs, hrow, heach⟩ := h.ex
  obtain ⟨ba, bc, hbv⟩ := ho.len
  obtain ⟨v', w', h1, h2, h3, _, h4⟩ := run_append_own_at (P := Tryz.prog) w B 37 ty 74 inf (.slice none 0 0) 1 24 Tryz.underlying37 hi hz0 hz1 hz2 rfl (by decide) vs _ _ hrow ⟨g, 0, none⟩ 1 1 [v] rfl (by
    intro j u hu
    rw [Addr.add_lit, Nat.zero_add]
    rcases (show j = 0 ∨ 1 ≤ j by omega) with rfl | h2
    · injection hu with hu; subst hu; exact hb.cell 0
    · have : ([v] : List Value)[j]? = none := by simp; omega
      rw [this] at hu; cases hu) (by rw [hbv]; intro x hx; rw [List.mem_singleton.1 hx]; rfl) (by unfold maxLen; omega) (by omega) hB
  refine ⟨v', w', h1, ⟨xs ++ [v], by rw [List.length_append]; exact h2, ?_⟩, h3, h4⟩
  have hx : ∀ v l, Rb B C w v l → Rb B C w' v l := fun v l hr => hr.on h3 (fun k hk => Nat.le_trans hC (own_low hrow k hk)) (fun k hk hr => own_ne hrow hr (by decide) k hk)
  exact (heach.mono hx).app (hx _ _ ho)
theorem wpList_append_row {w : World} {ops : Array Oper} {rest : List Oper} {o : Oper} {a : Act} {Q : Exit → Act → World → Prop} (hgd : o.guard = none) (s x : Operand) (ho : o.op = .call { callee := .builtin .append, args := #[s, x], argTypes := #[37, 37] })
    (B C g : Nat) (ls : List (List UInt8)) (v : Value) (l : List UInt8) (hown : OutS B C w (a.eval s) ls) (hx : a.eval x = .slice (some ⟨g, 0, none⟩) 1 1) (hb : Blk w g [v] 74) (hr : Rb B C w v l) (hE : ls.length ≤ 1000000) (hB : B ≤ w.heap.size) (hC : C ≤ B)
    (h : ∀ v' w', OutS B C w' v' (ls ++ [l]) → w.grownBy w' (a.eval s).ownBlock → (v'.ownBlock = (a.eval s).ownBlock ∨ v'.ownBlock = some w.heap.size) → wpList Tryz.prog ops Q rest (a.put o.dst v') w') : wpList Tryz.prog ops Q (o :: rest) a w :=
  wpList_plain hgd fun _ hK => by
    obtain ⟨v', w', h1, h2, h3, h4⟩ := app_row hown hb hr hE hB hC o.type
    have hK' := hK _ _ (h v' w' h2 h3 h4)
    unfold Oper.wp
    simp [execOp, ho, resolve, invoke, builtin, hx, h1, Result.andThen]
    exact hK'
theorem Rb.base {B B' : Nat} {w : World} {v : Value} {l : List UInt8} {C : Nat} (h : Rb B C w v l) (hb : B' ≤ B) : Rb B' C w v l := by
  rcases h with h | h
  · exact .inl h
  · exact .inr (owns_base h hb)
theorem OutS.base {B B' C : Nat} {w : World} {v : Value} {ls : List (List UInt8)} (h : OutS B C w v ls) (hb : B' ≤ B) : OutS B' C w v ls := by
  obtain ⟨vs, h1, h2⟩ := h.ex
  exact ⟨vs, owns_base h1 hb, h2.mono (fun v l h => h.base hb)⟩
/-- Frames, one behind the other. -/
def flat (rs : List (List UInt8)) : List UInt8 := (rs.map frameL).flatten
theorem flat_app (rs ss : List (List UInt8)) : flat (rs ++ ss) = flat rs ++ flat ss := by simp [flat]
theorem flat_one (r : List UInt8) : flat [r] = frameL r := by simp [flat]
theorem flat_at {rs : List (List UInt8)} {i : Nat} (h : i < rs.length) : flat (rs.take (i + 1)) = flat (rs.take i) ++ frameL rs[i] := by
  rw [List.take_succ_eq_append_getElem h, flat_app, flat_one]
theorem flat_split {rs : List (List UInt8)} {i : Nat} (h : i < rs.length) : flat rs = flat (rs.take i) ++ (frameL rs[i] ++ flat (rs.drop (i + 1))) := by
  rw [← List.append_assoc, ← flat_at h, ← flat_app, List.take_append_drop]
/-- .. how many bytes they have. -/
def flen (rs : List (List UInt8)) : Nat := (flat rs).length
theorem flen_at {rs : List (List UInt8)} {i : Nat} (h : i < rs.length) : flen (rs.take (i + 1)) = flen (rs.take i) + (rs[i].length + 13) := by
  unfold flen
  rw [flat_at h, List.length_append, frameL_length]
theorem flen_le (rs : List (List UInt8)) (i : Nat) : flen (rs.take i) ≤ flen rs := by
  have h : flat rs = flat (rs.take i) ++ flat (rs.drop i) := by rw [← flat_app, List.take_append_drop]
  unfold flen
  rw [h, List.length_append]
  omega
end Go.Proofs.YtpbiofnncdneoaaGreatDoor

namespace Go.Proofs.YtpbiofnncdneoaaGreatDoor
open Go Go.RowKit Go.MapKept Go.MuLone
open Go.RowKit (wrap32 wrap64)

theorem jumps_ret {J : Nat → Act → World → Prop} {Q : Exit → Act → World → Prop} {a : Act} {w : World} (h : Q .ret a w) : jumps J Q .ret a w := h
/-- What holds at the labels of take. -/
def takeJ (w : World) (a : Option Addr) (n c : Nat) (rs : List (List UInt8)) (D0 D2 : Prop) (l : Nat) (a' : Act) (w' : World) : Prop :=
  (l = 1 ∧ ∃ (i k : Nat) (rv x1 u6 u7 u9 u10 u11 u12 u13 u14 u15 u16 u17 u18 u19 u20 u21 u22 u23 u24 u25 u26 u27 u28 u29 u30 u31 u32 u33 u34 : Value), a' = { tmps := #[.slice a n c, x1, .slice none 0 0, .int .i64 0, .int .i64 0, rv, u6, u7, .int .i64 k, u9, u10, u11, u12, u13, u14, u15, u16, u17, u18, u19, u20, u21, u22, u23, u24, u25, u26, u27, u28, u29, u30, u31, u32, u33, u34], defers := [] } ∧ i ≤ rs.length ∧ Hid (flen (rs.take i) = k) ∧ Hid (OutS w.heap.size 0 w' rv (rs.take i) ∧ w.grownBy w' none)) ∨
  (l = 0 ∧ D0 ∧ ∃ (k : Nat) (rv x1 u6 u7 u9 u10 u11 u12 u13 u14 u15 u16 u17 u18 u19 u20 u21 u22 u23 u24 u25 u26 u27 u28 u29 u30 u31 u32 u33 u34 : Value), a' = { tmps := #[.slice a n c, x1, .slice none 0 0, .int .i64 0, .int .i64 0, rv, u6, u7, .int .i64 k, u9, u10, u11, u12, u13, u14, u15, u16, u17, u18, u19, u20, u21, u22, u23, u24, u25, u26, u27, u28, u29, u30, u31, u32, u33, u34], defers := [] } ∧ Hid (flen rs = k) ∧ Hid (OutS w.heap.size 0 w' rv rs ∧ w.grownBy w' none)) ∨
  (l = 2 ∧ D2 ∧ ∃ (k : Nat) (rv x1 u6 u7 u9 u10 u11 u12 u13 u14 u15 u16 u17 u18 u19 u20 u21 u22 u23 u24 u25 u26 u27 u28 u29 u30 u31 u32 u33 u34 : Value), a' = { tmps := #[.slice a n c, x1, .slice none 0 0, .int .i64 0, .int .i64 0, rv, u6, u7, .int .i64 k, u9, u10, u11, u12, u13, u14, u15, u16, u17, u18, u19, u20, u21, u22, u23, u24, u25, u26, u27, u28, u29, u30, u31, u32, u33, u34], defers := [] } ∧ Hid (w.grownBy w' none))
set_option maxRecDepth 100000 in
set_option maxHeartbeats 4000000 in
theorem take_any (w : World) (F : Nat → Prop) (v : Value) (f : List UInt8) (rs : List (List UInt8)) (t : List UInt8) (hr : Rd w F v f) (hf : f = flat rs ++ t) (hrs : ∀ r ∈ rs, r.length ≤ 16777216) (hl : f.length ≤ 268435456) (hT : Tab w) (hrl : rs.length ≤ 1000000) (hnz : t ≠ [] → unfrE t ≠ 0) :
    Calls Tryz.prog 47 #[v] w fun e w' => w.grownBy w' none ∧ ((t = [] ∨ unfrE t = 30) → ∃ v', e = .returned (.tuple #[v', .int .i64 (flen rs : Nat), .int .i64 0]) ∧ OutS w.heap.size 0 w' v' rs) ∧ (¬ (t = [] ∨ unfrE t = 30) → e = .returned (.tuple #[.slice none 0 0, .int .i64 0, .int .i64 101])) := by
  obtain ⟨a, b, off, c, rfl, hc, hnn, ha, hcell⟩ := hr
  obtain ⟨n, HN⟩ : ∃ x, Hid (f.length = x) := ⟨_, hid rfl⟩
  rw [HN.out] at hc ⊢
  have HA := hid ha
  have HC := hid hcell
  have HF := hid hf
  have HRs := hid hrs
  have HT : Hid (∀ u, w.grownBy u none → Tab u) := hid (fun u hu => hT.keep hu)
  have HL : Hid (n ≤ 268435456 ∧ rs.length ≤ 1000000) := hid ⟨by rw [← HN.out]; exact hl, hrl⟩
  have HNz := hid hnz
  have HLn : Hid (flen rs + t.length = n) := hid (by rw [← HN.out, hf, List.length_append]; rfl)
  obtain ⟨D, hD⟩ : ∃ D : Prop, (t = [] ∨ unfrE t = 30) = D := ⟨_, rfl⟩
  have HD := hid hD
  rw [hD]
  clear ha hcell hf hrs hT hl hrl hnz hD
  go_enter Tryz.func47, Tryz.ntmps47
  go_wp2
  refine wp_scope_from 1 (takeJ w a n c rs D (¬ D)) (fun l a' _ => if l = 1 then n + 1 - (intOf (a'.tmps.getD 8 undef)).toNat else 0) rfl ?first ?pass0 ?pass
  case first =>
    intro hy
    go_wp2
    go_step3
    simp only [Exit.then]
    exact (‹∀ a w, Code.wp _ _ _ a w → _› : ∀ a w, Code.wp Tryz.prog _ _ a w → _) _ _ (hy _ _ (.inl ⟨rfl, 0, 0, _, _, _, _, _, _, _, _, _, _, _, _, _, _, _, _, _, _, _, _, _, _, _, _, _, _, _, _, _, _, rfl, Nat.zero_le _, hid rfl, hid ⟨OutS.nil _ _ _, grefl _ _⟩⟩))
  case pass0 =>
    rintro a' w' (⟨-, i, k, rv, x1, u6, u7, u9, u10, u11, u12, u13, u14, u15, u16, u17, u18, u19, u20, u21, u22, u23, u24, u25, u26, u27, u28, u29, u30, u31, u32, u33, u34, rfl, hi, HK, HS⟩ | ⟨h, -⟩ | ⟨h, -⟩)
    · by_cases hlt : i < rs.length
      · as_aux_lemma =>
        obtain ⟨z, hz⟩ : ∃ z, rs[i] = z := ⟨_, rfl⟩
        have HZ := hid hz
        have HZl : Hid (z.length ≤ 16777216) := hid (by rw [← hz]; exact HRs.out _ (List.getElem_mem _))
        obtain ⟨s, HSf⟩ : ∃ s, Hid (f = flat (rs.take i) ++ (frameL z ++ s)) := ⟨flat (rs.drop (i + 1)) ++ t, hid (by rw [HF.out, flat_split hlt, hz]; simp [List.append_assoc])⟩
        have hfl : (flat (rs.take i)).length = k := HK.out
        have HDr : Hid (f.drop k = frameL z ++ s) := hid (by rw [HSf.out, ← hfl, List.drop_left])
        have HLe : Hid (k + (z.length + 13) + s.length = n) := hid (by rw [← HN.out, HSf.out, ← hfl]; simp [frameL_length]; omega)
        have hkn : k < n := by have := HLe.out; omega
        have hkn' : ¬ ((k : Int) = (n : Int)) := by omega
        have hk0 : ¬ (n < k) := by omega
        have hkc : ¬ (c - k = 0) := by omega
        obtain ⟨rfl, hb1, hb2⟩ := HA.out (by rw [HN.out]; omega)
        have HRd : Hid (Rd w F (.slice (some ⟨b, off + k, none⟩) (n - k) (c - k)) (frameL z ++ s)) := hid (by
          have q := Rd.part HA.out HC.out k (n - k) (c - k) (by rw [HN.out]; omega) (by omega) (by omega)
          rw [List.take_of_length_le (by rw [List.length_drop, HN.out]; omega), HDr.out] at q
          exact q)
        have hu := unfr_frame z s HZl.out
        have HUn : Hid (∀ u, w.grownBy u none → Calls Tryz.prog 102 #[.slice (some ⟨b, off + k, none⟩) (n - k) (c - k)] u fun e w' => ∃ v', e = .returned (.tuple #[v', .int .i64 ((z.length + 13 : Nat) : Int), .int .i64 0]) ∧ Out u.heap.size w' v' z ∧ u.grownBy w' none) := hid (fun u hg => by
          have q := unframe_any (frameL z ++ s) F _ u (by simp [frameL_length]; have := HLe.out; have := HL.out.1; omega) (HRd.out.keep hg) (HT.out u hg)
          unfold unfB at q
          rw [hu.1, hu.2.1, hu.2.2] at q
          exact q)
        obtain ⟨zz, hzz⟩ : ∃ x : Nat, z.length + 13 = x := ⟨_, rfl⟩
        rw [hzz] at HUn
        have HZz : Hid (z.length + 13 = zz) := hid hzz
        have hk1 : k ≤ 268435456 := by have := HLe.out; have := HL.out.1; omega
        have hz1 : zz ≤ 268435456 := by have := HLe.out; have := HL.out.1; omega
        clear hz hfl hu hzz hnn
        go_upto_region 9 with (go_at_call 102; (with_reducible refine (HUn.out _ HS.out.2).mono ?_); rintro e w2 ⟨v2, rfl, hO, hg⟩; have HO2 := hid hO; have HG2 := hid hg; obtain ⟨va, vc, hv2⟩ := hO.len; clear hO hg)
        obtain ⟨zl, hzl⟩ : ∃ x, z.length = x := ⟨_, rfl⟩
        rw [hzl] at hv2 ⊢
        subst hv2
        have HOw : Hid (∀ q, rv.ownBlock = some q → w.heap.size ≤ q) := hid (fun q hq => by obtain ⟨xs, h1, -⟩ := HS.out.1.ex; exact own_low h1 q hq)
        have HB2 := hid (Blk.new w2 [Value.slice va zl vc] 74)
        have HG2' := hid (gtrans HS.out.2 HG2.out)
        have HOS : Hid (OutS w.heap.size 0 (w2.alloc (.cells #[Value.slice va zl vc] 74)) rv (rs.take i)) := hid ((HS.out.1.keep HG2.out).keep (galloc _ _ _))
        have HRB : Hid (Rb w.heap.size 0 (w2.alloc (.cells #[Value.slice va zl vc] 74)) (.slice va zl vc) z) := hid (.inr (owns_base (HO2.out.keep (galloc _ _ _)) HS.out.2.size))
        have HSz : Hid (w.heap.size ≤ (w2.alloc (.cells #[Value.slice va zl vc] 74)).heap.size) := hid (gtrans HG2'.out (galloc _ _ _)).size
        have HTk : Hid ((rs.take i).length ≤ 1000000) := hid (by rw [List.length_take]; have := HL.out.2; omega)
        go_wp2_with (at_builtin; refine wpList_append_row rfl _ _ rfl w.heap.size 0 _ (rs.take i) _ z HOS.out rfl HB2.out HRB.out HTk.out HSz.out (Nat.zero_le _) ?_; intro v4 w4 hO4 hg4 _; have HO4 := hid hO4; have HG4 := hid hg4; clear hO4 hg4)
        go_step3
        have HGn : Hid (w.grownBy w4 none) := hid ((gtrans HG2'.out (galloc _ _ none)).andThen HG4.out (fun q hq => .inl (HOw.out q hq)))
        have hsum : (k : Int) + (zz : Int) = ((k + zz : Nat) : Int) := by omega
        rw [hsum]
        refine And.intro (show takeJ w _ n c rs D (¬ D) 1 _ _ from .inl ⟨rfl, i + 1, k + zz, v4, x1, _, _, _, _, _, _, _, _, _, _, _, _, _, _, _, _, _, _, _, _, _, _, _, _, _, _, _, _, rfl, by omega, hid ?_, hid ⟨?_, HGn.out⟩⟩) ?_
        · rw [flen_at hlt, HK.out, HZ.out, HZz.out]
        · rw [List.take_succ_eq_append_getElem hlt, HZ.out]; exact HO4.out
        · simp [intOf]; have := HZz.out; omega
      · as_aux_lemma =>
        have hie : i = rs.length := by omega
        subst hie
        rw [List.take_length] at HK HS
        have HD' := HD
        by_cases ht0 : t = []
        · have hkn : k = n := by have := HLn.out; rw [ht0] at this; have := HK.out; simp at *; omega
          have hkn' : (k : Int) = (n : Int) := by omega
          have hD : D := by rw [← HD.out]; exact .inl ht0
          clear ht0 HD HD'
          subst hkn
          clear hkn'
          go_wp2
          go_step3
          refine And.intro (show takeJ w _ _ c rs D (¬ D) 0 _ _ from .inr (.inl ⟨rfl, hD, _, rv, x1, _, _, _, _, _, _, _, _, _, _, _, _, _, _, _, _, _, _, _, _, _, _, _, _, _, _, _, _, rfl, HK, hid HS.out⟩)) ?_
          simp [intOf]
        · have htl : 0 < t.length := List.length_pos_iff.2 ht0
          have hkn : k < n := by have := HLn.out; have := HK.out; omega
          have hkn' : ¬ ((k : Int) = (n : Int)) := by omega
          have hk0 : ¬ (n < k) := by omega
          have hkc : ¬ (c - k = 0) := by omega
          obtain ⟨rfl, hb1, hb2⟩ := HA.out (by rw [HN.out]; omega)
          have HDr : Hid (f.drop k = t) := hid (by rw [HF.out, ← HK.out]; exact List.drop_left ..)
          have HRd : Hid (Rd w F (.slice (some ⟨b, off + k, none⟩) (n - k) (c - k)) t) := hid (by
            have q := Rd.part HA.out HC.out k (n - k) (c - k) (by rw [HN.out]; omega) (by omega) (by omega)
            rw [List.take_of_length_le (by rw [List.length_drop, HN.out]; omega), HDr.out] at q
            exact q)
          obtain ⟨E, hE⟩ : ∃ x, unfrE t = x := ⟨_, rfl⟩
          have hnz : E ≠ 0 := by rw [← hE]; exact HNz.out ht0
          have HUn : Hid (∀ u, w.grownBy u none → Calls Tryz.prog 102 #[.slice (some ⟨b, off + k, none⟩) (n - k) (c - k)] u fun e w' => ∃ v', e = .returned (.tuple #[v', .int .i64 0, .int .i64 E]) ∧ u.grownBy w' none) := hid (fun u hg => by
            have q := unframe_any t F _ u (by have := HLn.out; have := HL.out.1; omega) (HRd.out.keep hg) (HT.out u hg)
            rw [hE, if_neg hnz] at q
            exact q.mono fun e w' ⟨v', q1, _, q3⟩ => ⟨v', q1, q3⟩)
          have HDE : Hid (D ↔ E = 30) := hid (by rw [← HD.out, hE]; exact ⟨fun h => h.resolve_left ht0, .inr⟩)
          clear HD HD' hE htl hnn ht0
          by_cases hE3 : E = 30
          · have hD : D := HDE.out.2 hE3
            subst hE3
            go_wp2_with (go_at_call 102; (with_reducible refine (HUn.out _ HS.out.2).mono ?_); rintro e w2 ⟨v2, rfl, hg⟩; have HG2 := hid hg; clear hg)
            go_step3
            refine And.intro (show takeJ w _ _ c rs D (¬ D) 0 _ _ from .inr (.inl ⟨rfl, hD, _, rv, x1, _, _, _, _, _, _, _, _, _, _, _, _, _, _, _, _, _, _, _, _, _, _, _, _, _, _, _, _, rfl, HK, hid ⟨HS.out.1.keep HG2.out, gtrans HS.out.2 HG2.out⟩⟩)) ?_
            simp [intOf]; have := HK.out; omega
          · have hD : ¬ D := fun q => hE3 (HDE.out.1 q)
            go_wp2_with (go_at_call 102; (with_reducible refine (HUn.out _ HS.out.2).mono ?_); rintro e w2 ⟨v2, rfl, hg⟩; have HG2 := hid hg; clear hg)
            go_step3
            refine And.intro (show takeJ w _ _ c rs D (¬ D) 2 _ _ from .inr (.inr ⟨rfl, hD, k, rv, x1, _, _, _, _, _, _, _, _, _, _, _, _, _, _, _, _, _, _, _, _, _, _, _, _, _, _, _, _, rfl, hid (gtrans HS.out.2 HG2.out)⟩)) ?_
            simp [intOf]; omega
    · cases h
    · cases h
  case pass =>
    rintro l a' w' hne (⟨rfl, -⟩ | ⟨rfl, hD0, k, rv, x1, u6, u7, u9, u10, u11, u12, u13, u14, u15, u16, u17, u18, u19, u20, u21, u22, u23, u24, u25, u26, u27, u28, u29, u30, u31, u32, u33, u34, rfl, HK, HS⟩ | ⟨rfl, hD2, k, rv, x1, u6, u7, u9, u10, u11, u12, u13, u14, u15, u16, u17, u18, u19, u20, u21, u22, u23, u24, u25, u26, u27, u28, u29, u30, u31, u32, u33, u34, rfl, HS⟩)
    · exact absurd rfl hne
    · refine ⟨_, rfl, ?_⟩
      go_wp2
      refine jumps_ret ?_
      go_ret3
      exact ⟨HS.out.2, fun _ => ⟨_, by rw [HK.out]; rfl, HS.out.1⟩, fun h => absurd hD0 h⟩
    · refine ⟨_, rfl, ?_⟩
      go_wp2
      refine jumps_ret ?_
      go_ret3
      exact ⟨HS.out, fun h => absurd h hD2, fun _ => rfl⟩
end Go.Proofs.YtpbiofnncdneoaaGreatDoor
