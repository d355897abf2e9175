/- The walks of readHead, Unframe. -/
import Derived.Test.YtfalgjdhdgkbfaaGreatDoorX01
import Derived.Test.YtfalgjdhdgkbfaaGreatDoorX03
import Derived.Lib.SlBytesConst
import Derived.Deep.RegionHeld3
import Derived.Lib.SmallJoins
import Derived.OwnWalk
import Derived.Deep.Cut
namespace Go.Proofs.YtfalgjdhdgkbfaaGreatDoor
open Go Go.RowKit
open Go.RowKit (wrap32 wrap64)

theorem headE_nil : headE [] = 30 := rfl
theorem headE_form (x : UInt8) (r : List UInt8) (h : x ≠ 201) : headE (x :: r) = 34 := by
  have hh : (x :: r).headD 0 = x := rfl
  unfold headE
  rw [if_neg (by simp), hh, if_pos h]
theorem headE_short (r : List UInt8) (h : r.length < 8) : headE (201 :: r) = 30 := by
  unfold headE
  rw [if_neg (by simp), if_neg (by simp), if_pos (by simp; omega)]
theorem headE_long (r : List UInt8) (h : 8 ≤ r.length) : headE (201 :: r) = if numL (((201 :: r).drop 5).take 4) ≠ sumL ((201 :: r).take 5) then 32 else if 16777216 < cnt (201 :: r) then 31 else 0 := by
  have hh : (201 :: r).headD 0 = 201 := rfl
  unfold headE
  rw [if_neg (by simp), hh, if_neg (by simp), if_neg (by simp; omega)]
theorem byte_ne {c k : UInt8} (h : c ≠ k) : ((c.toNat : Int) != (k.toNat : Int)) = true ∧ (c.toNat != k.toNat) = true :=
  ⟨by simpa using fun e => h (UInt8.toNat_inj.1 (by omega)), by simpa using fun e => h (UInt8.toNat_inj.1 e)⟩

set_option maxRecDepth 100000 in
set_option maxHeartbeats 1000000 in
theorem readHead_any (l : List UInt8) (F : Nat → Prop) (v : Value) (w : World) (hl : l.length ≤ 140737488355328) (hr : Rd w F v l) (ht : Tab w) :
    Calls Tryz.prog 112 #[v] w fun e w' => e = .returned (.tuple #[.int .i64 (if headE l = 0 then (cnt l : Int) else 0), .int .i64 (headE l)]) ∧ ∃ n, w' = w.drewN n := by
  have HRd := hid hr
  obtain ⟨a, b, off, c, rfl, hc, hn, ha, hcell⟩ := hr
  match l, hl, hc, ha, hcell, HRd with
  | [], hl, hc, ha, hcell, HRd =>
    rw [headE_nil, if_neg (by decide)]
    clear ha hcell hn
    go_enter Tryz.func112, Tryz.ntmps112
    go_wp2_with fail
    go_ret2
    exact ⟨rfl, 0, rfl⟩
  | x :: r, hl, hc, ha, hcell, HRd =>
    obtain ⟨rfl, hb, hF⟩ := ha (by simp)
    have h0 := hcell 0 (by simp)
    simp only [List.getElem_cons_zero, Nat.add_zero] at h0
    have HC := hid hcell
    have HA := hid ha
    clear hcell hn ha
    have hxb := u8_bd x
    obtain ⟨n, HN⟩ : ∃ n, Hid ((x :: r).length = n) := ⟨_, hid rfl⟩
    have hrn : r.length + 1 = n := by have := HN.out; simp at this; omega
    have HRN := hid hrn
    have hn0 : 1 ≤ n := by omega
    rw [HN.out] at hl hc ⊢
    clear hrn
    by_cases hx : x = 201
    · subst hx
      change w.cell? ⟨b, off, none⟩ = some (.int .u8 201) at h0
      by_cases h9 : n < 9
      · rw [headE_short r (by have := HRN.out; omega), if_neg (by decide)]
        go_enter Tryz.func112, Tryz.ntmps112
        go_wp2_with fail
        go_ret2
        exact ⟨rfl, 0, rfl⟩
      · have hlong := headE_long r (by have := HRN.out; omega)
        have HP : ∀ (i m cc : Nat), i + m ≤ n → 0 < m → m ≤ cc → ∀ k, Rd (w.drewN k) F (.slice (some ⟨b, off + i, none⟩) m cc) (((201 :: r).drop i).take m) := fun i m cc h1 h2 h3 k => (Rd.part HA.out HC.out i m cc (by rw [HN.out]; exact h1) h2 h3).keep (gdrew w k none)
        have HLn : ∀ (i m : Nat), i + m ≤ n → (((201 :: r).drop i).take m).length = m := fun i m h => by rw [List.length_take, List.length_drop, HN.out]; omega
        have HI : Hid (∀ k, Calls Tryz.prog 113 #[.slice (some ⟨b, off + 5, none⟩) 4 (c - 5), .slice (some ⟨b, off, none⟩) 5 c] (w.drewN k) fun e w' => e = .returned (.bool (decide (numL (((201 :: r).drop 5).take 4) = sumL ((201 :: r).take 5)))) ∧ w' = w.drewN k) := fun k =>
          isSum_any _ _ F F _ _ _ (by rw [HLn 5 4 (by omega)]; decide) (by have := HLn 0 5 (by omega); rw [List.drop_zero] at this; rw [this]; decide) (HP 5 4 (c - 5) (by omega) (by decide) (by omega) k) (HP 0 5 c (by omega) (by decide) (by omega) k) (ht.keep (gdrew w k none))
        have HNm : Hid (∀ k, Calls Tryz.prog 108 #[.slice (some ⟨b, off + 1, none⟩) 4 (c - 1)] (w.drewN k) fun e w' => e = .returned (.int .u64 (cnt (201 :: r))) ∧ w' = w.drewN k) := fun k =>
          number_any _ F _ _ (by rw [HLn 1 4 (by omega)]; decide) (HP 1 4 (c - 1) (by omega) (by decide) (by omega) k)
        have hcl : cnt (201 :: r) < 4294967296 := numL_lt 4 _ (HLn 1 4 (by omega))
        clear HP HLn
        generalize cnt (201 :: r) = C at hlong HNm hcl ⊢
        generalize headE (201 :: r) = E at hlong ⊢
        generalize numL (((201 :: r).drop 5).take 4) = X at hlong HI
        generalize sumL ((201 :: r).take 5) = Y at hlong HI
        by_cases hxy : X = Y
        · rw [decide_eq_true hxy] at HI
          rw [if_neg (by simpa using hxy)] at hlong
          clear hxy
          by_cases hC : 16777216 < C
          · rw [if_pos hC] at hlong
            subst hlong
            rw [if_neg (by decide)]
            have hd : decide ((16777216 : Int) < (C : Int)) = true := decide_eq_true (by omega)
            go_enter Tryz.func112, Tryz.ntmps112
            go_wp2_with fail
            go_quiet ((go_at_call 113; exact Calls.quiet_of_same (HI.out _)))
            rename_i nq
            go_wp2_with (go_at_call 108; refine (HNm.out nq).mono ?_; rintro e w' ⟨rfl, hw⟩; subst hw)
            go_ret2
            exact ⟨rfl, nq, rfl⟩
          · rw [if_neg hC] at hlong
            subst hlong
            rw [if_pos rfl]
            have hd : decide ((16777216 : Int) < (C : Int)) = false := decide_eq_false (by omega)
            go_enter Tryz.func112, Tryz.ntmps112
            go_wp2_with fail
            go_quiet ((go_at_call 113; exact Calls.quiet_of_same (HI.out _)))
            rename_i nq
            go_wp2_with (go_at_call 108; refine (HNm.out nq).mono ?_; rintro e w' ⟨rfl, hw⟩; subst hw)
            go_ret2
            exact ⟨rfl, nq, rfl⟩
        · rw [decide_eq_false hxy] at HI
          rw [if_pos hxy] at hlong
          subst hlong
          rw [if_neg (by decide)]
          clear hxy
          go_enter Tryz.func112, Tryz.ntmps112
          go_wp2_with fail
          go_quiet ((go_at_call 113; exact Calls.quiet_of_same (HI.out _)))
          rename_i nq
          go_wp2_with fail
          go_ret2
          exact ⟨rfl, nq, rfl⟩
    · rw [headE_form x r hx, if_neg (by decide)]
      obtain ⟨e1, e2⟩ := byte_ne (k := 201) hx
      change ((x.toNat : Int) != 201) = true at e1
      change (x.toNat != 201) = true at e2
      clear hx
      go_enter Tryz.func112, Tryz.ntmps112
      go_wp2_with fail
      go_ret2
      exact ⟨rfl, 0, rfl⟩

theorem unfrE_head (l : List UInt8) (h : headE l ≠ 0) : unfrE l = headE l := by unfold unfrE; rw [if_pos h]
theorem unfrE_short (l : List UInt8) (h : headE l = 0) (hs : l.length < cnt l + 13) : unfrE l = 30 := by unfold unfrE; rw [if_neg (by simpa using h), if_pos hs]
theorem unfrE_rest (l : List UInt8) (h : headE l = 0) (hs : ¬ l.length < cnt l + 13) : unfrE l = if numL ((l.drop (9 + cnt l)).take 4) ≠ sumL (bodyL l) then 32 else 0 := by
  unfold unfrE bodyL
  rw [if_neg (by simpa using h), if_neg hs]
theorem headE_cnt (l : List UInt8) (h : headE l = 0) : cnt l ≤ 16777216 ∧ 9 ≤ l.length := by
  unfold headE at h
  by_cases h1 : l.length = 0
  · rw [if_pos h1] at h; cases h
  · rw [if_neg h1] at h
    by_cases h2 : l.headD 0 ≠ 201
    · rw [if_pos h2] at h; cases h
    · rw [if_neg h2] at h
      by_cases h3 : l.length < 9
      · rw [if_pos h3] at h; cases h
      · rw [if_neg h3] at h
        by_cases h4 : numL ((l.drop 5).take 4) ≠ sumL (l.take 5)
        · rw [if_pos h4] at h; cases h
        · rw [if_neg h4] at h
          by_cases h5 : 16777216 < cnt l
          · rw [if_pos h5] at h; cases h
          · omega

/-- What Unframe tells. -/
def unfV (l : List UInt8) (v' : Value) : Value := .tuple #[v', .int .i64 (if unfrE l = 0 then ((cnt l + 13 : Nat) : Int) else 0), .int .i64 (unfrE l)]
def unfB (l : List UInt8) : List UInt8 := if unfrE l = 0 then bodyL l else []

set_option maxRecDepth 100000 in
set_option maxHeartbeats 2000000 in
theorem unframe_any (l : List UInt8) (F : Nat → Prop) (v : Value) (w : World) (hl : l.length ≤ 140737488355328) (hr : Rd w F v l) (ht : Tab w) :
    Calls Tryz.prog 48 #[v] w fun e w' => ∃ v', e = .returned (.tuple #[v', .int .i64 (if unfrE l = 0 then ((cnt l + 13 : Nat) : Int) else 0), .int .i64 (unfrE l)]) ∧ Out w.heap.size w' v' (unfB l) ∧ w.grownBy w' none := by
  have HH := hid (readHead_any l F v w hl hr ht)
  have HRd := hid hr
  by_cases h0 : headE l = 0
  · rw [if_pos h0, h0] at HH
    obtain ⟨hcnt, h9⟩ := headE_cnt l h0
    obtain ⟨a, b, off, c, rfl, hc, hn, ha, hcell⟩ := hr
    obtain ⟨rfl, hb, hF⟩ := ha (by omega)
    by_cases hs : l.length < cnt l + 13
    · have he := unfrE_short l h0 hs
      have hB : unfB l = [] := by unfold unfB; rw [he, if_neg (by decide)]
      rw [he, hB, if_neg (by decide)]
      clear ha hcell hn h0 HRd ht he hB
      generalize cnt l = C at *
      generalize l.length = n at *
      have hd : decide ((n : Int) < 9 + (C : Int) + 4) = true := decide_eq_true (by omega)
      go_enter Tryz.func48, Tryz.ntmps48
      go_wp2_with (go_at_call 112; refine (HH.out).mono ?_; rintro e w' ⟨rfl, nq, hw⟩; subst hw)
      go_ret3
      exact ⟨_, rfl, Out.nil _ _, gdrew _ _ _⟩
    · have he := unfrE_rest l h0 hs
      have HP : ∀ (i m cc : Nat), i + m ≤ l.length → 0 < m → m ≤ cc → ∀ k, Rd (w.drewN k) F (.slice (some ⟨b, off + i, none⟩) m cc) ((l.drop i).take m) := fun i m cc h1 h2 h3 k => (Rd.part ha hcell i m cc h1 h2 h3).keep (gdrew w k none)
      have HLn : ∀ (i m : Nat), i + m ≤ l.length → ((l.drop i).take m).length = m := fun i m h => by rw [List.length_take, List.length_drop]; omega
      have hbl : (bodyL l).length = cnt l := HLn 9 _ (by omega)
      have hbody : ∀ k, Rd (w.drewN k) F (.slice (if cnt l = 0 then some ⟨b, off, none⟩ else some ⟨b, off + 9, none⟩) (cnt l) (cnt l)) (bodyL l) := fun k => by
        by_cases hz : cnt l = 0
        · have : bodyL l = [] := List.eq_nil_of_length_eq_zero (by omega)
          rw [this, if_pos hz, hz]
          exact ⟨some ⟨b, off, none⟩, 0, 0, 0, rfl, Nat.le_refl _, (fun h => by cases h), (fun h => by simp at h), fun i h => by simp at h⟩
        · rw [if_neg hz]
          exact HP 9 (cnt l) (cnt l) (by omega) (by omega) (Nat.le_refl _) k
      have HI : Hid (∀ k, Calls Tryz.prog 113 #[.slice (some ⟨b, off + (9 + cnt l), none⟩) 4 (c - (9 + cnt l)), .slice (if cnt l = 0 then some ⟨b, off, none⟩ else some ⟨b, off + 9, none⟩) (cnt l) (cnt l)] (w.drewN k) fun e w' => e = .returned (.bool (decide (numL ((l.drop (9 + cnt l)).take 4) = sumL (bodyL l)))) ∧ w' = w.drewN k) := fun k =>
        isSum_any _ _ F F _ _ _ (by rw [HLn (9 + cnt l) 4 (by omega)]; decide) (by rw [hbl]; omega) (HP (9 + cnt l) 4 (c - (9 + cnt l)) (by omega) (by decide) (by omega) k) (hbody k) (ht.keep (gdrew w k none))
      have HCl : Hid (∀ k, Calls Tryz.prog 50 #[.slice (if cnt l = 0 then some ⟨b, off, none⟩ else some ⟨b, off + 9, none⟩) (cnt l) (cnt l)] (w.drewN k) fun e w' => ∃ v', e = .returned v' ∧ Out w.heap.size w' v' (bodyL l) ∧ (w.drewN k).grownBy w' none) := fun k =>
        clone_any _ F _ _ (by rw [hbl]; omega) (hbody k)
      have HB : Hid (unfrE l = 0 → unfB l = bodyL l) := hid (fun h => by unfold unfB; rw [if_pos h])
      have HB2 : Hid (unfrE l ≠ 0 → unfB l = []) := hid (fun h => by unfold unfB; rw [if_neg h])
      clear HP HLn hbl hbody ha hcell hn h0 HRd ht
      generalize unfrE l = E at *
      generalize unfB l = UB at *
      generalize bodyL l = Bd at *
      generalize cnt l = C at *
      generalize numL ((l.drop (9 + C)).take 4) = X at *
      generalize sumL Bd = Y at *
      generalize l.length = n at *
      have hd : decide ((n : Int) < 9 + (C : Int) + 4) = false := decide_eq_false (by omega)
      by_cases hxy : X = Y
      · rw [decide_eq_true hxy] at HI
        rw [if_neg (by simpa using hxy)] at he
        subst he
        rw [if_pos rfl, HB.out rfl]
        clear hxy HB HB2
        go_enter Tryz.func48, Tryz.ntmps48
        go_wp2_with (first
          | (go_at_call 112; refine (HH.out).mono ?_; rintro e w' ⟨rfl, nq, hw⟩; subst hw)
          | (go_at_call 113; refine (HI.out nq).mono ?_; rintro e w' ⟨rfl, hw⟩; subst hw)
          | (go_at_call 50; refine (HCl.out nq).mono ?_; rintro e w2 ⟨v2, rfl, hO2, hg2⟩))
        all_goals
          go_ret3
          exact ⟨_, by first | rfl | (rw [show (C : Int) + 13 = 9 + (C : Int) + 4 by omega]; rfl), hO2, gtrans (gdrew _ _ _) hg2⟩
      · rw [decide_eq_false hxy] at HI
        rw [if_pos hxy] at he
        subst he
        rw [if_neg (by decide), HB2.out (by decide)]
        clear hxy HB HB2
        go_enter Tryz.func48, Tryz.ntmps48
        go_wp2_with (first
          | (go_at_call 112; refine (HH.out).mono ?_; rintro e w' ⟨rfl, nq, hw⟩; subst hw)
          | (go_at_call 113; refine (HI.out nq).mono ?_; rintro e w' ⟨rfl, hw⟩; subst hw))
        all_goals
          go_ret3
          exact ⟨_, rfl, Out.nil _ _, gdrew _ _ _⟩
  · rw [if_neg h0] at HH
    have he := unfrE_head l h0
    have hB : unfB l = [] := by unfold unfB; rw [he, if_neg h0]
    rw [he, hB, if_neg h0]
    obtain ⟨a, b, off, c, rfl, -⟩ := hr
    generalize headE l = E at *
    have hE : ((E : Int) != 0) = true := by simpa using h0
    have hE2 : (E != 0) = true := by simpa using h0
    clear h0
    go_enter Tryz.func48, Tryz.ntmps48
    go_wp2_with (go_at_call 112; refine (HH.out).mono ?_; rintro e w' ⟨rfl, nq, hw⟩; subst hw)
    go_ret3
    exact ⟨_, rfl, Out.nil _ _, gdrew _ _ _⟩
end Go.Proofs.YtfalgjdhdgkbfaaGreatDoor

namespace Go.Proofs.YtfalgjdhdgkbfaaGreatDoor
open Go Go.RowKit
open Go.RowKit (wrap32 wrap64)

/-- A new Writer. -/
theorem Wr.fresh (w : World) : Wr (w.alloc (.cells #[.pointer none, .int .i64 0, .int .i64 0] 26)) w.heap.size 26 3 0 (fun i => if i = 0 then .pointer none else .int .i64 0) (fun g => g ≠ w.heap.size) [] 0 := by
  refine ⟨?_, Nat.le_refl _, fun h => h rfl, none, [], rfl, rfl, rfl, rfl, rfl⟩
  refine World.rowIs_alloc w #[.pointer none, .int .i64 0, .int .i64 0] 26 _ (fun i hi => ?_)
  match i, hi with
  | 0, _ => rfl
  | 1, _ => rfl
  | 2, _ => rfl
theorem Rd.one (w : World) (c : UInt8) (fr : Nat × Nat) : Rd (w.alloc (.cells #[.int .u8 c.toNat] 5 fr)) (fun _ => True) (.slice (some ⟨w.heap.size, 0, none⟩) 1 1) [c] := by
  refine ⟨some ⟨w.heap.size, 0, none⟩, w.heap.size, 0, 1, rfl, Nat.le_refl _, (fun h => by cases h), fun _ => ⟨rfl, by simp, trivial⟩, fun i hi => ?_⟩
  have : i = 0 := by simp at hi; exact hi
  subst this
  have : (w.alloc (.cells #[.int .u8 c.toNat] 5 fr)).heap[w.heap.size]? = some (.cells #[.int .u8 c.toNat] 5 fr) := by
    show (w.heap.push _)[w.heap.size]? = _
    simp
  simp only [World.cell?, this]
  rfl

theorem wk1 : wrow 0 (wl 0 [] (layL 258 2)) [97] = [1, 2, 0, 0, 0, 1, 97] := by decide +kernel
theorem wk2 : numL (rt [1, 2, 0, 0, 0, 1, 97] 0 2) = 258 := by decide +kernel
theorem wk3 : rl [1, 2, 0, 0, 0, 1, 97] 0 2 = [0, 0, 0, 1, 97] := by decide +kernel
theorem wk4 : rb [1, 2, 0, 0, 0, 1, 97] 0 2 = 0 := by decide +kernel
theorem wk5 : rowT [0, 0, 0, 1, 97] 0 = [97] := by decide +kernel
theorem wk6 : rowL [0, 0, 0, 1, 97] 0 = [] := by decide +kernel
theorem wk7 : rowE [0, 0, 0, 1, 97] 0 = 0 := by decide +kernel
theorem wk8 : (frameL [97]).length = 14 := by decide +kernel
theorem wk9 : unfrE (frameL [97]) = 0 := by decide +kernel
theorem wk10 : cnt (frameL [97]) = 1 := by decide +kernel
theorem wk11 : unfB (frameL [97]) = [97] := by decide +kernel

set_option maxRecDepth 100000 in
set_option maxHeartbeats 4000000 in
theorem works_any (w : World) (ht : Tab w) : Calls Tryz.prog 10 #[] w fun e w' => e = .returned (.bool true) ∧ w.grownBy w' none := by
  have HT : Hid (∀ u, w.grownBy u none → Tab u) := fun u hu => ht.keep hu
  have HF : Hid (∀ (u : World), w.heap.size + 1 ≤ u.heap.size → ∀ g, u.heap.size ≤ g → g ≠ w.heap.size) := hid (fun u hu g hg => by omega)
  have HW0 := hid (Wr.fresh w)
  have HG0 : Hid (w.grownBy (w.alloc (.cells #[.pointer none, .int .i64 0, .int .i64 0] 26)) none) := galloc _ _ _
  have hz0 : (w.alloc (.cells #[.pointer none, .int .i64 0, .int .i64 0] 26)).heap.size = w.heap.size + 1 := by simp
  have HZ0 := hid hz0
  generalize (fun i => if i = 0 then Value.pointer none else .int .i64 0) = f0 at HW0
  have HNum : Hid (∀ u : World, Wr u w.heap.size 26 3 0 f0 (fun g => g ≠ w.heap.size) [] 0 → w.heap.size + 1 ≤ u.heap.size → Calls Tryz.prog 26 #[.pointer (some ⟨w.heap.size, 0, none⟩), .int .u64 258, .int .i64 2] u fun e w' => e = .returned (.tuple #[]) ∧ (∃ f', Wr w' w.heap.size 26 3 0 f' (fun g => g ≠ w.heap.size) (wl 0 [] (layL 258 2)) 0 ∧ Els 0 f0 f') ∧ u.grownBy w' (some w.heap.size)) := fun u hu hz =>
    wnum_ok u w.heap.size 26 3 0 f0 _ [] 0 258 2 hu (HF.out u hz) (by simp) (by decide) (by decide) (by decide) (by decide)
  have HTxt : Hid (∀ (u : World) (f : Nat → Value), Wr u w.heap.size 26 3 0 f (fun g => g ≠ w.heap.size) (wl 0 [] (layL 258 2)) 0 → w.heap.size + 1 ≤ u.heap.size → Calls Tryz.prog 34 #[.pointer (some ⟨w.heap.size, 0, none⟩), .string ⟨#[97]⟩] u fun e w' => e = .returned (.tuple #[]) ∧ (∃ f', Wr w' w.heap.size 26 3 0 f' (fun g => g ≠ w.heap.size) [1, 2, 0, 0, 0, 1, 97] 0 ∧ Els 0 f f') ∧ u.grownBy w' (some w.heap.size)) := fun u f hu hz => by
    have := wtext_ok u w.heap.size 26 3 0 f _ _ ⟨#[97]⟩ 0 hu (HF.out u hz) (by simp [wl, layL_length]) (by decide)
    rw [show (ByteArray.mk #[97]).data.toList = [97] from rfl, wk1] at this
    exact this
  have HDn : Hid (∀ (u : World) (f : Nat → Value), Wr u w.heap.size 26 3 0 f (fun g => g ≠ w.heap.size) [1, 2, 0, 0, 0, 1, 97] 0 → Calls Tryz.prog 38 #[.pointer (some ⟨w.heap.size, 0, none⟩)] u fun e w' => ∃ v', e = .returned (.tuple #[v', .int .i64 0]) ∧ Out u.heap.size w' v' [1, 2, 0, 0, 0, 1, 97] ∧ u.grownBy w' none) := fun u f hu => wdone_ok u _ 26 3 0 f _ _ hu (by decide)
  have HFr : Hid (∀ (u : World) (B : Nat) (v : Value), Out B u v [1, 2, 0, 0, 0, 1, 97] → Calls Tryz.prog 12 #[v] u fun r w' => ∃ b, r = .returned (.pointer (some ⟨b, 0, none⟩)) ∧ u.heap.size ≤ b ∧ Rr w' b (fun g => u.heap.size ≤ g ∧ g ≠ b) [1, 2, 0, 0, 0, 1, 97] 0 ∧ u.grownBy w' none) := fun u B v hv => from_any u _ v _ hv.rd (by decide)
  have HRn : Hid (∀ (u : World) (b : Nat) (F : Nat → Prop), Rr u b F [1, 2, 0, 0, 0, 1, 97] 0 → Calls Tryz.prog 45 #[.pointer (some ⟨b, 0, none⟩), .int .i64 2] u fun r w' => r = .returned (.int .u64 258) ∧ Rr w' b F [0, 0, 0, 1, 97] 0 ∧ u.grownBy w' (some b)) := fun u b F hu => by
    have := rnum_ok u b F _ 0 2 hu (by decide) (by decide)
    rw [wk2, wk3, wk4] at this
    exact this
  have HRt : Hid (∀ (u : World) (b : Nat) (F : Nat → Prop), Rr u b F [0, 0, 0, 1, 97] 0 → Calls Tryz.prog 46 #[.pointer (some ⟨b, 0, none⟩)] u fun r w' => r = .returned (.string ⟨#[97]⟩) ∧ Rr w' b F [] 0 ∧ u.grownBy w' (some b)) := fun u b F hu => by
    have := rtext_any u b F _ 0 hu
    rw [wk5, wk6, wk7] at this
    exact this
  have HFm : Hid (∀ (u : World), w.grownBy u none → Calls Tryz.prog 47 #[.slice (some ⟨u.heap.size, 0, none⟩) 1 1] (u.alloc (.cells #[.int .u8 97] 5 (1, 2))) fun e w' => ∃ v', e = .returned (.tuple #[v', .int .i64 0]) ∧ Out (u.alloc (.cells #[.int .u8 97] 5 (1, 2))).heap.size w' v' (frameL [97]) ∧ (u.alloc (.cells #[.int .u8 97] 5 (1, 2))).grownBy w' none) := fun u hu =>
    frame_ok [97] _ _ _ (by decide) (Rd.one u 97 (1, 2)) ((HT.out u hu).keep (galloc _ _ _))
  have HUn : Hid (∀ (u : World) (B : Nat) (v : Value), w.grownBy u none → Out B u v (frameL [97]) → Calls Tryz.prog 48 #[v] u fun e w' => ∃ v', e = .returned (.tuple #[v', .int .i64 14, .int .i64 0]) ∧ Out u.heap.size w' v' [97] ∧ u.grownBy w' none) := fun u B v hu hv => by
    have := unframe_any (frameL [97]) _ v u (by rw [wk8]; decide) hv.rd (HT.out u hu)
    rw [wk9, wk10, wk11] at this
    exact this
  have HEn : Hid (∀ (u : World) (b : Nat) (F : Nat → Prop), Rr u b F [] 0 → Calls Tryz.prog 20 #[.pointer (some ⟨b, 0, none⟩)] u fun r w' => r = .returned (.int .i64 0) ∧ w' = u) := fun u b F hu => end_any u b F [] 0 hu
  have HLF : Hid (∀ (u : World) (B : Nat) (v : Value), Out B u v (frameL [97]) → ∃ a c, v = .slice a 14 c) := hid (fun u B v hv => by
    obtain ⟨a, b', off, c, e, -⟩ := hv.rd
    rw [wk8] at e
    exact ⟨a, c, e⟩)
  generalize frameL [97] = FL at HFm HUn HLF
  have hcc := fun (u : World) => Lib.run_convert_bytes_const (P := Tryz.prog) u 28 5 #[.int .u8 97] 1 1 Tryz.underlying28 Tryz.underlying5
  clear ht hz0
  go_enter Tryz.func10, Tryz.ntmps10
  go_wp2_with (first
    | (go_at_call 26; refine (HNum.out _ HW0.out (by rw [HZ0.out]; exact Nat.le_refl _)).mono ?_; rintro e w1 ⟨rfl, ⟨f1, hW1, _⟩, hg1⟩; have HW1 := hid hW1; have HG1 := hid ((HG0.out).andThen hg1 (fun j hj => .inl (by injection hj with hj; omega))); have HS1 := hid (Nat.le_trans (Nat.le_of_eq HZ0.out.symm) hg1.size); clear hW1 hg1)
    | (go_at_call 34; refine (HTxt.out _ _ HW1.out HS1.out).mono ?_; rintro e w2 ⟨rfl, ⟨f2, hW2, _⟩, hg2⟩; have HW2 := hid hW2; have HG2 := hid ((HG1.out).andThen hg2 (fun j hj => .inl (by injection hj with hj; omega))); clear hW2 hg2)
    | (go_at_call 38; refine (HDn.out _ _ HW2.out).mono ?_; rintro e w3 ⟨v3, rfl, hO3, hg3⟩; have HO3 := hid hO3; have HG3 := hid (gtrans HG2.out hg3); clear hO3 hg3)
    | (go_at_call 12; refine (HFr.out _ _ _ HO3.out).mono ?_; rintro e w4 ⟨b4, rfl, hb4, hR4, hg4⟩; have HR4 := hid hR4; have HO4 := hid (HO3.out.keep hg4); have HG4 := hid (gtrans HG3.out hg4); have HB4 := hid (show w.heap.size ≤ b4 from Nat.le_trans HG3.out.size hb4); have HV4 := hid (show ∀ j, v3.ownBlock = some j → j ≠ b4 from fun j hj => by have := (HO3.out.lt j hj).2; omega); clear hR4 hg4 hb4)
    | (go_at_call 45; refine (HRn.out _ _ _ HR4.out).mono ?_; rintro e w5 ⟨rfl, hR5, hg5⟩; have HR5 := hid hR5; have HO5 := hid (HO4.out.on hg5 (fun k e he => HV4.out k he (by injection e with e; exact e.symm))); have HG5 := hid ((HG4.out).andThen hg5 (fun j hj => .inl (by injection hj with hj; have := HB4.out; omega))); clear hR5 hg5)
    | (go_at_call 46; refine (HRt.out _ _ _ HR5.out).mono ?_; rintro e w6 ⟨rfl, hR6, hg6⟩; have HR6 := hid hR6; have HO6 := hid (HO5.out.on hg6 (fun k e he => HV4.out k he (by injection e with e; exact e.symm))); have HG6 := hid ((HG5.out).andThen hg6 (fun j hj => .inl (by injection hj with hj; have := HB4.out; omega))); clear hR6 hg6)
    | (go_at_call 47; refine (HFm.out w6 HG6.out).mono ?_; rintro e w7 ⟨v7, rfl, hO7, hg7⟩; have hg7' := gtrans (galloc w6 (.cells #[.int .u8 97] 5 (1, 2)) none) hg7; have HR7 := hid (HR6.out.keep hg7'); have HO7 := hid (HO6.out.keep hg7'); have HP7 := hid hO7; have HG7 := hid (gtrans HG6.out hg7'); obtain ⟨a7, c7, rfl⟩ := HLF.out _ _ _ hO7; clear hO7 hg7 hg7')
    | (go_at_call 48; refine (HUn.out _ _ _ HG7.out HP7.out).mono ?_; rintro e w8 ⟨v8, rfl, hO8, hg8⟩; have HR8 := hid (HR7.out.keep hg8); have hcv3 := (HO7.out.keep hg8).rd.convert; have hcv8 := hO8.rd.convert; have HG8 := hid (gtrans HG7.out hg8); clear hO8 hg8)
    | (go_at_call 19; refine (num_any _ _).mono ?_; rintro e w' ⟨rfl, hw⟩; have hw' := hw.symm; clear hw; subst hw')
    | (go_at_call 20; refine (HEn.out _ _ _ HR8.out).mono ?_; rintro e w' ⟨rfl, hw⟩; have hw' := hw.symm; clear hw; subst hw'))
  trace_state
  go_ret
  exact ⟨rfl, HG8.out⟩
end Go.Proofs.YtfalgjdhdgkbfaaGreatDoor

namespace Go.Proofs.YtfalgjdhdgkbfaaGreatDoor
open Go Go.RowKit
open Go.RowKit (wrap32 wrap64)

/-- One bit of the sum. -/
def bst (s : Nat) : Nat := s / 2 ^^^ (if s % 2 = 1 then 3988292384 else 0)
def bsts : Nat → Nat → Nat
  | 0, x => x
  | k + 1, x => bst (bsts k x)
theorem bst_lt (s : Nat) (h : s < 2 ^ 32) : bst s < 2 ^ 32 := by
  unfold bst
  refine Nat.xor_lt_two_pow (by omega) ?_
  split <;> decide
theorem bsts_lt : ∀ (k s : Nat), s < 2 ^ 32 → bsts k s < 2 ^ 32
  | 0, _, h => h
  | k + 1, s, h => bst_lt _ (bsts_lt k s h)
theorem xor_div2 (a b : Nat) : (a ^^^ b) / 2 = a / 2 ^^^ b / 2 := by
  have := Nat.shiftRight_xor_distrib (a := a) (b := b) (i := 1)
  simpa [Nat.shiftRight_eq_div_pow] using this
theorem xor_mod2 (a b : Nat) : (a ^^^ b) % 2 = a % 2 ^^^ b % 2 := Nat.xor_mod_two_pow (n := 1)
theorem bst_xor (a b : Nat) : bst (a ^^^ b) = bst a ^^^ bst b := by
  unfold bst
  rw [xor_div2, xor_mod2]
  rcases Nat.mod_two_eq_zero_or_one a with ha | ha <;> rcases Nat.mod_two_eq_zero_or_one b with hb | hb <;> rw [ha, hb]
  · simp
  · simp; ac_rfl
  · simp; ac_rfl
  · show a / 2 ^^^ b / 2 ^^^ 0 = a / 2 ^^^ 3988292384 ^^^ (b / 2 ^^^ 3988292384)
    rw [show a / 2 ^^^ 3988292384 ^^^ (b / 2 ^^^ 3988292384) = a / 2 ^^^ b / 2 ^^^ (3988292384 ^^^ 3988292384) by ac_rfl, Nat.xor_self]
theorem bst_up (m : Nat) : bst (m * 2) = m := by
  unfold bst
  rw [Nat.mul_mod_left, if_neg (by decide), Nat.mul_div_cancel _ (by decide)]
  simp
theorem bst4 (s : Nat) : bst (bst (bst (bst s))) = nib s := by
  have hs : (s / 16 * 16) ^^^ (s % 16) = s := by
    have h1 : ((s / 16 * 16) ^^^ (s % 16)) / 16 = s / 16 := by
      rw [xor_div16, Nat.mul_div_cancel _ (by decide), Nat.div_eq_of_lt (Nat.mod_lt _ (by decide))]
      simp
    have h2 : ((s / 16 * 16) ^^^ (s % 16)) % 16 = s % 16 := by
      rw [xor_mod16, Nat.mul_mod_left, Nat.mod_mod]
      simp
    omega
  have hlow : ∀ r : Fin 16, bst (bst (bst (bst r.val))) = tb r.val := by decide
  have hup : bst (bst (bst (bst (s / 16 * 16)))) = s / 16 := by
    rw [show s / 16 * 16 = s / 16 * 2 * 2 * 2 * 2 by omega, bst_up, bst_up, bst_up, bst_up]
  have e := hlow ⟨s % 16, Nat.mod_lt _ (by decide)⟩
  calc bst (bst (bst (bst s))) = bst (bst (bst (bst ((s / 16 * 16) ^^^ (s % 16))))) := by rw [hs]
    _ = bst (bst (bst (bst (s / 16 * 16)))) ^^^ bst (bst (bst (bst (s % 16)))) := by rw [bst_xor, bst_xor, bst_xor, bst_xor]
    _ = nib s := by rw [hup, e]; rfl
theorem bsts8 (s : Nat) : bsts 8 s = nib (nib s) := by
  show bst (bst (bst (bst (bst (bst (bst (bst s))))))) = _
  rw [bst4, bst4]
set_option maxRecDepth 100000 in
set_option maxHeartbeats 800000 in
theorem sumR_any (l : List UInt8) (F : Nat → Prop) (v : Value) (w : World) (hl : l.length ≤ 140737488355328) (hr : Rd w F v l) :
    Calls Tryz.prog 64 #[v] w fun e w' => e = .returned (.int .u32 (sumL l)) ∧ w' = w := by
  obtain ⟨a, b, off, c, rfl, hc, hn, ha, hcell⟩ := hr
  have HC := hid hcell
  have HA := hid ha
  clear hcell ha hn hc
  have HS : Hid (sumL l = 4294967295 ^^^ crcL 4294967295 (l.take l.length)) := by rw [List.take_length]; exact sumL_xor l
  generalize sumL l = R at HS
  obtain ⟨n, HN⟩ : ∃ n, Hid (l.length = n) := ⟨_, hid rfl⟩
  rw [HN.out] at hl HS ⊢
  go_enter Tryz.func64, Tryz.ntmps64
  go_wp2
  go_loop [3, 4] (fun sv iv => ∃ k : Nat, k ≤ n ∧ iv = .int .i64 k ∧ sv = .int .u32 (crcL 4294967295 (l.take k))) (fun _ iv => n - (intOf iv).toNat)
  case atStart => exact ⟨0, Nat.zero_le _, rfl, rfl⟩
  case round =>
    obtain ⟨k, hk, rfl, rfl⟩ := hrel
    have hs := crcL_lt (l.take k) 4294967295 (by decide)
    obtain ⟨S, HSS⟩ : ∃ S, Hid (crcL 4294967295 (l.take k) = S) := ⟨_, hid rfl⟩
    rw [HSS.out] at hs ⊢
    by_cases hlt : k < n
    · have hlt' : (k : Int) < (n : Int) := by omega
      have hil : k < l.length := by rw [HN.out]; exact hlt
      obtain ⟨rfl, hb, _⟩ := HA.out (by omega)
      have hck := HC.out k hil
      obtain ⟨x, HX⟩ : ∃ x, Hid (l[k] = x) := ⟨_, hid rfl⟩
      rw [HX.out] at hck
      have hxb := u8_bd x
      have hX : S ^^^ x.toNat < 2 ^ 32 := Nat.xor_lt_two_pow hs (u8_lt32 x)
      have e1 := u32_xor_nat S x.toNat hs (u8_lt32 x)
      obtain ⟨X, HXX⟩ : ∃ X, Hid (S ^^^ x.toNat = X) := ⟨_, hid rfl⟩
      rw [HXX.out] at hX e1
      have HB := hid (show crcL 4294967295 (l.take (k + 1)) = bsts 8 X by
        rw [take_snocL l k hil, crcL_snoc, HSS.out, HX.out, crcB, HXX.out, bsts8])
      have HXl := hid hX
      clear HX hil hX hs
      go_wp2
      go_loop [3, 5, 6] (fun sv jv _ => ∃ j : Nat, j ≤ 8 ∧ jv = .int .i64 j ∧ sv = .int .u32 (bsts j X)) (fun _ jv _ => 8 - (intOf jv).toNat)
      case atStart => exact ⟨0, by omega, rfl, rfl⟩
      case round =>
        obtain ⟨j, hj, rfl, rfl⟩ := hrel
        have hYl := bsts_lt j X HXl.out
        have HYs : Hid (bsts (j + 1) X = bst (bsts j X)) := hid rfl
        obtain ⟨Y, HY⟩ : ∃ Y, Hid (bsts j X = Y) := ⟨_, hid rfl⟩
        rw [HY.out] at hYl HYs ⊢
        by_cases hjl : j < 8
        · have hjl' : (j : Int) < 8 := by omega
          have e2 := u32_xor_nat (Y / 2) 3988292384 (by omega) (by decide)
          rw [show ((Y / 2 : Nat) : Int) = (Y : Int) / 2 by omega] at e2
          rcases Nat.mod_two_eq_zero_or_one Y with hm | hm
          · have hm' : (Y : Int) % 2 = 0 := by omega
            have HZ : Hid (bst Y = Y / 2) := hid (by unfold bst; rw [hm, if_neg (by decide)]; simp)
            clear hm
            go_wp2
            go_round
            case rel => exact ⟨j + 1, by omega, by go_num, by rw [HYs.out, HZ.out]; go_num⟩
            case measure => simp [intOf]; omega
          · have hm' : (Y : Int) % 2 = 1 := by omega
            have HZ : Hid (bst Y = Y / 2 ^^^ 3988292384) := hid (by unfold bst; rw [hm, if_pos rfl])
            clear hm
            obtain ⟨Z, HZZ⟩ : ∃ Z, Hid (Y / 2 ^^^ 3988292384 = Z) := ⟨_, hid rfl⟩
            rw [HZZ.out] at e2 HZ
            have e9 : bits .xor .u32 ((Y : Int) / 2) 3988292384 = (Z : Int) := e2
            clear e2
            go_wp2
            go_round
            case rel => exact ⟨j + 1, by omega, by go_num, by rw [HYs.out, HZ.out]⟩
            case measure => simp [intOf]; omega
        · obtain rfl : j = 8 := by omega
          have hjl' : ¬ (8 : Int) < 8 := by omega
          go_wp2
          go_round
          case rel => exact ⟨k + 1, by omega, by go_num, by rw [HB.out, HY.out]⟩
          case measure => simp [intOf]; omega
    · have hlt' : ¬ (k : Int) < (n : Int) := by omega
      obtain rfl : k = n := by omega
      have e1 := u32_xor_nat S 4294967295 hs (by decide)
      have HR : Hid (R = S ^^^ 4294967295) := hid (by rw [HS.out, ← HSS.out]; exact Nat.xor_comm _ _)
      obtain ⟨Z, HZZ⟩ : ∃ Z, Hid (S ^^^ 4294967295 = Z) := ⟨_, hid rfl⟩
      rw [HZZ.out] at e1 HR
      have e9 : bits .xor .u32 (S : Int) 4294967295 = (Z : Int) := e1
      clear e1
      go_wp2
      go_ret
      exact ⟨by rw [HR.out]; rfl, rfl⟩
end Go.Proofs.YtfalgjdhdgkbfaaGreatDoor

namespace Go.Proofs.YtfalgjdhdgkbfaaGreatDoor
open Go Go.RowKit
open Go.RowKit (wrap32 wrap64)

theorem Out.form {B : Nat} {w : World} {v : Value} {l : List UInt8} (h : Out B w v l) (h0 : 0 < l.length) : ∃ g c, v = .slice (some ⟨g, 0, none⟩) l.length c ∧ l.length ≤ c ∧ B ≤ g ∧ g < w.heap.size ∧ ∀ i (hi : i < l.length), w.cell? ⟨g, i, none⟩ = some (.int .u8 l[i].toNat) := by
  have hcs := fun (g : Nat) (hg : v.ownBlock = some g) => h.cells (g := g) hg
  have hlt := fun (g : Nat) (hg : v.ownBlock = some g) => (h.lt g hg).2
  rcases h.2 with ⟨rfl, h1⟩ | ⟨g, cap, cur, rfl, hb, hg, hle, hm, hs, ht⟩
  · omega
  · refine ⟨g, cap, rfl, hle, hb, hlt g rfl, fun i hi => ?_⟩
    have := hcs g rfl i (.int .u8 l[i].toNat) (by simp [Lib.byteCells, List.getElem?_eq_getElem hi])
    rw [Addr.add_lit, Nat.zero_add] at this
    exact this
theorem Rd.pre {w : World} {F : Nat → Prop} {q : Addr} {n c : Nat} {l : List UInt8} (h : Rd w F (.slice (some q) n c) l) (k : Nat) (hk : k ≤ l.length) : Rd w F (.slice (some q) k k) (l.take k) := by
  obtain ⟨a, b, off, c', e, hc, hn, ha, hcell⟩ := h
  injection e with e1 e2 e3
  have hl : (l.take k).length = k := by rw [List.length_take]; omega
  refine ⟨some q, b, off, k, by rw [hl], by rw [hl]; exact Nat.le_refl _, (fun h => by cases h), fun h0 => ?_, fun i hi => ?_⟩
  · obtain ⟨h1, h2⟩ := ha (by omega)
    exact ⟨by rw [e1]; exact h1, h2⟩
  · have := hcell i (by omega)
    rw [this]
    simp
theorem Out.free {B : Nat} {w : World} {g n c : Nat} {l : List UInt8} (h : Out B w (.slice (some ⟨g, 0, none⟩) n c) l) (i : Nat) : w.frozen? ⟨g, i, none⟩ = false := by
  rcases h.2 with ⟨e, _⟩ | ⟨g', cap, cur, e, hb, hg, _⟩
  · cases e
  · injection e with e1 e2 e3
    injection e1 with e1
    injection e1 with e1 _ _
    subst e1
    simp [World.frozen?, hg]
/-- One byte of a row of the call's own is stored. -/
theorem Out.set {B : Nat} {w : World} {g n c : Nat} {l : List UInt8} (h : Out B w (.slice (some ⟨g, 0, none⟩) n c) l) (i : Nat) (x : UInt8) : Out B (w.setCell ⟨g, i, none⟩ (.int .u8 x.toNat)) (.slice (some ⟨g, 0, none⟩) n c) (l.set i x) := by
  rcases h.2 with ⟨e, _⟩ | ⟨g', cap, cur, e, hb, hg, hle, hm, hs, ht⟩
  · cases e
  · injection e with e1 e2 e3
    injection e1 with e1
    injection e1 with e1 _ _
    subst e1
    subst e3
    refine ⟨by rw [byteCells_length, Nat.mul_one], .inr ⟨g, c, cur.setIfInBounds i (.int .u8 x.toNat), by rw [List.length_set, e2], hb, ?_, by rw [List.length_set]; exact hle, hm, by simpa using hs, ?_⟩⟩
    · exact Go.Joins.block_setCell hg _
    · rw [Array.toList_setIfInBounds, List.length_set]
      rw [List.take_set, ht]
      unfold Lib.byteCells
      rw [List.map_set]
/-- make: a row of zeros of the call's own. -/
theorem makeO (w : World) (n : Nat) (hn : n ≤ 140737488355328) : ∃ w', (Instr.makeSlice 28 (.int .i64 (n : Int)) (.int .i64 (n : Int))).run Tryz.prog w = .ok (.slice (some ⟨w.heap.size, 0, none⟩) n n) w' ∧ Out w.heap.size w' (.slice (some ⟨w.heap.size, 0, none⟩) n n) (List.replicate n 0) ∧ w.grownBy w' none := by
  obtain ⟨inf, hi, hz0, hz1, hz2⟩ := info_parts Tryz.info5
  obtain ⟨w', h1, h2, h3⟩ := run_make_full (P := Tryz.prog) w w.heap.size 28 5 inf (.int .u8 0) 1 Tryz.underlying28 hi hz0 hz1 .i64 .i64 n (by rw [hz2]; omega) (by unfold maxLen; omega) (Nat.le_refl _)
  refine ⟨w', h1, ?_, h3⟩
  unfold Out
  rw [List.length_replicate]
  have e : (madeCells (Value.int .u8 0).cells (n * 1)).toList = Lib.byteCells (List.replicate n 0) := by
    have hc : (Value.int .u8 0).cells = #[Value.int .u8 0] := rfl
    rw [hc, Nat.mul_one]
    unfold madeCells Lib.byteCells
    apply List.ext_getElem?
    intro i
    by_cases hi : i < n
    · simp [hi, Nat.mod_one]
    · simp [hi]
  rw [e] at h2
  exact h2
theorem layL_get (n k i : Nat) (h : i < k) : (layL n k)[i]? = some (UInt8.ofNat (n / 2 ^ (8 * (k - 1 - i)))) := by
  unfold layL layP
  rw [List.getElem?_map, List.getElem?_range h]
  rfl
theorem pow256 (j : Nat) : 256 ^ j = 2 ^ (8 * j) := by rw [Nat.pow_mul]
theorem row_step (n k j : Nat) (h : j < k) : (List.replicate (j + 1) (0 : UInt8) ++ (layL n k).drop (j + 1)).set j (UInt8.ofNat (n / 256 ^ (k - (j + 1)))) = List.replicate j 0 ++ (layL n k).drop j := by
  have hl : j < (layL n k).length := by rw [layL_length]; exact h
  have hg : (layL n k)[j] = UInt8.ofNat (n / 256 ^ (k - (j + 1))) := by
    have := layL_get n k j h
    rw [List.getElem?_eq_getElem hl] at this
    injection this with this
    rw [this, pow256, show k - 1 - j = k - (j + 1) by omega]
  rw [List.drop_eq_getElem_cons hl, hg, List.replicate_succ', List.append_assoc, List.set_append_right _ _ (by simp), List.length_replicate, Nat.sub_self]
  rfl
set_option maxRecDepth 100000 in
set_option maxHeartbeats 800000 in
theorem numbR_any (w : World) (n k : Nat) (hn : n < 18446744073709551616) (hk : k ≤ 8) :
    Calls Tryz.prog 71 #[.int .u64 n, .int .i64 k] w fun e w' => ∃ v, e = .returned (.tuple #[v, .bool (decide (n < 256 ^ k))]) ∧ Out w.heap.size w' v (layL n k) ∧ w.grownBy w' none := by
  obtain ⟨w1, hmk, hO1, hg1⟩ := makeO w k (by omega)
  have HO1 : Hid (Out w.heap.size w1 (.slice (some ⟨w.heap.size, 0, none⟩) k k) (List.replicate k 0 ++ (layL n k).drop k)) := hid (by rw [List.drop_of_length_le (by rw [layL_length]; exact Nat.le_refl _), List.append_nil]; exact hO1)
  have HG1 := hid hg1
  have HNn := hid hn
  obtain ⟨RB, HRB⟩ : ∃ x, Hid (decide (n < 256 ^ k) = x) := ⟨_, hid rfl⟩
  rw [HRB.out]
  clear hO1 hg1 hn
  obtain ⟨g, hgg⟩ : ∃ x, w.heap.size = x := ⟨_, rfl⟩
  rw [hgg] at hmk
  have HGg := hid hgg
  clear hgg
  rw [HGg.out] at HO1
  go_enter Tryz.func71, Tryz.ntmps71
  go_wp2
  clear hmk
  go_loopw [0, 7] (fun nv iv wr => ∃ (j m : Nat), nv = .int .u64 m ∧ iv = .int .i64 ((j : Int) - 1) ∧ j ≤ k ∧ m < 18446744073709551616 ∧ Hid (m = n / 256 ^ (k - j)) ∧ Hid (Out g wr (.slice (some ⟨g, 0, none⟩) k k) (List.replicate j 0 ++ (layL n k).drop j)) ∧ Hid (w.grownBy wr none)) (fun _ iv _ => (intOf iv + 1).toNat)
  case atStart => exact ⟨k, n, rfl, rfl, Nat.le_refl _, HNn.out, hid (by rw [Nat.sub_self, Nat.pow_zero, Nat.div_one]), HO1, HG1⟩
  case round =>
    clear HO1 HG1
    obtain ⟨j, m, rfl, rfl, hj, hm, HM, HO, HG⟩ := hrel
    cases j with
    | zero =>
      have h0 : ¬ (0 : Int) ≤ ((0 : Nat) : Int) - 1 := by omega
      have HRe : Hid (RB = decide (m = 0)) := hid (by
        rw [← HRB.out, HM.out, Nat.sub_zero, Bool.eq_iff_iff, decide_eq_true_eq, decide_eq_true_eq]
        constructor
        · intro h; exact Nat.div_eq_of_lt h
        · intro h
          have := Nat.lt_mul_div_succ n (show 0 < 256 ^ k from Nat.pow_pos (by decide))
          rw [h] at this
          omega)
      by_cases hm0 : m = 0
      · subst hm0
        obtain rfl : RB = true := by rw [HRe.out]; rfl
        go_wp2
        go_ret2
        exact ⟨_, rfl, by rw [HGg.out]; exact HO.out, HG.out⟩
      · obtain rfl : RB = false := by rw [HRe.out, decide_eq_false hm0]
        have hm1 : ¬ (m : Int) = 0 := by omega
        have hm2 : ((m : Int) == 0) = false := beq_eq_false_iff_ne.2 hm1
        clear hm0
        go_wp2
        go_ret2
        exact ⟨_, rfl, by rw [HGg.out]; exact HO.out, HG.out⟩
    | succ j =>
      have h0 : (((j + 1 : Nat) : Int) - 1) = (j : Int) := by omega
      rw [h0]
      clear h0
      have hj' : (j : Int) < (k : Int) := by omega
      have hz := HO.out.free j
      obtain ⟨g', c', e', -, -, -, hcl⟩ := HO.out.form (by rw [List.length_append, List.length_replicate]; omega)
      have hlt : j < (List.replicate (j + 1) (0 : UInt8) ++ (layL n k).drop (j + 1)).length := by rw [List.length_append, List.length_replicate]; omega
      have hc0 := hcl j hlt
      injection e' with e1 e2 e3
      clear e2 e3
      injection e1 with e1
      injection e1 with e1
      rw [← e1] at hc0
      obtain ⟨y0, hy0⟩ : ∃ y : Value, wr.cell? ⟨g, j, none⟩ = some y := ⟨_, hc0⟩
      clear hcl e1 hc0 hlt
      have hcv : IntKind.u8.wrap ((m : Int) % 256) = ((UInt8.ofNat m).toNat : Int) := by
        rw [IntKind.wrap_u8, UInt8.toNat_ofNat']
        omega
      have hcv2 : ((m : Int) % 256) = ((UInt8.ofNat m).toNat : Int) := by
        rw [UInt8.toNat_ofNat']
        omega
      have HSt := hid (row_step n k j (by omega))
      rw [← HM.out] at HSt
      obtain ⟨x, hx⟩ : ∃ x, UInt8.ofNat m = x := ⟨_, rfl⟩
      rw [hx] at hcv hcv2 HSt
      obtain ⟨xi, hxi⟩ : ∃ z : Int, (x.toNat : Int) = z := ⟨_, rfl⟩
      have hxb := u8_bd x
      rw [hxi] at hcv2 hxb
      have hcv3 : IntKind.u8.wrap xi = xi := by rw [IntKind.wrap_u8]; omega
      have HXI := hid hxi
      clear hx hcv hxi
      have hwm : IntKind.u64.wrap ((m : Int) / 256) = (m : Int) / 256 := by rw [IntKind.wrap_u64]; omega
      have hj8 : j ≤ 8 := by omega
      have Hm := hid hm
      clear hm
      go_upto_region 6 with fail
      obtain ⟨w5, hw5⟩ : ∃ y, wr.setCell ⟨g, j, none⟩ (.int .u8 xi) = y := ⟨_, rfl⟩
      rw [hw5]
      rw [← HXI.out] at hw5
      have HO5 : Hid (Out g w5 (.slice (some ⟨g, 0, none⟩) k k) (List.replicate j 0 ++ (layL n k).drop j)) := hid (by rw [← hw5, ← HSt.out]; exact HO.out.set j x)
      have HG5 : Hid (w.grownBy w5 none) := hid (by rw [← hw5]; exact HG.out.andThen (gset _ _ _) (fun i hi => .inl (by injection hi with hi; have := HGg.out; have hi' : g = i := hi; omega)))
      clear hw5 hy0 hz
      go_wp2_with fail
      go_roundw
      case rel => exact ⟨j, m / 256, by go_num, by go_num, by omega, by have := Hm.out; omega, hid (by rw [HM.out, Nat.div_div_eq_div_mul, show k - j = k - (j + 1) + 1 by omega, Nat.pow_succ]), HO5, HG5⟩
      case measure => simp [intOf]
set_option maxRecDepth 100000 in
set_option maxHeartbeats 800000 in
theorem ofR_any (l : List UInt8) (F : Nat → Prop) (v : Value) (w : World) (hl : l.length ≤ 8) (hr : Rd w F v l) :
    Calls Tryz.prog 114 #[v] w fun e w' => e = .returned (.int .u64 (numL l)) ∧ w' = w := by
  obtain ⟨a, b, off, c, rfl, hc, hn, ha, hcell⟩ := hr
  have HC := hid hcell
  have HA := hid ha
  clear hcell ha hn hc
  have HS : Hid (numL l = numL (l.take l.length)) := by rw [List.take_length]; exact rfl
  generalize numL l = R at HS
  obtain ⟨n, HN⟩ : ∃ n, Hid (l.length = n) := ⟨_, hid rfl⟩
  rw [HN.out] at hl HS ⊢
  go_enter Tryz.func114, Tryz.ntmps114
  go_wp2
  go_loop [3, 4] (fun sv iv => ∃ k : Nat, k ≤ n ∧ iv = .int .i64 k ∧ sv = .int .u64 (numL (l.take k))) (fun _ iv => n - (intOf iv).toNat)
  case atStart => exact ⟨0, Nat.zero_le _, rfl, rfl⟩
  case round =>
    obtain ⟨k, hk, rfl, rfl⟩ := hrel
    by_cases hlt : k < n
    · have hlt' : (k : Int) < (n : Int) := by omega
      have hil : k < l.length := by rw [HN.out]; exact hlt
      have hs : numL (l.take k) < 256 ^ k := numL_lt k _ (by rw [List.length_take]; omega)
      have hs7 : (256 : Nat) ^ k ≤ 256 ^ 7 := Nat.pow_le_pow_right (by decide) (by omega)
      obtain ⟨rfl, hb, _⟩ := HA.out (by omega)
      have hck := HC.out k hil
      have HB := hid (show numL (l.take (k + 1)) = numL (l.take k) * 256 + (l[k]).toNat by rw [take_snocL l k hil, numL_snoc])
      obtain ⟨x, HX⟩ : ∃ x, Hid (l[k] = x) := ⟨_, hid rfl⟩
      rw [HX.out] at hck HB
      obtain ⟨S, HSS⟩ : ∃ S, Hid (numL (l.take k) = S) := ⟨_, hid rfl⟩
      rw [HSS.out] at hs HB ⊢
      have hS7 : S < 72057594037927936 := by omega
      have hxb := u8_bd x
      obtain ⟨X, hX⟩ : ∃ z : Int, (x.toNat : Int) = z := ⟨_, rfl⟩
      obtain ⟨SS, hSS⟩ : ∃ z : Int, (S : Int) = z := ⟨_, rfl⟩
      have w1 : IntKind.u64.wrap (256 * SS) = 256 * SS := by rw [IntKind.wrap_u64]; omega
      have w2 : IntKind.u64.wrap (256 * SS + X) = 256 * SS + X := by rw [IntKind.wrap_u64]; omega
      have w3 : IntKind.u64.wrap X = X := by rw [IntKind.wrap_u64]; omega
      have HXi := hid hX
      have HSi := hid hSS
      rw [hX] at hck hxb
      rw [hSS]
      clear HX hil hs hs7 hS7 hX hSS HSS
      go_wp2
      go_round
      case rel => exact ⟨k + 1, by omega, by go_num, by rw [HB.out]; show Value.int .u64 (256 * SS + X) = _; rw [← HXi.out, ← HSi.out]; congr 1; omega⟩
      case measure => simp [intOf]; omega
    · have hlt' : ¬ (k : Int) < (n : Int) := by omega
      obtain rfl : k = n := by omega
      obtain ⟨S, HSS⟩ : ∃ S, Hid (numL (l.take k) = S) := ⟨_, hid rfl⟩
      rw [HSS.out] at HS ⊢
      go_wp2
      go_ret
      exact ⟨by rw [HS.out]; rfl, rfl⟩
set_option maxRecDepth 100000 in
set_option maxHeartbeats 800000 in
theorem ssumR_any (l : List UInt8) (F : Nat → Prop) (v : Value) (w : World) (hl : l.length ≤ 140737488355328) (hr : Rd w F v l) :
    Calls Tryz.prog 118 #[v] w fun e w' => ∃ v', e = .returned v' ∧ Out w.heap.size w' v' (layL (sumL l) 4) ∧ w.grownBy w' none := by
  have HS := hid (sumR_any l F v w hl hr)
  have hlt := sumL_lt l
  have HNu0 := numbR_any w (sumL l) 4 (by omega) (by decide)
  rw [show (((4 : Nat) : Int)) = 4 from rfl] at HNu0
  have HNu := hid HNu0; clear HNu0
  obtain ⟨S, HSS⟩ : ∃ S, Hid (sumL l = S) := ⟨_, hid rfl⟩
  rw [HSS.out] at HS HNu hlt ⊢
  obtain ⟨a, b, off, c, rfl, -⟩ := hr
  have w1 : IntKind.u64.wrap (S : Int) = (S : Int) := by rw [IntKind.wrap_u64]; omega
  clear hlt
  go_enter Tryz.func118, Tryz.ntmps118
  go_wp2_with (first
    | (go_at_call 64; (with_reducible refine HS.out.mono ?_); rintro e w' ⟨rfl, hw⟩; have hw' := hw.symm; clear hw; subst hw')
    | (go_at_call 71; (with_reducible refine HNu.out.mono ?_); rintro e w2 ⟨v2, rfl, hO2, hg2⟩; have HO2 := hid hO2; have HG2 := hid hg2; clear hO2 hg2))
  go_ret
  exact ⟨_, rfl, HO2.out, HG2.out⟩
end Go.Proofs.YtfalgjdhdgkbfaaGreatDoor
