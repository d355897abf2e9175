/- The walks of readHead, Unframe. -/
import Derived.Test.YtpbiofnncdneoaaDoorRC
namespace Go.Proofs.YtpbiofnncdneoaaDoor
open Go Go.RowKit
open Go.RowKit (wrap32 wrap64)

theorem headE_nil : headE [] = 30 := rfl
theorem headE_form (x : UInt8) (r : List UInt8) (h : x ≠ 201) : headE (x :: r) = 34 := by
  have hh : (x :: r).headD 0 = x := rfl
  unfold headE
  rw [if_neg (by simp), hh, if_pos h]
theorem headE_short (r : List UInt8) (h : r.length < 8) : headE (201 :: r) = 30 := by
  unfold headE
  rw [if_neg (by simp), if_neg (by simp), if_pos (by simp; omega)]
theorem headE_long (r : List UInt8) (h : 8 ≤ r.length) : headE (201 :: r) = if numL (((201 :: r).drop 5).take 4) ≠ sumL ((201 :: r).take 5) then 32 else if 16777216 < cnt (201 :: r) then 31 else 0 := by
  have hh : (201 :: r).headD 0 = 201 := rfl
  unfold headE
  rw [if_neg (by simp), hh, if_neg (by simp), if_neg (by simp; omega)]
theorem byte_ne {c k : UInt8} (h : c ≠ k) : ((c.toNat : Int) != (k.toNat : Int)) = true ∧ (c.toNat != k.toNat) = true :=
  ⟨by simpa using fun e => h (UInt8.toNat_inj.1 (by omega)), by simpa using fun e => h (UInt8.toNat_inj.1 e)⟩

set_option maxRecDepth 100000 in
set_option maxHeartbeats 1000000 in
theorem readHead_any (l : List UInt8) (F : Nat → Prop) (v : Value) (w : World) (hl : l.length ≤ 140737488355328) (hr : Rd w F v l) (ht : Tab w) :
    Calls Tryd.prog 52 #[v] w fun e w' => e = .returned (.tuple #[.int .i64 (if headE l = 0 then (cnt l : Int) else 0), .int .i64 (headE l)]) ∧ ∃ n, w' = w.drewN n := by
  have HRd := hid hr
  obtain ⟨a, b, off, c, rfl, hc, hn, ha, hcell⟩ := hr
  match l, hl, hc, ha, hcell, HRd with
  | [], hl, hc, ha, hcell, HRd =>
    rw [headE_nil, if_neg (by decide)]
    clear ha hcell hn
    go_enter Tryd.func52, Tryd.ntmps52
    go_wp2_with fail
    go_ret2
    exact ⟨rfl, 0, rfl⟩
  | x :: r, hl, hc, ha, hcell, HRd =>
    obtain ⟨rfl, hb, hF⟩ := ha (by simp)
    have h0 := hcell 0 (by simp)
    simp only [List.getElem_cons_zero, Nat.add_zero] at h0
    have HC := hid hcell
    have HA := hid ha
    clear hcell hn ha
    have hxb := u8_bd x
    obtain ⟨n, HN⟩ : ∃ n, Hid ((x :: r).length = n) := ⟨_, hid rfl⟩
    have hrn : r.length + 1 = n := by have := HN.out; simp at this; omega
    have HRN := hid hrn
    have hn0 : 1 ≤ n := by omega
    rw [HN.out] at hl hc ⊢
    clear hrn
    by_cases hx : x = 201
    · subst hx
      change w.cell? ⟨b, off, none⟩ = some (.int .u8 201) at h0
      by_cases h9 : n < 9
      · rw [headE_short r (by have := HRN.out; omega), if_neg (by decide)]
        go_enter Tryd.func52, Tryd.ntmps52
        go_wp2_with fail
        go_ret2
        exact ⟨rfl, 0, rfl⟩
      · have hlong := headE_long r (by have := HRN.out; omega)
        have HP : ∀ (i m cc : Nat), i + m ≤ n → 0 < m → m ≤ cc → ∀ k, Rd (w.drewN k) F (.slice (some ⟨b, off + i, none⟩) m cc) (((201 :: r).drop i).take m) := fun i m cc h1 h2 h3 k => (Rd.part HA.out HC.out i m cc (by rw [HN.out]; exact h1) h2 h3).keep (gdrew w k none)
        have HLn : ∀ (i m : Nat), i + m ≤ n → (((201 :: r).drop i).take m).length = m := fun i m h => by rw [List.length_take, List.length_drop, HN.out]; omega
        have HI : Hid (∀ k, Calls Tryd.prog 53 #[.slice (some ⟨b, off + 5, none⟩) 4 (c - 5), .slice (some ⟨b, off, none⟩) 5 c] (w.drewN k) fun e w' => e = .returned (.bool (decide (numL (((201 :: r).drop 5).take 4) = sumL ((201 :: r).take 5)))) ∧ w' = w.drewN k) := fun k =>
          isSum_any _ _ F F _ _ _ (by rw [HLn 5 4 (by omega)]; decide) (by have := HLn 0 5 (by omega); rw [List.drop_zero] at this; rw [this]; decide) (HP 5 4 (c - 5) (by omega) (by decide) (by omega) k) (HP 0 5 c (by omega) (by decide) (by omega) k) (ht.keep (gdrew w k none))
        have HNm : Hid (∀ k, Calls Tryd.prog 65 #[.slice (some ⟨b, off + 1, none⟩) 4 (c - 1)] (w.drewN k) fun e w' => e = .returned (.int .u64 (cnt (201 :: r))) ∧ w' = w.drewN k) := fun k =>
          number_any _ F _ _ (by rw [HLn 1 4 (by omega)]; decide) (HP 1 4 (c - 1) (by omega) (by decide) (by omega) k)
        have hcl : cnt (201 :: r) < 4294967296 := numL_lt 4 _ (HLn 1 4 (by omega))
        clear HP HLn
        generalize cnt (201 :: r) = C at hlong HNm hcl ⊢
        generalize headE (201 :: r) = E at hlong ⊢
        generalize numL (((201 :: r).drop 5).take 4) = X at hlong HI
        generalize sumL ((201 :: r).take 5) = Y at hlong HI
        by_cases hxy : X = Y
        · rw [decide_eq_true hxy] at HI
          rw [if_neg (by simpa using hxy)] at hlong
          clear hxy
          by_cases hC : 16777216 < C
          · rw [if_pos hC] at hlong
            subst hlong
            rw [if_neg (by decide)]
            have hd : decide ((16777216 : Int) < (C : Int)) = true := decide_eq_true (by omega)
            go_enter Tryd.func52, Tryd.ntmps52
            go_wp2_with fail
            go_quiet ((go_at_call 53; exact Calls.quiet_of_same (HI.out _)))
            rename_i nq
            go_wp2_with (go_at_call 65; refine (HNm.out nq).mono ?_; rintro e w' ⟨rfl, hw⟩; subst hw)
            go_ret2
            exact ⟨rfl, nq, rfl⟩
          · rw [if_neg hC] at hlong
            subst hlong
            rw [if_pos rfl]
            have hd : decide ((16777216 : Int) < (C : Int)) = false := decide_eq_false (by omega)
            go_enter Tryd.func52, Tryd.ntmps52
            go_wp2_with fail
            go_quiet ((go_at_call 53; exact Calls.quiet_of_same (HI.out _)))
            rename_i nq
            go_wp2_with (go_at_call 65; refine (HNm.out nq).mono ?_; rintro e w' ⟨rfl, hw⟩; subst hw)
            go_ret2
            exact ⟨rfl, nq, rfl⟩
        · rw [decide_eq_false hxy] at HI
          rw [if_pos hxy] at hlong
          subst hlong
          rw [if_neg (by decide)]
          clear hxy
          go_enter Tryd.func52, Tryd.ntmps52
          go_wp2_with fail
          go_quiet ((go_at_call 53; exact Calls.quiet_of_same (HI.out _)))
          rename_i nq
          go_wp2_with fail
          go_ret2
          exact ⟨rfl, nq, rfl⟩
    · rw [headE_form x r hx, if_neg (by decide)]
      obtain ⟨e1, e2⟩ := byte_ne (k := 201) hx
      change ((x.toNat : Int) != 201) = true at e1
      change (x.toNat != 201) = true at e2
      clear hx
      go_enter Tryd.func52, Tryd.ntmps52
      go_wp2_with fail
      go_ret2
      exact ⟨rfl, 0, rfl⟩

theorem unfrE_head (l : List UInt8) (h : headE l ≠ 0) : unfrE l = headE l := by unfold unfrE; rw [if_pos h]
theorem unfrE_short (l : List UInt8) (h : headE l = 0) (hs : l.length < cnt l + 13) : unfrE l = 30 := by unfold unfrE; rw [if_neg (by simpa using h), if_pos hs]
theorem unfrE_rest (l : List UInt8) (h : headE l = 0) (hs : ¬ l.length < cnt l + 13) : unfrE l = if numL ((l.drop (9 + cnt l)).take 4) ≠ sumL (bodyL l) then 32 else 0 := by
  unfold unfrE bodyL
  rw [if_neg (by simpa using h), if_neg hs]
theorem headE_cnt (l : List UInt8) (h : headE l = 0) : cnt l ≤ 16777216 ∧ 9 ≤ l.length := by
  unfold headE at h
  by_cases h1 : l.length = 0
  · rw [if_pos h1] at h; cases h
  · rw [if_neg h1] at h
    by_cases h2 : l.headD 0 ≠ 201
    · rw [if_pos h2] at h; cases h
    · rw [if_neg h2] at h
      by_cases h3 : l.length < 9
      · rw [if_pos h3] at h; cases h
      · rw [if_neg h3] at h
        by_cases h4 : numL ((l.drop 5).take 4) ≠ sumL (l.take 5)
        · rw [if_pos h4] at h; cases h
        · rw [if_neg h4] at h
          by_cases h5 : 16777216 < cnt l
          · rw [if_pos h5] at h; cases h
          · omega

/-- What Unframe tells. -/
def unfV (l : List UInt8) (v' : Value) : Value := .tuple #[v', .int .i64 (if unfrE l = 0 then ((cnt l + 13 : Nat) : Int) else 0), .int .i64 (unfrE l)]
def unfB (l : List UInt8) : List UInt8 := if unfrE l = 0 then bodyL l else []

set_option maxRecDepth 100000 in
set_option maxHeartbeats 2000000 in
theorem unframe_any (l : List UInt8) (F : Nat → Prop) (v : Value) (w : World) (hl : l.length ≤ 140737488355328) (hr : Rd w F v l) (ht : Tab w) :
    Calls Tryd.prog 40 #[v] w fun e w' => ∃ v', e = .returned (.tuple #[v', .int .i64 (if unfrE l = 0 then ((cnt l + 13 : Nat) : Int) else 0), .int .i64 (unfrE l)]) ∧ Out w.heap.size w' v' (unfB l) ∧ w.grownBy w' none := by
  have HH := hid (readHead_any l F v w hl hr ht)
  have HRd := hid hr
  by_cases h0 : headE l = 0
  · rw [if_pos h0, h0] at HH
    obtain ⟨hcnt, h9⟩ := headE_cnt l h0
    obtain ⟨a, b, off, c, rfl, hc, hn, ha, hcell⟩ := hr
    obtain ⟨rfl, hb, hF⟩ := ha (by omega)
    by_cases hs : l.length < cnt l + 13
    · have he := unfrE_short l h0 hs
      have hB : unfB l = [] := by unfold unfB; rw [he, if_neg (by decide)]
      rw [he, hB, if_neg (by decide)]
      clear ha hcell hn h0 HRd ht he hB
      generalize cnt l = C at *
      generalize l.length = n at *
      have hd : decide ((n : Int) < 9 + (C : Int) + 4) = true := decide_eq_true (by omega)
      go_enter Tryd.func40, Tryd.ntmps40
      go_wp2_with (go_at_call 52; refine (HH.out).mono ?_; rintro e w' ⟨rfl, nq, hw⟩; subst hw)
      go_ret3
      exact ⟨_, rfl, Out.nil _ _, gdrew _ _ _⟩
    · have he := unfrE_rest l h0 hs
      have HP : ∀ (i m cc : Nat), i + m ≤ l.length → 0 < m → m ≤ cc → ∀ k, Rd (w.drewN k) F (.slice (some ⟨b, off + i, none⟩) m cc) ((l.drop i).take m) := fun i m cc h1 h2 h3 k => (Rd.part ha hcell i m cc h1 h2 h3).keep (gdrew w k none)
      have HLn : ∀ (i m : Nat), i + m ≤ l.length → ((l.drop i).take m).length = m := fun i m h => by rw [List.length_take, List.length_drop]; omega
      have hbl : (bodyL l).length = cnt l := HLn 9 _ (by omega)
      have hbody : ∀ k, Rd (w.drewN k) F (.slice (if cnt l = 0 then some ⟨b, off, none⟩ else some ⟨b, off + 9, none⟩) (cnt l) (cnt l)) (bodyL l) := fun k => by
        by_cases hz : cnt l = 0
        · have : bodyL l = [] := List.eq_nil_of_length_eq_zero (by omega)
          rw [this, if_pos hz, hz]
          exact ⟨some ⟨b, off, none⟩, 0, 0, 0, rfl, Nat.le_refl _, (fun h => by cases h), (fun h => by simp at h), fun i h => by simp at h⟩
        · rw [if_neg hz]
          exact HP 9 (cnt l) (cnt l) (by omega) (by omega) (Nat.le_refl _) k
      have HI : Hid (∀ k, Calls Tryd.prog 53 #[.slice (some ⟨b, off + (9 + cnt l), none⟩) 4 (c - (9 + cnt l)), .slice (if cnt l = 0 then some ⟨b, off, none⟩ else some ⟨b, off + 9, none⟩) (cnt l) (cnt l)] (w.drewN k) fun e w' => e = .returned (.bool (decide (numL ((l.drop (9 + cnt l)).take 4) = sumL (bodyL l)))) ∧ w' = w.drewN k) := fun k =>
        isSum_any _ _ F F _ _ _ (by rw [HLn (9 + cnt l) 4 (by omega)]; decide) (by rw [hbl]; omega) (HP (9 + cnt l) 4 (c - (9 + cnt l)) (by omega) (by decide) (by omega) k) (hbody k) (ht.keep (gdrew w k none))
      have HCl : Hid (∀ k, Calls Tryd.prog 34 #[.slice (if cnt l = 0 then some ⟨b, off, none⟩ else some ⟨b, off + 9, none⟩) (cnt l) (cnt l)] (w.drewN k) fun e w' => ∃ v', e = .returned v' ∧ Out w.heap.size w' v' (bodyL l) ∧ (w.drewN k).grownBy w' none) := fun k =>
        rclone_any _ F _ _ (by rw [hbl]; omega) (hbody k)
      have HB : Hid (unfrE l = 0 → unfB l = bodyL l) := hid (fun h => by unfold unfB; rw [if_pos h])
      have HB2 : Hid (unfrE l ≠ 0 → unfB l = []) := hid (fun h => by unfold unfB; rw [if_neg h])
      clear HP HLn hbl hbody ha hcell hn h0 HRd ht
      generalize unfrE l = E at *
      generalize unfB l = UB at *
      generalize bodyL l = Bd at *
      generalize cnt l = C at *
      generalize numL ((l.drop (9 + C)).take 4) = X at *
      generalize sumL Bd = Y at *
      generalize l.length = n at *
      have hd : decide ((n : Int) < 9 + (C : Int) + 4) = false := decide_eq_false (by omega)
      by_cases hxy : X = Y
      · rw [decide_eq_true hxy] at HI
        rw [if_neg (by simpa using hxy)] at he
        subst he
        rw [if_pos rfl, HB.out rfl]
        clear hxy HB HB2
        go_enter Tryd.func40, Tryd.ntmps40
        go_wp2_with (first
          | (go_at_call 52; refine (HH.out).mono ?_; rintro e w' ⟨rfl, nq, hw⟩; subst hw)
          | (go_at_call 53; refine (HI.out nq).mono ?_; rintro e w' ⟨rfl, hw⟩; subst hw)
          | (go_at_call 34; refine (HCl.out nq).mono ?_; rintro e w2 ⟨v2, rfl, hO2, hg2⟩))
        all_goals
          go_ret3
          exact ⟨_, by first | rfl | (rw [show (C : Int) + 13 = 9 + (C : Int) + 4 by omega]; rfl), hO2, gtrans (gdrew _ _ _) hg2⟩
      · rw [decide_eq_false hxy] at HI
        rw [if_pos hxy] at he
        subst he
        rw [if_neg (by decide), HB2.out (by decide)]
        clear hxy HB HB2
        go_enter Tryd.func40, Tryd.ntmps40
        go_wp2_with (first
          | (go_at_call 52; refine (HH.out).mono ?_; rintro e w' ⟨rfl, nq, hw⟩; subst hw)
          | (go_at_call 53; refine (HI.out nq).mono ?_; rintro e w' ⟨rfl, hw⟩; subst hw))
        all_goals
          go_ret3
          exact ⟨_, rfl, Out.nil _ _, gdrew _ _ _⟩
  · rw [if_neg h0] at HH
    have he := unfrE_head l h0
    have hB : unfB l = [] := by unfold unfB; rw [he, if_neg h0]
    rw [he, hB, if_neg h0]
    obtain ⟨a, b, off, c, rfl, -⟩ := hr
    generalize headE l = E at *
    have hE : ((E : Int) != 0) = true := by simpa using h0
    have hE2 : (E != 0) = true := by simpa using h0
    clear h0
    go_enter Tryd.func40, Tryd.ntmps40
    go_wp2_with (go_at_call 52; refine (HH.out).mono ?_; rintro e w' ⟨rfl, nq, hw⟩; subst hw)
    go_ret3
    exact ⟨_, rfl, Out.nil _ _, gdrew _ _ _⟩
end Go.Proofs.YtpbiofnncdneoaaDoor
