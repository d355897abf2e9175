/- The walks of radix's plainDigits, negated, Number10, Text10. -/
import Derived.Test.YtipjjhccbgbdiaaGreatDoorWalkH
namespace Go.Proofs.YtipjjhccbgbdiaaGreatDoor
open Go Go.RowKit
open Go.RowKit (wrap32 wrap64)

def digL : List UInt8 := [48, 49, 50, 51, 52, 53, 54, 55, 56, 57]

/-- The number that digits tell. -/
def natVal (l : List UInt8) : Nat := l.foldl (fun n c => 10 * n + val digL c) 0

theorem natVal_snoc (l : List UInt8) (c : UInt8) : natVal (l ++ [c]) = 10 * natVal l + val digL c := by simp [natVal, List.foldl_append]

theorem foldl_ge (l : List UInt8) : ∀ n, n ≤ l.foldl (fun n c => 10 * n + val digL c) n := by
  induction l with
  | nil => intro n; exact Nat.le_refl _
  | cons c r ih => intro n; simp only [List.foldl_cons]; exact Nat.le_trans (by omega) (ih _)

theorem natVal_take_le (l : List UInt8) (k : Nat) : natVal (l.take k) ≤ natVal l := by
  have e : natVal l = (l.drop k).foldl (fun n c => 10 * n + val digL c) (natVal (l.take k)) := by
    unfold natVal
    rw [← List.foldl_append, List.take_append_drop]
  rw [e]
  exact foldl_ge _ _

def negJ (l : List UInt8) (w : World) (a' : Act) (w' : World) : Prop :=
  w' = w ∧ ∃ (k : Nat) (r : ByteArray) (m : Int) (u5 u6 u7 u8 u9 u10 u11 u12 u13 u14 u15 u16 u17 u18 u19 u20 u21 u22 u23 : Value), a' = { tmps := #[.string r, undef, .int .i64 0, .bool false, .int .i64 m, u5, u6, u7, u8, u9, u10, u11, u12, u13, u14, u15, u16, u17, u18, u19, u20, u21, u22, u23], defers := [] } ∧ k ≤ l.length ∧ r.data.toList = l.drop k ∧ m = -(natVal (l.take k) : Int) ∧ -9223372036854775808 ≤ m

theorem tdiv10 (x : Int) (h : x ≤ 0) : x.tdiv 10 = -((-x) / 10) := by
  rw [show x = -(-x) by omega, Int.neg_tdiv, Int.tdiv_eq_ediv_of_nonneg (by omega)]
  simp

theorem val_dig (c : UInt8) : val digL c < 10 := by have := index_lt digL c; have h : digL.length = 10 := rfl; unfold val; omega

set_option maxRecDepth 100000 in
set_option maxHeartbeats 400000 in
/-- negated: the number of plain digits, below 0. -/
theorem negated_any (s : ByteArray) (l : List UInt8) (w : World) (hl : s.data.toList = l) (hll : l.length ≤ 1048576) (hall : allIn digL l = true) :
    Calls Tryz.prog 54 #[.string s] w fun e w' => ((natVal l ≤ 9223372036854775808 ∧ e = .returned (.tuple #[.int .i64 (-(natVal l : Int)), .bool true])) ∨ (9223372036854775808 < natVal l ∧ e = .returned (.tuple #[.int .i64 0, .bool false]))) ∧ w' = w := by
  have HL := hid hl
  have HA := hid hall
  clear hl hall
  go_enter Tryz.func54, Tryz.ntmps54
  go_wp2
  refine wp_scope_label 0 (negJ l w) (fun a' _ => strlen (a'.tmps.getD 0 undef)) rfl ?first ?pass
  case first =>
    intro hy
    go_wp2
    go_step3
    simp only [Exit.then]
    exact (‹∀ a w, Code.wp _ _ _ a w → _› : ∀ a w, Code.wp Tryz.prog _ _ a w → _) _ _ (hy _ _ ⟨rfl, 0, s, 0, _, _, _, _, _, _, _, _, _, _, _, _, _, _, _, _, _, _, _, rfl, Nat.zero_le _, HL.out, rfl, by decide⟩)
  case pass =>
    rintro a' w' ⟨rfl, k, r, m, u5, u6, u7, u8, u9, u10, u11, u12, u13, u14, u15, u16, u17, u18, u19, u20, u21, u22, u23, rfl, hk, hr, hm, hm1⟩
    have hrs : r.size = l.length - k := by
      have := congrArg List.length hr
      rw [List.length_drop] at this
      rw [← this, size_list]
    have HR := hid hr
    have HM := hid hm
    have HRS := hid hrs
    have hrb : r.size ≤ 1048576 := by omega
    have hm0 : m ≤ 0 := by omega
    clear hr hrs hm
    by_cases hlt : k < l.length
    · have hpos : 0 < r.size := by rw [HRS.out]; omega
      have hpos' : (0 : Int) < (r.size : Int) := by omega
      have hne0 : ((r.size : Int) == 0) = false := beq_eq_false_iff_ne.2 (by omega)
      have hc : r[0] = l[k] := by
        rw [at_list r 0 hpos, HR.out]
        simp [List.getD, List.getElem?_drop, List.getElem?_eq_getElem hlt]
      have hv : 0 ≤ Lib.indexByte digL l[k] := by
        have := HA.out
        unfold allIn at this
        rw [List.all_eq_true] at this
        simpa using this l[k] (List.getElem_mem hlt)
      have hv2 := val_eq digL l[k] hv
      have hd9 := val_dig l[k]
      obtain ⟨d, HD⟩ : ∃ d : Int, Hid ((val digL l[k] : Int) = d) := ⟨_, hid rfl⟩
      rw [HD.out] at hv2
      have hd0 : 0 ≤ d := by have := HD.out; omega
      have hd1 : d ≤ 9 := by have := HD.out; omega
      obtain ⟨c, HC⟩ : ∃ c, Hid (l[k] = c) := ⟨_, hid rfl⟩
      rw [HC.out] at hc hv2
      clear hv hd9
      have hw : ∀ w, Calls Tryz.prog 50 #[.int .u8 c.toNat, .string ⟨digL.toArray⟩] w fun e w' => e = .returned (.int .i64 d) ∧ w' = w := fun w => by
        have := worth_any c.toNat ⟨digL.toArray⟩ w
        rw [show ((c.toNat : Int)).toNat.toUInt8 = c by simp, hv2] at this
        exact this
      have HW := hid hw
      clear hw hv2
      go_wp2_with (go_at_call 50; refine (HW.out _).mono ?_; rintro e w' ⟨rfl, hw⟩; have hw' := hw.symm; clear hw; subst hw')
      · rename_i h
        rw [tdiv10 _ (by omega)] at h
        simp only [Exit.jump]
        go_ret2
        refine ⟨.inr ⟨?_, rfl⟩, rfl⟩
        have h1 := natVal_take_le l (k + 1)
        rw [List.take_succ_eq_append_getElem hlt, natVal_snoc] at h1
        have h2 := HM.out
        have h3 := HD.out
        omega
      · rename_i h
        rw [tdiv10 _ (by omega)] at h
        have e1 : wrap64 (wrap64 (m * 10) - d) = m * 10 - d := by
          have e0 : wrap64 (m * 10) = m * 10 := by unfold wrap64; omega
          rw [e0]; unfold wrap64; omega
        rw [e1]
        go_step3
        refine ⟨rfl, ⟨rfl, k + 1, _, _, _, _, _, _, _, _, _, _, _, _, _, _, _, _, _, _, _, _, _, rfl, hlt, ?_, ?_, by omega⟩, ?_⟩
        · rw [Lib.extract_to_end, HR.out, List.drop_drop]
        · rw [List.take_succ_eq_append_getElem hlt, natVal_snoc]
          have h2 := HM.out
          have h3 := HD.out
          omega
        · simp [strlen, ByteArray.size_extract]
          omega
    · have he : k = l.length := by omega
      subst he
      have h0 : ((r.size : Int) == 0) = true := beq_iff_eq.2 (by have := HRS.out; omega)
      go_wp2
      simp only [Exit.jump]
      go_ret2
      have h2 := HM.out
      rw [List.take_length] at h2
      refine ⟨.inl ⟨by omega, ?_⟩, rfl⟩
      rw [← h2]
      rfl

/-- Plain digits, without a needless 0. -/
def plainB (l : List UInt8) : Bool := decide (0 < l.length) && !(decide (1 < l.length) && l.getD 0 0 == 48) && allIn digL l

set_option maxRecDepth 100000 in
set_option maxHeartbeats 400000 in
/-- plainDigits: is the text a decimal of a number that is not below 0? -/
theorem plainDigits_any (s : ByteArray) (l : List UInt8) (w : World) (hl : s.data.toList = l) (hll : l.length ≤ 1048576) :
    Calls Tryz.prog 53 #[.string s] w fun e w' => e = .returned (.bool (plainB l)) ∧ w' = w := by
  have hsz : s.size = l.length := by rw [← hl, size_list]
  have hsm : s.size ≤ maxLen := by unfold maxLen; omega
  have hsm' : s.size ≤ 1048576 := by omega
  have HL := hid hl
  have HSZ := hid hsz
  clear hl hsz
  have HA := hid (fun w => by have := allOf_any s ⟨digL.toArray⟩ w hsm; rw [HL.out] at this; exact this : ∀ w, Calls Tryz.prog 46 #[.string s, .string ⟨digL.toArray⟩] w fun e w' => e = .returned (.bool (allIn digL l)) ∧ w' = w)
  by_cases h0 : s.size = 0
  · have q : ((s.size : Int) == 0) = true := beq_iff_eq.2 (by omega)
    have hp : plainB l = false := by
      have : l.length = 0 := by have := HSZ.out; omega
      simp [plainB, this]
    have HP := hid hp
    clear h0 hp
    go_enter Tryz.func53, Tryz.ntmps53
    go_wp2
    go_ret
    exact ⟨by rw [HP.out]; rfl, rfl⟩
  · have q : ((s.size : Int) == 0) = false := beq_eq_false_iff_ne.2 (by omega)
    have hpos : 0 < s.size := by omega
    have hpos' : (0 : Int) < (s.size : Int) := by omega
    have hx := at_list s 0 hpos
    rw [HL.out] at hx
    obtain ⟨c, HC⟩ : ∃ c, Hid (l.getD 0 0 = c) := ⟨_, hid rfl⟩
    rw [HC.out] at hx
    by_cases h1 : 1 < s.size
    · have h1' : (1 : Int) < (s.size : Int) := by omega
      by_cases h4 : c = 48
      · have q4 : ((c.toNat : Int) == 48) = true := by rw [h4]; rfl
        have hp : plainB l = false := by
          have : 1 < l.length := by have := HSZ.out; omega
          unfold plainB
          rw [HC.out, h4]
          simp [this]
        have HP := hid hp
        clear h4 hp
        go_enter Tryz.func53, Tryz.ntmps53
        go_wp2
        go_ret
        exact ⟨by rw [HP.out]; rfl, rfl⟩
      · have q4 : ((c.toNat : Int) == 48) = false := by
          rw [beq_eq_false_iff_ne]; intro h; apply h4; apply UInt8.toNat_inj.1; show c.toNat = 48; omega
        have hp : plainB l = allIn digL l := by
          have : 1 < l.length := by have := HSZ.out; omega
          unfold plainB
          rw [HC.out]
          simp [this, h4, show 0 < l.length by omega]
        have HP := hid hp
        clear h4 hp
        go_enter Tryz.func53, Tryz.ntmps53
        go_wp2_with (go_at_call 46; refine (HA.out _).mono ?_; rintro e w' ⟨rfl, hw⟩; have hw' := hw.symm; clear hw; subst hw')
        go_ret
        exact ⟨by rw [HP.out]; rfl, rfl⟩
    · have h1' : ¬ ((1 : Int) < (s.size : Int)) := by omega
      have hp : plainB l = allIn digL l := by
        have h5 : ¬ 1 < l.length := by have := HSZ.out; omega
        have h6 : 0 < l.length := by have := HSZ.out; omega
        simp [plainB, h5, h6]
      have HP := hid hp
      clear hp
      go_enter Tryz.func53, Tryz.ntmps53
      go_wp2_with (go_at_call 46; refine (HA.out _).mono ?_; rintro e w' ⟨rfl, hw⟩; have hw' := hw.symm; clear hw; subst hw')
      go_ret
      exact ⟨by rw [HP.out]; rfl, rfl⟩

/-- What Number10 answers: the number and the error. -/
def num10 (b : Bool) (d : List UInt8) : Int × Nat :=
  if plainB d = true ∧ ¬ (b = true ∧ d = [48]) then
    (if natVal d ≤ 9223372036854775808 ∧ ¬ (b = false ∧ natVal d = 9223372036854775808) then (if b = true then (-(natVal d : Int), 0) else ((natVal d : Int), 0)) else (0, 14))
  else (0, 13)

theorem plainB_all (d : List UInt8) (h : plainB d = true) : allIn digL d = true := by
  unfold plainB at h
  simp only [Bool.and_eq_true] at h
  exact h.2

set_option maxRecDepth 100000 in
set_option maxHeartbeats 400000 in
theorem number10_core (s D : ByteArray) (b : Bool) (d : List UInt8) (w : World) (hd : D.data.toList = d) (hdl : d.length ≤ 1048576)
    (hcut : ∀ w, Calls Tryz.prog 52 #[.string s, .string ⟨#[45]⟩] w fun e w' => e = .returned (.tuple #[.string D, .bool b]) ∧ w' = w) :
    Calls Tryz.prog 32 #[.string s] w fun e w' => e = .returned (.tuple #[.int .i64 (num10 b d).1, .int .i64 (num10 b d).2]) ∧ w' = w := by
  have HCUT := hid hcut
  have HP := hid (fun w => plainDigits_any D d w hd hdl)
  have HDD := hid hd
  clear hcut hd
  by_cases h1 : plainB d = true
  · have HG0 := hid (fun w => negated_any D d w HDD.out hdl (plainB_all d h1))
    have H1 := hid h1
    rw [h1] at HP
    clear h1
    by_cases h3 : natVal d ≤ 9223372036854775808
    · obtain ⟨m, HM⟩ : ∃ m : Int, Hid (-(natVal d : Int) = m) := ⟨_, hid rfl⟩
      have HG : Hid (∀ w, Calls Tryz.prog 54 #[.string D] w fun e w' => e = .returned (.tuple #[.int .i64 m, .bool true]) ∧ w' = w) := hid fun w => (HG0.out w).mono fun e w' ⟨h, hw⟩ => by
        rcases h with ⟨_, h⟩ | ⟨h, _⟩
        · rw [HM.out] at h; exact ⟨h, hw⟩
        · omega
      have hm0 : m ≤ 0 := by have := HM.out; omega
      have hm1 : -9223372036854775808 ≤ m := by have := HM.out; omega
      have H3 := hid h3
      clear HG0 h3
      cases b with
      | true =>
        by_cases h4 : d = [48]
        · have q : (D.toList == [48]) = true := by rw [Lib.toList_data, HDD.out, h4]; rfl
          have HR : Hid (num10 true d = (0, 13)) := by
            unfold num10
            rw [if_neg (by simp [h4])]; exact rfl
          clear h4
          go_enter Tryz.func32, Tryz.ntmps32
          go_wp2_with (first | (go_at_call 52; refine (HCUT.out _).mono ?_; rintro e w' ⟨rfl, hw⟩; have hw' := hw.symm; clear hw; subst hw') | (go_at_call 53; refine (HP.out _).mono ?_; rintro e w' ⟨rfl, hw⟩; have hw' := hw.symm; clear hw; subst hw') | (go_at_call 54; refine (HG.out _).mono ?_; rintro e w' ⟨rfl, hw⟩; have hw' := hw.symm; clear hw; subst hw'))
          go_ret2
          rw [HR.out]
          exact ⟨rfl, rfl⟩
        · have q : (D.toList == [48]) = false := by rw [Lib.toList_data, HDD.out]; exact beq_eq_false_iff_ne.2 h4
          have HR : Hid (num10 true d = (-(natVal d : Int), 0)) := by
            unfold num10
            rw [if_pos ⟨H1.out, by simp [h4]⟩, if_pos ⟨H3.out, by simp⟩, if_pos rfl]; exact rfl
          clear h4
          go_enter Tryz.func32, Tryz.ntmps32
          go_wp2_with (first | (go_at_call 52; refine (HCUT.out _).mono ?_; rintro e w' ⟨rfl, hw⟩; have hw' := hw.symm; clear hw; subst hw') | (go_at_call 53; refine (HP.out _).mono ?_; rintro e w' ⟨rfl, hw⟩; have hw' := hw.symm; clear hw; subst hw') | (go_at_call 54; refine (HG.out _).mono ?_; rintro e w' ⟨rfl, hw⟩; have hw' := hw.symm; clear hw; subst hw'))
          go_ret2
          rw [HR.out, HM.out]
          exact ⟨rfl, rfl⟩
      | false =>
        have HR : Hid (num10 false d = if natVal d = 9223372036854775808 then (0, 14) else ((natVal d : Int), 0)) := by
          unfold num10
          rw [if_pos ⟨H1.out, by simp⟩]
          by_cases e : natVal d = 9223372036854775808
          · rw [if_neg (by simp [e]), if_pos e]; exact rfl
          · rw [if_pos ⟨H3.out, by simp [e]⟩, if_neg (by simp), if_neg e]; exact rfl
        by_cases h5 : m = -9223372036854775808
        · have q : (m == -9223372036854775808) = true := beq_iff_eq.2 h5
          have H5 := hid h5
          clear h5
          go_enter Tryz.func32, Tryz.ntmps32
          go_wp2_with (first | (go_at_call 52; refine (HCUT.out _).mono ?_; rintro e w' ⟨rfl, hw⟩; have hw' := hw.symm; clear hw; subst hw') | (go_at_call 53; refine (HP.out _).mono ?_; rintro e w' ⟨rfl, hw⟩; have hw' := hw.symm; clear hw; subst hw') | (go_at_call 54; refine (HG.out _).mono ?_; rintro e w' ⟨rfl, hw⟩; have hw' := hw.symm; clear hw; subst hw'))
          go_ret2
          rw [HR.out, if_pos (by have := HM.out; have := H5.out; omega)]
          exact ⟨rfl, rfl⟩
        · have q : (m == -9223372036854775808) = false := beq_eq_false_iff_ne.2 h5
          have H5 := hid h5
          clear h5
          go_enter Tryz.func32, Tryz.ntmps32
          go_wp2_with (first | (go_at_call 52; refine (HCUT.out _).mono ?_; rintro e w' ⟨rfl, hw⟩; have hw' := hw.symm; clear hw; subst hw') | (go_at_call 53; refine (HP.out _).mono ?_; rintro e w' ⟨rfl, hw⟩; have hw' := hw.symm; clear hw; subst hw') | (go_at_call 54; refine (HG.out _).mono ?_; rintro e w' ⟨rfl, hw⟩; have hw' := hw.symm; clear hw; subst hw'))
          go_ret2
          rw [HR.out, if_neg (by have := HM.out; have := H5.out; omega)]
          have e : (natVal d : Int) = wrap64 (-m) := by have := HM.out; have := H5.out; unfold wrap64; omega
          rw [e]
          exact ⟨rfl, rfl⟩
    · have HG : Hid (∀ w, Calls Tryz.prog 54 #[.string D] w fun e w' => e = .returned (.tuple #[.int .i64 0, .bool false]) ∧ w' = w) := hid fun w => (HG0.out w).mono fun e w' ⟨h, hw⟩ => by
        rcases h with ⟨h, _⟩ | ⟨_, h⟩
        · omega
        · exact ⟨h, hw⟩
      have H3 := hid h3
      clear HG0 h3
      cases b with
      | true =>
        by_cases h4 : d = [48]
        · exfalso
          apply H3.out
          rw [h4]
          decide
        · have q : (D.toList == [48]) = false := by rw [Lib.toList_data, HDD.out]; exact beq_eq_false_iff_ne.2 h4
          have HR : Hid (num10 true d = (0, 14)) := by
            unfold num10
            rw [if_pos ⟨H1.out, by simp [h4]⟩, if_neg (fun h => H3.out h.1)]; exact rfl
          clear h4
          go_enter Tryz.func32, Tryz.ntmps32
          go_wp2_with (first | (go_at_call 52; refine (HCUT.out _).mono ?_; rintro e w' ⟨rfl, hw⟩; have hw' := hw.symm; clear hw; subst hw') | (go_at_call 53; refine (HP.out _).mono ?_; rintro e w' ⟨rfl, hw⟩; have hw' := hw.symm; clear hw; subst hw') | (go_at_call 54; refine (HG.out _).mono ?_; rintro e w' ⟨rfl, hw⟩; have hw' := hw.symm; clear hw; subst hw'))
          go_ret2
          rw [HR.out]
          exact ⟨rfl, rfl⟩
      | false =>
        have HR : Hid (num10 false d = (0, 14)) := by
          unfold num10
          rw [if_pos ⟨H1.out, by simp⟩, if_neg (fun h => H3.out h.1)]; exact rfl
        go_enter Tryz.func32, Tryz.ntmps32
        go_wp2_with (first | (go_at_call 52; refine (HCUT.out _).mono ?_; rintro e w' ⟨rfl, hw⟩; have hw' := hw.symm; clear hw; subst hw') | (go_at_call 53; refine (HP.out _).mono ?_; rintro e w' ⟨rfl, hw⟩; have hw' := hw.symm; clear hw; subst hw') | (go_at_call 54; refine (HG.out _).mono ?_; rintro e w' ⟨rfl, hw⟩; have hw' := hw.symm; clear hw; subst hw'))
        go_ret2
        rw [HR.out]
        exact ⟨rfl, rfl⟩
  · have h1' : plainB d = false := by simpa using h1
    rw [h1'] at HP
    have HR : Hid (num10 b d = (0, 13)) := by
      unfold num10
      rw [if_neg (fun h => h1 h.1)]; exact rfl
    clear h1 h1'
    go_enter Tryz.func32, Tryz.ntmps32
    go_wp2_with (first | (go_at_call 52; refine (HCUT.out _).mono ?_; rintro e w' ⟨rfl, hw⟩; have hw' := hw.symm; clear hw; subst hw') | (go_at_call 53; refine (HP.out _).mono ?_; rintro e w' ⟨rfl, hw⟩; have hw' := hw.symm; clear hw; subst hw') | (go_at_call 54; refine (HP.out _).mono ?_; rintro e w' ⟨rfl, hw⟩; have hw' := hw.symm; clear hw; subst hw'))
    go_ret2
    rw [HR.out]
    exact ⟨rfl, rfl⟩

/-- Number10 at every text. -/
theorem number10_any (s : ByteArray) (l : List UInt8) (w : World) (hl : s.data.toList = l) (hll : l.length ≤ 1048576) :
    Calls Tryz.prog 32 #[.string s] w fun e w' => e = .returned (.tuple #[.int .i64 (num10 (Lib.hasPrefix l [45]) (Lib.trimPrefix l [45])).1, .int .i64 (num10 (Lib.hasPrefix l [45]) (Lib.trimPrefix l [45])).2]) ∧ w' = w := by
  subst hl
  refine number10_core s ⟨(Lib.trimPrefix s.data.toList [45]).toArray⟩ _ _ w rfl ?_ (fun w => Tryz.strings_CutPrefix s ⟨#[45]⟩ w)
  unfold Lib.trimPrefix
  split
  · rw [List.length_drop]; omega
  · exact hll

theorem below_grown (w : World) (k : Nat) (os : Array Obj) : Below w.heap.size w (Sort.grow (w.drewN k) os) :=
  ⟨rfl, rfl, rfl, by show w.heap.size ≤ (w.heap ++ os).size; rw [Array.size_append]; omega, fun i hi => by show (w.heap ++ os)[i]? = w.heap[i]?; exact Array.getElem?_append_left hi⟩

/-- Text10: the decimal of a number. -/
theorem text10_any (n : Int) (w : World) (h0 : -9223372036854775808 ≤ n) (h1 : n ≤ 9223372036854775807) (htab : Lib.TabIs Tryz.prog w "internal/strconv.uint64pow10" .u64 Lib.pow10Tab) :
    Calls Tryz.prog 11 #[.int .i64 n] w fun e w' => e = .returned (.string ⟨(Lib.itoa n).toArray⟩) ∧ Below w.heap.size w w' := by
  have HT := hid (Tryz.strconv_FormatInt_10 n h0 h1 w htab)
  clear htab h0 h1
  go_enter Tryz.func11, Tryz.ntmps11
  go_wp2_with (go_at_call 37; refine HT.out.mono ?_; rintro e w' ⟨rfl, k, os, hw⟩)
  go_ret
  refine ⟨rfl, ?_⟩
  subst hw
  exact below_grown w k os
end Go.Proofs.YtipjjhccbgbdiaaGreatDoor
