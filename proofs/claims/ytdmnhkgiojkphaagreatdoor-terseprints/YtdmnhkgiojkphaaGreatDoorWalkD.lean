/- The walks of isNumber, number, word. -/
import Derived.Test.YtdmnhkgiojkphaaGreatDoorWalkC
import Derived.Lib.AppendIntMem
namespace Go.Proofs.YtdmnhkgiojkphaaGreatDoor
open Go Go.RowKit
open Go.RowKit (wrap32 wrap64)

/-- What the package-level variables hold; they lie below block 8. -/
def tensName : String := "internal/strconv.uint64pow10"
def Glob (w : World) : Prop :=
  8 ≤ w.heap.size ∧ ∀ w', Below 8 w w' → Lib.Utf8Tabs 0 1 w' ∧ (∃ te pe, w'.cell? ⟨4, 0, none⟩ = some (.iface te pe)) ∧ (∃ te pe, w'.cell? ⟨5, 0, none⟩ = some (.iface te pe)) ∧ Lib.TabIs Tryz.prog w' tensName .u64 Lib.pow10Tab
theorem Glob.below {w w' : World} (h : Glob w) (hb : Below 8 w w') : Glob w' := ⟨Nat.le_trans h.1 hb.size, fun w2 h2 => h.2 w2 (hb.trans h2)⟩
theorem below_of_grown {w w' : World} {row : Option Nat} {B : Nat} (hg : w.grownBy w' row) (hB : B ≤ w.heap.size) (hr : ∀ k, row = some k → B ≤ k) : Below B w w' :=
  ⟨hg.os, hg.tape, hg.output, hg.size, fun k hk => hg.block k (by omega) (fun e => by have := hr k e.symm; omega)⟩
theorem Glob.grown {w w' : World} {row : Option Nat} (h : Glob w) (hg : w.grownBy w' row) (hr : ∀ k, row = some k → 8 ≤ k) : Glob w' := h.below (below_of_grown hg h.1 hr)
theorem Glob.here {w : World} (h : Glob w) : Lib.Utf8Tabs 0 1 w ∧ (∃ te pe, w.cell? ⟨4, 0, none⟩ = some (.iface te pe)) ∧ (∃ te pe, w.cell? ⟨5, 0, none⟩ = some (.iface te pe)) ∧ Lib.TabIs Tryz.prog w tensName .u64 Lib.pow10Tab := h.2 w (Below.refl _ _)

theorem prefix_one (l : List UInt8) (c : UInt8) : Lib.hasPrefix l [c] = (l.head? == some c) := by
  unfold Lib.hasPrefix
  cases l with
  | nil => rfl
  | cons a r =>
    show (c == a && [].isPrefixOf r) = (some a == some c)
    simp only [List.isPrefixOf, Bool.and_true]
    by_cases h : a = c
    · subst h; simp
    · rw [beq_eq_false_iff_ne.2 (fun e => h e.symm), show (some a == some c) = false by simp [h]]
theorem trim_one (l : List UInt8) (c : UInt8) : Lib.trimPrefix l [c] = if l.head? = some c then l.drop 1 else l := by
  unfold Lib.trimPrefix
  rw [prefix_one]
  by_cases h : l.head? = some c
  · rw [h]; simp
  · rw [if_neg h, if_neg (by simpa using h)]
theorem noMinus_eq (l : List UInt8) : Lib.trimPrefix l [45] = noMinus l := by
  rw [trim_one]
  cases l with
  | nil => rfl
  | cons a r =>
    by_cases h : a = 45
    · subst h; rfl
    · rw [if_neg (by simpa using h)]
      unfold noMinus
      split
      · rename_i e; injection e with e _; exact absurd e h
      · rfl
theorem trimMinus (s : ByteArray) (w : World) : Calls Tryz.prog 200 #[.string s, .string ⟨#[45]⟩] w fun e w' => e = .returned (.string (str (noMinus s.data.toList))) ∧ w' = w := by
  have := Tryz.strings_TrimPrefix s ⟨#[45]⟩ w
  rw [show (⟨#[45]⟩ : ByteArray).data.toList = [45] from rfl, noMinus_eq] at this
  exact this
/-- Behind a dot. -/
def noDot (l : List UInt8) : List UInt8 := if l.head? = some 46 then l.drop 1 else l
theorem cutDot (s : ByteArray) (w : World) : Calls Tryz.prog 202 #[.string s, .string ⟨#[46]⟩] w fun e w' => e = .returned (.tuple #[.string (str (noDot s.data.toList)), .bool (s.data.toList.head? == some 46)]) ∧ w' = w := by
  have := Tryz.strings_CutPrefix s ⟨#[46]⟩ w
  rw [show (⟨#[46]⟩ : ByteArray).data.toList = [46] from rfl, trim_one, prefix_one] at this
  exact this
theorem fracNum_eq (l : List UInt8) : fracNum l = if l.head? = some 46 then (if digs (noDot l) = 0 then false else restNum ((noDot l).drop (digs (noDot l)))) else restNum l := by
  unfold noDot
  cases l with
  | nil => rfl
  | cons a r =>
    by_cases h : a = 46
    · subst h; rfl
    · rw [if_neg (by simpa using h)]
      unfold fracNum
      split
      · rename_i e; injection e with e _; exact absurd e h
      · rfl
theorem restNum_eq (s : ByteArray) : restNum s.data.toList = (decide (s.size = 0) || isExp s.data.toList) := by
  unfold restNum
  rw [isEmpty_data]

theorem extk {s s1 : ByteArray} {k : Nat} (h : s.extract k s.size = s1) : s1.data.toList = s.data.toList.drop k ∧ s1.size = s.size - k := by
  subst h
  exact ⟨Lib.ext_list s k, Lib.ext_size s k⟩

set_option maxRecDepth 100000 in
set_option maxHeartbeats 1000000 in
theorem isNumber_any (s : ByteArray) (w : World) (hs : s.size ≤ 1099511627776) : Calls Tryz.prog 183 #[.string s] w fun e w' => e = .returned (.bool (isNum s.data.toList)) ∧ w.grownBy w' none := by
  obtain ⟨s1, e1⟩ : ∃ s1, str (noMinus s.data.toList) = s1 := ⟨_, rfl⟩
  have hnum : isNum s.data.toList = wholeNum s1.data.toList := by unfold isNum; rw [← e1, str_list]
  have hz1 : s1.size ≤ 1099511627776 := by
    rw [← e1, str_size]
    have : (noMinus s.data.toList).length ≤ s.data.toList.length := by
      rw [← noMinus_eq, trim_one]
      split
      · rw [List.length_drop]; omega
      · exact Nat.le_refl _
    rw [length_data] at this
    omega
  have hd1 := digs_le s1.data.toList
  rw [length_data] at hd1
  unfold wholeNum at hnum
  have HN := hid hnum
  have HE := hid e1
  clear hnum e1
  go_enter Tryz.func183, Tryz.ntmps183
  go_wp2_with fail
  refine (trimMinus s w).mono ?_
  rintro e w' ⟨rfl, h⟩
  rw [h, HE.out]
  clear h
  go_wp2_with fail
  refine (digitsAhead_any s1 w).mono ?_
  rintro e w1 ⟨rfl, hg1⟩
  obtain ⟨k, hk⟩ : ∃ k, digs s1.data.toList = k := ⟨_, rfl⟩
  rw [hk] at HN hd1 ⊢
  have HK := hid hk
  clear hk
  by_cases hk0 : k = 0
  · subst hk0
    rw [if_pos (.inl rfl)] at HN
    go_wp2_with fail
    go_ret
    exact ⟨ret_bool (by rw [HN.out]), hg1⟩
  · have hk0b : ((k : Int) == 0) = false := by simp; omega
    have hs10 : 0 < s1.size := by omega
    have hs10i : (0 : Int) < (s1.size : Int) := by omega
    have hbd := u8_bd s1[0]
    have hhead : s1.data.toList.head? = some s1[0] := by rw [← from_zero, from_lt s1 0 hs10]; rfl
    rw [hhead] at HN
    by_cases hz : 1 < k ∧ s1[0].toNat = 48
    · rw [if_pos (.inr ⟨hz.1, by congr 1; rw [← UInt8.toNat_inj]; exact hz.2⟩)] at HN
      have q1 : (1 : Int) < (k : Int) := by omega
      have q2 : ((s1[0].toNat : Int)) = 48 := by omega
      clear hhead hz
      go_wp2_with fail
      go_ret
      exact ⟨ret_bool (by rw [HN.out]), hg1⟩
    · rw [if_neg (by
        rintro (h | ⟨h, h'⟩)
        · exact hk0 h
        · injection h' with h'
          exact hz ⟨h, by rw [h']; rfl⟩)] at HN
      obtain ⟨s2, e2⟩ : ∃ s2, s1.extract k s1.size = s2 := ⟨_, rfl⟩
      obtain ⟨hl2, hz2⟩ := extk e2
      rw [← hl2, fracNum_eq] at HN
      have hzd : decide ((1 : Int) < (k : Int)) = false ∨ ((decide ((1 : Int) < (k : Int)) = true ∧ ((s1[0].toNat : Int) == 48) = false)) := by
        by_cases h : 1 < k
        · right
          refine ⟨by simp; omega, ?_⟩
          rw [beq_eq_false_iff_ne]
          intro h'
          exact hz ⟨h, by omega⟩
        · left; simp; omega
      obtain ⟨s3, e3⟩ : ∃ s3, str (noDot s2.data.toList) = s3 := ⟨_, rfl⟩
      have hl3 : noDot s2.data.toList = s3.data.toList := by rw [← e3, str_list]
      have hz3 : s3.size ≤ s2.size := by
        rw [← e3, str_size, ← length_data]
        unfold noDot
        split
        · rw [List.length_drop]; omega
        · exact Nat.le_refl _
      rw [hl3] at HN
      have hd3 := digs_le s3.data.toList
      rw [length_data] at hd3
      have HE3 := hid e3
      have HK1 := hid hk0
      have HZ := hid hz
      have HL2 := hid hl2
      have HL3 := hid hl3
      have hkle : (k : Int) ≤ (s1.size : Int) := by omega
      clear e3 hk0 hz hl2 hl3 hhead
      have hex : ∀ (t : ByteArray), t.size ≤ 1099511627776 → ∀ w, 0 < t.size → Calls Tryz.prog 203 #[.string t] w fun e w' => e = .returned (.bool (isExp t.data.toList)) ∧ w.grownBy w' none := fun t ht w h0 => isExponent_any t w ht h0
      have HEX := hid hex
      clear hex
      cases hdot : (s2.data.toList.head? == some 46) with
      | true =>
        have hdot' : s2.data.toList.head? = some 46 := by simpa using hdot
        rw [if_pos hdot'] at HN
        have HDT := hid hdot
        clear hdot hdot'
        obtain ⟨m, hm⟩ : ∃ m, digs s3.data.toList = m := ⟨_, rfl⟩
        rw [hm] at HN hd3
        have HM := hid hm
        clear hm
        obtain ⟨s4, e4⟩ : ∃ s4, s3.extract m s3.size = s4 := ⟨_, rfl⟩
        obtain ⟨hl4, hz4⟩ := extk e4
        rw [← hl4, restNum_eq] at HN
        have HL4 := hid hl4
        have hmle : (m : Int) ≤ (s3.size : Int) := by omega
        clear hl4
        by_cases hm0 : m = 0
        · rw [if_pos hm0] at HN
          subst hm0
          rcases hzd with hzd | ⟨hzd, hzd2⟩
          all_goals
            go_wp2_with (first
              | (go_at_call 202; refine (cutDot s2 _).mono ?_; rintro e w2 ⟨rfl, h2⟩; rw [h2, HE3.out, HDT.out])
              | (go_at_call 201; refine (digitsAhead_any s3 _).mono ?_; rintro e w2 ⟨rfl, hg2⟩; rw [HM.out]))
            go_ret
            exact ⟨ret_bool (by rw [HN.out]), gtrans hg1 ‹World.grownBy w1 _ none›⟩
        · rw [if_neg hm0] at HN
          have hm0b : ((m : Int) == 0) = false := by simp; omega
          by_cases h4 : s4.size = 0
          · have k1 : s4.toList.isEmpty = true := by rw [empty_iff]; simp [h4]
            have k2 : s4.toList = [] := (nil_iff s4).2 h4
            rw [decide_eq_true h4, Bool.true_or] at HN
            clear h4 hm0
            rcases hzd with hzd | ⟨hzd, hzd2⟩
            all_goals
              go_wp2_with (first
                | (go_at_call 202; refine (cutDot s2 _).mono ?_; rintro e w2 ⟨rfl, h2⟩; rw [h2, HE3.out, HDT.out])
                | (go_at_call 201; refine (digitsAhead_any s3 _).mono ?_; rintro e w2 ⟨rfl, hg2⟩; rw [HM.out]))
              go_ret
              exact ⟨ret_bool (by rw [HN.out]), gtrans hg1 ‹World.grownBy w1 _ none›⟩
          · have k1 : s4.toList.isEmpty = false := by rw [empty_iff]; simp [h4]
            have k2 : ¬ s4.toList = [] := fun h => h4 ((nil_iff s4).1 h)
            rw [decide_eq_false h4, Bool.false_or] at HN
            have h40 : 0 < s4.size := by omega
            have h41 : s4.size ≤ 1099511627776 := by omega
            clear h4 hm0
            rcases hzd with hzd | ⟨hzd, hzd2⟩
            all_goals
              go_wp2_with (first
                | (go_at_call 202; refine (cutDot s2 _).mono ?_; rintro e w2 ⟨rfl, h2⟩; rw [h2, HE3.out, HDT.out])
                | (go_at_call 201; refine (digitsAhead_any s3 _).mono ?_; rintro e w2 ⟨rfl, hg2⟩; rw [HM.out])
                | (go_at_call 203; refine (HEX.out s4 h41 _ h40).mono ?_; rintro e w3 ⟨rfl, hg3⟩))
              go_ret
              exact ⟨ret_bool (by rw [HN.out]), gtrans hg1 (gtrans ‹World.grownBy w1 _ none› ‹World.grownBy _ _ none›)⟩
      | false =>
        have hdot' : ¬ s2.data.toList.head? = some 46 := by simpa using hdot
        rw [if_neg hdot', restNum_eq] at HN
        have HDT := hid hdot
        clear hdot hdot'
        by_cases h4 : s2.size = 0
        · have k1 : s2.toList.isEmpty = true := by rw [empty_iff]; simp [h4]
          have k2 : s2.toList = [] := (nil_iff s2).2 h4
          rw [decide_eq_true h4, Bool.true_or] at HN
          clear h4
          rcases hzd with hzd | ⟨hzd, hzd2⟩
          all_goals
            go_wp2_with (go_at_call 202; refine (cutDot s2 _).mono ?_; rintro e w2 ⟨rfl, h2⟩; rw [h2, HE3.out, HDT.out])
            go_ret
            exact ⟨ret_bool (by rw [HN.out]), hg1⟩
        · have k1 : s2.toList.isEmpty = false := by rw [empty_iff]; simp [h4]
          have k2 : ¬ s2.toList = [] := fun h => h4 ((nil_iff s2).1 h)
          rw [decide_eq_false h4, Bool.false_or] at HN
          have h40 : 0 < s2.size := by omega
          have h41 : s2.size ≤ 1099511627776 := by omega
          clear h4
          rcases hzd with hzd | ⟨hzd, hzd2⟩
          all_goals
            go_wp2_with (first
              | (go_at_call 202; refine (cutDot s2 _).mono ?_; rintro e w2 ⟨rfl, h2⟩; rw [h2, HE3.out, HDT.out])
              | (go_at_call 203; refine (HEX.out s2 h41 _ h40).mono ?_; rintro e w3 ⟨rfl, hg3⟩))
            go_ret
            exact ⟨ret_bool (by rw [HN.out]), gtrans hg1 ‹World.grownBy w1 _ none›⟩
end Go.Proofs.YtdmnhkgiojkphaaGreatDoor
