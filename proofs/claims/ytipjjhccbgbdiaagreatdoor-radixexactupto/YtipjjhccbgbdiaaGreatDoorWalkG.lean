/- The walks of radix's spareBits, readGroups, Bytes64. -/
import Derived.Test.YtipjjhccbgbdiaaGreatDoorWalkF
import Derived.Lib.Strings
import Derived.Lib.IndexBytes
namespace Go.Proofs.YtipjjhccbgbdiaaGreatDoor
open Go Go.RowKit
open Go.RowKit (wrap32 wrap64)

theorem hid {p : Prop} (h : p) : Hid p := h

/-- The spare bits of the last letter. -/
def spare (base l : List UInt8) : Nat := if l.length % 4 = 2 then val base (l.getLastD 0) % 16 else if l.length % 4 = 3 then val base (l.getLastD 0) % 4 else 0

theorem last_at (s : ByteArray) (h : 0 < s.size) : s[s.size - 1] = s.data.toList.getLastD 0 := by
  have hl : s.data.toList.length = s.size := by rw [Array.length_toList]; rfl
  have hne : s.data.toList ≠ [] := by intro e; rw [e] at hl; simp at hl; omega
  rw [List.getLastD_eq_getLast?, List.getLast?_eq_getElem?, hl, List.getElem?_eq_getElem (by omega)]
  rfl

theorem all_last (base s : List UInt8) (h : allIn base s = true) (hs : 0 < s.length) : 0 ≤ Lib.indexByte base (s.getLastD 0) := by
  unfold allIn at h
  rw [List.all_eq_true] at h
  have hne : s ≠ [] := by intro e; rw [e] at hs; simp at hs
  have := h (s.getLastD 0) (by rw [List.getLastD_eq_getLast?, List.getLast?_eq_some_getLast hne]; exact List.getLast_mem hne)
  simpa using this

set_option maxRecDepth 100000 in
set_option maxHeartbeats 400000 in
theorem spareBits_any (s base : ByteArray) (w : World) (hs : s.size ≤ maxLen) (hb : base.data.toList.length = 64) (hall : allIn base.data.toList s.data.toList = true) :
    Calls Tryz.prog 91 #[.string s, .string base] w fun e w' => e = .returned (.int .i64 (spare base.data.toList s.data.toList)) ∧ w' = w := by
  unfold maxLen at hs
  have hl : s.data.toList.length = s.size := by rw [Array.length_toList]; rfl
  have HA := hid hall
  clear hall
  have hr : s.size % 4 = 2 ∨ s.size % 4 = 3 ∨ (s.size % 4 = 0 ∨ s.size % 4 = 1) := by omega
  rcases hr with hr | hr | hr
  · have q2 : ((s.size : Int) % 4 == 2) = true := by simp; omega
    have e0 := val_eq base.data.toList (s.data.toList.getLastD 0) (all_last _ _ HA.out (by omega))
    have vl := val_lt base.data.toList (s.data.toList.getLastD 0) hb
    have e1 := and15 (val base.data.toList (s.data.toList.getLastD 0)) (by omega) (by omega)
    have hx : s[s.size - 1] = s.data.toList.getLastD 0 := last_at s (by omega)
    have HS : Hid (spare base.data.toList s.data.toList = val base.data.toList (s.data.toList.getLastD 0) % 16) := by unfold spare; rw [hl, if_pos hr]; exact rfl
    generalize val base.data.toList (s.data.toList.getLastD 0) = v at *
    generalize s.data.toList.getLastD 0 = c at *
    go_enter Tryz.func91, Tryz.ntmps91
    go_wp2_with (go_at_call 50; refine (worth_any _ _ _).mono ?_; rintro e w' ⟨rfl, hw⟩; have hw' := hw.symm; clear hw; subst hw')
    go_ret
    exact ⟨ret_int (by rw [HS.out]; omega), rfl⟩
  · have q2 : ((s.size : Int) % 4 == 2) = false := by simp; omega
    have q3 : ((s.size : Int) % 4 == 3) = true := by simp; omega
    have e0 := val_eq base.data.toList (s.data.toList.getLastD 0) (all_last _ _ HA.out (by omega))
    have vl := val_lt base.data.toList (s.data.toList.getLastD 0) hb
    have e1 := and3 (val base.data.toList (s.data.toList.getLastD 0)) (by omega) (by omega)
    have hx : s[s.size - 1] = s.data.toList.getLastD 0 := last_at s (by omega)
    have HS : Hid (spare base.data.toList s.data.toList = val base.data.toList (s.data.toList.getLastD 0) % 4) := by unfold spare; rw [hl, if_neg (by omega), if_pos hr]; exact rfl
    generalize val base.data.toList (s.data.toList.getLastD 0) = v at *
    generalize s.data.toList.getLastD 0 = c at *
    go_enter Tryz.func91, Tryz.ntmps91
    go_wp2_with (go_at_call 50; refine (worth_any _ _ _).mono ?_; rintro e w' ⟨rfl, hw⟩; have hw' := hw.symm; clear hw; subst hw')
    go_ret
    exact ⟨ret_int (by rw [HS.out]; omega), rfl⟩
  · have q2 : ((s.size : Int) % 4 == 2) = false := by simp; omega
    have q3 : ((s.size : Int) % 4 == 3) = false := by simp; omega
    have HS : Hid (spare base.data.toList s.data.toList = 0) := by unfold spare; rw [hl, if_neg (by omega), if_neg (by omega)]; exact rfl
    go_enter Tryz.func91, Tryz.ntmps91
    go_wp2
    go_ret
    exact ⟨ret_int (by rw [HS.out]; rfl), rfl⟩

theorem allIn_drop (base l : List UInt8) (k : Nat) (h : allIn base l = true) : allIn base (l.drop k) = true := by
  unfold allIn at *
  rw [List.all_eq_true] at *
  exact fun x hx => h x (List.mem_of_mem_drop hx)
theorem allIn_take (base l : List UInt8) (k : Nat) (h : allIn base l = true) : allIn base (l.take k) = true := by
  unfold allIn at *
  rw [List.all_eq_true] at *
  exact fun x hx => h x (List.mem_of_mem_take hx)

/-- The length of a string. -/
def strlen : Value → Nat | .string s => s.size | _ => 0

def groupsJ (base : ByteArray) (l : List UInt8) (B : Nat) (w : World) (a' : Act) (w' : World) : Prop :=
  Below B w w' ∧ ∃ (k : Nat) (r : ByteArray) (n : Nat) (ov u7 u8 u9 u10 u11 u12 u13 u14 u15 u16 u17 u18 u19 u20 u21 u22 u23 u24 u25 u26 u27 u28 u29 u30 u31 u32 : Value), a' = { tmps := #[.string r, .string base, undef, undef, .slice none 0 0, .int .i64 0, ov, u7, u8, u9, u10, u11, u12, u13, u14, u15, u16, u17, u18, u19, u20, u21, u22, u23, u24, u25, u26, u27, u28, u29, u30, u31, u32], defers := [] } ∧ k ≤ l.length ∧ (k < l.length → k % 4 = 0) ∧ r.data.toList = l.drop k ∧ n = (dec base.data.toList (l.take k)).length ∧ w'.ownsRow B 5 1 ov n (cb (dec base.data.toList (l.take k)))

set_option maxRecDepth 100000 in
set_option maxHeartbeats 400000 in
theorem readGroups_no (s base : ByteArray) (w : World) (hs : s.size ≤ maxLen) (hb : base.data.toList.length = 64) (hall : allIn base.data.toList s.data.toList = true) (hsp : spare base.data.toList s.data.toList ≠ 0) :
    Calls Tryz.prog 47 #[.string s, .string base] w fun e w' => e = .returned (.tuple #[.slice none 0 0, .int .i64 12]) ∧ w' = w := by
  have HA := hid hall
  clear hall
  have hne : ((spare base.data.toList s.data.toList : Int) != 0) = true := by simpa using hsp
  go_enter Tryz.func47, Tryz.ntmps47
  go_wp2
  go_step3
  go_wp2_with (go_at_call 91; refine (spareBits_any _ _ _ hs hb HA.out).mono ?_; rintro e w' ⟨rfl, hw⟩; have hw' := hw.symm; clear hw; subst hw')
  rw [Exit.noGoto_ret]
  go_ret2
  exact ⟨rfl, rfl⟩

set_option maxRecDepth 100000 in
set_option maxHeartbeats 400000 in
theorem readGroups_ok (s base : ByteArray) (l : List UInt8) (w : World) (hl : s.data.toList = l) (hll : l.length ≤ 1048576) (hl4 : l.length % 4 ≠ 1) (hb : base.data.toList.length = 64) (hall : allIn base.data.toList l = true) (hsp : spare base.data.toList l = 0) :
    Calls Tryz.prog 47 #[.string s, .string base] w fun e w' => ∃ v, e = .returned (.tuple #[v, .int .i64 0]) ∧ w'.ownsRow w.heap.size 5 1 v (dec base.data.toList l).length (cb (dec base.data.toList l)) ∧ Below w.heap.size w w' := by
  have HL := hid hl
  have hsz : s.size = l.length := by rw [← hl, Array.length_toList]; rfl
  clear hl
  have HA := hid hall
  clear hall
  have hne : ((spare base.data.toList s.data.toList : Int) != 0) = false := by rw [HL.out, hsp]; rfl
  have hsm : s.size ≤ maxLen := by unfold maxLen; omega
  have HSZ := hid hsz
  have hs1 : s.size ≤ 1048576 := by omega
  clear hsz hsp
  obtain ⟨inf, hi, hz0, hz1, hz2⟩ := info_parts Tryz.info5
  go_enter Tryz.func47, Tryz.ntmps47
  go_wp2
  refine wp_scope_label 0 (groupsJ base l w.heap.size w) (fun a' _ => strlen (a'.tmps.getD 0 undef)) rfl ?first ?pass
  case first =>
    intro hy
    go_wp2_with (first | (go_at_call 91; refine (spareBits_any _ _ _ hsm hb (by rw [HL.out]; exact HA.out)).mono ?_; rintro e w' ⟨rfl, hw⟩; have hw' := hw.symm; clear hw; subst hw') | (at_make; refine wpList_make_own _ rfl _ _ 58 rfl w.heap.size 5 inf (.int .u8 0) 1 Tryz.underlying58 hi hz0 hz1 _ _ _ (s.size * 3 / 4) rfl rfl (by omega) (by rw [hz2]; omega) (by unfold maxLen; omega) (Nat.le_refl _) ?_))
    intro w1 hown1 hg1
    go_wp2
    go_step3
    simp only [Exit.then]
    refine (‹∀ a w, Code.wp _ _ _ a w → _› : ∀ a w, Code.wp Tryz.prog _ _ a w → _) _ _ (hy _ _ ⟨(Below.refl _ _).grown hg1 (Nat.le_refl _) (fun k h => by cases h), 0, _, 0, _, _, _, _, _, _, _, _, _, _, _, _, _, _, _, _, _, _, _, _, _, _, _, _, _, _, _, rfl, Nat.zero_le _, fun h => rfl, HL.out, ?_, ?_⟩)
    · simp [dec]
    · simpa [dec, cb] using hown1
  case pass =>
    rintro a' w' ⟨hbel, k, r, n, ov, u7, u8, u9, u10, u11, u12, u13, u14, u15, u16, u17, u18, u19, u20, u21, u22, u23, u24, u25, u26, u27, u28, u29, u30, u31, u32, rfl, hk, hk4, hr, hn, hown⟩
    have hrs : r.size = l.length - k := by
      have := congrArg List.length hr
      rw [List.length_drop] at this
      rw [← this, Array.length_toList]; rfl
    have HR := hid hr
    have HRS := hid hrs
    clear hr hrs
    by_cases hlt : k < l.length
    · have hk4' := hk4 hlt
      have hpos : 0 < r.size := by rw [HRS.out]; omega
      have hne0 : ((r.size : Int) == 0) = false := beq_eq_false_iff_ne.2 (by omega)
      obtain ⟨m, hmin, hm1, hm3, hml, HMR⟩ : ∃ m : Nat, min (r.size : Int) 4 = (m : Int) ∧ 2 ≤ m ∧ m ≤ 4 ∧ m ≤ r.size ∧ Hid (m < 4 → m = r.size) := by
        have hrs2 : r.size = l.length - k := HRS.out
        have h2 : 2 ≤ r.size := by omega
        by_cases h3 : 4 ≤ r.size
        · exact ⟨4, by omega, by omega, by omega, by omega, by exact fun h => by omega⟩
        · exact ⟨r.size, by omega, h2, by omega, by omega, by exact fun h => rfl⟩
      have HN := hid hn
      clear hn
      have hnb : n ≤ 1099511627776 := by rw [HN.out, dec_length]; have := List.length_take_le k l; omega
      have hx1 : (r.extract 0 m).data.toList = (l.drop k).take m := by rw [Lib.extract_data, HR.out]; simp
      have hx2 : (r.extract m r.size).data.toList = l.drop (k + m) := by rw [Lib.extract_to_end, HR.out, List.drop_drop]
      have HX1 := hid hx1
      have HX2 := hid hx2
      clear hx1 hx2
      have hlm : ((l.drop k).take m).length = m := by rw [List.length_take, List.length_drop]; have := HRS.out; omega
      have HLM := hid hlm
      clear hlm
      go_wp2_with fail
      refine (appendBytes_any w.heap.size n ov _ (r.extract 0 m) base ((l.drop k).take m) w' hb HX1.out (by rw [HLM.out]; exact hm1) (by rw [HLM.out]; exact hm3) (allIn_take _ _ _ (allIn_drop _ _ _ HA.out)) hown hbel.size hnb).mono ?_
      rw [HLM.out]
      rintro e w2 ⟨v2, rfl, hown2, hg2⟩
      go_wp2
      go_step3
      refine ⟨rfl, ⟨hbel.grown hg2 hbel.size (fun j hj => (hown.lt j hj).1), k + m, _, n + (m - 1), _, _, _, _, _, _, _, _, _, _, _, _, _, _, _, _, _, _, _, _, _, _, _, _, _, _, _, rfl, ?_, ?_, HX2.out, ?_, ?_⟩, ?_⟩
      · have := HRS.out; omega
      · have := HRS.out; have := HMR.out; intro h; omega
      · rw [take_more, dec_append _ _ _ (by rw [List.length_take]; omega), List.length_append, ← HN.out, dec_length _ (List.take m _), HLM.out]
        omega
      · rw [take_more, dec_append _ _ _ (by rw [List.length_take]; omega), cb_append]
        exact hown2
      · simp [strlen, ByteArray.size_extract]
        omega
    · have he : k = l.length := by omega
      subst he
      have hr0 : r.size = 0 := by have := HRS.out; omega
      have h0 : ((r.size : Int) == 0) = true := beq_iff_eq.2 (by omega)
      have HN := hid hn
      clear hn hr0 hk4
      go_wp2
      simp only [Exit.jump]
      go_ret2
      refine ⟨ov, rfl, ?_, hbel⟩
      have := hown
      rw [HN.out, List.take_length] at this
      exact this
end Go.Proofs.YtipjjhccbgbdiaaGreatDoor
