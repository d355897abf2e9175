/- The walks of the words' functions: digitsAhead, isExponent, isNumber. -/
import Derived.Test.YtihbpkebknifdaaGreatDoorWalkA
import Derived.Lib.OthersKept
import Derived.Lib.ValidAsc
import Derived.BigCall
namespace Go.Proofs.YtihbpkebknifdaaGreatDoor
open Go Go.RowKit
open Go.RowKit (wrap32 wrap64)

theorem digs_cons (c : UInt8) (r : List UInt8) : digs (c :: r) = if isDig c = true then digs r + 1 else 0 := by
  unfold digs
  rw [List.takeWhile_cons]
  split <;> rfl
theorem digs_le (l : List UInt8) : digs l ≤ l.length := by
  unfold digs
  exact List.Sublist.length_le (List.takeWhile_sublist _)

set_option maxRecDepth 100000 in
set_option maxHeartbeats 1000000 in
theorem digitsAhead_any (s : ByteArray) (w : World) : Calls Tryz.prog 74 #[.string s] w fun e w' => e = .returned (.int .i64 (digs s.data.toList)) ∧ w.grownBy w' none := by
  go_enter Tryz.func74, Tryz.ntmps74
  go_wp2
  go_loopw [] (fun wr => ∃ pos : Nat, wr.heap[w.heap.size]? = some (.stringIter s pos) ∧ Below w.heap.size w wr ∧ pos ≤ s.size ∧ Hid (digs s.data.toList = pos + digs (from_ s pos))) (fun wr => s.size - wr.iterPos w.heap.size)
  case atStart =>
    refine ⟨0, ?_, (Below.refl _ w).alloc (Nat.le_refl _) _, Nat.zero_le _, hid (by unfold from_; simp)⟩
    have := World.iter_heap w s 0
    simpa using this
  case round =>
    obtain ⟨pos, hit, hbw, hps, HD⟩ := hrel
    have hsz : w.heap.size < wr.heap.size := (Array.getElem?_eq_some_iff.1 hit).1
    by_cases hp : pos < s.size
    · have hnx : ∀ ty, (Instr.next (.pointer (some ⟨w.heap.size, 0, none⟩)) true ty).run Tryz.prog wr = _ := fun ty => Lib.run_next_any_at wr w.heap.size s pos ty hit hp
      have hit2 := Lib.iterAt_heap wr w.heap.size s pos (pos + (Utf8.decode s pos).2) hit
      have hbw2 := Lib.below_iterAt hbw (k := w.heap.size) (by omega) s (pos + (Utf8.decode s pos).2)
      have HF : Hid (from_ s pos = s[pos] :: from_ s (pos + 1)) := from_lt s pos hp
      have hd := digs_cons s[pos] (from_ s (pos + 1))
      have hle := Lib.rune_le s pos
      cases hg : isDig s[pos] with
      | true =>
        have hb : 48 ≤ s[pos].toNat ∧ s[pos].toNat ≤ 57 := by unfold isDig at hg; simpa using hg
        have hdec := decode_ascii s pos hp (by omega)
        rw [hdec] at hnx hit2 hbw2
        rw [hg, if_pos rfl] at hd
        have HD2 := hid hd
        have HI := hid hit2
        have HB := hid hbw2
        have HI0 := hid hit
        clear hd hit2 hbw2 hdec hit
        have h1 : ¬ ((s[pos].toNat : Int) < 48) := by omega
        have h2 : ¬ (57 < (s[pos].toNat : Int)) := by omega
        go_wp2
        go_roundw
        case rel => 
          refine ⟨pos + 1, HI.out, HB.out, hp, ?_⟩
          refine hid ?_
          rw [HD.out, HF.out, HD2.out]
          omega
        case measure =>
          simp only [World.iterPos, HI.out, HI0.out]
          omega
      | false =>
        have hb : s[pos].toNat < 48 ∨ 57 < s[pos].toNat := by unfold isDig at hg; simp at hg; omega
        have hx : ((Utf8.decode s pos).1 : Int) < 48 ∨ 57 < ((Utf8.decode s pos).1 : Int) := by
          by_cases h128 : s[pos].toNat < 128
          · rw [decode_ascii s pos hp h128]
            simp only
            omega
          · have := (decode_high s pos hp (by omega)).1
            omega
        rw [hg, if_neg (by simp)] at hd
        have HD2 := hid hd
        have HB := hid hbw2
        clear hd hit2 hbw2 hit hb
        generalize (Utf8.decode s pos).2 = wd at *
        generalize (Utf8.decode s pos).1 = x at *
        rcases hx with hx | hx
        · go_wp2
          go_ret
          refine ⟨?_, gof HB.out none⟩
          rw [HD.out, HF.out, HD2.out]
          rfl
        · have hx1 : ¬ ((x : Int) < 48) := by omega
          go_wp2
          go_ret
          refine ⟨?_, gof HB.out none⟩
          rw [HD.out, HF.out, HD2.out]
          rfl
    · have hnx : ∀ ty, (Instr.next (.pointer (some ⟨w.heap.size, 0, none⟩)) true ty).run Tryz.prog wr = _ := fun ty => Lib.run_next_end_at wr w.heap.size s pos ty hit hp
      have HF : Hid (from_ s pos = []) := from_ge s pos (by omega)
      have hpe : pos = s.size := by omega
      have HP := hid hpe
      have HB := hid hbw
      clear hpe hbw
      go_wp2
      go_ret
      refine ⟨?_, gof HB.out none⟩
      rw [HD.out, HF.out, HP.out]
      rfl

theorem ext1 {s s1 : ByteArray} (h : s.extract 1 s.size = s1) : s1.data.toList = from_ s 1 ∧ s1.size = s.size - 1 := by
  subst h
  exact ⟨Lib.ext_list s 1, Lib.ext_size s 1⟩
theorem from_zero (s : ByteArray) : from_ s 0 = s.data.toList := by unfold from_; simp
theorem empty_iff (s : ByteArray) : s.toList.isEmpty = decide (s.size = 0) := by
  rw [ByteArray.toList_eq]
  by_cases h : s.size = 0
  · rw [decide_eq_true h]
    have : s.data.toList.length = 0 := by rw [Array.length_toList]; exact h
    simp [List.eq_nil_of_length_eq_zero this]
  · rw [decide_eq_false h]
    have : s.data.toList.length ≠ 0 := by rw [Array.length_toList]; exact h
    cases hl : s.data.toList with
    | nil => rw [hl] at this; simp at this
    | cons c r => rfl
theorem nil_iff (s : ByteArray) : s.toList = [] ↔ s.size = 0 := by
  rw [← List.isEmpty_iff, empty_iff]; simp
theorem isEmpty_data (s : ByteArray) : s.data.toList.isEmpty = decide (s.size = 0) := by rw [← ByteArray.toList_eq, empty_iff]
theorem length_data (s : ByteArray) : s.data.toList.length = s.size := by rw [Array.length_toList]; rfl
theorem noSign_of {s : ByteArray} (h : 0 < s.size) : noSign s.data.toList = if s[0].toNat = 43 ∨ s[0].toNat = 45 then from_ s 1 else s.data.toList := by
  have e : s.data.toList = s[0] :: from_ s 1 := by rw [← from_zero, from_lt s 0 h]
  rw [e]
  generalize s[0] = c
  generalize from_ s 1 = r
  by_cases h1 : c = 43
  · subst h1; rfl
  · by_cases h2 : c = 45
    · subst h2; rfl
    · rw [if_neg (by
        rintro (h | h)
        · exact h1 (by rw [← UInt8.toNat_inj]; exact h)
        · exact h2 (by rw [← UInt8.toNat_inj]; exact h))]
      unfold noSign
      split
      · rename_i h; injection h with h _; exact absurd h h1
      · rename_i h; injection h with h _; exact absurd h h2
      · rfl

theorem ret_bool {a b : Bool} (h : a = b) : Ending.returned (.bool a) = .returned (.bool b) := by rw [h]
theorem nat_beq (a b : Nat) : ((a : Int) == (b : Int)) = (a == b) := by
  by_cases h : a = b
  · subst h; simp
  · rw [beq_eq_false_iff_ne.2 h, beq_eq_false_iff_ne]; omega

set_option maxRecDepth 100000 in
set_option maxHeartbeats 1000000 in
theorem isExponent_any (s : ByteArray) (w : World) (hs : s.size ≤ 1099511627776) (h0 : 0 < s.size) : Calls Tryz.prog 76 #[.string s] w fun e w' => e = .returned (.bool (isExp s.data.toList)) ∧ w.grownBy w' none := by
  have hb := u8_bd s[0]
  have h0i : (0 : Int) < (s.size : Int) := by omega
  have hl : s.data.toList = s[0] :: from_ s 1 := by rw [← from_zero, from_lt s 0 h0]
  have hex : isExp s.data.toList = ((s[0] == 101 || s[0] == 69) && (!(noSign (from_ s 1)).isEmpty && digs (noSign (from_ s 1)) == (noSign (from_ s 1)).length)) := by rw [hl]; rfl
  obtain ⟨s1, e1⟩ : ∃ s1, s.extract 1 s.size = s1 := ⟨_, rfl⟩
  obtain ⟨hs1, hz1⟩ := ext1 e1
  rw [← hs1] at hex
  have b1 : ((s[0].toNat : Int) == 101) = (s[0] == 101) := u8_eq s[0] 101 (by omega)
  have b2 : ((s[0].toNat : Int) == 69) = (s[0] == 69) := u8_eq s[0] 69 (by omega)
  rw [← b1, ← b2] at hex
  have HX := hid hex
  have HZ := hid hz1
  clear hex hl hs1 hz1 b1 b2
  generalize hc : (s[0].toNat : Int) = c at *
  by_cases hce : c = 101 ∨ c = 69
  · have hcb : ((c == 101 || c == 69) : Bool) = true := by rcases hce with h | h <;> simp [h]
    rw [hcb, Bool.true_and] at HX
    by_cases hz : s1.size = 0
    · have g1 : s1.toList.isEmpty = true := by rw [empty_iff]; simp [hz]
      have g2 : s1.toList = [] := (nil_iff s1).2 hz
      have hfin : isExp s.data.toList = false := by
        have : s1.data.toList = [] := by rw [← ByteArray.toList_eq]; exact g2
        rw [HX.out, this]
        rfl
      have HF := hid hfin
      clear hfin HX hz
      rcases hce with rfl | rfl
      all_goals
        clear hcb
        go_enter Tryz.func76, Tryz.ntmps76
        go_wp2_with fail
        go_ret
        exact ⟨ret_bool (by rw [HF.out]), grefl _ _⟩
    · have g1 : s1.toList.isEmpty = false := by rw [empty_iff]; simp [hz]
      have g2 : ¬ s1.toList = [] := fun h => hz ((nil_iff s1).1 h)
      have hz0 : 0 < s1.size := by omega
      have hz1 : (0 : Int) < (s1.size : Int) := by omega
      have hz2 : s1.size ≤ 1099511627776 := by have := HZ.out; omega
      have hns := noSign_of hz0
      obtain ⟨s2, e2⟩ : ∃ s2, s1.extract 1 s1.size = s2 := ⟨_, rfl⟩
      obtain ⟨hs2, hz3⟩ := ext1 e2
      rw [← hs2] at hns
      have hdb := u8_bd s1[0]
      generalize hd : (s1[0].toNat : Int) = d at *
      have hdn : (s1[0].toNat = 43 ∨ s1[0].toNat = 45) ↔ (d = 43 ∨ d = 45) := by omega
      by_cases hd4 : d = 43 ∨ d = 45
      · rw [if_pos (hdn.2 hd4)] at hns
        rw [hns] at HX
        have HX2 : Hid (isExp s.data.toList = (!s2.data.toList.isEmpty && digs s2.data.toList == s2.data.toList.length)) := HX
        rw [isEmpty_data, length_data] at HX2
        have HY := hid hz3
        have H1 := hid hs2
        clear hns HX hdn hs2 hz3 hcb hz
        by_cases hq : s2.size = 0
        · have k1 : s2.toList.isEmpty = true := by rw [empty_iff]; simp [hq]
          have k2 : s2.toList = [] := (nil_iff s2).2 hq
          rw [hq] at HX2
          clear hq
          rcases hce with rfl | rfl <;> rcases hd4 with rfl | rfl
          all_goals
            go_enter Tryz.func76, Tryz.ntmps76
            go_wp2_with fail
            go_ret
            exact ⟨ret_bool (by rw [HX2.out]; rfl), grefl _ _⟩
        · have k1 : s2.toList.isEmpty = false := by rw [empty_iff]; simp [hq]
          have k2 : ¬ s2.toList = [] := fun h => hq ((nil_iff s2).1 h)
          rw [decide_eq_false hq] at HX2
          clear hq
          rcases hce with rfl | rfl <;> rcases hd4 with rfl | rfl
          all_goals
            go_enter Tryz.func76, Tryz.ntmps76
            go_wp2_with (go_at_call 74; refine (digitsAhead_any _ _).mono ?_; rintro e w1 ⟨rfl, hg⟩)
            go_ret
            exact ⟨ret_bool (by rw [HX2.out, nat_beq]; rfl), hg⟩
      · rw [if_neg (fun h => hd4 (hdn.1 h))] at hns
        rw [hns] at HX
        have HX2 : Hid (isExp s.data.toList = (!s1.data.toList.isEmpty && digs s1.data.toList == s1.data.toList.length)) := HX
        rw [isEmpty_data, length_data, decide_eq_false hz] at HX2
        have n1 : ¬ d = 43 := fun h => hd4 (.inl h)
        have n2 : ¬ d = 45 := fun h => hd4 (.inr h)
        have m1 : (d == 43) = false := by simp [n1]
        have m2 : (d == 45) = false := by simp [n2]
        clear hns HX hdn hs2 hz3 hcb hz e2 hd4
        rcases hce with rfl | rfl
        all_goals
          go_enter Tryz.func76, Tryz.ntmps76
          go_wp2_with (go_at_call 74; refine (digitsAhead_any _ _).mono ?_; rintro e w1 ⟨rfl, hg⟩)
          go_ret
          exact ⟨ret_bool (by rw [HX2.out, nat_beq]; rfl), hg⟩
  · have n1 : ¬ c = 101 := fun h => hce (.inl h)
    have n2 : ¬ c = 69 := fun h => hce (.inr h)
    have m1 : (c != 101) = true := by simp [n1]
    have m2 : (c != 69) = true := by simp [n2]
    have hcb : ((c == 101 || c == 69) : Bool) = false := by simp [n1, n2]
    rw [hcb, Bool.false_and] at HX
    clear hce hcb
    go_enter Tryz.func76, Tryz.ntmps76
    go_wp2_with fail
    go_ret
    exact ⟨ret_bool (by rw [HX.out]), grefl _ _⟩
end Go.Proofs.YtihbpkebknifdaaGreatDoor
