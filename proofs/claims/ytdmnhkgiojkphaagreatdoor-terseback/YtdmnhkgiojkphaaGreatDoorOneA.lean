/- The walks of longer, num. -/
import Derived.Test.YtdmnhkgiojkphaaGreatDoorWalkN
import Derived.Test.YtdmnhkgiojkphaaGreatDoorWalkZ
namespace Go.Proofs.YtdmnhkgiojkphaaGreatDoor
open Go Go.RowKit Go.Maps
open Go.RowKit (wrap32 wrap64)

theorem bf_step (s : ByteArray) (i : Nat) (h : i + 1 < s.size) : bf (from_ s i) = (if s[i] = 92 ∧ (s[i + 1] = 98 ∨ s[i + 1] = 102) then 1 else 0) + bf (from_ s (i + 1)) := by
  rw [from_lt s i (by omega), from_lt s (i + 1) h, bf]
theorem bf_end (s : ByteArray) (i : Nat) (h : s.size ≤ i + 1) : bf (from_ s i) = 0 := by
  by_cases h0 : i < s.size
  · rw [from_lt s i h0, from_ge s (i + 1) h]; rfl
  · rw [from_ge s i (by omega)]; rfl
theorem bf_le (l : List UInt8) : bf l ≤ l.length := by
  induction l with
  | nil => simp [bf]
  | cons a r ih =>
    cases r with
    | nil => simp [bf]
    | cons b q =>
      rw [bf, List.length_cons]
      split <;> omega
set_option maxRecDepth 100000 in
set_option maxHeartbeats 1000000 in
theorem longer_any (s t : ByteArray) (w : World) (hs : s.size ≤ 1099511627776) :
    Calls Tryz.prog 36 #[.string s, .string t] w fun e w' => e = .returned (.bool (decide ((t.size : Int) ≤ (s.size : Int) + 4 * (bf s.data.toList : Int)))) ∧ w' = w := by
  have hb := bf_le s.data.toList
  rw [Array.length_toList] at hb
  have hb' : bf s.data.toList ≤ s.size := hb
  obtain ⟨X, HX⟩ : ∃ X, Hid (bf s.data.toList = X) := ⟨_, hid rfl⟩
  rw [HX.out] at hb' ⊢
  clear hb
  go_enter Tryz.func36, Tryz.ntmps36
  go_wp2_with fail
  go_loopw [5, 6] (fun nv iv wr => ∃ (m i : Nat), nv = .int .i64 m ∧ iv = .int .i64 i ∧ i ≤ s.size ∧ m ≤ i ∧ wr = w ∧ Hid (X = m + bf (from_ s i))) (fun _ iv _ => s.size - (intOf iv).toNat)
  case atStart => exact ⟨0, 0, rfl, rfl, Nat.zero_le _, Nat.le_refl _, rfl, hid (by rw [from_zeroR, HX.out]; omega)⟩
  case round =>
    obtain ⟨m, i, rfl, rfl, hi, hm, rfl, HB⟩ := hrel
    by_cases hlt : i + 1 < s.size
    · have hd : decide ((i : Int) + 1 < (s.size : Int)) = true := decide_eq_true (by omega)
      have q1 : (i : Int) < (s.size : Int) := by omega
      have q2 : i < s.size := by omega
      have q3 : (i : Int) + 1 < (s.size : Int) := by omega
      have q4 : ((i : Int) + 1).toNat = i + 1 := by omega
      have q5 : ¬ ((i : Int) + 1 < 0) := by omega
      have HS := hid (bf_step s i hlt)
      obtain ⟨a, ha⟩ : ∃ a, s[i] = a := ⟨_, rfl⟩
      obtain ⟨b, hb⟩ : ∃ b, s[i + 1] = b := ⟨_, rfl⟩
      rw [ha, hb] at HS
      have HBB := hid HS
      have hab := u8_bd a
      have hbb := u8_bd b
      by_cases a92 : a = 92
      · have e1 : ((a.toNat : Int) == 92) = true := by rw [a92]; rfl
        have e1n : (a.toNat == 92) = true := by rw [a92]; rfl
        have HA := hid a92
        clear a92
        by_cases b98 : b = 98
        · have e2 : ((b.toNat : Int) == 98) = true := by rw [b98]; rfl
          have e2n : (b.toNat == 98) = true := by rw [b98]; rfl
          have HBv := hid b98
          clear b98
          clear HBB
          go_wp2_with fail
          exact ⟨⟨m + 1, i + 1, rfl, rfl, by omega, by omega, by first | rfl | trivial, hid (by rw [HB.out, HS.out, if_pos ⟨HA.out, .inl HBv.out⟩]; omega)⟩, by simp only [intOf]; omega⟩
        · have e2 : ((b.toNat : Int) == 98) = false := beq_eq_false_iff_ne.2 (fun h => b98 (UInt8.toNat_inj.1 (by show b.toNat = 98; omega)))
          have e2n : (b.toNat == 98) = false := beq_eq_false_iff_ne.2 (fun h => b98 (UInt8.toNat_inj.1 h))
          have HBv := hid b98
          clear b98
          by_cases b102 : b = 102
          · have e3 : ((b.toNat : Int) == 102) = true := by rw [b102]; rfl
            have e3n : (b.toNat == 102) = true := by rw [b102]; rfl
            have HBw := hid b102
            clear b102
            clear HBB
            go_wp2_with fail
            exact ⟨⟨m + 1, i + 1, rfl, rfl, by omega, by omega, by first | rfl | trivial, hid (by rw [HB.out, HS.out, if_pos ⟨HA.out, .inr HBw.out⟩]; omega)⟩, by simp only [intOf]; omega⟩
          · have e3 : ((b.toNat : Int) == 102) = false := beq_eq_false_iff_ne.2 (fun h => b102 (UInt8.toNat_inj.1 (by show b.toNat = 102; omega)))
            have e3n : (b.toNat == 102) = false := beq_eq_false_iff_ne.2 (fun h => b102 (UInt8.toNat_inj.1 h))
            have HBw := hid b102
            clear b102
            clear HBB
            go_wp2_with fail
            exact ⟨⟨m, i + 1, rfl, rfl, by omega, by omega, by first | rfl | trivial, hid (by rw [HB.out, HS.out, if_neg (fun h => h.2.elim HBv.out HBw.out)]; omega)⟩, by simp only [intOf]; omega⟩
      · have e1 : ((a.toNat : Int) == 92) = false := beq_eq_false_iff_ne.2 (fun h => a92 (UInt8.toNat_inj.1 (by show a.toNat = 92; omega)))
        have e1n : (a.toNat == 92) = false := beq_eq_false_iff_ne.2 (fun h => a92 (UInt8.toNat_inj.1 h))
        have HA := hid a92
        clear a92
        clear HBB
        go_wp2_with fail
        exact ⟨⟨m, i + 1, rfl, rfl, by omega, by omega, by first | rfl | trivial, hid (by rw [HB.out, HS.out, if_neg (fun h => HA.out h.1)]; omega)⟩, by simp only [intOf]; omega⟩
    · have hd : decide ((i : Int) + 1 < (s.size : Int)) = false := decide_eq_false (by omega)
      have hm0 : X = m := by rw [HB.out, bf_end s i (by omega)]; omega
      subst hm0
      go_wp2_with fail
      go_ret
      exact ⟨rfl, rfl⟩
theorem num_any (w : World) (k : Int) : Calls Tryz.prog 14 #[.int .i64 k] w fun e w' => e = .returned (.int .i64 k) ∧ w' = w := by
  go_enter Tryz.func14, Tryz.ntmps14
  go_wp2_with fail
  go_ret
  exact ⟨rfl, rfl⟩
end Go.Proofs.YtdmnhkgiojkphaaGreatDoor
