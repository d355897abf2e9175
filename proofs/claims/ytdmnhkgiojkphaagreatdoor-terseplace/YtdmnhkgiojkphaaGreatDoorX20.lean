/- The walks of unusedAreZero, checkAlone, check, Check. -/
import Derived.Test.YtdmnhkgiojkphaaGreatDoorX19
namespace Go.Proofs.YtdmnhkgiojkphaaGreatDoor
open Go Go.RowKit Go.Maps
open Go.RowKit (wrap32 wrap64)

theorem len0 (n : Nat) : ((n == 0) = true ∧ ((n : Int) == 0) = true) ∨ ((n == 0) = false ∧ ((n : Int) == 0) = false) := by
  by_cases h : n = 0
  · subst h; exact .inl ⟨rfl, rfl⟩
  · exact .inr ⟨beq_eq_false_iff_ne.2 h, beq_eq_false_iff_ne.2 (by omega)⟩
theorem text0 (s : ByteArray) : ((s.size == 0) = true ∧ (s.toList == []) = true ∧ s.toList.isEmpty = true) ∨ ((s.size == 0) = false ∧ (s.toList == []) = false ∧ s.toList.isEmpty = false) := by
  have e := empty_iff s
  by_cases h : s.size = 0
  · have h2 : s.toList = [] := (nil_iff s).2 h
    exact .inl ⟨by simp [h], by rw [h2]; rfl, by rw [h2]; rfl⟩
  · have h2 : s.toList ≠ [] := fun hh => h ((nil_iff s).1 hh)
    refine .inr ⟨by simp [h], ?_, ?_⟩
    · cases hl : s.toList with
      | nil => exact absurd hl h2
      | cons a r => rfl
    · rw [e]; simp [h]
theorem nz (n : Int) : (n == 0) = true ∨ (n == 0) = false := by cases (n == 0) <;> simp

/-- What unusedAreZero tells. -/
def spareV (K : Int) (f : Bool) (n : Int) (s : ByteArray) (KN A : Nat) : Bool := (!f || K == 2) && (n == 0 || K == 3) && (s.size == 0 || K == 4) && (KN == 0 || K == 6) && (A == 0 || hasItems K)

set_option maxRecDepth 100000 in
set_option maxHeartbeats 4000000 in
theorem unused2 (w : World) (f : Bool) (n : Int) (s : ByteArray) (ka ia : Option Addr) (KN kc A ic : Nat) :
    Calls Tryz.prog 135 #[.agg #[.int .i64 2, .bool f, .int .i64 n, .string s, .slice ka KN kc, .slice ia A ic]] w fun e w' => e = .returned (.bool (spareV 2 f n s KN A)) ∧ w.grownBy w' none := by
  have g0 : w.grownBy (w.alloc (.cells #[.int .i64 2, .bool f, .int .i64 n, .string s, .slice ka KN kc, .slice ia A ic] 26)) none := galloc _ _ none
  obtain ⟨W0, hW0⟩ : ∃ W0, w.alloc (.cells #[.int .i64 2, .bool f, .int .i64 n, .string s, .slice ka KN kc, .slice ia A ic] 26) = W0 := ⟨_, rfl⟩
  have c0 := boxed w (.int .i64 2) (.bool f) (.int .i64 n) (.string s) (.slice ka KN kc) (.slice ia A ic)
  rw [hW0] at c0 g0
  have HG0 := hid g0
  obtain ⟨⟨x0, x1, x2, x3, x4, x5⟩, xf⟩ := cells6 c0
  have HI := hid (hasItems_any W0 2)
  obtain ⟨V, HV⟩ : ∃ V, Hid (spareV 2 f n s KN A = V) := ⟨_, hid rfl⟩
  rw [HV.out]
  unfold spareV at HV
  clear c0 g0
  cases f with
  | false =>
    rcases nz n with h2 | h2
    · rcases text0 s with ⟨h3, h3b, h3c⟩ | ⟨h3, h3b, h3c⟩
      · rcases len0 KN with ⟨h4b, h4c⟩ | ⟨h4b, h4c⟩
        · rcases len0 A with ⟨h5b, h5c⟩ | ⟨h5b, h5c⟩
          · go_enter Tryz.func135, Tryz.ntmps135
            go_wp2_with (go_at_call 134; refine HI.out.mono ?_; rintro e w2 ⟨rfl, rfl⟩)
            go_ret
            exact ⟨by rw [← HV.out]; simp [h2, h3, h4b, h5b], HG0.out⟩
          · go_enter Tryz.func135, Tryz.ntmps135
            go_wp2_with (go_at_call 134; refine HI.out.mono ?_; rintro e w2 ⟨rfl, rfl⟩)
            go_ret
            exact ⟨by rw [← HV.out]; simp [h2, h3, h4b, h5b], HG0.out⟩
        · go_enter Tryz.func135, Tryz.ntmps135
          go_wp2_with (go_at_call 134; refine HI.out.mono ?_; rintro e w2 ⟨rfl, rfl⟩)
          go_ret
          exact ⟨by rw [← HV.out]; simp [h2, h3, h4b], HG0.out⟩
      · go_enter Tryz.func135, Tryz.ntmps135
        go_wp2_with (go_at_call 134; refine HI.out.mono ?_; rintro e w2 ⟨rfl, rfl⟩)
        go_ret
        exact ⟨by rw [← HV.out]; simp [h2, h3], HG0.out⟩
    · go_enter Tryz.func135, Tryz.ntmps135
      go_wp2_with (go_at_call 134; refine HI.out.mono ?_; rintro e w2 ⟨rfl, rfl⟩)
      go_ret
      exact ⟨by rw [← HV.out]; simp [h2], HG0.out⟩
  | true =>
    rcases nz n with h2 | h2
    · rcases text0 s with ⟨h3, h3b, h3c⟩ | ⟨h3, h3b, h3c⟩
      · rcases len0 KN with ⟨h4b, h4c⟩ | ⟨h4b, h4c⟩
        · rcases len0 A with ⟨h5b, h5c⟩ | ⟨h5b, h5c⟩
          · go_enter Tryz.func135, Tryz.ntmps135
            go_wp2_with (go_at_call 134; refine HI.out.mono ?_; rintro e w2 ⟨rfl, rfl⟩)
            go_ret
            exact ⟨by rw [← HV.out]; simp [h2, h3, h4b, h5b], HG0.out⟩
          · go_enter Tryz.func135, Tryz.ntmps135
            go_wp2_with (go_at_call 134; refine HI.out.mono ?_; rintro e w2 ⟨rfl, rfl⟩)
            go_ret
            exact ⟨by rw [← HV.out]; simp [h2, h3, h4b, h5b], HG0.out⟩
        · go_enter Tryz.func135, Tryz.ntmps135
          go_wp2_with (go_at_call 134; refine HI.out.mono ?_; rintro e w2 ⟨rfl, rfl⟩)
          go_ret
          exact ⟨by rw [← HV.out]; simp [h2, h3, h4b], HG0.out⟩
      · go_enter Tryz.func135, Tryz.ntmps135
        go_wp2_with (go_at_call 134; refine HI.out.mono ?_; rintro e w2 ⟨rfl, rfl⟩)
        go_ret
        exact ⟨by rw [← HV.out]; simp [h2, h3], HG0.out⟩
    · go_enter Tryz.func135, Tryz.ntmps135
      go_wp2_with (go_at_call 134; refine HI.out.mono ?_; rintro e w2 ⟨rfl, rfl⟩)
      go_ret
      exact ⟨by rw [← HV.out]; simp [h2], HG0.out⟩

set_option maxRecDepth 100000 in
set_option maxHeartbeats 4000000 in
theorem unused3 (w : World) (f : Bool) (n : Int) (s : ByteArray) (ka ia : Option Addr) (KN kc A ic : Nat) :
    Calls Tryz.prog 135 #[.agg #[.int .i64 3, .bool f, .int .i64 n, .string s, .slice ka KN kc, .slice ia A ic]] w fun e w' => e = .returned (.bool (spareV 3 f n s KN A)) ∧ w.grownBy w' none := by
  have g0 : w.grownBy (w.alloc (.cells #[.int .i64 3, .bool f, .int .i64 n, .string s, .slice ka KN kc, .slice ia A ic] 26)) none := galloc _ _ none
  obtain ⟨W0, hW0⟩ : ∃ W0, w.alloc (.cells #[.int .i64 3, .bool f, .int .i64 n, .string s, .slice ka KN kc, .slice ia A ic] 26) = W0 := ⟨_, rfl⟩
  have c0 := boxed w (.int .i64 3) (.bool f) (.int .i64 n) (.string s) (.slice ka KN kc) (.slice ia A ic)
  rw [hW0] at c0 g0
  have HG0 := hid g0
  obtain ⟨⟨x0, x1, x2, x3, x4, x5⟩, xf⟩ := cells6 c0
  have HI := hid (hasItems_any W0 3)
  obtain ⟨V, HV⟩ : ∃ V, Hid (spareV 3 f n s KN A = V) := ⟨_, hid rfl⟩
  rw [HV.out]
  unfold spareV at HV
  clear c0 g0
  cases f with
  | false =>
    rcases nz n with h2 | h2
    · rcases text0 s with ⟨h3, h3b, h3c⟩ | ⟨h3, h3b, h3c⟩
      · rcases len0 KN with ⟨h4b, h4c⟩ | ⟨h4b, h4c⟩
        · rcases len0 A with ⟨h5b, h5c⟩ | ⟨h5b, h5c⟩
          · go_enter Tryz.func135, Tryz.ntmps135
            go_wp2_with (go_at_call 134; refine HI.out.mono ?_; rintro e w2 ⟨rfl, rfl⟩)
            go_ret
            exact ⟨by rw [← HV.out]; simp [h2, h3, h4b, h5b], HG0.out⟩
          · go_enter Tryz.func135, Tryz.ntmps135
            go_wp2_with (go_at_call 134; refine HI.out.mono ?_; rintro e w2 ⟨rfl, rfl⟩)
            go_ret
            exact ⟨by rw [← HV.out]; simp [h2, h3, h4b, h5b], HG0.out⟩
        · go_enter Tryz.func135, Tryz.ntmps135
          go_wp2_with (go_at_call 134; refine HI.out.mono ?_; rintro e w2 ⟨rfl, rfl⟩)
          go_ret
          exact ⟨by rw [← HV.out]; simp [h2, h3, h4b], HG0.out⟩
      · go_enter Tryz.func135, Tryz.ntmps135
        go_wp2_with (go_at_call 134; refine HI.out.mono ?_; rintro e w2 ⟨rfl, rfl⟩)
        go_ret
        exact ⟨by rw [← HV.out]; simp [h2, h3], HG0.out⟩
    · rcases text0 s with ⟨h3, h3b, h3c⟩ | ⟨h3, h3b, h3c⟩
      · rcases len0 KN with ⟨h4b, h4c⟩ | ⟨h4b, h4c⟩
        · rcases len0 A with ⟨h5b, h5c⟩ | ⟨h5b, h5c⟩
          · go_enter Tryz.func135, Tryz.ntmps135
            go_wp2_with (go_at_call 134; refine HI.out.mono ?_; rintro e w2 ⟨rfl, rfl⟩)
            go_ret
            exact ⟨by rw [← HV.out]; simp [h2, h3, h4b, h5b], HG0.out⟩
          · go_enter Tryz.func135, Tryz.ntmps135
            go_wp2_with (go_at_call 134; refine HI.out.mono ?_; rintro e w2 ⟨rfl, rfl⟩)
            go_ret
            exact ⟨by rw [← HV.out]; simp [h2, h3, h4b, h5b], HG0.out⟩
        · go_enter Tryz.func135, Tryz.ntmps135
          go_wp2_with (go_at_call 134; refine HI.out.mono ?_; rintro e w2 ⟨rfl, rfl⟩)
          go_ret
          exact ⟨by rw [← HV.out]; simp [h2, h3, h4b], HG0.out⟩
      · go_enter Tryz.func135, Tryz.ntmps135
        go_wp2_with (go_at_call 134; refine HI.out.mono ?_; rintro e w2 ⟨rfl, rfl⟩)
        go_ret
        exact ⟨by rw [← HV.out]; simp [h2, h3], HG0.out⟩
  | true =>
    go_enter Tryz.func135, Tryz.ntmps135
    go_wp2_with (go_at_call 134; refine HI.out.mono ?_; rintro e w2 ⟨rfl, rfl⟩)
    go_ret
    exact ⟨by rw [← HV.out]; simp, HG0.out⟩

set_option maxRecDepth 100000 in
set_option maxHeartbeats 4000000 in
theorem unused4 (w : World) (f : Bool) (n : Int) (s : ByteArray) (ka ia : Option Addr) (KN kc A ic : Nat) :
    Calls Tryz.prog 135 #[.agg #[.int .i64 4, .bool f, .int .i64 n, .string s, .slice ka KN kc, .slice ia A ic]] w fun e w' => e = .returned (.bool (spareV 4 f n s KN A)) ∧ w.grownBy w' none := by
  have g0 : w.grownBy (w.alloc (.cells #[.int .i64 4, .bool f, .int .i64 n, .string s, .slice ka KN kc, .slice ia A ic] 26)) none := galloc _ _ none
  obtain ⟨W0, hW0⟩ : ∃ W0, w.alloc (.cells #[.int .i64 4, .bool f, .int .i64 n, .string s, .slice ka KN kc, .slice ia A ic] 26) = W0 := ⟨_, rfl⟩
  have c0 := boxed w (.int .i64 4) (.bool f) (.int .i64 n) (.string s) (.slice ka KN kc) (.slice ia A ic)
  rw [hW0] at c0 g0
  have HG0 := hid g0
  obtain ⟨⟨x0, x1, x2, x3, x4, x5⟩, xf⟩ := cells6 c0
  have HI := hid (hasItems_any W0 4)
  obtain ⟨V, HV⟩ : ∃ V, Hid (spareV 4 f n s KN A = V) := ⟨_, hid rfl⟩
  rw [HV.out]
  unfold spareV at HV
  clear c0 g0
  cases f with
  | false =>
    rcases nz n with h2 | h2
    · rcases text0 s with ⟨h3, h3b, h3c⟩ | ⟨h3, h3b, h3c⟩
      · rcases len0 KN with ⟨h4b, h4c⟩ | ⟨h4b, h4c⟩
        · rcases len0 A with ⟨h5b, h5c⟩ | ⟨h5b, h5c⟩
          · go_enter Tryz.func135, Tryz.ntmps135
            go_wp2_with (go_at_call 134; refine HI.out.mono ?_; rintro e w2 ⟨rfl, rfl⟩)
            go_ret
            exact ⟨by rw [← HV.out]; simp [h2, h3, h4b, h5b], HG0.out⟩
          · go_enter Tryz.func135, Tryz.ntmps135
            go_wp2_with (go_at_call 134; refine HI.out.mono ?_; rintro e w2 ⟨rfl, rfl⟩)
            go_ret
            exact ⟨by rw [← HV.out]; simp [h2, h3, h4b, h5b], HG0.out⟩
        · go_enter Tryz.func135, Tryz.ntmps135
          go_wp2_with (go_at_call 134; refine HI.out.mono ?_; rintro e w2 ⟨rfl, rfl⟩)
          go_ret
          exact ⟨by rw [← HV.out]; simp [h2, h3, h4b], HG0.out⟩
      · rcases len0 KN with ⟨h4b, h4c⟩ | ⟨h4b, h4c⟩
        · rcases len0 A with ⟨h5b, h5c⟩ | ⟨h5b, h5c⟩
          · go_enter Tryz.func135, Tryz.ntmps135
            go_wp2_with (go_at_call 134; refine HI.out.mono ?_; rintro e w2 ⟨rfl, rfl⟩)
            go_ret
            exact ⟨by rw [← HV.out]; simp [h2, h3, h4b, h5b], HG0.out⟩
          · go_enter Tryz.func135, Tryz.ntmps135
            go_wp2_with (go_at_call 134; refine HI.out.mono ?_; rintro e w2 ⟨rfl, rfl⟩)
            go_ret
            exact ⟨by rw [← HV.out]; simp [h2, h3, h4b, h5b], HG0.out⟩
        · go_enter Tryz.func135, Tryz.ntmps135
          go_wp2_with (go_at_call 134; refine HI.out.mono ?_; rintro e w2 ⟨rfl, rfl⟩)
          go_ret
          exact ⟨by rw [← HV.out]; simp [h2, h3, h4b], HG0.out⟩
    · go_enter Tryz.func135, Tryz.ntmps135
      go_wp2_with (go_at_call 134; refine HI.out.mono ?_; rintro e w2 ⟨rfl, rfl⟩)
      go_ret
      exact ⟨by rw [← HV.out]; simp [h2], HG0.out⟩
  | true =>
    go_enter Tryz.func135, Tryz.ntmps135
    go_wp2_with (go_at_call 134; refine HI.out.mono ?_; rintro e w2 ⟨rfl, rfl⟩)
    go_ret
    exact ⟨by rw [← HV.out]; simp, HG0.out⟩

set_option maxRecDepth 100000 in
set_option maxHeartbeats 4000000 in
theorem unused6 (w : World) (f : Bool) (n : Int) (s : ByteArray) (ka ia : Option Addr) (KN kc A ic : Nat) :
    Calls Tryz.prog 135 #[.agg #[.int .i64 6, .bool f, .int .i64 n, .string s, .slice ka KN kc, .slice ia A ic]] w fun e w' => e = .returned (.bool (spareV 6 f n s KN A)) ∧ w.grownBy w' none := by
  have g0 : w.grownBy (w.alloc (.cells #[.int .i64 6, .bool f, .int .i64 n, .string s, .slice ka KN kc, .slice ia A ic] 26)) none := galloc _ _ none
  obtain ⟨W0, hW0⟩ : ∃ W0, w.alloc (.cells #[.int .i64 6, .bool f, .int .i64 n, .string s, .slice ka KN kc, .slice ia A ic] 26) = W0 := ⟨_, rfl⟩
  have c0 := boxed w (.int .i64 6) (.bool f) (.int .i64 n) (.string s) (.slice ka KN kc) (.slice ia A ic)
  rw [hW0] at c0 g0
  have HG0 := hid g0
  obtain ⟨⟨x0, x1, x2, x3, x4, x5⟩, xf⟩ := cells6 c0
  have HI := hid (hasItems_any W0 6)
  obtain ⟨V, HV⟩ : ∃ V, Hid (spareV 6 f n s KN A = V) := ⟨_, hid rfl⟩
  rw [HV.out]
  unfold spareV at HV
  clear c0 g0
  cases f with
  | false =>
    rcases nz n with h2 | h2
    · rcases text0 s with ⟨h3, h3b, h3c⟩ | ⟨h3, h3b, h3c⟩
      · rcases len0 KN with ⟨h4b, h4c⟩ | ⟨h4b, h4c⟩
        · rcases len0 A with ⟨h5b, h5c⟩ | ⟨h5b, h5c⟩
          · go_enter Tryz.func135, Tryz.ntmps135
            go_wp2_with (go_at_call 134; refine HI.out.mono ?_; rintro e w2 ⟨rfl, rfl⟩)
            go_ret
            exact ⟨by rw [← HV.out]; simp [h2, h3, h4b, h5b], HG0.out⟩
          · go_enter Tryz.func135, Tryz.ntmps135
            go_wp2_with (go_at_call 134; refine HI.out.mono ?_; rintro e w2 ⟨rfl, rfl⟩)
            go_ret
            exact ⟨by rw [← HV.out]; simp [h2, h3, h4b, h5b], HG0.out⟩
        · rcases len0 A with ⟨h5b, h5c⟩ | ⟨h5b, h5c⟩
          · go_enter Tryz.func135, Tryz.ntmps135
            go_wp2_with (go_at_call 134; refine HI.out.mono ?_; rintro e w2 ⟨rfl, rfl⟩)
            go_ret
            exact ⟨by rw [← HV.out]; simp [h2, h3, h4b, h5b], HG0.out⟩
          · go_enter Tryz.func135, Tryz.ntmps135
            go_wp2_with (go_at_call 134; refine HI.out.mono ?_; rintro e w2 ⟨rfl, rfl⟩)
            go_ret
            exact ⟨by rw [← HV.out]; simp [h2, h3, h4b, h5b], HG0.out⟩
      · go_enter Tryz.func135, Tryz.ntmps135
        go_wp2_with (go_at_call 134; refine HI.out.mono ?_; rintro e w2 ⟨rfl, rfl⟩)
        go_ret
        exact ⟨by rw [← HV.out]; simp [h2, h3], HG0.out⟩
    · go_enter Tryz.func135, Tryz.ntmps135
      go_wp2_with (go_at_call 134; refine HI.out.mono ?_; rintro e w2 ⟨rfl, rfl⟩)
      go_ret
      exact ⟨by rw [← HV.out]; simp [h2], HG0.out⟩
  | true =>
    go_enter Tryz.func135, Tryz.ntmps135
    go_wp2_with (go_at_call 134; refine HI.out.mono ?_; rintro e w2 ⟨rfl, rfl⟩)
    go_ret
    exact ⟨by rw [← HV.out]; simp, HG0.out⟩

set_option maxRecDepth 100000 in
set_option maxHeartbeats 4000000 in
theorem unusedK (w : World) (K : Int) (f : Bool) (n : Int) (s : ByteArray) (ka ia : Option Addr) (KN kc A ic : Nat) (e2 : (K == 2) = false) (e3 : (K == 3) = false) (e4 : (K == 4) = false) (e6 : (K == 6) = false) :
    Calls Tryz.prog 135 #[.agg #[.int .i64 K, .bool f, .int .i64 n, .string s, .slice ka KN kc, .slice ia A ic]] w fun e w' => e = .returned (.bool (spareV K f n s KN A)) ∧ w.grownBy w' none := by
  have g0 : w.grownBy (w.alloc (.cells #[.int .i64 K, .bool f, .int .i64 n, .string s, .slice ka KN kc, .slice ia A ic] 26)) none := galloc _ _ none
  obtain ⟨W0, hW0⟩ : ∃ W0, w.alloc (.cells #[.int .i64 K, .bool f, .int .i64 n, .string s, .slice ka KN kc, .slice ia A ic] 26) = W0 := ⟨_, rfl⟩
  have c0 := boxed w (.int .i64 K) (.bool f) (.int .i64 n) (.string s) (.slice ka KN kc) (.slice ia A ic)
  rw [hW0] at c0 g0
  have HG0 := hid g0
  obtain ⟨⟨x0, x1, x2, x3, x4, x5⟩, xf⟩ := cells6 c0
  have HI := hid (hasItems_any W0 K)
  obtain ⟨V, HV⟩ : ∃ V, Hid (spareV K f n s KN A = V) := ⟨_, hid rfl⟩
  rw [HV.out]
  unfold spareV at HV
  clear c0 g0
  cases f with
  | false =>
    rcases nz n with h2 | h2
    · rcases text0 s with ⟨h3, h3b, h3c⟩ | ⟨h3, h3b, h3c⟩
      · rcases len0 KN with ⟨h4b, h4c⟩ | ⟨h4b, h4c⟩
        · rcases len0 A with ⟨h5b, h5c⟩ | ⟨h5b, h5c⟩
          · go_enter Tryz.func135, Tryz.ntmps135
            go_wp2_with (go_at_call 134; refine HI.out.mono ?_; rintro e w2 ⟨rfl, rfl⟩)
            go_ret
            exact ⟨by rw [← HV.out]; simp [h2, h3, h4b, h5b, e2, e3, e4, e6], HG0.out⟩
          · go_enter Tryz.func135, Tryz.ntmps135
            go_wp2_with (go_at_call 134; refine HI.out.mono ?_; rintro e w2 ⟨rfl, rfl⟩)
            go_ret
            exact ⟨by rw [← HV.out]; simp [h2, h3, h4b, h5b, e2, e3, e4, e6], HG0.out⟩
        · go_enter Tryz.func135, Tryz.ntmps135
          go_wp2_with (go_at_call 134; refine HI.out.mono ?_; rintro e w2 ⟨rfl, rfl⟩)
          go_ret
          exact ⟨by rw [← HV.out]; simp [h2, h3, h4b, e2, e3, e4, e6], HG0.out⟩
      · go_enter Tryz.func135, Tryz.ntmps135
        go_wp2_with (go_at_call 134; refine HI.out.mono ?_; rintro e w2 ⟨rfl, rfl⟩)
        go_ret
        exact ⟨by rw [← HV.out]; simp [h2, h3, e2, e3, e4, e6], HG0.out⟩
    · go_enter Tryz.func135, Tryz.ntmps135
      go_wp2_with (go_at_call 134; refine HI.out.mono ?_; rintro e w2 ⟨rfl, rfl⟩)
      go_ret
      exact ⟨by rw [← HV.out]; simp [h2, e2, e3, e4, e6], HG0.out⟩
  | true =>
    go_enter Tryz.func135, Tryz.ntmps135
    go_wp2_with (go_at_call 134; refine HI.out.mono ?_; rintro e w2 ⟨rfl, rfl⟩)
    go_ret
    exact ⟨by rw [← HV.out]; simp [e2, e3, e4, e6], HG0.out⟩
end Go.Proofs.YtdmnhkgiojkphaaGreatDoor

namespace Go.Proofs.YtdmnhkgiojkphaaGreatDoor
open Go Go.RowKit Go.Maps
open Go.RowKit (wrap32 wrap64)

theorem unused_any (w : World) (K : Int) (f : Bool) (n : Int) (s : ByteArray) (ka ia : Option Addr) (KN kc A ic : Nat) :
    Calls Tryz.prog 135 #[.agg #[.int .i64 K, .bool f, .int .i64 n, .string s, .slice ka KN kc, .slice ia A ic]] w fun e w' => e = .returned (.bool (spareV K f n s KN A)) ∧ w.grownBy w' none := by
  by_cases h2 : K = 2
  · subst h2; exact unused2 w f n s ka ia KN kc A ic
  · by_cases h3 : K = 3
    · subst h3; exact unused3 w f n s ka ia KN kc A ic
    · by_cases h4 : K = 4
      · subst h4; exact unused4 w f n s ka ia KN kc A ic
      · by_cases h6 : K = 6
        · subst h6; exact unused6 w f n s ka ia KN kc A ic
        · exact unusedK w K f n s ka ia KN kc A ic (beq_eq_false_iff_ne.2 h2) (beq_eq_false_iff_ne.2 h3) (beq_eq_false_iff_ne.2 h4) (beq_eq_false_iff_ne.2 h6)
theorem spareB_eq (t : Tree) : spareB t = spareV t.kind t.flag t.n t.text t.keys.length t.items.length := rfl

set_option maxRecDepth 100000 in
set_option maxHeartbeats 8000000 in
theorem checkAlone_any (t : Tree) (about : Nat) (w : World) (F : Nat → Prop) (v : Value) (hv : RdT w F t v) (hn : cntT t ≤ 1099511627776) (hG : Glob w) (ha : about ≤ 1000) :
    Calls Tryz.prog 74 #[v, .int .i64 about] w fun e w' => e = .returned (.int .i64 (oneE t about)) ∧ w.grownBy w' none := by
  have hv0 := hv
  rw [RdT_eq] at hv
  obtain ⟨kv, ia, ic, rfl, hkv, _, _⟩ := hv
  have hkv0 := hkv
  obtain ⟨ka, kc, rfl, _⟩ := hkv
  have hkn : keyN t.keys ≤ 1099511627776 := by rw [cntT_eq] at hn; omega
  have htn : t.text.size ≤ 1099511627776 := by rw [cntT_eq] at hn; omega
  have hFit : ∀ u : World, w.grownBy u none → Calls Tryz.prog 137 #[.agg #[.int .i64 t.kind, .bool t.flag, .int .i64 t.n, .string t.text, .slice ka t.keys.length kc, .slice ia t.items.length ic]] u fun e w' => e = .returned (.bool (keysFit t)) ∧ u.grownBy w' none := fun u hu => keysFit_any t u F _ (hv0.on (Stays.none hu)) hn
  have hAll : ∀ u : World, w.grownBy u none → Calls Tryz.prog 136 #[.slice ka t.keys.length kc] u fun e w' => e = .returned (.bool (t.keys.all good)) ∧ u.grownBy w' none := fun u hu => allGood_any t.keys u F _ (hkv0.kept (Stays.none hu) (fun _ h _ => h)) (hG.grown hu (fun k hk => by cases hk)) hkn
  have hGood : ∀ u : World, w.grownBy u none → Calls Tryz.prog 23 #[.string t.text] u fun e w' => e = .returned (.bool (good t.text)) ∧ u.grownBy w' none := fun u hu => good_any u t.text (hG.grown hu (fun k hk => by cases hk)) htn
  have hoe : oneE t about = oneE t about := rfl
  conv at hoe => rhs; unfold oneE
  rw [spareB_eq] at hoe
  obtain ⟨A, HA⟩ : ∃ A, Hid (t.items.length = A) := ⟨_, hid rfl⟩
  obtain ⟨KN, HKN⟩ : ∃ A, Hid (t.keys.length = A) := ⟨_, hid rfl⟩
  obtain ⟨K, HKK⟩ : ∃ K, Hid (t.kind = K) := ⟨_, hid rfl⟩
  rw [HA.out, HKN.out, HKK.out] at hFit hoe
  rw [HKN.out] at hAll
  rw [HA.out, HKN.out, HKK.out]
  obtain ⟨R, HR⟩ : ∃ R, Hid (oneE t about = R) := ⟨_, hid rfl⟩
  rw [HR.out] at hoe ⊢
  have HOE := hid hoe
  have HFit := hid hFit
  have HAll := hid hAll
  have HGood := hid hGood
  have g0 : w.grownBy (w.alloc (.cells #[.int .i64 K, .bool t.flag, .int .i64 t.n, .string t.text, .slice ka KN kc, .slice ia A ic] 26)) none := galloc _ _ none
  obtain ⟨W0, hW0⟩ : ∃ W0, w.alloc (.cells #[.int .i64 K, .bool t.flag, .int .i64 t.n, .string t.text, .slice ka KN kc, .slice ia A ic] 26) = W0 := ⟨_, rfl⟩
  have c0 := boxed w (.int .i64 K) (.bool t.flag) (.int .i64 t.n) (.string t.text) (.slice ka KN kc) (.slice ia A ic)
  rw [hW0] at c0 g0
  have HG0 := hid g0
  have HB : Hid (∀ u : World, W0.grownBy u none → u.heap[w.heap.size]? = some (.cells #[.int .i64 K, .bool t.flag, .int .i64 t.n, .string t.text, .slice ka KN kc, .slice ia A ic] 26 (0, 0))) := fun u hu => (hu.block _ (Array.getElem?_eq_some_iff.1 c0).1 (by simp)).trans c0
  have HI := hid (hasItems_any W0 K)
  have HU : Hid (∀ u : World, Calls Tryz.prog 135 #[.agg #[.int .i64 K, .bool t.flag, .int .i64 t.n, .string t.text, .slice ka KN kc, .slice ia A ic]] u fun e w' => e = .returned (.bool (spareV K t.flag t.n t.text KN A)) ∧ u.grownBy w' none) := fun u => unused_any u K t.flag t.n t.text ka ia KN kc A ic
  obtain ⟨SP, HSP⟩ : ∃ SP, Hid (spareV K t.flag t.n t.text KN A = SP) := ⟨_, hid rfl⟩
  obtain ⟨GD, HGD⟩ : ∃ SP, Hid (good t.text = SP) := ⟨_, hid rfl⟩
  obtain ⟨AG, HAG⟩ : ∃ SP, Hid (t.keys.all good = SP) := ⟨_, hid rfl⟩
  obtain ⟨KF, HKF⟩ : ∃ SP, Hid (keysFit t = SP) := ⟨_, hid rfl⟩
  obtain ⟨HT, HHT⟩ : ∃ SP, Hid (hasItems K = SP) := ⟨_, hid rfl⟩
  rw [HSP.out] at HU HOE
  rw [HGD.out] at HGood HOE
  rw [HAG.out] at HAll HOE
  rw [HKF.out] at HFit HOE
  rw [HHT.out] at HI HOE
  have hcur : W0.grownBy W0 none := grefl _ _
  obtain ⟨⟨x0, x1, x2, x3, x4, x5⟩, xf⟩ := cells6 c0
  clear c0 g0 hFit hAll hGood hoe hn hkn htn hv0 hkv0 hG
  cases HT with
  | true =>
    by_cases h32 : 32 ≤ about
    · have hd : decide ((32 : Int) ≤ (about : Int)) = true := decide_eq_true (by omega)
      have hdn : decide (32 ≤ about) = true := decide_eq_true h32
      go_enter Tryz.func74, Tryz.ntmps74
      go_wp2_with (first
        | (go_at_call 134; refine HI.out.mono ?_; rintro e w2 ⟨rfl, rfl⟩)
        | (go_at_call 135; refine (HU.out _).mono ?_; rintro e u2 ⟨rfl, hg2⟩; have hcur := gtrans hcur hg2; obtain ⟨⟨x0, x1, x2, x3, x4, x5⟩, xf⟩ := cells6 (HB.out _ hcur); clear hg2)
        | (go_at_call 23; refine (HGood.out _ (gtrans HG0.out hcur)).mono ?_; rintro e u3 ⟨rfl, hg3⟩; have hcur := gtrans hcur hg3; obtain ⟨⟨x0, x1, x2, x3, x4, x5⟩, xf⟩ := cells6 (HB.out _ hcur); clear hg3)
        | (go_at_call 136; refine (HAll.out _ (gtrans HG0.out hcur)).mono ?_; rintro e u4 ⟨rfl, hg4⟩; have hcur := gtrans hcur hg4; obtain ⟨⟨x0, x1, x2, x3, x4, x5⟩, xf⟩ := cells6 (HB.out _ hcur); clear hg4)
        | (go_at_call 137; refine (HFit.out _ (gtrans HG0.out hcur)).mono ?_; rintro e u5 ⟨rfl, hg5⟩; have hcur := gtrans hcur hg5; obtain ⟨⟨x0, x1, x2, x3, x4, x5⟩, xf⟩ := cells6 (HB.out _ hcur); clear hg5))
      go_ret
      exact ⟨by rw [HOE.out]; simp [hdn], gtrans HG0.out hcur⟩
    · have hd : decide ((32 : Int) ≤ (about : Int)) = false := decide_eq_false (by omega)
      have hdn : decide (32 ≤ about) = false := decide_eq_false h32
      by_cases h1 : K < 1
      · have d1 : decide (K < 1) = true := decide_eq_true h1
        go_enter Tryz.func74, Tryz.ntmps74
        go_wp2_with (first
          | (go_at_call 134; refine HI.out.mono ?_; rintro e w2 ⟨rfl, rfl⟩)
          | (go_at_call 135; refine (HU.out _).mono ?_; rintro e u2 ⟨rfl, hg2⟩; have hcur := gtrans hcur hg2; obtain ⟨⟨x0, x1, x2, x3, x4, x5⟩, xf⟩ := cells6 (HB.out _ hcur); clear hg2)
          | (go_at_call 23; refine (HGood.out _ (gtrans HG0.out hcur)).mono ?_; rintro e u3 ⟨rfl, hg3⟩; have hcur := gtrans hcur hg3; obtain ⟨⟨x0, x1, x2, x3, x4, x5⟩, xf⟩ := cells6 (HB.out _ hcur); clear hg3)
          | (go_at_call 136; refine (HAll.out _ (gtrans HG0.out hcur)).mono ?_; rintro e u4 ⟨rfl, hg4⟩; have hcur := gtrans hcur hg4; obtain ⟨⟨x0, x1, x2, x3, x4, x5⟩, xf⟩ := cells6 (HB.out _ hcur); clear hg4)
          | (go_at_call 137; refine (HFit.out _ (gtrans HG0.out hcur)).mono ?_; rintro e u5 ⟨rfl, hg5⟩; have hcur := gtrans hcur hg5; obtain ⟨⟨x0, x1, x2, x3, x4, x5⟩, xf⟩ := cells6 (HB.out _ hcur); clear hg5))
        go_ret
        exact ⟨by rw [HOE.out]; simp [hdn, d1], gtrans HG0.out hcur⟩
      · have d1 : decide (K < 1) = false := decide_eq_false h1
        by_cases h6 : 6 < K
        · have d6 : decide (6 < K) = true := decide_eq_true h6
          go_enter Tryz.func74, Tryz.ntmps74
          go_wp2_with (first
            | (go_at_call 134; refine HI.out.mono ?_; rintro e w2 ⟨rfl, rfl⟩)
            | (go_at_call 135; refine (HU.out _).mono ?_; rintro e u2 ⟨rfl, hg2⟩; have hcur := gtrans hcur hg2; obtain ⟨⟨x0, x1, x2, x3, x4, x5⟩, xf⟩ := cells6 (HB.out _ hcur); clear hg2)
            | (go_at_call 23; refine (HGood.out _ (gtrans HG0.out hcur)).mono ?_; rintro e u3 ⟨rfl, hg3⟩; have hcur := gtrans hcur hg3; obtain ⟨⟨x0, x1, x2, x3, x4, x5⟩, xf⟩ := cells6 (HB.out _ hcur); clear hg3)
            | (go_at_call 136; refine (HAll.out _ (gtrans HG0.out hcur)).mono ?_; rintro e u4 ⟨rfl, hg4⟩; have hcur := gtrans hcur hg4; obtain ⟨⟨x0, x1, x2, x3, x4, x5⟩, xf⟩ := cells6 (HB.out _ hcur); clear hg4)
            | (go_at_call 137; refine (HFit.out _ (gtrans HG0.out hcur)).mono ?_; rintro e u5 ⟨rfl, hg5⟩; have hcur := gtrans hcur hg5; obtain ⟨⟨x0, x1, x2, x3, x4, x5⟩, xf⟩ := cells6 (HB.out _ hcur); clear hg5))
          go_ret
          exact ⟨by rw [HOE.out]; simp [hdn, d1, d6], gtrans HG0.out hcur⟩
        · have d6 : decide (6 < K) = false := decide_eq_false h6
          cases SP with
          | false =>
            go_enter Tryz.func74, Tryz.ntmps74
            go_wp2_with (first
              | (go_at_call 134; refine HI.out.mono ?_; rintro e w2 ⟨rfl, rfl⟩)
              | (go_at_call 135; refine (HU.out _).mono ?_; rintro e u2 ⟨rfl, hg2⟩; have hcur := gtrans hcur hg2; obtain ⟨⟨x0, x1, x2, x3, x4, x5⟩, xf⟩ := cells6 (HB.out _ hcur); clear hg2)
              | (go_at_call 23; refine (HGood.out _ (gtrans HG0.out hcur)).mono ?_; rintro e u3 ⟨rfl, hg3⟩; have hcur := gtrans hcur hg3; obtain ⟨⟨x0, x1, x2, x3, x4, x5⟩, xf⟩ := cells6 (HB.out _ hcur); clear hg3)
              | (go_at_call 136; refine (HAll.out _ (gtrans HG0.out hcur)).mono ?_; rintro e u4 ⟨rfl, hg4⟩; have hcur := gtrans hcur hg4; obtain ⟨⟨x0, x1, x2, x3, x4, x5⟩, xf⟩ := cells6 (HB.out _ hcur); clear hg4)
              | (go_at_call 137; refine (HFit.out _ (gtrans HG0.out hcur)).mono ?_; rintro e u5 ⟨rfl, hg5⟩; have hcur := gtrans hcur hg5; obtain ⟨⟨x0, x1, x2, x3, x4, x5⟩, xf⟩ := cells6 (HB.out _ hcur); clear hg5))
            go_ret
            exact ⟨by rw [HOE.out]; simp [hdn, d1, d6], gtrans HG0.out hcur⟩
          | true =>
            cases GD with
            | false =>
              go_enter Tryz.func74, Tryz.ntmps74
              go_wp2_with (first
                | (go_at_call 134; refine HI.out.mono ?_; rintro e w2 ⟨rfl, rfl⟩)
                | (go_at_call 135; refine (HU.out _).mono ?_; rintro e u2 ⟨rfl, hg2⟩; have hcur := gtrans hcur hg2; obtain ⟨⟨x0, x1, x2, x3, x4, x5⟩, xf⟩ := cells6 (HB.out _ hcur); clear hg2)
                | (go_at_call 23; refine (HGood.out _ (gtrans HG0.out hcur)).mono ?_; rintro e u3 ⟨rfl, hg3⟩; have hcur := gtrans hcur hg3; obtain ⟨⟨x0, x1, x2, x3, x4, x5⟩, xf⟩ := cells6 (HB.out _ hcur); clear hg3)
                | (go_at_call 136; refine (HAll.out _ (gtrans HG0.out hcur)).mono ?_; rintro e u4 ⟨rfl, hg4⟩; have hcur := gtrans hcur hg4; obtain ⟨⟨x0, x1, x2, x3, x4, x5⟩, xf⟩ := cells6 (HB.out _ hcur); clear hg4)
                | (go_at_call 137; refine (HFit.out _ (gtrans HG0.out hcur)).mono ?_; rintro e u5 ⟨rfl, hg5⟩; have hcur := gtrans hcur hg5; obtain ⟨⟨x0, x1, x2, x3, x4, x5⟩, xf⟩ := cells6 (HB.out _ hcur); clear hg5))
              go_ret
              exact ⟨by rw [HOE.out]; simp [hdn, d1, d6], gtrans HG0.out hcur⟩
            | true =>
              cases AG with
              | false =>
                go_enter Tryz.func74, Tryz.ntmps74
                go_wp2_with (first
                  | (go_at_call 134; refine HI.out.mono ?_; rintro e w2 ⟨rfl, rfl⟩)
                  | (go_at_call 135; refine (HU.out _).mono ?_; rintro e u2 ⟨rfl, hg2⟩; have hcur := gtrans hcur hg2; obtain ⟨⟨x0, x1, x2, x3, x4, x5⟩, xf⟩ := cells6 (HB.out _ hcur); clear hg2)
                  | (go_at_call 23; refine (HGood.out _ (gtrans HG0.out hcur)).mono ?_; rintro e u3 ⟨rfl, hg3⟩; have hcur := gtrans hcur hg3; obtain ⟨⟨x0, x1, x2, x3, x4, x5⟩, xf⟩ := cells6 (HB.out _ hcur); clear hg3)
                  | (go_at_call 136; refine (HAll.out _ (gtrans HG0.out hcur)).mono ?_; rintro e u4 ⟨rfl, hg4⟩; have hcur := gtrans hcur hg4; obtain ⟨⟨x0, x1, x2, x3, x4, x5⟩, xf⟩ := cells6 (HB.out _ hcur); clear hg4)
                  | (go_at_call 137; refine (HFit.out _ (gtrans HG0.out hcur)).mono ?_; rintro e u5 ⟨rfl, hg5⟩; have hcur := gtrans hcur hg5; obtain ⟨⟨x0, x1, x2, x3, x4, x5⟩, xf⟩ := cells6 (HB.out _ hcur); clear hg5))
                go_ret
                exact ⟨by rw [HOE.out]; simp [hdn, d1, d6], gtrans HG0.out hcur⟩
              | true =>
                cases e6 : (K == 6) with
                | false =>
                  go_enter Tryz.func74, Tryz.ntmps74
                  go_wp2_with (first
                    | (go_at_call 134; refine HI.out.mono ?_; rintro e w2 ⟨rfl, rfl⟩)
                    | (go_at_call 135; refine (HU.out _).mono ?_; rintro e u2 ⟨rfl, hg2⟩; have hcur := gtrans hcur hg2; obtain ⟨⟨x0, x1, x2, x3, x4, x5⟩, xf⟩ := cells6 (HB.out _ hcur); clear hg2)
                    | (go_at_call 23; refine (HGood.out _ (gtrans HG0.out hcur)).mono ?_; rintro e u3 ⟨rfl, hg3⟩; have hcur := gtrans hcur hg3; obtain ⟨⟨x0, x1, x2, x3, x4, x5⟩, xf⟩ := cells6 (HB.out _ hcur); clear hg3)
                    | (go_at_call 136; refine (HAll.out _ (gtrans HG0.out hcur)).mono ?_; rintro e u4 ⟨rfl, hg4⟩; have hcur := gtrans hcur hg4; obtain ⟨⟨x0, x1, x2, x3, x4, x5⟩, xf⟩ := cells6 (HB.out _ hcur); clear hg4)
                    | (go_at_call 137; refine (HFit.out _ (gtrans HG0.out hcur)).mono ?_; rintro e u5 ⟨rfl, hg5⟩; have hcur := gtrans hcur hg5; obtain ⟨⟨x0, x1, x2, x3, x4, x5⟩, xf⟩ := cells6 (HB.out _ hcur); clear hg5))
                  go_ret
                  exact ⟨by rw [HOE.out]; simp [hdn, d1, d6, e6], gtrans HG0.out hcur⟩
                | true =>
                  cases KF with
                  | false =>
                    go_enter Tryz.func74, Tryz.ntmps74
                    go_wp2_with (first
                      | (go_at_call 134; refine HI.out.mono ?_; rintro e w2 ⟨rfl, rfl⟩)
                      | (go_at_call 135; refine (HU.out _).mono ?_; rintro e u2 ⟨rfl, hg2⟩; have hcur := gtrans hcur hg2; obtain ⟨⟨x0, x1, x2, x3, x4, x5⟩, xf⟩ := cells6 (HB.out _ hcur); clear hg2)
                      | (go_at_call 23; refine (HGood.out _ (gtrans HG0.out hcur)).mono ?_; rintro e u3 ⟨rfl, hg3⟩; have hcur := gtrans hcur hg3; obtain ⟨⟨x0, x1, x2, x3, x4, x5⟩, xf⟩ := cells6 (HB.out _ hcur); clear hg3)
                      | (go_at_call 136; refine (HAll.out _ (gtrans HG0.out hcur)).mono ?_; rintro e u4 ⟨rfl, hg4⟩; have hcur := gtrans hcur hg4; obtain ⟨⟨x0, x1, x2, x3, x4, x5⟩, xf⟩ := cells6 (HB.out _ hcur); clear hg4)
                      | (go_at_call 137; refine (HFit.out _ (gtrans HG0.out hcur)).mono ?_; rintro e u5 ⟨rfl, hg5⟩; have hcur := gtrans hcur hg5; obtain ⟨⟨x0, x1, x2, x3, x4, x5⟩, xf⟩ := cells6 (HB.out _ hcur); clear hg5))
                    go_ret
                    exact ⟨by rw [HOE.out]; simp [hdn, d1, d6, e6], gtrans HG0.out hcur⟩
                  | true =>
                    go_enter Tryz.func74, Tryz.ntmps74
                    go_wp2_with (first
                      | (go_at_call 134; refine HI.out.mono ?_; rintro e w2 ⟨rfl, rfl⟩)
                      | (go_at_call 135; refine (HU.out _).mono ?_; rintro e u2 ⟨rfl, hg2⟩; have hcur := gtrans hcur hg2; obtain ⟨⟨x0, x1, x2, x3, x4, x5⟩, xf⟩ := cells6 (HB.out _ hcur); clear hg2)
                      | (go_at_call 23; refine (HGood.out _ (gtrans HG0.out hcur)).mono ?_; rintro e u3 ⟨rfl, hg3⟩; have hcur := gtrans hcur hg3; obtain ⟨⟨x0, x1, x2, x3, x4, x5⟩, xf⟩ := cells6 (HB.out _ hcur); clear hg3)
                      | (go_at_call 136; refine (HAll.out _ (gtrans HG0.out hcur)).mono ?_; rintro e u4 ⟨rfl, hg4⟩; have hcur := gtrans hcur hg4; obtain ⟨⟨x0, x1, x2, x3, x4, x5⟩, xf⟩ := cells6 (HB.out _ hcur); clear hg4)
                      | (go_at_call 137; refine (HFit.out _ (gtrans HG0.out hcur)).mono ?_; rintro e u5 ⟨rfl, hg5⟩; have hcur := gtrans hcur hg5; obtain ⟨⟨x0, x1, x2, x3, x4, x5⟩, xf⟩ := cells6 (HB.out _ hcur); clear hg5))
                    go_ret
                    exact ⟨by rw [HOE.out]; simp [hdn, d1, d6, e6], gtrans HG0.out hcur⟩
  | false =>
    by_cases h1 : K < 1
    · have d1 : decide (K < 1) = true := decide_eq_true h1
      go_enter Tryz.func74, Tryz.ntmps74
      go_wp2_with (first
        | (go_at_call 134; refine HI.out.mono ?_; rintro e w2 ⟨rfl, rfl⟩)
        | (go_at_call 135; refine (HU.out _).mono ?_; rintro e u2 ⟨rfl, hg2⟩; have hcur := gtrans hcur hg2; obtain ⟨⟨x0, x1, x2, x3, x4, x5⟩, xf⟩ := cells6 (HB.out _ hcur); clear hg2)
        | (go_at_call 23; refine (HGood.out _ (gtrans HG0.out hcur)).mono ?_; rintro e u3 ⟨rfl, hg3⟩; have hcur := gtrans hcur hg3; obtain ⟨⟨x0, x1, x2, x3, x4, x5⟩, xf⟩ := cells6 (HB.out _ hcur); clear hg3)
        | (go_at_call 136; refine (HAll.out _ (gtrans HG0.out hcur)).mono ?_; rintro e u4 ⟨rfl, hg4⟩; have hcur := gtrans hcur hg4; obtain ⟨⟨x0, x1, x2, x3, x4, x5⟩, xf⟩ := cells6 (HB.out _ hcur); clear hg4)
        | (go_at_call 137; refine (HFit.out _ (gtrans HG0.out hcur)).mono ?_; rintro e u5 ⟨rfl, hg5⟩; have hcur := gtrans hcur hg5; obtain ⟨⟨x0, x1, x2, x3, x4, x5⟩, xf⟩ := cells6 (HB.out _ hcur); clear hg5))
      go_ret
      exact ⟨by rw [HOE.out]; simp [d1], gtrans HG0.out hcur⟩
    · have d1 : decide (K < 1) = false := decide_eq_false h1
      by_cases h6 : 6 < K
      · have d6 : decide (6 < K) = true := decide_eq_true h6
        go_enter Tryz.func74, Tryz.ntmps74
        go_wp2_with (first
          | (go_at_call 134; refine HI.out.mono ?_; rintro e w2 ⟨rfl, rfl⟩)
          | (go_at_call 135; refine (HU.out _).mono ?_; rintro e u2 ⟨rfl, hg2⟩; have hcur := gtrans hcur hg2; obtain ⟨⟨x0, x1, x2, x3, x4, x5⟩, xf⟩ := cells6 (HB.out _ hcur); clear hg2)
          | (go_at_call 23; refine (HGood.out _ (gtrans HG0.out hcur)).mono ?_; rintro e u3 ⟨rfl, hg3⟩; have hcur := gtrans hcur hg3; obtain ⟨⟨x0, x1, x2, x3, x4, x5⟩, xf⟩ := cells6 (HB.out _ hcur); clear hg3)
          | (go_at_call 136; refine (HAll.out _ (gtrans HG0.out hcur)).mono ?_; rintro e u4 ⟨rfl, hg4⟩; have hcur := gtrans hcur hg4; obtain ⟨⟨x0, x1, x2, x3, x4, x5⟩, xf⟩ := cells6 (HB.out _ hcur); clear hg4)
          | (go_at_call 137; refine (HFit.out _ (gtrans HG0.out hcur)).mono ?_; rintro e u5 ⟨rfl, hg5⟩; have hcur := gtrans hcur hg5; obtain ⟨⟨x0, x1, x2, x3, x4, x5⟩, xf⟩ := cells6 (HB.out _ hcur); clear hg5))
        go_ret
        exact ⟨by rw [HOE.out]; simp [d1, d6], gtrans HG0.out hcur⟩
      · have d6 : decide (6 < K) = false := decide_eq_false h6
        cases SP with
        | false =>
          go_enter Tryz.func74, Tryz.ntmps74
          go_wp2_with (first
            | (go_at_call 134; refine HI.out.mono ?_; rintro e w2 ⟨rfl, rfl⟩)
            | (go_at_call 135; refine (HU.out _).mono ?_; rintro e u2 ⟨rfl, hg2⟩; have hcur := gtrans hcur hg2; obtain ⟨⟨x0, x1, x2, x3, x4, x5⟩, xf⟩ := cells6 (HB.out _ hcur); clear hg2)
            | (go_at_call 23; refine (HGood.out _ (gtrans HG0.out hcur)).mono ?_; rintro e u3 ⟨rfl, hg3⟩; have hcur := gtrans hcur hg3; obtain ⟨⟨x0, x1, x2, x3, x4, x5⟩, xf⟩ := cells6 (HB.out _ hcur); clear hg3)
            | (go_at_call 136; refine (HAll.out _ (gtrans HG0.out hcur)).mono ?_; rintro e u4 ⟨rfl, hg4⟩; have hcur := gtrans hcur hg4; obtain ⟨⟨x0, x1, x2, x3, x4, x5⟩, xf⟩ := cells6 (HB.out _ hcur); clear hg4)
            | (go_at_call 137; refine (HFit.out _ (gtrans HG0.out hcur)).mono ?_; rintro e u5 ⟨rfl, hg5⟩; have hcur := gtrans hcur hg5; obtain ⟨⟨x0, x1, x2, x3, x4, x5⟩, xf⟩ := cells6 (HB.out _ hcur); clear hg5))
          go_ret
          exact ⟨by rw [HOE.out]; simp [d1, d6], gtrans HG0.out hcur⟩
        | true =>
          cases GD with
          | false =>
            go_enter Tryz.func74, Tryz.ntmps74
            go_wp2_with (first
              | (go_at_call 134; refine HI.out.mono ?_; rintro e w2 ⟨rfl, rfl⟩)
              | (go_at_call 135; refine (HU.out _).mono ?_; rintro e u2 ⟨rfl, hg2⟩; have hcur := gtrans hcur hg2; obtain ⟨⟨x0, x1, x2, x3, x4, x5⟩, xf⟩ := cells6 (HB.out _ hcur); clear hg2)
              | (go_at_call 23; refine (HGood.out _ (gtrans HG0.out hcur)).mono ?_; rintro e u3 ⟨rfl, hg3⟩; have hcur := gtrans hcur hg3; obtain ⟨⟨x0, x1, x2, x3, x4, x5⟩, xf⟩ := cells6 (HB.out _ hcur); clear hg3)
              | (go_at_call 136; refine (HAll.out _ (gtrans HG0.out hcur)).mono ?_; rintro e u4 ⟨rfl, hg4⟩; have hcur := gtrans hcur hg4; obtain ⟨⟨x0, x1, x2, x3, x4, x5⟩, xf⟩ := cells6 (HB.out _ hcur); clear hg4)
              | (go_at_call 137; refine (HFit.out _ (gtrans HG0.out hcur)).mono ?_; rintro e u5 ⟨rfl, hg5⟩; have hcur := gtrans hcur hg5; obtain ⟨⟨x0, x1, x2, x3, x4, x5⟩, xf⟩ := cells6 (HB.out _ hcur); clear hg5))
            go_ret
            exact ⟨by rw [HOE.out]; simp [d1, d6], gtrans HG0.out hcur⟩
          | true =>
            cases AG with
            | false =>
              go_enter Tryz.func74, Tryz.ntmps74
              go_wp2_with (first
                | (go_at_call 134; refine HI.out.mono ?_; rintro e w2 ⟨rfl, rfl⟩)
                | (go_at_call 135; refine (HU.out _).mono ?_; rintro e u2 ⟨rfl, hg2⟩; have hcur := gtrans hcur hg2; obtain ⟨⟨x0, x1, x2, x3, x4, x5⟩, xf⟩ := cells6 (HB.out _ hcur); clear hg2)
                | (go_at_call 23; refine (HGood.out _ (gtrans HG0.out hcur)).mono ?_; rintro e u3 ⟨rfl, hg3⟩; have hcur := gtrans hcur hg3; obtain ⟨⟨x0, x1, x2, x3, x4, x5⟩, xf⟩ := cells6 (HB.out _ hcur); clear hg3)
                | (go_at_call 136; refine (HAll.out _ (gtrans HG0.out hcur)).mono ?_; rintro e u4 ⟨rfl, hg4⟩; have hcur := gtrans hcur hg4; obtain ⟨⟨x0, x1, x2, x3, x4, x5⟩, xf⟩ := cells6 (HB.out _ hcur); clear hg4)
                | (go_at_call 137; refine (HFit.out _ (gtrans HG0.out hcur)).mono ?_; rintro e u5 ⟨rfl, hg5⟩; have hcur := gtrans hcur hg5; obtain ⟨⟨x0, x1, x2, x3, x4, x5⟩, xf⟩ := cells6 (HB.out _ hcur); clear hg5))
              go_ret
              exact ⟨by rw [HOE.out]; simp [d1, d6], gtrans HG0.out hcur⟩
            | true =>
              cases e6 : (K == 6) with
              | false =>
                go_enter Tryz.func74, Tryz.ntmps74
                go_wp2_with (first
                  | (go_at_call 134; refine HI.out.mono ?_; rintro e w2 ⟨rfl, rfl⟩)
                  | (go_at_call 135; refine (HU.out _).mono ?_; rintro e u2 ⟨rfl, hg2⟩; have hcur := gtrans hcur hg2; obtain ⟨⟨x0, x1, x2, x3, x4, x5⟩, xf⟩ := cells6 (HB.out _ hcur); clear hg2)
                  | (go_at_call 23; refine (HGood.out _ (gtrans HG0.out hcur)).mono ?_; rintro e u3 ⟨rfl, hg3⟩; have hcur := gtrans hcur hg3; obtain ⟨⟨x0, x1, x2, x3, x4, x5⟩, xf⟩ := cells6 (HB.out _ hcur); clear hg3)
                  | (go_at_call 136; refine (HAll.out _ (gtrans HG0.out hcur)).mono ?_; rintro e u4 ⟨rfl, hg4⟩; have hcur := gtrans hcur hg4; obtain ⟨⟨x0, x1, x2, x3, x4, x5⟩, xf⟩ := cells6 (HB.out _ hcur); clear hg4)
                  | (go_at_call 137; refine (HFit.out _ (gtrans HG0.out hcur)).mono ?_; rintro e u5 ⟨rfl, hg5⟩; have hcur := gtrans hcur hg5; obtain ⟨⟨x0, x1, x2, x3, x4, x5⟩, xf⟩ := cells6 (HB.out _ hcur); clear hg5))
                go_ret
                exact ⟨by rw [HOE.out]; simp [d1, d6, e6], gtrans HG0.out hcur⟩
              | true =>
                cases KF with
                | false =>
                  go_enter Tryz.func74, Tryz.ntmps74
                  go_wp2_with (first
                    | (go_at_call 134; refine HI.out.mono ?_; rintro e w2 ⟨rfl, rfl⟩)
                    | (go_at_call 135; refine (HU.out _).mono ?_; rintro e u2 ⟨rfl, hg2⟩; have hcur := gtrans hcur hg2; obtain ⟨⟨x0, x1, x2, x3, x4, x5⟩, xf⟩ := cells6 (HB.out _ hcur); clear hg2)
                    | (go_at_call 23; refine (HGood.out _ (gtrans HG0.out hcur)).mono ?_; rintro e u3 ⟨rfl, hg3⟩; have hcur := gtrans hcur hg3; obtain ⟨⟨x0, x1, x2, x3, x4, x5⟩, xf⟩ := cells6 (HB.out _ hcur); clear hg3)
                    | (go_at_call 136; refine (HAll.out _ (gtrans HG0.out hcur)).mono ?_; rintro e u4 ⟨rfl, hg4⟩; have hcur := gtrans hcur hg4; obtain ⟨⟨x0, x1, x2, x3, x4, x5⟩, xf⟩ := cells6 (HB.out _ hcur); clear hg4)
                    | (go_at_call 137; refine (HFit.out _ (gtrans HG0.out hcur)).mono ?_; rintro e u5 ⟨rfl, hg5⟩; have hcur := gtrans hcur hg5; obtain ⟨⟨x0, x1, x2, x3, x4, x5⟩, xf⟩ := cells6 (HB.out _ hcur); clear hg5))
                  go_ret
                  exact ⟨by rw [HOE.out]; simp [d1, d6, e6], gtrans HG0.out hcur⟩
                | true =>
                  go_enter Tryz.func74, Tryz.ntmps74
                  go_wp2_with (first
                    | (go_at_call 134; refine HI.out.mono ?_; rintro e w2 ⟨rfl, rfl⟩)
                    | (go_at_call 135; refine (HU.out _).mono ?_; rintro e u2 ⟨rfl, hg2⟩; have hcur := gtrans hcur hg2; obtain ⟨⟨x0, x1, x2, x3, x4, x5⟩, xf⟩ := cells6 (HB.out _ hcur); clear hg2)
                    | (go_at_call 23; refine (HGood.out _ (gtrans HG0.out hcur)).mono ?_; rintro e u3 ⟨rfl, hg3⟩; have hcur := gtrans hcur hg3; obtain ⟨⟨x0, x1, x2, x3, x4, x5⟩, xf⟩ := cells6 (HB.out _ hcur); clear hg3)
                    | (go_at_call 136; refine (HAll.out _ (gtrans HG0.out hcur)).mono ?_; rintro e u4 ⟨rfl, hg4⟩; have hcur := gtrans hcur hg4; obtain ⟨⟨x0, x1, x2, x3, x4, x5⟩, xf⟩ := cells6 (HB.out _ hcur); clear hg4)
                    | (go_at_call 137; refine (HFit.out _ (gtrans HG0.out hcur)).mono ?_; rintro e u5 ⟨rfl, hg5⟩; have hcur := gtrans hcur hg5; obtain ⟨⟨x0, x1, x2, x3, x4, x5⟩, xf⟩ := cells6 (HB.out _ hcur); clear hg5))
                  go_ret
                  exact ⟨by rw [HOE.out]; simp [d1, d6, e6], gtrans HG0.out hcur⟩
end Go.Proofs.YtdmnhkgiojkphaaGreatDoor
