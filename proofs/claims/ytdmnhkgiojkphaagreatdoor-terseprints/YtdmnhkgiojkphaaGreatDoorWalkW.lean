/- The walks of unusedAreZero, checkAlone, check, Check. -/
import Derived.Test.YtdmnhkgiojkphaaGreatDoorX23
namespace Go.Proofs.YtdmnhkgiojkphaaGreatDoor
open Go Go.RowKit Go.Maps
open Go.RowKit (wrap32 wrap64)

theorem len0 (n : Nat) : ((n == 0) = true ∧ ((n : Int) == 0) = true) ∨ ((n == 0) = false ∧ ((n : Int) == 0) = false) := by
  by_cases h : n = 0
  · subst h; exact .inl ⟨rfl, rfl⟩
  · exact .inr ⟨beq_eq_false_iff_ne.2 h, beq_eq_false_iff_ne.2 (by omega)⟩
theorem text0 (s : ByteArray) : ((s.size == 0) = true ∧ (s.toList == []) = true ∧ s.toList.isEmpty = true) ∨ ((s.size == 0) = false ∧ (s.toList == []) = false ∧ s.toList.isEmpty = false) := by
  have e := empty_iff s
  by_cases h : s.size = 0
  · have h2 : s.toList = [] := (nil_iff s).2 h
    exact .inl ⟨by simp [h], by rw [h2]; rfl, by rw [h2]; rfl⟩
  · have h2 : s.toList ≠ [] := fun hh => h ((nil_iff s).1 hh)
    refine .inr ⟨by simp [h], ?_, ?_⟩
    · cases hl : s.toList with
      | nil => exact absurd hl h2
      | cons a r => rfl
    · rw [e]; simp [h]
theorem nz (n : Int) : (n == 0) = true ∨ (n == 0) = false := by cases (n == 0) <;> simp

/-- What unusedAreZero tells. -/
def spareV (K : Int) (f : Bool) (n : Int) (s : ByteArray) (KN A : Nat) : Bool := (!f || K == 2) && (n == 0 || K == 3) && (s.size == 0 || K == 4) && (KN == 0 || K == 6) && (A == 0 || hasItems K)

set_option maxRecDepth 100000 in
set_option maxHeartbeats 4000000 in
theorem unused2 (w : World) (f : Bool) (n : Int) (s : ByteArray) (ka ia : Option Addr) (KN kc A ic : Nat) :
    Calls Tryz.prog 135 #[.agg #[.int .i64 2, .bool f, .int .i64 n, .string s, .slice ka KN kc, .slice ia A ic]] w fun e w' => e = .returned (.bool (spareV 2 f n s KN A)) ∧ w.grownBy w' none := by
  have g0 : w.grownBy (w.alloc (.cells #[.int .i64 2, .bool f, .int .i64 n, .string s, .slice ka KN kc, .slice ia A ic] 26)) none := galloc _ _ none
  obtain ⟨W0, hW0⟩ : ∃ W0, w.alloc (.cells #[.int .i64 2, .bool f, .int .i64 n, .string s, .slice ka KN kc, .slice ia A ic] 26) = W0 := ⟨_, rfl⟩
  have c0 := boxed w (.int .i64 2) (.bool f) (.int .i64 n) (.string s) (.slice ka KN kc) (.slice ia A ic)
  rw [hW0] at c0 g0
  have HG0 := hid g0
  obtain ⟨⟨x0, x1, x2, x3, x4, x5⟩, xf⟩ := cells6 c0
  have HI := hid (hasItems_any W0 2)
  obtain ⟨V, HV⟩ : ∃ V, Hid (spareV 2 f n s KN A = V) := ⟨_, hid rfl⟩
  rw [HV.out]
  unfold spareV at HV
  clear c0 g0
  cases f with
  | false =>
    rcases nz n with h2 | h2
    · rcases text0 s with ⟨h3, h3b, h3c⟩ | ⟨h3, h3b, h3c⟩
      · rcases len0 KN with ⟨h4b, h4c⟩ | ⟨h4b, h4c⟩
        · rcases len0 A with ⟨h5b, h5c⟩ | ⟨h5b, h5c⟩
          · go_enter Tryz.func135, Tryz.ntmps135
            go_wp2_with (go_at_call 134; refine HI.out.mono ?_; rintro e w2 ⟨rfl, rfl⟩)
            go_ret
            exact ⟨by rw [← HV.out]; simp [h2, h3, h4b, h5b], HG0.out⟩
          · go_enter Tryz.func135, Tryz.ntmps135
            go_wp2_with (go_at_call 134; refine HI.out.mono ?_; rintro e w2 ⟨rfl, rfl⟩)
            go_ret
            exact ⟨by rw [← HV.out]; simp [h2, h3, h4b, h5b], HG0.out⟩
        · go_enter Tryz.func135, Tryz.ntmps135
          go_wp2_with (go_at_call 134; refine HI.out.mono ?_; rintro e w2 ⟨rfl, rfl⟩)
          go_ret
          exact ⟨by rw [← HV.out]; simp [h2, h3, h4b], HG0.out⟩
      · go_enter Tryz.func135, Tryz.ntmps135
        go_wp2_with (go_at_call 134; refine HI.out.mono ?_; rintro e w2 ⟨rfl, rfl⟩)
        go_ret
        exact ⟨by rw [← HV.out]; simp [h2, h3], HG0.out⟩
    · go_enter Tryz.func135, Tryz.ntmps135
      go_wp2_with (go_at_call 134; refine HI.out.mono ?_; rintro e w2 ⟨rfl, rfl⟩)
      go_ret
      exact ⟨by rw [← HV.out]; simp [h2], HG0.out⟩
  | true =>
    rcases nz n with h2 | h2
    · rcases text0 s with ⟨h3, h3b, h3c⟩ | ⟨h3, h3b, h3c⟩
      · rcases len0 KN with ⟨h4b, h4c⟩ | ⟨h4b, h4c⟩
        · rcases len0 A with ⟨h5b, h5c⟩ | ⟨h5b, h5c⟩
          · go_enter Tryz.func135, Tryz.ntmps135
            go_wp2_with (go_at_call 134; refine HI.out.mono ?_; rintro e w2 ⟨rfl, rfl⟩)
            go_ret
            exact ⟨by rw [← HV.out]; simp [h2, h3, h4b, h5b], HG0.out⟩
          · go_enter Tryz.func135, Tryz.ntmps135
            go_wp2_with (go_at_call 134; refine HI.out.mono ?_; rintro e w2 ⟨rfl, rfl⟩)
            go_ret
            exact ⟨by rw [← HV.out]; simp [h2, h3, h4b, h5b], HG0.out⟩
        · go_enter Tryz.func135, Tryz.ntmps135
          go_wp2_with (go_at_call 134; refine HI.out.mono ?_; rintro e w2 ⟨rfl, rfl⟩)
          go_ret
          exact ⟨by rw [← HV.out]; simp [h2, h3, h4b], HG0.out⟩
      · go_enter Tryz.func135, Tryz.ntmps135
        go_wp2_with (go_at_call 134; refine HI.out.mono ?_; rintro e w2 ⟨rfl, rfl⟩)
        go_ret
        exact ⟨by rw [← HV.out]; simp [h2, h3], HG0.out⟩
    · go_enter Tryz.func135, Tryz.ntmps135
      go_wp2_with (go_at_call 134; refine HI.out.mono ?_; rintro e w2 ⟨rfl, rfl⟩)
      go_ret
      exact ⟨by rw [← HV.out]; simp [h2], HG0.out⟩

set_option maxRecDepth 100000 in
set_option maxHeartbeats 4000000 in
theorem unused3 (w : World) (f : Bool) (n : Int) (s : ByteArray) (ka ia : Option Addr) (KN kc A ic : Nat) :
    Calls Tryz.prog 135 #[.agg #[.int .i64 3, .bool f, .int .i64 n, .string s, .slice ka KN kc, .slice ia A ic]] w fun e w' => e = .returned (.bool (spareV 3 f n s KN A)) ∧ w.grownBy w' none := by
  have g0 : w.grownBy (w.alloc (.cells #[.int .i64 3, .bool f, .int .i64 n, .string s, .slice ka KN kc, .slice ia A ic] 26)) none := galloc _ _ none
  obtain ⟨W0, hW0⟩ : ∃ W0, w.alloc (.cells #[.int .i64 3, .bool f, .int .i64 n, .string s, .slice ka KN kc, .slice ia A ic] 26) = W0 := ⟨_, rfl⟩
  have c0 := boxed w (.int .i64 3) (.bool f) (.int .i64 n) (.string s) (.slice ka KN kc) (.slice ia A ic)
  rw [hW0] at c0 g0
  have HG0 := hid g0
  obtain ⟨⟨x0, x1, x2, x3, x4, x5⟩, xf⟩ := cells6 c0
  have HI := hid (hasItems_any W0 3)
  obtain ⟨V, HV⟩ : ∃ V, Hid (spareV 3 f n s KN A = V) := ⟨_, hid rfl⟩
  rw [HV.out]
  unfold spareV at HV
  clear c0 g0
  cases f with
  | false =>
    rcases nz n with h2 | h2
    · rcases text0 s with ⟨h3, h3b, h3c⟩ | ⟨h3, h3b, h3c⟩
      · rcases len0 KN with ⟨h4b, h4c⟩ | ⟨h4b, h4c⟩
        · rcases len0 A with ⟨h5b, h5c⟩ | ⟨h5b, h5c⟩
          · go_enter Tryz.func135, Tryz.ntmps135
            go_wp2_with (go_at_call 134; refine HI.out.mono ?_; rintro e w2 ⟨rfl, rfl⟩)
            go_ret
            exact ⟨by rw [← HV.out]; simp [h2, h3, h4b, h5b], HG0.out⟩
          · go_enter Tryz.func135, Tryz.ntmps135
            go_wp2_with (go_at_call 134; refine HI.out.mono ?_; rintro e w2 ⟨rfl, rfl⟩)
            go_ret
            exact ⟨by rw [← HV.out]; simp [h2, h3, h4b, h5b], HG0.out⟩
        · go_enter Tryz.func135, Tryz.ntmps135
          go_wp2_with (go_at_call 134; refine HI.out.mono ?_; rintro e w2 ⟨rfl, rfl⟩)
          go_ret
          exact ⟨by rw [← HV.out]; simp [h2, h3, h4b], HG0.out⟩
      · go_enter Tryz.func135, Tryz.ntmps135
        go_wp2_with (go_at_call 134; refine HI.out.mono ?_; rintro e w2 ⟨rfl, rfl⟩)
        go_ret
        exact ⟨by rw [← HV.out]; simp [h2, h3], HG0.out⟩
    · rcases text0 s with ⟨h3, h3b, h3c⟩ | ⟨h3, h3b, h3c⟩
      · rcases len0 KN with ⟨h4b, h4c⟩ | ⟨h4b, h4c⟩
        · rcases len0 A with ⟨h5b, h5c⟩ | ⟨h5b, h5c⟩
          · go_enter Tryz.func135, Tryz.ntmps135
            go_wp2_with (go_at_call 134; refine HI.out.mono ?_; rintro e w2 ⟨rfl, rfl⟩)
            go_ret
            exact ⟨by rw [← HV.out]; simp [h2, h3, h4b, h5b], HG0.out⟩
          · go_enter Tryz.func135, Tryz.ntmps135
            go_wp2_with (go_at_call 134; refine HI.out.mono ?_; rintro e w2 ⟨rfl, rfl⟩)
            go_ret
            exact ⟨by rw [← HV.out]; simp [h2, h3, h4b, h5b], HG0.out⟩
        · go_enter Tryz.func135, Tryz.ntmps135
          go_wp2_with (go_at_call 134; refine HI.out.mono ?_; rintro e w2 ⟨rfl, rfl⟩)
          go_ret
          exact ⟨by rw [← HV.out]; simp [h2, h3, h4b], HG0.out⟩
      · go_enter Tryz.func135, Tryz.ntmps135
        go_wp2_with (go_at_call 134; refine HI.out.mono ?_; rintro e w2 ⟨rfl, rfl⟩)
        go_ret
        exact ⟨by rw [← HV.out]; simp [h2, h3], HG0.out⟩
  | true =>
    go_enter Tryz.func135, Tryz.ntmps135
    go_wp2_with (go_at_call 134; refine HI.out.mono ?_; rintro e w2 ⟨rfl, rfl⟩)
    go_ret
    exact ⟨by rw [← HV.out]; simp, HG0.out⟩

set_option maxRecDepth 100000 in
set_option maxHeartbeats 4000000 in
theorem unused4 (w : World) (f : Bool) (n : Int) (s : ByteArray) (ka ia : Option Addr) (KN kc A ic : Nat) :
    Calls Tryz.prog 135 #[.agg #[.int .i64 4, .bool f, .int .i64 n, .string s, .slice ka KN kc, .slice ia A ic]] w fun e w' => e = .returned (.bool (spareV 4 f n s KN A)) ∧ w.grownBy w' none := by
  have g0 : w.grownBy (w.alloc (.cells #[.int .i64 4, .bool f, .int .i64 n, .string s, .slice ka KN kc, .slice ia A ic] 26)) none := galloc _ _ none
  obtain ⟨W0, hW0⟩ : ∃ W0, w.alloc (.cells #[.int .i64 4, .bool f, .int .i64 n, .string s, .slice ka KN kc, .slice ia A ic] 26) = W0 := ⟨_, rfl⟩
  have c0 := boxed w (.int .i64 4) (.bool f) (.int .i64 n) (.string s) (.slice ka KN kc) (.slice ia A ic)
  rw [hW0] at c0 g0
  have HG0 := hid g0
  obtain ⟨⟨x0, x1, x2, x3, x4, x5⟩, xf⟩ := cells6 c0
  have HI := hid (hasItems_any W0 4)
  obtain ⟨V, HV⟩ : ∃ V, Hid (spareV 4 f n s KN A = V) := ⟨_, hid rfl⟩
  rw [HV.out]
  unfold spareV at HV
  clear c0 g0
  cases f with
  | false =>
    rcases nz n with h2 | h2
    · rcases text0 s with ⟨h3, h3b, h3c⟩ | ⟨h3, h3b, h3c⟩
      · rcases len0 KN with ⟨h4b, h4c⟩ | ⟨h4b, h4c⟩
        · rcases len0 A with ⟨h5b, h5c⟩ | ⟨h5b, h5c⟩
          · go_enter Tryz.func135, Tryz.ntmps135
            go_wp2_with (go_at_call 134; refine HI.out.mono ?_; rintro e w2 ⟨rfl, rfl⟩)
            go_ret
            exact ⟨by rw [← HV.out]; simp [h2, h3, h4b, h5b], HG0.out⟩
          · go_enter Tryz.func135, Tryz.ntmps135
            go_wp2_with (go_at_call 134; refine HI.out.mono ?_; rintro e w2 ⟨rfl, rfl⟩)
            go_ret
            exact ⟨by rw [← HV.out]; simp [h2, h3, h4b, h5b], HG0.out⟩
        · go_enter Tryz.func135, Tryz.ntmps135
          go_wp2_with (go_at_call 134; refine HI.out.mono ?_; rintro e w2 ⟨rfl, rfl⟩)
          go_ret
          exact ⟨by rw [← HV.out]; simp [h2, h3, h4b], HG0.out⟩
      · rcases len0 KN with ⟨h4b, h4c⟩ | ⟨h4b, h4c⟩
        · rcases len0 A with ⟨h5b, h5c⟩ | ⟨h5b, h5c⟩
          · go_enter Tryz.func135, Tryz.ntmps135
            go_wp2_with (go_at_call 134; refine HI.out.mono ?_; rintro e w2 ⟨rfl, rfl⟩)
            go_ret
            exact ⟨by rw [← HV.out]; simp [h2, h3, h4b, h5b], HG0.out⟩
          · go_enter Tryz.func135, Tryz.ntmps135
            go_wp2_with (go_at_call 134; refine HI.out.mono ?_; rintro e w2 ⟨rfl, rfl⟩)
            go_ret
            exact ⟨by rw [← HV.out]; simp [h2, h3, h4b, h5b], HG0.out⟩
        · go_enter Tryz.func135, Tryz.ntmps135
          go_wp2_with (go_at_call 134; refine HI.out.mono ?_; rintro e w2 ⟨rfl, rfl⟩)
          go_ret
          exact ⟨by rw [← HV.out]; simp [h2, h3, h4b], HG0.out⟩
    · go_enter Tryz.func135, Tryz.ntmps135
      go_wp2_with (go_at_call 134; refine HI.out.mono ?_; rintro e w2 ⟨rfl, rfl⟩)
      go_ret
      exact ⟨by rw [← HV.out]; simp [h2], HG0.out⟩
  | true =>
    go_enter Tryz.func135, Tryz.ntmps135
    go_wp2_with (go_at_call 134; refine HI.out.mono ?_; rintro e w2 ⟨rfl, rfl⟩)
    go_ret
    exact ⟨by rw [← HV.out]; simp, HG0.out⟩

set_option maxRecDepth 100000 in
set_option maxHeartbeats 4000000 in
theorem unused6 (w : World) (f : Bool) (n : Int) (s : ByteArray) (ka ia : Option Addr) (KN kc A ic : Nat) :
    Calls Tryz.prog 135 #[.agg #[.int .i64 6, .bool f, .int .i64 n, .string s, .slice ka KN kc, .slice ia A ic]] w fun e w' => e = .returned (.bool (spareV 6 f n s KN A)) ∧ w.grownBy w' none := by
  have g0 : w.grownBy (w.alloc (.cells #[.int .i64 6, .bool f, .int .i64 n, .string s, .slice ka KN kc, .slice ia A ic] 26)) none := galloc _ _ none
  obtain ⟨W0, hW0⟩ : ∃ W0, w.alloc (.cells #[.int .i64 6, .bool f, .int .i64 n, .string s, .slice ka KN kc, .slice ia A ic] 26) = W0 := ⟨_, rfl⟩
  have c0 := boxed w (.int .i64 6) (.bool f) (.int .i64 n) (.string s) (.slice ka KN kc) (.slice ia A ic)
  rw [hW0] at c0 g0
  have HG0 := hid g0
  obtain ⟨⟨x0, x1, x2, x3, x4, x5⟩, xf⟩ := cells6 c0
  have HI := hid (hasItems_any W0 6)
  obtain ⟨V, HV⟩ : ∃ V, Hid (spareV 6 f n s KN A = V) := ⟨_, hid rfl⟩
  rw [HV.out]
  unfold spareV at HV
  clear c0 g0
  cases f with
  | false =>
    rcases nz n with h2 | h2
    · rcases text0 s with ⟨h3, h3b, h3c⟩ | ⟨h3, h3b, h3c⟩
      · rcases len0 KN with ⟨h4b, h4c⟩ | ⟨h4b, h4c⟩
        · rcases len0 A with ⟨h5b, h5c⟩ | ⟨h5b, h5c⟩
          · go_enter Tryz.func135, Tryz.ntmps135
            go_wp2_with (go_at_call 134; refine HI.out.mono ?_; rintro e w2 ⟨rfl, rfl⟩)
            go_ret
            exact ⟨by rw [← HV.out]; simp [h2, h3, h4b, h5b], HG0.out⟩
          · go_enter Tryz.func135, Tryz.ntmps135
            go_wp2_with (go_at_call 134; refine HI.out.mono ?_; rintro e w2 ⟨rfl, rfl⟩)
            go_ret
            exact ⟨by rw [← HV.out]; simp [h2, h3, h4b, h5b], HG0.out⟩
        · rcases len0 A with ⟨h5b, h5c⟩ | ⟨h5b, h5c⟩
          · go_enter Tryz.func135, Tryz.ntmps135
            go_wp2_with (go_at_call 134; refine HI.out.mono ?_; rintro e w2 ⟨rfl, rfl⟩)
            go_ret
            exact ⟨by rw [← HV.out]; simp [h2, h3, h4b, h5b], HG0.out⟩
          · go_enter Tryz.func135, Tryz.ntmps135
            go_wp2_with (go_at_call 134; refine HI.out.mono ?_; rintro e w2 ⟨rfl, rfl⟩)
            go_ret
            exact ⟨by rw [← HV.out]; simp [h2, h3, h4b, h5b], HG0.out⟩
      · go_enter Tryz.func135, Tryz.ntmps135
        go_wp2_with (go_at_call 134; refine HI.out.mono ?_; rintro e w2 ⟨rfl, rfl⟩)
        go_ret
        exact ⟨by rw [← HV.out]; simp [h2, h3], HG0.out⟩
    · go_enter Tryz.func135, Tryz.ntmps135
      go_wp2_with (go_at_call 134; refine HI.out.mono ?_; rintro e w2 ⟨rfl, rfl⟩)
      go_ret
      exact ⟨by rw [← HV.out]; simp [h2], HG0.out⟩
  | true =>
    go_enter Tryz.func135, Tryz.ntmps135
    go_wp2_with (go_at_call 134; refine HI.out.mono ?_; rintro e w2 ⟨rfl, rfl⟩)
    go_ret
    exact ⟨by rw [← HV.out]; simp, HG0.out⟩

set_option maxRecDepth 100000 in
set_option maxHeartbeats 4000000 in
theorem unusedK (w : World) (K : Int) (f : Bool) (n : Int) (s : ByteArray) (ka ia : Option Addr) (KN kc A ic : Nat) (e2 : (K == 2) = false) (e3 : (K == 3) = false) (e4 : (K == 4) = false) (e6 : (K == 6) = false) :
    Calls Tryz.prog 135 #[.agg #[.int .i64 K, .bool f, .int .i64 n, .string s, .slice ka KN kc, .slice ia A ic]] w fun e w' => e = .returned (.bool (spareV K f n s KN A)) ∧ w.grownBy w' none := by
  have g0 : w.grownBy (w.alloc (.cells #[.int .i64 K, .bool f, .int .i64 n, .string s, .slice ka KN kc, .slice ia A ic] 26)) none := galloc _ _ none
  obtain ⟨W0, hW0⟩ : ∃ W0, w.alloc (.cells #[.int .i64 K, .bool f, .int .i64 n, .string s, .slice ka KN kc, .slice ia A ic] 26) = W0 := ⟨_, rfl⟩
  have c0 := boxed w (.int .i64 K) (.bool f) (.int .i64 n) (.string s) (.slice ka KN kc) (.slice ia A ic)
  rw [hW0] at c0 g0
  have HG0 := hid g0
  obtain ⟨⟨x0, x1, x2, x3, x4, x5⟩, xf⟩ := cells6 c0
  have HI := hid (hasItems_any W0 K)
  obtain ⟨V, HV⟩ : ∃ V, Hid (spareV K f n s KN A = V) := ⟨_, hid rfl⟩
  rw [HV.out]
  unfold spareV at HV
  clear c0 g0
  cases f with
  | false =>
    rcases nz n with h2 | h2
    · rcases text0 s with ⟨h3, h3b, h3c⟩ | ⟨h3, h3b, h3c⟩
      · rcases len0 KN with ⟨h4b, h4c⟩ | ⟨h4b, h4c⟩
        · rcases len0 A with ⟨h5b, h5c⟩ | ⟨h5b, h5c⟩
          · go_enter Tryz.func135, Tryz.ntmps135
            go_wp2_with (go_at_call 134; refine HI.out.mono ?_; rintro e w2 ⟨rfl, rfl⟩)
            go_ret
            exact ⟨by rw [← HV.out]; simp [h2, h3, h4b, h5b, e2, e3, e4, e6], HG0.out⟩
          · go_enter Tryz.func135, Tryz.ntmps135
            go_wp2_with (go_at_call 134; refine HI.out.mono ?_; rintro e w2 ⟨rfl, rfl⟩)
            go_ret
            exact ⟨by rw [← HV.out]; simp [h2, h3, h4b, h5b, e2, e3, e4, e6], HG0.out⟩
        · go_enter Tryz.func135, Tryz.ntmps135
          go_wp2_with (go_at_call 134; refine HI.out.mono ?_; rintro e w2 ⟨rfl, rfl⟩)
          go_ret
          exact ⟨by rw [← HV.out]; simp [h2, h3, h4b, e2, e3, e4, e6], HG0.out⟩
      · go_enter Tryz.func135, Tryz.ntmps135
        go_wp2_with (go_at_call 134; refine HI.out.mono ?_; rintro e w2 ⟨rfl, rfl⟩)
        go_ret
        exact ⟨by rw [← HV.out]; simp [h2, h3, e2, e3, e4, e6], HG0.out⟩
    · go_enter Tryz.func135, Tryz.ntmps135
      go_wp2_with (go_at_call 134; refine HI.out.mono ?_; rintro e w2 ⟨rfl, rfl⟩)
      go_ret
      exact ⟨by rw [← HV.out]; simp [h2, e2, e3, e4, e6], HG0.out⟩
  | true =>
    go_enter Tryz.func135, Tryz.ntmps135
    go_wp2_with (go_at_call 134; refine HI.out.mono ?_; rintro e w2 ⟨rfl, rfl⟩)
    go_ret
    exact ⟨by rw [← HV.out]; simp [e2, e3, e4, e6], HG0.out⟩
end Go.Proofs.YtdmnhkgiojkphaaGreatDoor
