/- The reference's spare, walked. -/
import Derived.Test.YtdmnhkgiojkphaaGreatDoorX23
import Derived.Test.YtdmnhkgiojkphaaGreatDoorX20
namespace Go.Proofs.YtdmnhkgiojkphaaGreatDoor
open Go Go.RowKit
open Go.RowKit (wrap32 wrap64)

theorem nzb (n : Int) : ((n == 0) = true ∧ (n != 0) = false) ∨ ((n == 0) = false ∧ (n != 0) = true) := by cases h : (n == 0) <;> simp [bne, h]

set_option maxRecDepth 100000 in
set_option maxHeartbeats 4000000 in
theorem spare2 (w : World) (f : Bool) (n : Int) (s : ByteArray) (ka ia : Option Addr) (KN kc A ic : Nat) :
    Calls Tryz.prog 128 #[.agg #[.int .i64 2, .bool f, .int .i64 n, .string s, .slice ka KN kc, .slice ia A ic]] w fun e w' => e = .returned (.bool (spareV 2 f n s KN A)) ∧ w.grownBy w' none := by
  have g0 : w.grownBy (w.alloc (.cells #[.int .i64 2, .bool f, .int .i64 n, .string s, .slice ka KN kc, .slice ia A ic] 26)) none := galloc _ _ none
  obtain ⟨W0, hW0⟩ : ∃ W0, w.alloc (.cells #[.int .i64 2, .bool f, .int .i64 n, .string s, .slice ka KN kc, .slice ia A ic] 26) = W0 := ⟨_, rfl⟩
  have c0 := boxed w (.int .i64 2) (.bool f) (.int .i64 n) (.string s) (.slice ka KN kc) (.slice ia A ic)
  rw [hW0] at c0 g0
  have HG0 := hid g0
  obtain ⟨⟨x0, x1, x2, x3, x4, x5⟩, xf⟩ := cells6 c0
  obtain ⟨V, HV⟩ : ∃ V, Hid (spareV 2 f n s KN A = V) := ⟨_, hid rfl⟩
  rw [HV.out]
  unfold spareV at HV
  have HI : Hid (hasItems 2 = false) := hid (by decide)
  clear c0 g0
  cases f with
  | true =>
    rcases nzb n with ⟨n1, n2⟩ | ⟨n1, n2⟩
    · as_aux_lemma =>
      rcases text0 s with ⟨s1, s2, s3⟩ | ⟨s1, s2, s3⟩
      · as_aux_lemma =>
        rcases len0 KN with ⟨k1, k2⟩ | ⟨k1, k2⟩
        · as_aux_lemma =>
          rcases len0 A with ⟨a1, a2⟩ | ⟨a1, a2⟩
          · as_aux_lemma =>
            go_enter Tryz.func128, Tryz.ntmps128
            go_wp2_with fail
            go_ret
            exact ⟨by rw [← HV.out]; simp [n1, s1, k1, a1, HI.out], HG0.out⟩
          · as_aux_lemma =>
            go_enter Tryz.func128, Tryz.ntmps128
            go_wp2_with fail
            go_ret
            exact ⟨by rw [← HV.out]; simp [n1, s1, k1, a1, HI.out], HG0.out⟩
        · as_aux_lemma =>
          go_enter Tryz.func128, Tryz.ntmps128
          go_wp2_with fail
          go_ret
          exact ⟨by rw [← HV.out]; simp [n1, s1, k1, HI.out], HG0.out⟩
      · as_aux_lemma =>
        go_enter Tryz.func128, Tryz.ntmps128
        go_wp2_with fail
        go_ret
        exact ⟨by rw [← HV.out]; simp [n1, s1, HI.out], HG0.out⟩
    · as_aux_lemma =>
      go_enter Tryz.func128, Tryz.ntmps128
      go_wp2_with fail
      go_ret
      exact ⟨by rw [← HV.out]; simp [n1, HI.out], HG0.out⟩
  | false =>
    rcases nzb n with ⟨n1, n2⟩ | ⟨n1, n2⟩
    · as_aux_lemma =>
      rcases text0 s with ⟨s1, s2, s3⟩ | ⟨s1, s2, s3⟩
      · as_aux_lemma =>
        rcases len0 KN with ⟨k1, k2⟩ | ⟨k1, k2⟩
        · as_aux_lemma =>
          rcases len0 A with ⟨a1, a2⟩ | ⟨a1, a2⟩
          · as_aux_lemma =>
            go_enter Tryz.func128, Tryz.ntmps128
            go_wp2_with fail
            go_ret
            exact ⟨by rw [← HV.out]; simp [n1, s1, k1, a1, HI.out], HG0.out⟩
          · as_aux_lemma =>
            go_enter Tryz.func128, Tryz.ntmps128
            go_wp2_with fail
            go_ret
            exact ⟨by rw [← HV.out]; simp [n1, s1, k1, a1, HI.out], HG0.out⟩
        · as_aux_lemma =>
          go_enter Tryz.func128, Tryz.ntmps128
          go_wp2_with fail
          go_ret
          exact ⟨by rw [← HV.out]; simp [n1, s1, k1, HI.out], HG0.out⟩
      · as_aux_lemma =>
        go_enter Tryz.func128, Tryz.ntmps128
        go_wp2_with fail
        go_ret
        exact ⟨by rw [← HV.out]; simp [n1, s1, HI.out], HG0.out⟩
    · as_aux_lemma =>
      go_enter Tryz.func128, Tryz.ntmps128
      go_wp2_with fail
      go_ret
      exact ⟨by rw [← HV.out]; simp [n1, HI.out], HG0.out⟩
set_option maxRecDepth 100000 in
set_option maxHeartbeats 4000000 in
theorem spare3 (w : World) (f : Bool) (n : Int) (s : ByteArray) (ka ia : Option Addr) (KN kc A ic : Nat) :
    Calls Tryz.prog 128 #[.agg #[.int .i64 3, .bool f, .int .i64 n, .string s, .slice ka KN kc, .slice ia A ic]] w fun e w' => e = .returned (.bool (spareV 3 f n s KN A)) ∧ w.grownBy w' none := by
  have g0 : w.grownBy (w.alloc (.cells #[.int .i64 3, .bool f, .int .i64 n, .string s, .slice ka KN kc, .slice ia A ic] 26)) none := galloc _ _ none
  obtain ⟨W0, hW0⟩ : ∃ W0, w.alloc (.cells #[.int .i64 3, .bool f, .int .i64 n, .string s, .slice ka KN kc, .slice ia A ic] 26) = W0 := ⟨_, rfl⟩
  have c0 := boxed w (.int .i64 3) (.bool f) (.int .i64 n) (.string s) (.slice ka KN kc) (.slice ia A ic)
  rw [hW0] at c0 g0
  have HG0 := hid g0
  obtain ⟨⟨x0, x1, x2, x3, x4, x5⟩, xf⟩ := cells6 c0
  obtain ⟨V, HV⟩ : ∃ V, Hid (spareV 3 f n s KN A = V) := ⟨_, hid rfl⟩
  rw [HV.out]
  unfold spareV at HV
  have HI : Hid (hasItems 3 = false) := hid (by decide)
  clear c0 g0
  cases f with
  | true =>
    go_enter Tryz.func128, Tryz.ntmps128
    go_wp2_with fail
    go_ret
    exact ⟨by rw [← HV.out]; simp [HI.out], HG0.out⟩
  | false =>
    rcases nzb n with ⟨n1, n2⟩ | ⟨n1, n2⟩
    · as_aux_lemma =>
      rcases text0 s with ⟨s1, s2, s3⟩ | ⟨s1, s2, s3⟩
      · as_aux_lemma =>
        rcases len0 KN with ⟨k1, k2⟩ | ⟨k1, k2⟩
        · as_aux_lemma =>
          rcases len0 A with ⟨a1, a2⟩ | ⟨a1, a2⟩
          · as_aux_lemma =>
            go_enter Tryz.func128, Tryz.ntmps128
            go_wp2_with fail
            go_ret
            exact ⟨by rw [← HV.out]; simp [n1, s1, k1, a1, HI.out], HG0.out⟩
          · as_aux_lemma =>
            go_enter Tryz.func128, Tryz.ntmps128
            go_wp2_with fail
            go_ret
            exact ⟨by rw [← HV.out]; simp [n1, s1, k1, a1, HI.out], HG0.out⟩
        · as_aux_lemma =>
          go_enter Tryz.func128, Tryz.ntmps128
          go_wp2_with fail
          go_ret
          exact ⟨by rw [← HV.out]; simp [n1, s1, k1, HI.out], HG0.out⟩
      · as_aux_lemma =>
        go_enter Tryz.func128, Tryz.ntmps128
        go_wp2_with fail
        go_ret
        exact ⟨by rw [← HV.out]; simp [n1, s1, HI.out], HG0.out⟩
    · as_aux_lemma =>
      rcases text0 s with ⟨s1, s2, s3⟩ | ⟨s1, s2, s3⟩
      · as_aux_lemma =>
        rcases len0 KN with ⟨k1, k2⟩ | ⟨k1, k2⟩
        · as_aux_lemma =>
          rcases len0 A with ⟨a1, a2⟩ | ⟨a1, a2⟩
          · as_aux_lemma =>
            go_enter Tryz.func128, Tryz.ntmps128
            go_wp2_with fail
            go_ret
            exact ⟨by rw [← HV.out]; simp [n1, s1, k1, a1, HI.out], HG0.out⟩
          · as_aux_lemma =>
            go_enter Tryz.func128, Tryz.ntmps128
            go_wp2_with fail
            go_ret
            exact ⟨by rw [← HV.out]; simp [n1, s1, k1, a1, HI.out], HG0.out⟩
        · as_aux_lemma =>
          go_enter Tryz.func128, Tryz.ntmps128
          go_wp2_with fail
          go_ret
          exact ⟨by rw [← HV.out]; simp [n1, s1, k1, HI.out], HG0.out⟩
      · as_aux_lemma =>
        go_enter Tryz.func128, Tryz.ntmps128
        go_wp2_with fail
        go_ret
        exact ⟨by rw [← HV.out]; simp [n1, s1, HI.out], HG0.out⟩
set_option maxRecDepth 100000 in
set_option maxHeartbeats 4000000 in
theorem spare4 (w : World) (f : Bool) (n : Int) (s : ByteArray) (ka ia : Option Addr) (KN kc A ic : Nat) :
    Calls Tryz.prog 128 #[.agg #[.int .i64 4, .bool f, .int .i64 n, .string s, .slice ka KN kc, .slice ia A ic]] w fun e w' => e = .returned (.bool (spareV 4 f n s KN A)) ∧ w.grownBy w' none := by
  have g0 : w.grownBy (w.alloc (.cells #[.int .i64 4, .bool f, .int .i64 n, .string s, .slice ka KN kc, .slice ia A ic] 26)) none := galloc _ _ none
  obtain ⟨W0, hW0⟩ : ∃ W0, w.alloc (.cells #[.int .i64 4, .bool f, .int .i64 n, .string s, .slice ka KN kc, .slice ia A ic] 26) = W0 := ⟨_, rfl⟩
  have c0 := boxed w (.int .i64 4) (.bool f) (.int .i64 n) (.string s) (.slice ka KN kc) (.slice ia A ic)
  rw [hW0] at c0 g0
  have HG0 := hid g0
  obtain ⟨⟨x0, x1, x2, x3, x4, x5⟩, xf⟩ := cells6 c0
  obtain ⟨V, HV⟩ : ∃ V, Hid (spareV 4 f n s KN A = V) := ⟨_, hid rfl⟩
  rw [HV.out]
  unfold spareV at HV
  have HI : Hid (hasItems 4 = false) := hid (by decide)
  clear c0 g0
  cases f with
  | true =>
    go_enter Tryz.func128, Tryz.ntmps128
    go_wp2_with fail
    go_ret
    exact ⟨by rw [← HV.out]; simp [HI.out], HG0.out⟩
  | false =>
    rcases nzb n with ⟨n1, n2⟩ | ⟨n1, n2⟩
    · as_aux_lemma =>
      rcases text0 s with ⟨s1, s2, s3⟩ | ⟨s1, s2, s3⟩
      · as_aux_lemma =>
        rcases len0 KN with ⟨k1, k2⟩ | ⟨k1, k2⟩
        · as_aux_lemma =>
          rcases len0 A with ⟨a1, a2⟩ | ⟨a1, a2⟩
          · as_aux_lemma =>
            go_enter Tryz.func128, Tryz.ntmps128
            go_wp2_with fail
            go_ret
            exact ⟨by rw [← HV.out]; simp [n1, s1, k1, a1, HI.out], HG0.out⟩
          · as_aux_lemma =>
            go_enter Tryz.func128, Tryz.ntmps128
            go_wp2_with fail
            go_ret
            exact ⟨by rw [← HV.out]; simp [n1, s1, k1, a1, HI.out], HG0.out⟩
        · as_aux_lemma =>
          go_enter Tryz.func128, Tryz.ntmps128
          go_wp2_with fail
          go_ret
          exact ⟨by rw [← HV.out]; simp [n1, s1, k1, HI.out], HG0.out⟩
      · as_aux_lemma =>
        rcases len0 KN with ⟨k1, k2⟩ | ⟨k1, k2⟩
        · as_aux_lemma =>
          rcases len0 A with ⟨a1, a2⟩ | ⟨a1, a2⟩
          · as_aux_lemma =>
            go_enter Tryz.func128, Tryz.ntmps128
            go_wp2_with fail
            go_ret
            exact ⟨by rw [← HV.out]; simp [n1, s1, k1, a1, HI.out], HG0.out⟩
          · as_aux_lemma =>
            go_enter Tryz.func128, Tryz.ntmps128
            go_wp2_with fail
            go_ret
            exact ⟨by rw [← HV.out]; simp [n1, s1, k1, a1, HI.out], HG0.out⟩
        · as_aux_lemma =>
          go_enter Tryz.func128, Tryz.ntmps128
          go_wp2_with fail
          go_ret
          exact ⟨by rw [← HV.out]; simp [n1, s1, k1, HI.out], HG0.out⟩
    · as_aux_lemma =>
      go_enter Tryz.func128, Tryz.ntmps128
      go_wp2_with fail
      go_ret
      exact ⟨by rw [← HV.out]; simp [n1, HI.out], HG0.out⟩
set_option maxRecDepth 100000 in
set_option maxHeartbeats 4000000 in
theorem spare5 (w : World) (f : Bool) (n : Int) (s : ByteArray) (ka ia : Option Addr) (KN kc A ic : Nat) :
    Calls Tryz.prog 128 #[.agg #[.int .i64 5, .bool f, .int .i64 n, .string s, .slice ka KN kc, .slice ia A ic]] w fun e w' => e = .returned (.bool (spareV 5 f n s KN A)) ∧ w.grownBy w' none := by
  have g0 : w.grownBy (w.alloc (.cells #[.int .i64 5, .bool f, .int .i64 n, .string s, .slice ka KN kc, .slice ia A ic] 26)) none := galloc _ _ none
  obtain ⟨W0, hW0⟩ : ∃ W0, w.alloc (.cells #[.int .i64 5, .bool f, .int .i64 n, .string s, .slice ka KN kc, .slice ia A ic] 26) = W0 := ⟨_, rfl⟩
  have c0 := boxed w (.int .i64 5) (.bool f) (.int .i64 n) (.string s) (.slice ka KN kc) (.slice ia A ic)
  rw [hW0] at c0 g0
  have HG0 := hid g0
  obtain ⟨⟨x0, x1, x2, x3, x4, x5⟩, xf⟩ := cells6 c0
  obtain ⟨V, HV⟩ : ∃ V, Hid (spareV 5 f n s KN A = V) := ⟨_, hid rfl⟩
  rw [HV.out]
  unfold spareV at HV
  have HI : Hid (hasItems 5 = true) := hid (by decide)
  clear c0 g0
  cases f with
  | true =>
    go_enter Tryz.func128, Tryz.ntmps128
    go_wp2_with fail
    go_ret
    exact ⟨by rw [← HV.out]; simp [HI.out], HG0.out⟩
  | false =>
    rcases nzb n with ⟨n1, n2⟩ | ⟨n1, n2⟩
    · as_aux_lemma =>
      rcases text0 s with ⟨s1, s2, s3⟩ | ⟨s1, s2, s3⟩
      · as_aux_lemma =>
        rcases len0 KN with ⟨k1, k2⟩ | ⟨k1, k2⟩
        · as_aux_lemma =>
          rcases len0 A with ⟨a1, a2⟩ | ⟨a1, a2⟩
          · as_aux_lemma =>
            go_enter Tryz.func128, Tryz.ntmps128
            go_wp2_with fail
            go_ret
            exact ⟨by rw [← HV.out]; simp [n1, s1, k1, a1, HI.out], HG0.out⟩
          · as_aux_lemma =>
            go_enter Tryz.func128, Tryz.ntmps128
            go_wp2_with fail
            go_ret
            exact ⟨by rw [← HV.out]; simp [n1, s1, k1, a1, HI.out], HG0.out⟩
        · as_aux_lemma =>
          go_enter Tryz.func128, Tryz.ntmps128
          go_wp2_with fail
          go_ret
          exact ⟨by rw [← HV.out]; simp [n1, s1, k1, HI.out], HG0.out⟩
      · as_aux_lemma =>
        go_enter Tryz.func128, Tryz.ntmps128
        go_wp2_with fail
        go_ret
        exact ⟨by rw [← HV.out]; simp [n1, s1, HI.out], HG0.out⟩
    · as_aux_lemma =>
      go_enter Tryz.func128, Tryz.ntmps128
      go_wp2_with fail
      go_ret
      exact ⟨by rw [← HV.out]; simp [n1, HI.out], HG0.out⟩
set_option maxRecDepth 100000 in
set_option maxHeartbeats 4000000 in
theorem spare6 (w : World) (f : Bool) (n : Int) (s : ByteArray) (ka ia : Option Addr) (KN kc A ic : Nat) :
    Calls Tryz.prog 128 #[.agg #[.int .i64 6, .bool f, .int .i64 n, .string s, .slice ka KN kc, .slice ia A ic]] w fun e w' => e = .returned (.bool (spareV 6 f n s KN A)) ∧ w.grownBy w' none := by
  have g0 : w.grownBy (w.alloc (.cells #[.int .i64 6, .bool f, .int .i64 n, .string s, .slice ka KN kc, .slice ia A ic] 26)) none := galloc _ _ none
  obtain ⟨W0, hW0⟩ : ∃ W0, w.alloc (.cells #[.int .i64 6, .bool f, .int .i64 n, .string s, .slice ka KN kc, .slice ia A ic] 26) = W0 := ⟨_, rfl⟩
  have c0 := boxed w (.int .i64 6) (.bool f) (.int .i64 n) (.string s) (.slice ka KN kc) (.slice ia A ic)
  rw [hW0] at c0 g0
  have HG0 := hid g0
  obtain ⟨⟨x0, x1, x2, x3, x4, x5⟩, xf⟩ := cells6 c0
  obtain ⟨V, HV⟩ : ∃ V, Hid (spareV 6 f n s KN A = V) := ⟨_, hid rfl⟩
  rw [HV.out]
  unfold spareV at HV
  have HI : Hid (hasItems 6 = true) := hid (by decide)
  clear c0 g0
  cases f with
  | true =>
    go_enter Tryz.func128, Tryz.ntmps128
    go_wp2_with fail
    go_ret
    exact ⟨by rw [← HV.out]; simp [HI.out], HG0.out⟩
  | false =>
    rcases nzb n with ⟨n1, n2⟩ | ⟨n1, n2⟩
    · as_aux_lemma =>
      rcases text0 s with ⟨s1, s2, s3⟩ | ⟨s1, s2, s3⟩
      · as_aux_lemma =>
        rcases len0 KN with ⟨k1, k2⟩ | ⟨k1, k2⟩
        · as_aux_lemma =>
          rcases len0 A with ⟨a1, a2⟩ | ⟨a1, a2⟩
          · as_aux_lemma =>
            go_enter Tryz.func128, Tryz.ntmps128
            go_wp2_with fail
            go_ret
            exact ⟨by rw [← HV.out]; simp [n1, s1, k1, a1, HI.out], HG0.out⟩
          · as_aux_lemma =>
            go_enter Tryz.func128, Tryz.ntmps128
            go_wp2_with fail
            go_ret
            exact ⟨by rw [← HV.out]; simp [n1, s1, k1, a1, HI.out], HG0.out⟩
        · as_aux_lemma =>
          rcases len0 A with ⟨a1, a2⟩ | ⟨a1, a2⟩
          · as_aux_lemma =>
            go_enter Tryz.func128, Tryz.ntmps128
            go_wp2_with fail
            go_ret
            exact ⟨by rw [← HV.out]; simp [n1, s1, k1, a1, HI.out], HG0.out⟩
          · as_aux_lemma =>
            go_enter Tryz.func128, Tryz.ntmps128
            go_wp2_with fail
            go_ret
            exact ⟨by rw [← HV.out]; simp [n1, s1, k1, a1, HI.out], HG0.out⟩
      · as_aux_lemma =>
        go_enter Tryz.func128, Tryz.ntmps128
        go_wp2_with fail
        go_ret
        exact ⟨by rw [← HV.out]; simp [n1, s1, HI.out], HG0.out⟩
    · as_aux_lemma =>
      go_enter Tryz.func128, Tryz.ntmps128
      go_wp2_with fail
      go_ret
      exact ⟨by rw [← HV.out]; simp [n1, HI.out], HG0.out⟩
set_option maxRecDepth 100000 in
set_option maxHeartbeats 4000000 in
theorem spareK (w : World) (K : Int) (f : Bool) (n : Int) (s : ByteArray) (ka ia : Option Addr) (KN kc A ic : Nat) (h2 : ¬ K = 2) (h3 : ¬ K = 3) (h4 : ¬ K = 4) (h5 : ¬ K = 5) (h6 : ¬ K = 6) :
    Calls Tryz.prog 128 #[.agg #[.int .i64 K, .bool f, .int .i64 n, .string s, .slice ka KN kc, .slice ia A ic]] w fun e w' => e = .returned (.bool (spareV K f n s KN A)) ∧ w.grownBy w' none := by
  have g0 : w.grownBy (w.alloc (.cells #[.int .i64 K, .bool f, .int .i64 n, .string s, .slice ka KN kc, .slice ia A ic] 26)) none := galloc _ _ none
  obtain ⟨W0, hW0⟩ : ∃ W0, w.alloc (.cells #[.int .i64 K, .bool f, .int .i64 n, .string s, .slice ka KN kc, .slice ia A ic] 26) = W0 := ⟨_, rfl⟩
  have c0 := boxed w (.int .i64 K) (.bool f) (.int .i64 n) (.string s) (.slice ka KN kc) (.slice ia A ic)
  rw [hW0] at c0 g0
  have HG0 := hid g0
  obtain ⟨⟨x0, x1, x2, x3, x4, x5⟩, xf⟩ := cells6 c0
  obtain ⟨V, HV⟩ : ∃ V, Hid (spareV K f n s KN A = V) := ⟨_, hid rfl⟩
  rw [HV.out]
  unfold spareV at HV
  have e2 : (K == 2) = false := beq_eq_false_iff_ne.2 h2
  have n2 : (K != 2) = true := bne_iff_ne.2 h2
  have e3 : (K == 3) = false := beq_eq_false_iff_ne.2 h3
  have n3 : (K != 3) = true := bne_iff_ne.2 h3
  have e4 : (K == 4) = false := beq_eq_false_iff_ne.2 h4
  have n4 : (K != 4) = true := bne_iff_ne.2 h4
  have e5 : (K == 5) = false := beq_eq_false_iff_ne.2 h5
  have n5 : (K != 5) = true := bne_iff_ne.2 h5
  have e6 : (K == 6) = false := beq_eq_false_iff_ne.2 h6
  have n6 : (K != 6) = true := bne_iff_ne.2 h6
  have HI : Hid (hasItems K = false) := hid (by unfold hasItems; rw [e5, e6]; rfl)
  clear h2 h3 h4 h5 h6
  clear c0 g0
  cases f with
  | true =>
    go_enter Tryz.func128, Tryz.ntmps128
    go_wp2_with fail
    go_ret
    exact ⟨by rw [← HV.out]; simp [e2, e3, e4, e6, HI.out], HG0.out⟩
  | false =>
    rcases nzb n with ⟨n1, n2⟩ | ⟨n1, n2⟩
    · as_aux_lemma =>
      rcases text0 s with ⟨s1, s2, s3⟩ | ⟨s1, s2, s3⟩
      · as_aux_lemma =>
        rcases len0 KN with ⟨k1, k2⟩ | ⟨k1, k2⟩
        · as_aux_lemma =>
          rcases len0 A with ⟨a1, a2⟩ | ⟨a1, a2⟩
          · as_aux_lemma =>
            go_enter Tryz.func128, Tryz.ntmps128
            go_wp2_with fail
            go_ret
            exact ⟨by rw [← HV.out]; simp [n1, s1, k1, a1, e2, e3, e4, e6, HI.out], HG0.out⟩
          · as_aux_lemma =>
            go_enter Tryz.func128, Tryz.ntmps128
            go_wp2_with fail
            go_ret
            exact ⟨by rw [← HV.out]; simp [n1, s1, k1, a1, e2, e3, e4, e6, HI.out], HG0.out⟩
        · as_aux_lemma =>
          go_enter Tryz.func128, Tryz.ntmps128
          go_wp2_with fail
          go_ret
          exact ⟨by rw [← HV.out]; simp [n1, s1, k1, e2, e3, e4, e6, HI.out], HG0.out⟩
      · as_aux_lemma =>
        go_enter Tryz.func128, Tryz.ntmps128
        go_wp2_with fail
        go_ret
        exact ⟨by rw [← HV.out]; simp [n1, s1, e2, e3, e4, e6, HI.out], HG0.out⟩
    · as_aux_lemma =>
      go_enter Tryz.func128, Tryz.ntmps128
      go_wp2_with fail
      go_ret
      exact ⟨by rw [← HV.out]; simp [n1, e2, e3, e4, e6, HI.out], HG0.out⟩
theorem spareR_any (w : World) (K : Int) (f : Bool) (n : Int) (s : ByteArray) (ka ia : Option Addr) (KN kc A ic : Nat) :
    Calls Tryz.prog 128 #[.agg #[.int .i64 K, .bool f, .int .i64 n, .string s, .slice ka KN kc, .slice ia A ic]] w fun e w' => e = .returned (.bool (spareV K f n s KN A)) ∧ w.grownBy w' none := by
  by_cases h2 : K = 2
  · subst h2; exact spare2 w f n s ka ia KN kc A ic
  · by_cases h3 : K = 3
    · subst h3; exact spare3 w f n s ka ia KN kc A ic
    · by_cases h4 : K = 4
      · subst h4; exact spare4 w f n s ka ia KN kc A ic
      · by_cases h5 : K = 5
        · subst h5; exact spare5 w f n s ka ia KN kc A ic
        · by_cases h6 : K = 6
          · subst h6; exact spare6 w f n s ka ia KN kc A ic
          · exact spareK w K f n s ka ia KN kc A ic h2 h3 h4 h5 h6
end Go.Proofs.YtdmnhkgiojkphaaGreatDoor
