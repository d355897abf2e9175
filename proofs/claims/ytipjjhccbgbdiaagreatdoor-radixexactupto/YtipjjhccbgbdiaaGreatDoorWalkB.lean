/- The walks of radix's small functions on texts: worth, allOf. -/
import Derived.Test.YtipjjhccbgbdiaaGreatDoorProg
import Derived.Test.YtipjjhccbgbdiaaGreatDoorPlain
import Derived.Test.YtipjjhccbgbdiaaGreatDoorShelf
import Derived.WalkKit
import Derived.WalkSpells
import Derived.WalkLawsBesides
import Derived.WalkMore
import Derived.ScopeJumps
import Derived.KernelRfl
namespace Go.Proofs.YtipjjhccbgbdiaaGreatDoor
open Go Go.RowKit
open Go.RowKit (wrap32 wrap64)

theorem Exit.jump_mono {l : Nat} {J J' : Act → World → Prop} {Q : Exit → Act → World → Prop} (h : ∀ a w, J a w → J' a w) : ∀ e a w, Exit.jump l J Q e a w → Exit.jump l J' Q e a w := by
  intro e a w hq
  cases e <;> simp only [Exit.jump] at hq ⊢
  case goto => exact ⟨hq.1, h _ _ hq.2⟩
  all_goals exact hq

theorem wp_weaken {P : Program} {c : Code} {Q Q' : Exit → Act → World → Prop} {a : Act} {w : World} (h : c.wp P Q a w) (hq : ∀ e a w, Q e a w → Q' e a w) : c.wp P Q' a w := by
  intro b k cs
  obtain ⟨e, a', w', q, r⟩ := h b k cs
  exact ⟨e, a', w', hq _ _ _ q, r⟩

/-- A scope whose run comes to one label, again and again: what holds at the label each time (J), a measure, and what is behind the label walked once. -/
theorem wp_scope_label {P : Program} {a : Act} {w : World} {Q : Exit → Act → World → Prop} {c y : Code} (l : Nat) (J : Act → World → Prop) (μ : Act → World → Nat) (hf : findLabel c l = some (.seq .skip y))
    (first : (∀ a w, J a w → y.wp P (Exit.jump l J Q) a w) → c.wp P (Exit.jump l J Q) a w)
    (pass : ∀ a w, J a w → y.wp P (Exit.jump l (fun a' w' => J a' w' ∧ μ a' w' < μ a w) Q) a w) : (Code.scope c).wp P Q a w := by
  refine wp_scope_jumps l J μ hf (first fun a w hJ => wp_weaken (pass a w hJ) (Exit.jump_mono fun _ _ h => h.1)) fun a w hJ => ?_
  exact wp_seq (wp_skip (pass a w hJ))

theorem worth_any (c : Int) (base : ByteArray) (w : World) : Calls Tryz.prog 50 #[.int .u8 c, .string base] w fun e w' => e = .returned (.int .i64 (Lib.indexByte base.data.toList c.toNat.toUInt8)) ∧ w' = w := by
  go_enter Tryz.func50, Tryz.ntmps50
  go_wp2_with (go_at_call 93; refine (Tryz.strings_IndexByte _ _ _).mono ?_; rintro e w' ⟨rfl, rfl⟩)
  go_ret
  exact ⟨rfl, rfl⟩

/-- Is every byte of s a letter of the base? -/
def allIn (base s : List UInt8) : Bool := s.all fun c => decide (0 ≤ Lib.indexByte base c)

theorem allIn_cons (base : List UInt8) (c : UInt8) (l : List UInt8) : allIn base (c :: l) = (decide (0 ≤ Lib.indexByte base c) && allIn base l) := rfl
theorem drop_at (s : ByteArray) (k : Nat) (h : k < s.size) : s.data.toList.drop k = s[k] :: s.data.toList.drop (k + 1) := by
  rw [List.drop_eq_getElem_cons (by simpa using h)]; rfl

def allOfJ (s base : ByteArray) (w : World) (a' : Act) (w' : World) : Prop :=
  w' = w ∧ ∃ (k : Nat) (u6 u7 u8 u9 u10 u11 u12 u13 u14 u15 u16 u17 : Value), a' = { tmps := #[.string s, .string base, undef, undef, .bool false, .int .i64 k, u6, u7, u8, u9, u10, u11, u12, u13, u14, u15, u16, u17], defers := [] } ∧ k ≤ s.size ∧ allIn base.data.toList s.data.toList = allIn base.data.toList (s.data.toList.drop k)

set_option maxRecDepth 100000 in
set_option maxHeartbeats 400000 in
/-- allOf: is every byte of s a letter of the base? -/
theorem allOf_any (s base : ByteArray) (w : World) (hs : s.size ≤ maxLen) : Calls Tryz.prog 46 #[.string s, .string base] w fun e w' => e = .returned (.bool (allIn base.data.toList s.data.toList)) ∧ w' = w := by
  unfold maxLen at hs
  go_enter Tryz.func46, Tryz.ntmps46
  go_wp2
  refine wp_scope_label 0 (allOfJ s base w) (fun a' _ => s.size - (intOf (a'.tmps.getD 5 undef)).toNat) rfl ?first ?pass
  case first =>
    intro hy
    go_wp2
    go_step3
    simp only [Exit.then]
    exact (‹∀ a w, Code.wp _ _ _ a w → _› : ∀ a w, Code.wp Tryz.prog _ _ a w → _) _ _ (hy _ _ ⟨rfl, 0, _, _, _, _, _, _, _, _, _, _, _, _, rfl, Nat.zero_le _, rfl⟩)
  case pass =>
    rintro a' w' ⟨rfl, k, u6, u7, u8, u9, u10, u11, u12, u13, u14, u15, u16, u17, rfl, hk, hall⟩
    have HA : Hid (allIn base.data.toList s.data.toList = allIn base.data.toList (s.data.toList.drop k)) := hall
    clear hall
    by_cases hlt : k < s.size
    · have hne : ((k : Int) == (s.size : Int)) = false := by simp; omega
      have HD : Hid (s.data.toList.drop k = s[k] :: s.data.toList.drop (k + 1)) := drop_at s k hlt
      go_wp2_with (go_at_call 50; refine (worth_any _ _ _).mono ?_; rintro e w' ⟨rfl, rfl⟩)
      · rename_i h
        simp only [Exit.jump]
        go_ret
        refine ⟨?_, rfl⟩
        rw [HA.out, HD.out, allIn_cons, decide_eq_false (by omega), Bool.false_and]
        rfl
      · rename_i h
        go_step3
        refine ⟨rfl, ⟨rfl, k + 1, _, _, _, _, _, _, _, _, _, _, _, _, rfl, hlt, ?_⟩, ?_⟩
        · rw [HA.out, HD.out, allIn_cons, decide_eq_true h, Bool.true_and]
        · simp [intOf]; omega
    · have he : ((k : Int) == (s.size : Int)) = true := by simp; omega
      go_wp2
      simp only [Exit.jump]
      go_ret
      refine ⟨?_, rfl⟩
      rw [HA.out, List.drop_eq_nil_of_le (by rw [Array.length_toList]; show s.size ≤ k; omega)]
      rfl
end Go.Proofs.YtipjjhccbgbdiaaGreatDoor
