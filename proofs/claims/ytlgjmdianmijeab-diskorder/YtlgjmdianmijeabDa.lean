/- Names that may be; bytes.Clone. -/
import Derived.Test.YtlgjmdianmijeabShC
import Derived.Lib.LazyBuf
namespace Go.Proofs.Ytlgjmdianmijeab
open Go Go.RowKit
open Go.RowKit (wrap32 wrap64)

/-- A byte that may stand in a name. -/
def gbI (X : Int) : Bool := decide (97 ≤ X ∧ X ≤ 122 ∨ 48 ≤ X ∧ X ≤ 57 ∨ X = 46 ∨ X = 45 ∨ X = 95)
set_option maxRecDepth 100000 in
theorem goodByte_any (X : Int) (w : World) : Calls Try.prog 37 #[.int .u8 X] w fun e w' => e = .returned (.bool (gbI X)) ∧ w' = w := by
  by_cases a1 : 97 ≤ X
  · by_cases a2 : X ≤ 122
    · have hr : gbI X = true := decide_eq_true (by omega)
      rw [hr]
      go_enter Try.func37, Try.ntmps37
      go_wp2
      go_ret
      exact ⟨rfl, rfl⟩
    · have hr : gbI X = false := decide_eq_false (by omega)
      have a3 : 48 ≤ X := by omega
      have a4 : ¬ X ≤ 57 := by omega
      have a5 : ¬ X = 46 := by omega
      have a6 : ¬ X = 45 := by omega
      have a7 : ¬ X = 95 := by omega
      have b5 : (X == 46) = false := beq_eq_false_iff_ne.2 a5
      have b6 : (X == 45) = false := beq_eq_false_iff_ne.2 a6
      have b7 : (X == 95) = false := beq_eq_false_iff_ne.2 a7
      rw [hr]
      go_enter Try.func37, Try.ntmps37
      go_wp2
      go_ret
      exact ⟨rfl, rfl⟩
  · by_cases a3 : 48 ≤ X
    · by_cases a4 : X ≤ 57
      · have hr : gbI X = true := decide_eq_true (by omega)
        rw [hr]
        go_enter Try.func37, Try.ntmps37
        go_wp2
        go_ret
        exact ⟨rfl, rfl⟩
      · have a5 : ¬ X = 46 := by omega
        have a6 : ¬ X = 45 := by omega
        by_cases a7 : X = 95
        · have hr : gbI X = true := decide_eq_true (by omega)
          rw [hr]
          subst a7
          go_enter Try.func37, Try.ntmps37
          go_wp2
          go_ret
          exact ⟨rfl, rfl⟩
        · have hr : gbI X = false := decide_eq_false (by omega)
          have b5 : (X == 46) = false := beq_eq_false_iff_ne.2 a5
          have b6 : (X == 45) = false := beq_eq_false_iff_ne.2 a6
          have b7 : (X == 95) = false := beq_eq_false_iff_ne.2 a7
          rw [hr]
          go_enter Try.func37, Try.ntmps37
          go_wp2
          go_ret
          exact ⟨rfl, rfl⟩
    · by_cases a5 : X = 46
      · subst a5
        go_enter Try.func37, Try.ntmps37
        go_wp2
        go_ret
        exact ⟨rfl, rfl⟩
      · by_cases a6 : X = 45
        · subst a6
          go_enter Try.func37, Try.ntmps37
          go_wp2
          go_ret
          exact ⟨rfl, rfl⟩
        · have a7 : ¬ X = 95 := by omega
          have hr : gbI X = false := decide_eq_false (by omega)
          have b5 : (X == 46) = false := beq_eq_false_iff_ne.2 a5
          have b6 : (X == 45) = false := beq_eq_false_iff_ne.2 a6
          have b7 : (X == 95) = false := beq_eq_false_iff_ne.2 a7
          rw [hr]
          go_enter Try.func37, Try.ntmps37
          go_wp2
          go_ret
          exact ⟨rfl, rfl⟩
/-- A name that may be. -/
def goodN (s : ByteArray) : Bool := decide (1 ≤ s.size) && (decide (s.size ≤ 64) && s.data.toList.all (fun c => gbI c.toNat))
theorem goodN_no {s : ByteArray} {i : Nat} (h : i < s.size) (hb : gbI (s[i].toNat) = false) : goodN s = false := by
  have : s.data.toList.all (fun c => gbI c.toNat) = false := by
    rw [List.all_eq_false]
    exact ⟨s[i], Array.mem_toList_iff.2 (Array.getElem_mem h), by simp [hb]⟩
  unfold goodN
  rw [this]
  simp
theorem goodN_yes {s : ByteArray} (h1 : 1 ≤ s.size) (h2 : s.size ≤ 64) (h : ∀ j (hj : j < s.size), gbI (s[j].toNat) = true) : goodN s = true := by
  unfold goodN
  rw [decide_eq_true h1, decide_eq_true h2, Bool.true_and, Bool.true_and, List.all_eq_true]
  intro c hc
  obtain ⟨j, hj, rfl⟩ := Array.getElem_of_mem (Array.mem_toList_iff.1 hc)
  exact h j hj
set_option maxRecDepth 100000 in
set_option maxHeartbeats 1600000 in
theorem goodName_any (s : ByteArray) (w : World) : Calls Try.prog 23 #[.string s] w fun e w' => e = .returned (.bool (goodN s)) ∧ w.grownBy w' none := by
  obtain ⟨R, HR⟩ : ∃ x, Hid (goodN s = x) := ⟨_, hid rfl⟩
  rw [HR.out]
  by_cases h1 : s.size < 1
  · have hR : R = false := by rw [← HR.out]; unfold goodN; rw [decide_eq_false (by omega)]; rfl
    subst hR
    have h1' : (s.size : Int) < 1 := by omega
    clear h1
    go_enter Try.func23, Try.ntmps23
    go_wp2_with fail
    go_ret
    exact ⟨rfl, grefl _ _⟩
  · by_cases h2 : 64 < s.size
    · have hR : R = false := by rw [← HR.out]; unfold goodN; rw [decide_eq_false (show ¬ s.size ≤ 64 by omega)]; simp
      subst hR
      have h1' : ¬ (s.size : Int) < 1 := by omega
      have h2' : (64 : Int) < (s.size : Int) := by omega
      clear h1 h2
      go_enter Try.func23, Try.ntmps23
      go_wp2_with fail
      go_ret
      exact ⟨rfl, grefl _ _⟩
    · have h1' : ¬ (s.size : Int) < 1 := by omega
      have h2' : ¬ (64 : Int) < (s.size : Int) := by omega
      have HS : Hid (1 ≤ s.size ∧ s.size ≤ 64) := hid ⟨by omega, by omega⟩
      have HB : Hid (∀ (X : Int) (u : World), Calls Try.prog 37 #[.int .u8 X] u fun e w' => e = .returned (.bool (gbI X)) ∧ w' = u) := goodByte_any
      clear h1 h2
      go_enter Try.func23, Try.ntmps23
      go_wp2_with fail
      go_loopw [14] (fun iv wr => ∃ i : Nat, iv = .int .i64 i ∧ i ≤ 64 ∧ Hid (i ≤ s.size) ∧ Hid (∀ j (hj : j < s.size), j < i → gbI (s[j].toNat) = true) ∧ Hid (w.grownBy wr none)) (fun iv _ => 64 - (intOf iv).toNat)
      case atStart => exact ⟨0, rfl, by omega, hid (by omega), hid (fun j hj h => by omega), hid (grefl _ _)⟩
      case round =>
        obtain ⟨i, rfl, hi, HL, HA, HG⟩ := hrel
        by_cases hlt : i < s.size
        · as_aux_lemma =>
          have hlt' : (i : Int) < (s.size : Int) := by omega
          have hi64 : i < 64 := by have := HS.out; omega
          cases hb : gbI (s[i].toNat) with
          | false =>
            have HC : Hid (∀ u : World, Calls Try.prog 37 #[.int .u8 (s[i].toNat : Int)] u fun e w' => e = .returned (.bool false) ∧ w' = u) := hid (fun u => by have := HB.out (s[i].toNat : Int) u; rw [hb] at this; exact this)
            have HRf : Hid (R = false) := hid (by rw [← HR.out]; exact goodN_no hlt hb)
            go_wp2_with (go_at_call 37; refine (HC.out _).mono ?_; rintro e w' ⟨rfl, rfl⟩)
            go_ret
            exact ⟨by rw [HRf.out]; rfl, HG.out⟩
          | true =>
            have HC : Hid (∀ u : World, Calls Try.prog 37 #[.int .u8 (s[i].toNat : Int)] u fun e w' => e = .returned (.bool true) ∧ w' = u) := hid (fun u => by have := HB.out (s[i].toNat : Int) u; rw [hb] at this; exact this)
            go_wp2_with (go_at_call 37; refine (HC.out _).mono ?_; rintro e w' ⟨rfl, rfl⟩)
            go_roundw
            case rel => exact ⟨i + 1, by go_num, by omega, hid (by omega), hid (fun j hj h => by
              by_cases e : j = i
              · subst e; exact hb
              · exact HA.out j hj (by omega)), HG⟩
            case measure => simp [intOf]; omega
        · as_aux_lemma =>
          have hlt' : ¬ (i : Int) < (s.size : Int) := by omega
          have HRt : Hid (R = true) := hid (by rw [← HR.out]; exact goodN_yes HS.out.1 HS.out.2 (fun j hj => HA.out j hj (by omega)))
          go_wp2_with fail
          go_ret
          exact ⟨by rw [HRt.out]; rfl, HG.out⟩
theorem made0 (w : World) : Out w.heap.size (w.alloc (.cells #[] 5)) (.slice (some ⟨w.heap.size, 0, none⟩) 0 0) [] :=
  ⟨rfl, .inr ⟨w.heap.size, 0, #[], rfl, Nat.le_refl _, heap_new w _ _, Nat.le_refl _, by decide, rfl, rfl⟩⟩
set_option maxRecDepth 100000 in
set_option maxHeartbeats 1600000 in
/-- bytes.Clone: the same bytes in a row of its own; nil of nil. -/
theorem bclone_any (w : World) (v : Value) (F : Nat → Prop) (l : List UInt8) (hr : Rd w F v l) (hl : l.length ≤ 140737488355328) :
    Calls Try.prog 27 #[v] w fun e w' => ∃ v', e = .returned v' ∧ Out w.heap.size w' v' l ∧ w.grownBy w' none := by
  have HR := hid hr
  obtain ⟨a, b, off, c, rfl, hc, hn, ha, hcell⟩ := hr
  clear hcell
  have hnil := fun w a l c => Go.run_eql_slice_nil (P := Try.prog) w 26 5 a l c Try.underlying26
  cases a with
  | none =>
    have c0 := hn rfl
    have hl0 : l = [] := List.eq_nil_of_length_eq_zero (by omega)
    subst hl0
    subst c0
    go_enter Try.func27, Try.ntmps27
    go_wp2_with fail
    go_ret
    exact ⟨_, rfl, Out.nil _ _, grefl _ _⟩
  | some q =>
    clear ha hn
    go_enter Try.func27, Try.ntmps27
    go_wp2_with (at_builtin; refine wpList_append_rd rfl _ _ rfl w.heap.size F [] l (made0 w) (HR.out.keep (galloc w _ none)) (by simp; omega) (by simp) ?_; intro v2 w2 hO2 hg2 _)
    go_ret
    exact ⟨_, rfl, hO2, (galloc w _ none).andThen hg2 (fun j hj => .inl ((made0 w).block j hj))⟩
end Go.Proofs.Ytlgjmdianmijeab
