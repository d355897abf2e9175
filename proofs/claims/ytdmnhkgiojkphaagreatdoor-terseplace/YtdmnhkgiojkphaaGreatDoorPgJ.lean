/- The reference's Digits and whole, walked. -/
import Derived.Test.YtdmnhkgiojkphaaGreatDoorX21
namespace Go.Proofs.YtdmnhkgiojkphaaGreatDoor
open Go Go.RowKit
open Go.RowKit (wrap32 wrap64)

theorem str_app (a b : List UInt8) : str a ++ str b = str (a ++ b) := by
  rw [← list_str (str a ++ str b)]
  simp [str, ByteArray.data_append]
theorem dec_le (n : Nat) (h : n < 18446744073709551616) : (Lib.decDigits n).length ≤ 20 := by
  have : ∀ (k n : Nat), n < 10 ^ (k + 1) → (Lib.decDigits n).length ≤ k + 1 := by
    intro k
    induction k with
    | zero =>
      intro n hn
      rw [Lib.decDigits, dif_pos (by omega)]
      simp
    | succ k ih =>
      intro n hn
      rw [Lib.decDigits]
      by_cases h : n < 10
      · rw [dif_pos h]; simp
      · rw [dif_neg h, List.length_append]
        have := ih (n / 10) (by rw [Nat.pow_succ] at hn; omega)
        simp only [List.length_cons, List.length_nil]
        omega
  exact this 19 n (by omega)
set_option maxRecDepth 100000 in
set_option maxHeartbeats 2000000 in
theorem digits_any : ∀ (m n : Nat), n < m → n < 18446744073709551616 → ∀ (w : World), Calls Tryz.prog 130 #[.int .u64 n] w fun e w' => e = .returned (.string (str (Lib.decDigits n))) ∧ w.grownBy w' none
  | 0, n, h, _, _ => by omega
  | m + 1, n, hm, hn, w => by
    have HIH := hid (digits_any m)
    by_cases h : n < 10
    · have hi : ¬ (10 : Int) ≤ (n : Int) := by omega
      have HD : Hid (Lib.decDigits n = [UInt8.ofNat (48 + n)]) := hid (by rw [Lib.decDigits, dif_pos h])
      have hw1 : IntKind.u64.wrap (48 + (n : Int)) = 48 + (n : Int) := by rw [IntKind.wrap_u64]; omega
      have hw2 : IntKind.u8.wrap (48 + (n : Int)) = 48 + (n : Int) := by rw [IntKind.wrap_u8]; omega
      have hc : ((UInt8.ofNat (48 + n)).toNat : Int) = 48 + (n : Int) := by simp; omega
      have hcv : (convert 84 9 (.slice (some ⟨w.heap.size, 0, none⟩) 1 1)).run Tryz.prog (w.alloc (.cells #[.int .u8 (48 + (n : Int))] 5)) = .ok (.string (str [UInt8.ofNat (48 + n)])) (w.alloc (.cells #[.int .u8 (48 + (n : Int))] 5)) :=
        convert_sl [UInt8.ofNat (48 + n)] _ w.heap.size 0 1 _ (fun _ => rfl) (fun i hi => by
          have e : i = 0 := by simp at hi; exact hi
          subst e
          simp only [List.getElem_cons_zero]
          rw [hc]
          unfold World.cell?
          rw [heap_alloc_new]
          rfl)
      obtain ⟨DS, HDS⟩ : ∃ d, Hid (str [UInt8.ofNat (48 + n)] = d) := ⟨_, hid rfl⟩
      rw [HDS.out] at hcv
      clear h hc hm
      go_enter Tryz.func130, Tryz.ntmps130
      go_wp2
      go_ret
      exact ⟨by rw [HD.out, HDS.out]; rfl, galloc _ _ none⟩
    · have hi : (10 : Int) ≤ (n : Int) := by omega
      have HD : Hid (Lib.decDigits n = Lib.decDigits (n / 10) ++ Lib.decDigits (n % 10)) := hid (by
        rw [Lib.decDigits, dif_neg h]
        conv => rhs; rhs; rw [Lib.decDigits, dif_pos (by omega)])
      have hq : (n : Int).tdiv 10 = ((n / 10 : Nat) : Int) := by rw [Int.tdiv_eq_ediv_of_nonneg (by omega)]; omega
      have hr : (n : Int).tmod 10 = ((n % 10 : Nat) : Int) := by rw [Int.tmod_eq_emod_of_nonneg (by omega)]; omega
      have hq2 : (n : Int) / 10 = ((n / 10 : Nat) : Int) := by omega
      have hr2 : (n : Int) % 10 = ((n % 10 : Nat) : Int) := by omega
      have HA : Hid (∀ u : World, Calls Tryz.prog 130 #[.int .u64 ((n / 10 : Nat) : Int)] u fun e w' => e = .returned (.string (str (Lib.decDigits (n / 10)))) ∧ u.grownBy w' none) := hid (fun u => HIH.out (n / 10) (by omega) (by omega) u)
      have HB : Hid (∀ u : World, Calls Tryz.prog 130 #[.int .u64 ((n % 10 : Nat) : Int)] u fun e w' => e = .returned (.string (str (Lib.decDigits (n % 10)))) ∧ u.grownBy w' none) := hid (fun u => HIH.out (n % 10) (by omega) (by omega) u)
      have l1 := dec_le (n / 10) (by omega)
      have l2 := dec_le (n % 10) (by omega)
      obtain ⟨p, HP⟩ : ∃ p, Hid (Lib.decDigits (n / 10) = p) := ⟨_, hid rfl⟩
      obtain ⟨q, HQ⟩ : ∃ p, Hid (Lib.decDigits (n % 10) = p) := ⟨_, hid rfl⟩
      rw [HP.out] at HA l1 HD
      rw [HQ.out] at HB l2 HD
      obtain ⟨ps, HPS⟩ : ∃ p', Hid (str p = p') := ⟨_, hid rfl⟩
      obtain ⟨qs, HQS⟩ : ∃ p', Hid (str q = p') := ⟨_, hid rfl⟩
      have z1 : ps.size = p.length := by rw [← HPS.out, str_size]
      have z2 : qs.size = q.length := by rw [← HQS.out, str_size]
      rw [HPS.out] at HA
      rw [HQS.out] at HB
      have hz : ¬ (9223372036854775807 : Int) < (ps.size : Int) + (qs.size : Int) := by omega
      have hz2 : ¬ (9223372036854775807 : Nat) < ps.size + qs.size := by omega
      have HR : Hid (ps ++ qs = str (Lib.decDigits n)) := hid (by rw [HD.out, ← HPS.out, ← HQS.out, str_app])
      obtain ⟨d, Hd⟩ : ∃ d, Hid (n / 10 = d) := ⟨_, hid rfl⟩
      obtain ⟨r, Hr⟩ : ∃ d, Hid (n % 10 = d) := ⟨_, hid rfl⟩
      rw [Hd.out] at hq hq2 HA
      rw [Hr.out] at hr hr2 HB
      clear h hm HIH HD l1 l2 z1 z2
      go_enter Tryz.func130, Tryz.ntmps130
      go_wp2_with (first
        | (go_at_call 130; with_reducible refine (HA.out _).mono ?_; rintro e w1 ⟨rfl, hg1⟩; have HG1 := hid hg1; clear hg1)
        | (go_at_call 130; with_reducible refine (HB.out _).mono ?_; rintro e w2 ⟨rfl, hg2⟩; have HG2 := hid hg2; clear hg2))
      go_ret
      exact ⟨by rw [← HR.out]; rfl, gtrans HG1.out HG2.out⟩
set_option maxRecDepth 100000 in
set_option maxHeartbeats 2000000 in
theorem whole_any (n : Int) (hn : fitsN n) (w : World) : Calls Tryz.prog 68 #[.int .i64 n] w fun e w' => e = .returned (.string (str (Lib.itoa n))) ∧ w.grownBy w' none := by
  unfold fitsN at hn
  by_cases h : n < 0
  · have hi : ¬ (0 : Int) ≤ n := by omega
    have hw1 : IntKind.u64.wrap n = n + 18446744073709551616 := by rw [IntKind.wrap_u64]; omega
    have hw2 : IntKind.u64.wrap (0 - (n + 18446744073709551616)) = ((n.natAbs : Nat) : Int) := by rw [IntKind.wrap_u64]; omega
    have hw3 : IntKind.u64.wrap (-(n + 18446744073709551616)) = ((n.natAbs : Nat) : Int) := by rw [IntKind.wrap_u64]; omega
    have HC := hid (digits_any (n.natAbs + 1) n.natAbs (by omega) (by omega) w)
    have hl := dec_le n.natAbs (by omega)
    have HI : Hid (Lib.itoa n = [45] ++ Lib.decDigits n.natAbs) := hid (by unfold Lib.itoa; rw [if_pos h]; rfl)
    obtain ⟨p, HP⟩ : ∃ p, Hid (Lib.decDigits n.natAbs = p) := ⟨_, hid rfl⟩
    rw [HP.out] at HC HI hl
    obtain ⟨ps, HPS⟩ : ∃ p', Hid (str p = p') := ⟨_, hid rfl⟩
    rw [HPS.out] at HC
    have z1 : ps.size = p.length := by rw [← HPS.out, str_size]
    have hz : ¬ (9223372036854775807 : Int) < 1 + (ps.size : Int) := by omega
    have hz2 : ¬ (9223372036854775807 : Nat) < 1 + ps.size := by omega
    have HR : Hid (⟨#[45]⟩ ++ ps = str (Lib.itoa n)) := hid (by rw [HI.out, ← HPS.out, ← str_app]; rfl)
    obtain ⟨a, Ha⟩ : ∃ d, Hid (n.natAbs = d) := ⟨_, hid rfl⟩
    rw [Ha.out] at hw2 hw3 HC
    clear h hl z1 hn
    go_enter Tryz.func68, Tryz.ntmps68
    go_wp2_with (go_at_call 130; with_reducible refine HC.out.mono ?_; rintro e w1 ⟨rfl, hg1⟩; have HG1 := hid hg1; clear hg1)
    go_ret
    exact ⟨by rw [← HR.out]; rfl, HG1.out⟩
  · have hi : (0 : Int) ≤ n := by omega
    obtain ⟨k, rfl⟩ : ∃ k : Nat, n = (k : Int) := ⟨n.toNat, by omega⟩
    have hw1 : IntKind.u64.wrap (k : Int) = (k : Int) := by rw [IntKind.wrap_u64]; omega
    have HC := hid (digits_any (k + 1) k (by omega) (by omega) w)
    have HI : Hid (Lib.itoa (k : Int) = Lib.decDigits k) := hid (by unfold Lib.itoa; rw [if_neg h]; rfl)
    clear h hn
    go_enter Tryz.func68, Tryz.ntmps68
    go_wp2_with (go_at_call 130; with_reducible refine HC.out.mono ?_; rintro e w1 ⟨rfl, hg1⟩; have HG1 := hid hg1; clear hg1)
    go_ret
    exact ⟨by rw [HI.out]; rfl, HG1.out⟩
end Go.Proofs.YtdmnhkgiojkphaaGreatDoor
