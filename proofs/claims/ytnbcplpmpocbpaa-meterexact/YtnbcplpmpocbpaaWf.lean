/- Check, fine. -/
import Derived.Test.YtnbcplpmpocbpaaWe
namespace Go.Proofs.Ytnbcplpmpocbpaa
open Go Go.RowKit
open Go.RowKit (wrap32 wrap64)

def ckB (H : Int) (l : Nat) : Bool := decide (1 ≤ H) && decide (4607182418800017408 ≤ l ∧ l < 9218868437227405312)
def ckR (H : Int) (l : Nat) : Int := if ckB H l = true then 0 else 80
def fnB (H : Int) (l s : Nat) : Bool := ckB H l && decide (s < 9218868437227405312)
theorem ord4 (o : Option Ordering) : o = some .gt ∨ o = some .eq ∨ o = none ∨ o = some .lt := by
  rcases o with _ | x
  · exact .inr (.inr (.inl rfl))
  · cases x
    · exact .inr (.inr (.inr rfl))
    · exact .inr (.inl rfl)
    · exact .inl rfl
set_option maxRecDepth 100000 in
set_option maxHeartbeats 6400000 in
theorem check_any (H : Int) (l : Nat) (hl : l < 18446744073709551616) (w : World) : Calls Try.prog 9 #[.agg #[.int .i64 H, .int .u64 (l : Int)]] w fun e w' => e = .returned (.int .i64 (ckR H l)) ∧ w.grownBy w' none := by
  have HR : Hid (ckR H l = if (decide (1 ≤ H) && ((FloatKind.f64.format.order l 4607182418800017408 == some .gt || FloatKind.f64.format.order l 4607182418800017408 == some .eq) && (FloatKind.f64.format.order l 9218868437227405311 == some .lt || FloatKind.f64.format.order l 9218868437227405311 == some .eq))) = true then 0 else 80) := hid (by unfold ckR ckB; rw [← lim_ok hl]; rfl)
  obtain ⟨R, hR⟩ : ∃ R, ckR H l = R := ⟨_, rfl⟩
  rw [hR] at HR ⊢
  obtain ⟨L, hL⟩ : ∃ L : Int, (l : Int) = L := ⟨_, rfl⟩
  have e : L.toNat = l := by omega
  rw [← e] at HR
  rw [hL]
  clear hR hL e hl
  by_cases h1 : 1 ≤ H
  · rcases ord4 (FloatKind.f64.format.order L.toNat 4607182418800017408) with o1 | o1 | o1 | o1 <;> rcases ord4 (FloatKind.f64.format.order L.toNat 9218868437227405311) with o2 | o2 | o2 | o2 <;>
    (rw [o1, o2, decide_eq_true h1] at HR
     have HR1 := HR.out
     simp at HR1
     subst HR1
     clear HR
     go_enter Try.func9, Try.ntmps9
     go_wp2
     go_ret
     exact ⟨rfl, galloc _ _ _⟩)
  · rw [decide_eq_false h1] at HR
    have HR1 := HR.out
    simp at HR1
    subst HR1
    clear HR
    go_enter Try.func9, Try.ntmps9
    go_wp2
    go_ret
    exact ⟨rfl, galloc _ _ _⟩
theorem fine_int (X : Int) (w : World) : Calls Try.prog 23 #[.int .u64 X] w fun r w' => r = .returned (.bool (decide (X < 9218868437227405312))) ∧ w' = w := by
  go_enter Try.func23, Try.ntmps23
  go_wp2
  go_ret
  exact ⟨rfl, rfl⟩
set_option maxRecDepth 100000 in
set_option maxHeartbeats 6400000 in
theorem rcheck_any (H : Int) (l : Nat) (w : World) : Calls Try.prog 10 #[.agg #[.int .i64 H, .int .u64 (l : Int)]] w fun e w' => e = .returned (.int .i64 (ckR H l)) ∧ w.grownBy w' none := by
  obtain ⟨L, hL⟩ : ∃ L : Int, (l : Int) = L := ⟨_, rfl⟩
  have HR : Hid (ckR H l = if (1 ≤ H ∧ 4607182418800017408 ≤ L ∧ L < 9218868437227405312) then 0 else 80) := hid (by
    unfold ckR ckB
    by_cases h : 1 ≤ H ∧ 4607182418800017408 ≤ L ∧ L < 9218868437227405312
    · rw [if_pos h, decide_eq_true h.1, decide_eq_true (show 4607182418800017408 ≤ l ∧ l < 9218868437227405312 by omega)]; rfl
    · rw [if_neg h]
      by_cases h1 : 1 ≤ H
      · rw [decide_eq_true h1, decide_eq_false (show ¬ (4607182418800017408 ≤ l ∧ l < 9218868437227405312) by omega)]; rfl
      · rw [decide_eq_false h1]; rfl)
  obtain ⟨R, hR⟩ : ∃ R, ckR H l = R := ⟨_, rfl⟩
  rw [hR] at HR ⊢
  rw [hL]
  clear hR hL
  by_cases h1 : H < 1
  · have e := HR.out
    rw [if_neg (by omega)] at e
    subst e
    clear HR
    go_enter Try.func10, Try.ntmps10
    go_wp2
    go_ret
    exact ⟨rfl, galloc _ _ _⟩
  · by_cases h2 : L < 9218868437227405312
    · by_cases h3 : L < 4607182418800017408
      · have e := HR.out
        rw [if_neg (by omega)] at e
        subst e
        clear HR
        go_enter Try.func10, Try.ntmps10
        go_wp2_with (go_at_call 23; refine (fine_int L _).mono ?_; rw [decide_eq_true h2]; rintro e w2 ⟨rfl, rfl⟩)
        go_ret
        exact ⟨rfl, galloc _ _ _⟩
      · have e := HR.out
        rw [if_pos (by omega)] at e
        subst e
        clear HR
        go_enter Try.func10, Try.ntmps10
        go_wp2_with (go_at_call 23; refine (fine_int L _).mono ?_; rw [decide_eq_true h2]; rintro e w2 ⟨rfl, rfl⟩)
        go_ret
        exact ⟨rfl, galloc _ _ _⟩
    · have e := HR.out
      rw [if_neg (by omega)] at e
      subst e
      clear HR
      go_enter Try.func10, Try.ntmps10
      go_wp2_with (go_at_call 23; refine (fine_int L _).mono ?_; rw [decide_eq_false h2]; rintro e w2 ⟨rfl, rfl⟩)
      go_ret
      exact ⟨rfl, galloc _ _ _⟩
set_option maxRecDepth 100000 in
set_option maxHeartbeats 6400000 in
theorem lfine_any (H : Int) (l s : Nat) (ta : Int) (hl : l < 18446744073709551616) (hs : s < 18446744073709551616) (w : World) : Calls Try.prog 24 #[.agg #[.int .i64 H, .int .u64 (l : Int)], .agg #[.int .u64 (s : Int), .int .i64 ta]] w fun e w' => e = .returned (.bool (fnB H l s)) ∧ w.grownBy w' none := by
  have HCk := hid (fun u => check_any H l hl u)
  obtain ⟨S, hS⟩ : ∃ S : Int, (s : Int) = S := ⟨_, rfl⟩
  have eS : S.toNat = s := by omega
  have HSg := hid (fun u => signbit_any s hs u)
  have HF : Hid (decide (s < 9218868437227405312) = ((FloatKind.f64.format.order s 0 == some .gt || FloatKind.f64.format.order s 0 == some .eq) && ((FloatKind.f64.format.order s 9218868437227405311 == some .lt || FloatKind.f64.format.order s 9218868437227405311 == some .eq) && !decide (9223372036854775808 ≤ s)))) := hid (sc_ok hs).symm
  rw [← eS] at HSg HF
  obtain ⟨g, hg⟩ : ∃ g, decide (9223372036854775808 ≤ S.toNat) = g := ⟨_, rfl⟩
  rw [hg] at HSg HF
  obtain ⟨f, hf⟩ : ∃ f, decide (S.toNat < 9218868437227405312) = f := ⟨_, rfl⟩
  have HE : fnB H l s = (ckB H l && f) := by unfold fnB; rw [← hf, eS]
  rw [HE, hS]
  rw [hf] at HF
  clear hg hf HE eS hS hs hl
  have HC0 : Hid (ckR H l = if ckB H l = true then 0 else 80) := hid rfl
  obtain ⟨c, hc⟩ : ∃ c, ckB H l = c := ⟨_, rfl⟩
  rw [hc] at HC0 ⊢
  clear hc
  have b1 := HC0.out
  cases c with
  | false =>
    rw [if_neg (by decide)] at b1
    rw [b1] at HCk
    clear HC0 b1
    go_enter Try.func24, Try.ntmps24
    go_wp2_with (first
      | (have := HG2; clear this; (with_reducible refine wpList_load_part (by with_unfolding_all rfl) 28 _ (by with_unfolding_all rfl) _ 0 [.int .i64 H, .int .u64 (l : Int)] _ (by with_unfolding_all rfl) HC2.out.whole Try.underlying28 (by with_unfolding_all rfl) (by with_unfolding_all exact Try.size28) ?_))
      | (have := HG1; clear this; (with_reducible refine wpList_box_row (by with_unfolding_all rfl) 37 _ (by with_unfolding_all rfl) [.int .u64 S, .int .i64 ta] (by with_unfolding_all rfl) ?_); intro w2 B2 s2 g2; have HB2 := hid B2; have HC2 := hid (HB1.out.keep g2); have HG2 := hid (gtrans HG1.out g2); clear B2 s2 g2; have y0 := HB2.out.cell 0)
      | ((with_reducible refine wpList_box_row (by with_unfolding_all rfl) 28 _ (by with_unfolding_all rfl) [.int .i64 H, .int .u64 (l : Int)] (by with_unfolding_all rfl) ?_); intro w1 B1 s1 g1; have HB1 := hid B1; have HG1 := hid g1; clear B1 s1 g1))
    refine (HCk.out _).mono ?_
    rintro e w3 ⟨rfl, hg3⟩
    have HG3 := hid (gtrans HG2.out hg3)
    go_wp2_with (go_at_call 8; refine (num_any _ _).mono ?_; rintro e w4 ⟨rfl, rfl⟩)
    go_ret
    exact ⟨rfl, HG3.out⟩
  | true =>
    rw [if_pos rfl] at b1
    rw [b1] at HCk
    clear HC0 b1
    rcases ord4 (FloatKind.f64.format.order S.toNat 0) with o1 | o1 | o1 | o1 <;> rcases ord4 (FloatKind.f64.format.order S.toNat 9218868437227405311) with o2 | o2 | o2 | o2 <;> cases g <;>
    (rw [o1, o2] at HF
     have HF1 := HF.out
     simp at HF1
     subst HF1
     clear HF
     go_enter Try.func24, Try.ntmps24
     go_wp2_with (first
       | (have := HG2; clear this; (with_reducible refine wpList_load_part (by with_unfolding_all rfl) 28 _ (by with_unfolding_all rfl) _ 0 [.int .i64 H, .int .u64 (l : Int)] _ (by with_unfolding_all rfl) HC2.out.whole Try.underlying28 (by with_unfolding_all rfl) (by with_unfolding_all exact Try.size28) ?_))
       | (have := HG1; clear this; (with_reducible refine wpList_box_row (by with_unfolding_all rfl) 37 _ (by with_unfolding_all rfl) [.int .u64 S, .int .i64 ta] (by with_unfolding_all rfl) ?_); intro w2 B2 s2 g2; have HB2 := hid B2; have HC2 := hid (HB1.out.keep g2); have HG2 := hid (gtrans HG1.out g2); clear B2 s2 g2; have y0 := HB2.out.cell 0)
       | ((with_reducible refine wpList_box_row (by with_unfolding_all rfl) 28 _ (by with_unfolding_all rfl) [.int .i64 H, .int .u64 (l : Int)] (by with_unfolding_all rfl) ?_); intro w1 B1 s1 g1; have HB1 := hid B1; have HG1 := hid g1; clear B1 s1 g1))
     refine (HCk.out _).mono ?_
     rintro e w3 ⟨rfl, hg3⟩
     have HG3 := hid (gtrans HG2.out hg3)
     clear hg3
     go_wp2_with (first | (go_at_call 8; refine (num_any _ _).mono ?_; rintro e w4 ⟨rfl, rfl⟩) | (go_at_call 37; refine (HSg.out _).mono ?_; rintro e w4 ⟨rfl, rfl⟩))
     go_ret
     exact ⟨rfl, HG3.out⟩)
end Go.Proofs.Ytnbcplpmpocbpaa
