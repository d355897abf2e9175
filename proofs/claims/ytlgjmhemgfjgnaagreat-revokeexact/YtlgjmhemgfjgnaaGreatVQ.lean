/- wakes. -/
import Derived.Test.YtlgjmhemgfjgnaaGreatVO
namespace Go.Proofs.YtlgjmhemgfjgnaaGreat
open Go Go.RowKit
open Go.RowKit (wrap32 wrap64)

def S1 : List UInt8 := 1 :: List.replicate 15 0
def S2 : List UInt8 := 2 :: List.replicate 15 0
set_option maxRecDepth 100000 in
theorem built_s1 : Tryz.prog.built 69 [(0, .int .u8 1)] = some (Lib.byteCells S1).toArray := by kernel_rfl
set_option maxRecDepth 100000 in
theorem built_s2 : Tryz.prog.built 69 [(0, .int .u8 2)] = some (Lib.byteCells S2).toArray := by kernel_rfl
def k1 : Ky := ⟨false, 7, S1, 50⟩
def k2 : Ky := ⟨true, 7, z16, 60⟩
set_option maxRecDepth 100000 in
theorem wk_add : addL [] 7 S1 50 = [k1] := by decide +kernel
set_option maxRecDepth 100000 in
theorem wk_kill : killL [k1] 7 60 = [k2] := by decide +kernel
set_option maxRecDepth 100000 in
theorem wk_h1 : hasL [k1] 7 S1 = true := by decide +kernel
set_option maxRecDepth 100000 in
theorem wk_h2 : hasL [k1] 7 S2 = false := by decide +kernel
set_option maxRecDepth 100000 in
theorem wk_h3 : hasL [k2] 7 S2 = true := by decide +kernel
set_option maxRecDepth 100000 in
theorem wk_60 : prnL [k2] 60 = [] := by decide +kernel
set_option maxRecDepth 100000 in
theorem wk_59 : prnL [k2] 59 = [k2] := by decide +kernel
set_option maxRecDepth 100000 in
/-- the form of a row of the call's own. -/
theorem OutK.form {B : Nat} {w : World} {v : Value} {l : List Ky} {n : Nat} (h : OutK B w v l) (hn : l.length = n) : ∃ a c, v = .slice a n c := by
  subst hn
  rcases h.open with ⟨rfl, rfl⟩ | ⟨g, cap, rest, rfl, _⟩
  · exact ⟨_, _, rfl⟩
  · exact ⟨_, _, rfl⟩
set_option maxRecDepth 100000 in
theorem OutK.one {B : Nat} {w : World} {v : Value} {k : Ky} (h : OutK B w v [k]) : ∃ g c, v = .slice (some ⟨g, 0, none⟩) 1 c ∧ ∀ u, w.grownBy u none → u.cell? ⟨g, 0, none⟩ = some (.bool k.wh) := by
  rcases h.open with ⟨_, h0⟩ | ⟨g, cap, rest, rfl, _, _, _, hb, _⟩
  · cases h0
  · exact ⟨g, cap, rfl, fun u hu => by rw [(hb.keep hu).cell]; rfl⟩
set_option maxRecDepth 100000 in
set_option maxHeartbeats 1600000 in
theorem wakes_any (w : World) : Calls Tryz.prog 15 #[] w fun e w' => e = .returned (.bool true) ∧ w.grownBy w' none := by
  obtain ⟨s1, HS1e⟩ : ∃ x, Hid (Lib.byteCells S1 = x) := ⟨_, hid rfl⟩
  obtain ⟨s2, HS2e⟩ : ∃ x, Hid (Lib.byteCells S2 = x) := ⟨_, hid rfl⟩
  have HBu1 : Hid (Tryz.prog.built 69 [(0, .int .u8 1)] = some s1.toArray) := hid (by rw [← HS1e.out]; exact built_s1)
  have HBu2 : Hid (Tryz.prog.built 69 [(0, .int .u8 2)] = some s2.toArray) := hid (by rw [← HS2e.out]; exact built_s2)
  have HAd : Hid (∀ u : World, Calls Tryz.prog 24 #[.slice none 0 0, .int .u64 7, .agg s1.toArray, .int .i64 50] u fun e w' => ∃ a c, e = .returned (.slice a 1 c) ∧ OutK u.heap.size w' (.slice a 1 c) [k1] ∧ u.grownBy w' none) := hid (fun u => by
    have := add_any u _ (fun _ => True) [] 7 S1 50 (RdK.nil _ _) (by decide) rfl (by decide) (by decide)
    rw [wk_add, HS1e.out] at this
    refine this.mono ?_
    rintro e w' ⟨v', he, ho, hg⟩
    obtain ⟨a, c, rfl⟩ := ho.form rfl
    exact ⟨a, c, he, ho, hg⟩)
  have HKi : Hid (∀ (u : World) (B : Nat) (v : Value), OutK B u v [k1] → Calls Tryz.prog 25 #[v, .int .u64 7, .int .i64 60] u fun e w' => ∃ g c, e = .returned (.slice (some ⟨g, 0, none⟩) 1 c) ∧ OutK u.heap.size w' (.slice (some ⟨g, 0, none⟩) 1 c) [k2] ∧ u.grownBy w' none ∧ ∀ x, w'.grownBy x none → x.cell? ⟨g, 0, none⟩ = some (.bool true)) := hid (fun u B v h => by
    have := kill_any u v _ [k1] 7 60 h.rd (by decide) (by decide) (by decide)
    rw [wk_kill] at this
    refine this.mono ?_
    rintro e w' ⟨v', he, ho, hg⟩
    obtain ⟨g, c, rfl, hc⟩ := ho.one
    exact ⟨g, c, he, ho, hg, hc⟩)
  have HH1 : Hid (∀ (u : World) (B : Nat) (v : Value), OutK B u v [k1] → Calls Tryz.prog 19 #[v, .int .u64 7, .agg s1.toArray] u fun e w' => e = .returned (.bool true) ∧ u.grownBy w' none) := hid (fun u B v h => by
    have := has_any u v _ [k1] 7 S1 h.rd (by decide) rfl
    rw [wk_h1, HS1e.out] at this
    exact this)
  have HH2 : Hid (∀ (u : World) (B : Nat) (v : Value), OutK B u v [k1] → Calls Tryz.prog 19 #[v, .int .u64 7, .agg s2.toArray] u fun e w' => e = .returned (.bool false) ∧ u.grownBy w' none) := hid (fun u B v h => by
    have := has_any u v _ [k1] 7 S2 h.rd (by decide) rfl
    rw [wk_h2, HS2e.out] at this
    exact this)
  have HH3 : Hid (∀ (u : World) (B : Nat) (v : Value), OutK B u v [k2] → Calls Tryz.prog 19 #[v, .int .u64 7, .agg s2.toArray] u fun e w' => e = .returned (.bool true) ∧ u.grownBy w' none) := hid (fun u B v h => by
    have := has_any u v _ [k2] 7 S2 h.rd (by decide) rfl
    rw [wk_h3, HS2e.out] at this
    exact this)
  have HP60 : Hid (∀ (u : World) (B : Nat) (v : Value), OutK B u v [k2] → Calls Tryz.prog 26 #[v, .int .i64 60] u fun e w' => ∃ a c, e = .returned (.slice a 0 c) ∧ u.grownBy w' none) := hid (fun u B v h => by
    have := prune_any u v _ [k2] 60 h.rd (by decide)
    rw [wk_60] at this
    refine this.mono ?_
    rintro e w' ⟨v', he, ho, hg⟩
    obtain ⟨a, c, rfl⟩ := ho.form rfl
    exact ⟨a, c, he, hg⟩)
  have HP59 : Hid (∀ (u : World) (B : Nat) (v : Value), OutK B u v [k2] → Calls Tryz.prog 26 #[v, .int .i64 59] u fun e w' => ∃ a c, e = .returned (.slice a 1 c) ∧ u.grownBy w' none) := hid (fun u B v h => by
    have := prune_any u v _ [k2] 59 h.rd (by decide)
    rw [wk_59] at this
    refine this.mono ?_
    rintro e w' ⟨v', he, ho, hg⟩
    obtain ⟨a, c, rfl⟩ := ho.form rfl
    exact ⟨a, c, he, hg⟩)
  clear HS1e HS2e
  go_enter Tryz.func15, Tryz.ntmps15
  go_wp2_with (first
    | (with_reducible refine wpList_build_of (by with_unfolding_all rfl) 69 _ (by with_unfolding_all rfl) [(0, .int .u8 1)] (by with_unfolding_all rfl) s1 HBu1.out ?_)
    | (with_reducible refine wpList_build_ofW (by with_unfolding_all rfl) 69 _ (by with_unfolding_all rfl) [(0, .int .u8 1)] (by with_unfolding_all rfl) s1 HBu1.out ?_)
    | (with_reducible refine wpList_build_ofW (by with_unfolding_all rfl) 69 _ (by with_unfolding_all rfl) [(0, .int .u8 2)] (by with_unfolding_all rfl) s2 HBu2.out ?_)
    | (go_at_call 24; (with_reducible refine (HAd.out _).mono ?_); rintro e w1 ⟨a1, c1, rfl, hO1, hg1⟩; have HO1 := hid hO1; have HG1 := hid hg1; clear hO1 hg1)
    | (go_at_call 25; (with_reducible refine (HKi.out _ _ _ HO1.out).mono ?_); rintro e w2 ⟨g2, c2, rfl, hO2, hg2, hc2⟩; have HO2 := hid hO2; have HL2 := hid (HO1.out.keep hg2); have HG2 := hid (gtrans HG1.out hg2); have HC2 := hid hc2; clear hO2 hg2 hc2)
    | (go_at_call 19; (with_reducible refine (HH1.out _ _ _ HL2.out).mono ?_); rintro e w3 ⟨rfl, hg3⟩; have HO3 := hid (HO2.out.keep hg3); have HL3 := hid (HL2.out.keep hg3); have HG3 := hid (gtrans HG2.out hg3); have HX3 := hid hg3; clear hg3)
    | (go_at_call 19; (with_reducible refine (HH2.out _ _ _ HL3.out).mono ?_); rintro e w4 ⟨rfl, hg4⟩; have HO4 := hid (HO3.out.keep hg4); have HG4 := hid (gtrans HG3.out hg4); have y0 := HC2.out _ (gtrans HX3.out hg4); clear hg4)
    | (go_at_call 19; (with_reducible refine (HH3.out _ _ _ HO4.out).mono ?_); rintro e w5 ⟨rfl, hg5⟩; have HO5 := hid (HO4.out.keep hg5); have HG5 := hid (gtrans HG4.out hg5); clear hg5)
    | (go_at_call 26; (with_reducible refine (HP60.out _ _ _ HO5.out).mono ?_); rintro e w6 ⟨a6, c6, rfl, hg6⟩; have HO6 := hid (HO5.out.keep hg6); have HG6 := hid (gtrans HG5.out hg6); clear hg6)
    | (go_at_call 26; (with_reducible refine (HP59.out _ _ _ HO6.out).mono ?_); rintro e w7 ⟨a7, c7, rfl, hg7⟩; have HG7 := hid (gtrans HG6.out hg7); clear hg7))
  go_ret
  exact ⟨rfl, HG7.out⟩
end Go.Proofs.YtlgjmhemgfjgnaaGreat
