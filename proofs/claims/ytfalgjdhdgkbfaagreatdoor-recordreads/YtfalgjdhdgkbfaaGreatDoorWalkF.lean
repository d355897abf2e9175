/- The walks of the Writer's Num, Int, Flag, Bytes, Text, ID. -/
import Derived.Test.YtfalgjdhdgkbfaaGreatDoorWalkE
import Derived.Lib.AppendStr
namespace Go.Proofs.YtfalgjdhdgkbfaaGreatDoor
open Go Go.RowKit
open Go.RowKit (wrap32 wrap64)

/-- What a Writer has laid behind a field, and its refusal. -/
def wl (bad : Nat) (l x : List UInt8) : List UInt8 := if bad = 0 then l ++ x else l
def wz (bad : Nat) (l : List UInt8) : List UInt8 := if bad = 0 then [] else l
theorem Out.rdF {w : World} {B : Nat} {F : Nat → Prop} {v : Value} {l : List UInt8} (h : Out B w v l) (hF : ∀ g, B ≤ g → F g) : Rd w F v l := h.rd.mono (fun k _ hk => hF k hk)
theorem isW_nat (k : Nat) (h1 : 1 ≤ k) (h8 : k ≤ 8) : isW (k : Int) = true := decide_eq_true (by omega)
theorem fit_ok (n k : Nat) (h : n < 256 ^ k) : ((n : Int) / 2 ^ (8 * k) != 0) = false := by
  have e : (256 : Nat) ^ k = 2 ^ (8 * k) := by rw [show (256 : Nat) = 2 ^ 8 by decide, ← Nat.pow_mul]
  rw [e] at h
  have : (n : Int) / 2 ^ (8 * k) = ((n / 2 ^ (8 * k) : Nat) : Int) := by simp
  rw [this, Nat.div_eq_of_lt h]; rfl
theorem fit_no (n k : Nat) (h : ¬ n < 256 ^ k) : ((n : Int) / 2 ^ (8 * k) != 0) = true := by
  have e : (256 : Nat) ^ k = 2 ^ (8 * k) := by rw [show (256 : Nat) = 2 ^ 8 by decide, ← Nat.pow_mul]
  rw [e] at h
  have : (n : Int) / 2 ^ (8 * k) = ((n / 2 ^ (8 * k) : Nat) : Int) := by simp
  rw [this]
  have h2 : 0 < n / 2 ^ (8 * k) := Nat.div_pos (by omega) (Nat.pow_pos (by decide))
  simp only [bne_iff_ne, ne_eq]
  omega

set_option maxRecDepth 100000 in
set_option maxHeartbeats 1000000 in
theorem wnum_ok (w : World) (b t m o : Nat) (f : Nat → Value) (F : Nat → Prop) (l : List UInt8) (bad n k : Nat) (h : Wr w b t m o f F l bad) (hF : ∀ g, w.heap.size ≤ g → F g) (hl : l.length ≤ 17592186044416) (hn : n < 18446744073709551616) (h1 : 1 ≤ k) (h8 : k ≤ 8) (hfit : n < 256 ^ k) :
    Calls Tryz.prog 26 #[.pointer (some ⟨b, o, none⟩), .int .u64 n, .int .i64 k] w fun e w' => e = .returned (.tuple #[]) ∧ (∃ f', Wr w' b t m o f' F (wl bad l (layL n k)) bad ∧ Els o f f') ∧ w.grownBy w' (some b) := by
  have hfi := fit_ok n k hfit
  have t8 : (8 * (k : Int)).toNat = 8 * k := by omega
  have HI : Hid (∀ u, Calls Tryz.prog 66 #[.int .i64 k] u fun e w' => e = .returned (.bool true) ∧ w' = u) := fun u => by
    have := isWidth_any k u
    rw [isW_nat k h1 h8] at this
    exact this
  have HA : Hid (Calls Tryz.prog 69 #[.slice none 0 0, .int .u64 n, .int .i64 k] w fun e w' => ∃ v', e = .returned v' ∧ Out w.heap.size w' v' (layL n k) ∧ Below w.heap.size w w') :=
    appendNumber_any w.heap.size n k _ [] w hn h8 (Out.nil _ _) (Nat.le_refl _) (by simp)
  have HL : Hid (∀ (u : World) (v : Value), w.grownBy u none → Rd u F v (layL n k) → Calls Tryz.prog 68 #[.pointer (some ⟨b, o, none⟩), v] u fun e w' => e = .returned (.tuple #[]) ∧ (∃ f', Wr w' b t m o f' F (wl bad l (layL n k)) bad ∧ Els o f f') ∧ u.grownBy w' (some b)) := fun u v hu hv =>
    lay_any u b t m o f F l bad v _ (h.keep hu) hv (fun g hg => hF g (Nat.le_trans hu.size hg)) (by rw [layL_length]; omega)
  clear h hfit
  go_enter Tryz.func26, Tryz.ntmps26
  go_wp2_with (first
    | (go_at_call 66; refine (HI.out _).mono ?_; rintro e w' ⟨rfl, hw⟩; have hw' := hw.symm; clear hw; subst hw')
    | (go_at_call 69; refine (HA.out).mono ?_; rintro e w1 ⟨v1, rfl, hO1, hB1⟩; have HO1 := hid (hO1.rdF hF); have HG1 := hid (gof hB1 none); clear hO1 hB1)
    | (go_at_call 68; refine (HL.out _ _ HG1.out HO1.out).mono ?_; rintro e w2 ⟨rfl, hW2, hg2⟩))
  go_end0
  exact ⟨rfl, hW2, (gsome HG1.out (some b)).andThen hg2 (fun j hj => .inr hj)⟩

set_option maxRecDepth 100000 in
set_option maxHeartbeats 1000000 in
theorem wnum_no (w : World) (b t m o : Nat) (f : Nat → Value) (F : Nat → Prop) (l : List UInt8) (bad n : Nat) (x : Int) (h : Wr w b t m o f F l bad) (hx : ¬ (1 ≤ x ∧ x ≤ 8 ∧ n < 256 ^ x.toNat)) :
    Calls Tryz.prog 26 #[.pointer (some ⟨b, o, none⟩), .int .u64 n, .int .i64 x] w fun e w' => e = .returned (.tuple #[]) ∧ (∃ f', Wr w' b t m o f' F (wz bad l) (ref bad 34) ∧ Els o f f') ∧ w.grownBy w' (some b) := by
  have HR : Hid (Calls Tryz.prog 67 #[.pointer (some ⟨b, o, none⟩), .int .i64 34] w fun r w' => r = .returned (.tuple #[]) ∧ (∃ f', Wr w' b t m o f' F (wz bad l) (ref bad 34) ∧ Els o f f') ∧ w.grownBy w' (some b)) := wrefuse_any w b t m o f F l bad 34 h
  have HI := hid (fun u => isWidth_any x u)
  clear h
  by_cases hw : 1 ≤ x ∧ x ≤ 8
  · obtain ⟨k, rfl⟩ : ∃ k : Nat, x = k := ⟨x.toNat, by omega⟩
    have hfi := fit_no n k (fun e => hx ⟨hw.1, hw.2, by simpa using e⟩)
    have hk1 : 1 ≤ k := by omega
    have hk8 : k ≤ 8 := by omega
    have t8 : (8 * (k : Int)).toNat = 8 * k := by omega
    rw [isW_nat k hk1 hk8] at HI
    clear hx hw
    go_enter Tryz.func26, Tryz.ntmps26
    go_wp2_with (first
      | (go_at_call 66; refine (HI.out _).mono ?_; rintro e w' ⟨rfl, hw⟩; have hw' := hw.symm; clear hw; subst hw')
      | (go_at_call 67; refine (HR.out).mono ?_; rintro e w1 ⟨rfl, hW1, hg1⟩))
    refine bodyPost_ret (results_none rfl _ _ _) rfl ?_
    exact ⟨rfl, hW1, hg1⟩
  · have hi : isW x = false := decide_eq_false (by omega)
    rw [hi] at HI
    clear hx hw
    go_enter Tryz.func26, Tryz.ntmps26
    go_wp2_with (first
      | (go_at_call 66; refine (HI.out _).mono ?_; rintro e w' ⟨rfl, hw⟩; have hw' := hw.symm; clear hw; subst hw')
      | (go_at_call 67; refine (HR.out).mono ?_; rintro e w1 ⟨rfl, hW1, hg1⟩))
    refine bodyPost_ret (results_none rfl _ _ _) rfl ?_
    exact ⟨rfl, hW1, hg1⟩

/-- An Int's number. -/
def i64u (x : Int) : Nat := (x % 18446744073709551616).toNat
theorem i64u_lt (x : Int) : i64u x < 18446744073709551616 := by unfold i64u; omega
set_option maxRecDepth 100000 in
set_option maxHeartbeats 1000000 in
theorem wint_any (w : World) (b t m o : Nat) (f : Nat → Value) (F : Nat → Prop) (l : List UInt8) (bad : Nat) (x : Int) (h : Wr w b t m o f F l bad) (hF : ∀ g, w.heap.size ≤ g → F g) (hl : l.length ≤ 17592186044416) :
    Calls Tryz.prog 28 #[.pointer (some ⟨b, o, none⟩), .int .i64 x] w fun e w' => e = .returned (.tuple #[]) ∧ (∃ f', Wr w' b t m o f' F (wl bad l (layL (i64u x) 8)) bad ∧ Els o f f') ∧ w.grownBy w' (some b) := by
  have HN := hid (wnum_ok w b t m o f F l bad (i64u x) 8 h hF hl (i64u_lt x) (by decide) (by decide) (by have := i64u_lt x; omega))
  have e1 : IntKind.u64.wrap x = (i64u x : Int) := by rw [IntKind.wrap_u64]; unfold i64u; omega
  generalize i64u x = n at HN e1 ⊢
  clear h
  go_enter Tryz.func28, Tryz.ntmps28
  go_wp2_with (go_at_call 26; refine (HN.out).mono ?_; rintro e w1 ⟨rfl, hW1, hg1⟩)
  go_end0
  exact ⟨rfl, hW1, hg1⟩
set_option maxRecDepth 100000 in
set_option maxHeartbeats 1000000 in
theorem wflag_any (w : World) (b t m o : Nat) (f : Nat → Value) (F : Nat → Prop) (l : List UInt8) (bad : Nat) (c : Bool) (h : Wr w b t m o f F l bad) (hF : ∀ g, w.heap.size ≤ g → F g) (hl : l.length ≤ 17592186044416) :
    Calls Tryz.prog 30 #[.pointer (some ⟨b, o, none⟩), .bool c] w fun e w' => e = .returned (.tuple #[]) ∧ (∃ f', Wr w' b t m o f' F (wl bad l (layL c.toNat 1)) bad ∧ Els o f f') ∧ w.grownBy w' (some b) := by
  cases c with
  | true =>
    have HN : Hid (Calls Tryz.prog 26 #[.pointer (some ⟨b, o, none⟩), .int .u64 1, .int .i64 1] w fun e w' => e = .returned (.tuple #[]) ∧ (∃ f', Wr w' b t m o f' F (wl bad l (layL (Bool.toNat true) 1)) bad ∧ Els o f f') ∧ w.grownBy w' (some b)) := wnum_ok w b t m o f F l bad 1 1 h hF hl (by decide) (by decide) (by decide) (by decide)
    clear h
    go_enter Tryz.func30, Tryz.ntmps30
    go_wp2_with (go_at_call 26; refine (HN.out).mono ?_; rintro e w1 ⟨rfl, hW1, hg1⟩)
    go_end0
    exact ⟨rfl, hW1, hg1⟩
  | false =>
    have HN : Hid (Calls Tryz.prog 26 #[.pointer (some ⟨b, o, none⟩), .int .u64 0, .int .i64 1] w fun e w' => e = .returned (.tuple #[]) ∧ (∃ f', Wr w' b t m o f' F (wl bad l (layL (Bool.toNat false) 1)) bad ∧ Els o f f') ∧ w.grownBy w' (some b)) := wnum_ok w b t m o f F l bad 0 1 h hF hl (by decide) (by decide) (by decide) (by decide)
    clear h
    go_enter Tryz.func30, Tryz.ntmps30
    go_wp2_with (go_at_call 26; refine (HN.out).mono ?_; rintro e w1 ⟨rfl, hW1, hg1⟩)
    go_end0
    exact ⟨rfl, hW1, hg1⟩

set_option maxRecDepth 100000 in
set_option maxHeartbeats 1000000 in
theorem begin_ok (w : World) (b t m o : Nat) (f : Nat → Value) (F : Nat → Prop) (l : List UInt8) (bad n : Nat) (h : Wr w b t m o f F l bad) (hF : ∀ g, w.heap.size ≤ g → F g) (hl : l.length ≤ 17592186044416) (hn : n ≤ 1048576) :
    Calls Tryz.prog 73 #[.pointer (some ⟨b, o, none⟩), .int .i64 n] w fun e w' => e = .returned (.bool (bad == 0)) ∧ (∃ f', Wr w' b t m o f' F (wl bad l (layL n 4)) bad ∧ Els o f f') ∧ w.grownBy w' (some b) := by
  have HN := hid (wnum_ok w b t m o f F l bad n 4 h hF hl (by omega) (by decide) (by decide) (by omega))
  have hd : decide ((1048576 : Int) < (n : Int)) = false := decide_eq_false (by omega)
  have HD : Hid ((bad == 0) = ((bad : Int) == 0)) := hid (by rw [Bool.eq_iff_iff, beq_iff_eq, beq_iff_eq]; omega)
  generalize (bad == 0) = D at HD
  clear h
  go_enter Tryz.func73, Tryz.ntmps73
  go_wp2_with (go_at_call 26; refine (HN.out).mono ?_; rintro e w1 ⟨rfl, ⟨f1, hW1, hE1⟩, hg1⟩; have HW1 := hid hW1; have HE1 := hid hE1; have HG1 := hid hg1; obtain ⟨p, c0, c1, c2, hfz, hlt, hp⟩ := hW1.cells; clear hW1 hE1 hg1 hp)
  go_ret
  exact ⟨by rw [HD.out]; rfl, ⟨f1, HW1.out, HE1.out⟩, HG1.out⟩
set_option maxRecDepth 100000 in
set_option maxHeartbeats 1000000 in
theorem begin_no (w : World) (b t m o : Nat) (f : Nat → Value) (F : Nat → Prop) (l : List UInt8) (bad n : Nat) (h : Wr w b t m o f F l bad) (hn : 1048576 < n) (hn2 : n ≤ 140737488355328) :
    Calls Tryz.prog 73 #[.pointer (some ⟨b, o, none⟩), .int .i64 n] w fun e w' => e = .returned (.bool false) ∧ (∃ f', Wr w' b t m o f' F (wz bad l) (ref bad 31) ∧ Els o f f') ∧ w.grownBy w' (some b) := by
  have HR : Hid (Calls Tryz.prog 67 #[.pointer (some ⟨b, o, none⟩), .int .i64 31] w fun r w' => r = .returned (.tuple #[]) ∧ (∃ f', Wr w' b t m o f' F (wz bad l) (ref bad 31) ∧ Els o f f') ∧ w.grownBy w' (some b)) := wrefuse_any w b t m o f F l bad 31 h
  have hd : decide ((1048576 : Int) < (n : Int)) = true := decide_eq_true (by omega)
  have hr : ¬ ref bad 31 = 0 := by unfold ref; split <;> omega
  have e1 : ((ref bad 31 : Int) == 0) = false := by simpa using hr
  have e2 : (ref bad 31 == 0) = false := by simpa using hr
  generalize ref bad 31 = R at HR e1 e2 ⊢
  clear h hr
  go_enter Tryz.func73, Tryz.ntmps73
  go_wp2_with (go_at_call 67; refine (HR.out).mono ?_; rintro e w1 ⟨rfl, ⟨f1, hW1, hE1⟩, hg1⟩; have HW1 := hid hW1; have HE1 := hid hE1; have HG1 := hid hg1; obtain ⟨p, c0, c1, c2, hfz, hlt, hp⟩ := hW1.cells; clear hW1 hE1 hg1 hp)
  go_ret
  exact ⟨rfl, ⟨f1, HW1.out, HE1.out⟩, HG1.out⟩

/-- What the Writer has laid behind Bytes or a Text. -/
def wrow (bad : Nat) (l x : List UInt8) : List UInt8 := wl bad l (layL x.length 4 ++ x)
theorem wl_wl (bad : Nat) (l x y : List UInt8) : wl bad (wl bad l x) y = wl bad l (x ++ y) := by unfold wl; split <;> simp_all
set_option maxRecDepth 100000 in
set_option maxHeartbeats 1000000 in
theorem wbytes_ok (w : World) (b t m o : Nat) (f : Nat → Value) (F G : Nat → Prop) (l x : List UInt8) (bad : Nat) (v : Value) (h : Wr w b t m o f F l bad) (hv : Rd w G v x) (hG : ¬ G b) (hF : ∀ g, w.heap.size ≤ g → F g) (hl : l.length ≤ 17592186040000) (hx : x.length ≤ 1048576) :
    Calls Tryz.prog 32 #[.pointer (some ⟨b, o, none⟩), v] w fun e w' => e = .returned (.tuple #[]) ∧ (∃ f', Wr w' b t m o f' F (wrow bad l x) bad ∧ Els o f f') ∧ w.grownBy w' (some b) := by
  have HB := hid (begin_ok w b t m o f F l bad x.length h hF (by omega) hx)
  have HV : Hid (∀ u, w.grownBy u (some b) → Rd u G v x) := fun u hu => hv.on hu (fun k e => by injection e with e; rw [← e]; exact hG)
  have hlen : (wl bad l (layL x.length 4)).length ≤ l.length + 4 := by unfold wl; split <;> simp [layL_length]
  have HL : Hid (∀ (u : World) (g : Nat → Value) (y : Value), Wr u b t m o g F (wl bad l (layL x.length 4)) bad → w.heap.size ≤ u.heap.size → Rd u F y x → Calls Tryz.prog 68 #[.pointer (some ⟨b, o, none⟩), y] u fun e w' => e = .returned (.tuple #[]) ∧ (∃ f', Wr w' b t m o f' F (wrow bad l x) bad ∧ Els o g f') ∧ u.grownBy w' (some b)) := fun u g y hW hz hy => by
    have := lay_any u b t m o g F _ bad y x hW hy (fun k hk => hF k (Nat.le_trans hz hk)) (by omega)
    rw [show (if bad = 0 then wl bad l (layL x.length 4) ++ x else wl bad l (layL x.length 4)) = wrow bad l x from wl_wl bad l _ x] at this
    exact this
  have HC : Hid (∀ u, Rd u G v x → Calls Tryz.prog 50 #[v] u fun e w' => ∃ v', e = .returned v' ∧ Out u.heap.size w' v' x ∧ u.grownBy w' none) := fun u hu => clone_any x G v u (by omega) hu
  have HZ : Hid (bad ≠ 0 → wl bad l (layL x.length 4) = wrow bad l x) := hid (fun hb => by unfold wrow wl; rw [if_neg hb, if_neg hb])
  have hvv := hv
  obtain ⟨a, b', off, c, rfl, -⟩ := hvv
  clear h hv hlen
  by_cases hb : bad = 0
  · rw [show (bad == 0) = true by simpa using hb] at HB
    clear hb HZ
    go_enter Tryz.func32, Tryz.ntmps32
    go_wp2_with (first
      | (go_at_call 73; refine (HB.out).mono ?_; rintro e w1 ⟨rfl, ⟨f1, hW1, hE1⟩, hg1⟩; have HW1 := hid hW1; have HE1 := hid hE1; have HG1 := hid hg1; clear hW1 hE1 hg1)
      | (go_at_call 50; refine (HC.out _ (HV.out _ HG1.out)).mono ?_; rintro e w2 ⟨v2, rfl, hO2, hg2⟩; have HW2 := hid (HW1.out.keep hg2); have HR2 := hid (hO2.rdF (fun k hk => hF k (Nat.le_trans HG1.out.size hk))); have HG2 := hid (gtrans HG1.out (gsome hg2 (some b))); clear hO2 hg2)
      | (go_at_call 68; refine (HL.out _ _ _ HW2.out HG2.out.size HR2.out).mono ?_; rintro e w3 ⟨rfl, ⟨f3, hW3, hE3⟩, hg3⟩))
    go_end0
    exact ⟨rfl, ⟨f3, hW3, HE1.out.trans hE3⟩, gtrans HG2.out hg3⟩
  · rw [show (bad == 0) = false by simpa using hb, HZ.out hb] at HB
    clear hb HZ
    go_enter Tryz.func32, Tryz.ntmps32
    go_wp2_with (go_at_call 73; refine (HB.out).mono ?_; rintro e w1 ⟨rfl, ⟨f1, hW1, hE1⟩, hg1⟩; have HW1 := hid hW1; have HE1 := hid hE1; have HG1 := hid hg1; clear hW1 hE1 hg1)
    go_end0
    exact ⟨rfl, ⟨f1, HW1.out, HE1.out⟩, HG1.out⟩
set_option maxRecDepth 100000 in
set_option maxHeartbeats 1000000 in
theorem wbytes_no (w : World) (b t m o : Nat) (f : Nat → Value) (F : Nat → Prop) (l : List UInt8) (bad n c : Nat) (a : Option Addr) (h : Wr w b t m o f F l bad) (hn : 1048576 < n) (hn2 : n ≤ 140737488355328) :
    Calls Tryz.prog 32 #[.pointer (some ⟨b, o, none⟩), .slice a n c] w fun e w' => e = .returned (.tuple #[]) ∧ (∃ f', Wr w' b t m o f' F (wz bad l) (ref bad 31) ∧ Els o f f') ∧ w.grownBy w' (some b) := by
  have HB := hid (begin_no w b t m o f F l bad n h hn hn2)
  clear h
  go_enter Tryz.func32, Tryz.ntmps32
  go_wp2_with (go_at_call 73; refine (HB.out).mono ?_; rintro e w1 ⟨rfl, hW1, hg1⟩)
  go_end0
  exact ⟨rfl, hW1, hg1⟩
end Go.Proofs.YtfalgjdhdgkbfaaGreatDoor
