/- The walks of the Writer's Num, Int, Flag, Bytes, Text, ID. -/
import Derived.Test.YtfalgjdhdgkbfaaGreatDoorX01
import Derived.Lib.AppendStr
import Derived.Laws.IdiomStrings
import Derived.Laws.CopyOwn
namespace Go.Proofs.YtfalgjdhdgkbfaaGreatDoor
open Go Go.RowKit
open Go.RowKit (wrap32 wrap64)

/-- What a Writer has laid behind a field, and its refusal. -/
def wl (bad : Nat) (l x : List UInt8) : List UInt8 := if bad = 0 then l ++ x else l
def wz (bad : Nat) (l : List UInt8) : List UInt8 := if bad = 0 then [] else l
theorem Out.rdF {w : World} {B : Nat} {F : Nat → Prop} {v : Value} {l : List UInt8} (h : Out B w v l) (hF : ∀ g, B ≤ g → F g) : Rd w F v l := h.rd.mono (fun k _ hk => hF k hk)
theorem isW_nat (k : Nat) (h1 : 1 ≤ k) (h8 : k ≤ 8) : isW (k : Int) = true := decide_eq_true (by omega)
theorem fit_ok (n k : Nat) (h : n < 256 ^ k) : ((n : Int) / 2 ^ (8 * k) != 0) = false := by
  have e : (256 : Nat) ^ k = 2 ^ (8 * k) := by rw [show (256 : Nat) = 2 ^ 8 by decide, ← Nat.pow_mul]
  rw [e] at h
  have : (n : Int) / 2 ^ (8 * k) = ((n / 2 ^ (8 * k) : Nat) : Int) := by simp
  rw [this, Nat.div_eq_of_lt h]; rfl
theorem fit_no (n k : Nat) (h : ¬ n < 256 ^ k) : ((n : Int) / 2 ^ (8 * k) != 0) = true := by
  have e : (256 : Nat) ^ k = 2 ^ (8 * k) := by rw [show (256 : Nat) = 2 ^ 8 by decide, ← Nat.pow_mul]
  rw [e] at h
  have : (n : Int) / 2 ^ (8 * k) = ((n / 2 ^ (8 * k) : Nat) : Int) := by simp
  rw [this]
  have h2 : 0 < n / 2 ^ (8 * k) := Nat.div_pos (by omega) (Nat.pow_pos (by decide))
  simp only [bne_iff_ne, ne_eq]
  omega

set_option maxRecDepth 100000 in
set_option maxHeartbeats 1000000 in
theorem wnum_ok (w : World) (b t m o : Nat) (f : Nat → Value) (F : Nat → Prop) (l : List UInt8) (bad n k : Nat) (h : Wr w b t m o f F l bad) (hF : ∀ g, w.heap.size ≤ g → F g) (hl : l.length ≤ 17592186044416) (hn : n < 18446744073709551616) (h1 : 1 ≤ k) (h8 : k ≤ 8) (hfit : n < 256 ^ k) :
    Calls Tryz.prog 26 #[.pointer (some ⟨b, o, none⟩), .int .u64 n, .int .i64 k] w fun e w' => e = .returned (.tuple #[]) ∧ (∃ f', Wr w' b t m o f' F (wl bad l (layL n k)) bad ∧ Els o f f') ∧ w.grownBy w' (some b) := by
  have hfi := fit_ok n k hfit
  have t8 : (8 * (k : Int)).toNat = 8 * k := by omega
  have HI : Hid (∀ u, Calls Tryz.prog 66 #[.int .i64 k] u fun e w' => e = .returned (.bool true) ∧ w' = u) := fun u => by
    have := isWidth_any k u
    rw [isW_nat k h1 h8] at this
    exact this
  have HA : Hid (Calls Tryz.prog 69 #[.slice none 0 0, .int .u64 n, .int .i64 k] w fun e w' => ∃ v', e = .returned v' ∧ Out w.heap.size w' v' (layL n k) ∧ Below w.heap.size w w') :=
    appendNumber_any w.heap.size n k _ [] w hn h8 (Out.nil _ _) (Nat.le_refl _) (by simp)
  have HL : Hid (∀ (u : World) (v : Value), w.grownBy u none → Rd u F v (layL n k) → Calls Tryz.prog 68 #[.pointer (some ⟨b, o, none⟩), v] u fun e w' => e = .returned (.tuple #[]) ∧ (∃ f', Wr w' b t m o f' F (wl bad l (layL n k)) bad ∧ Els o f f') ∧ u.grownBy w' (some b)) := fun u v hu hv =>
    lay_any u b t m o f F l bad v _ (h.keep hu) hv (fun g hg => hF g (Nat.le_trans hu.size hg)) (by rw [layL_length]; omega)
  clear h hfit
  go_enter Tryz.func26, Tryz.ntmps26
  go_wp2_with (first
    | (go_at_call 66; refine (HI.out _).mono ?_; rintro e w' ⟨rfl, hw⟩; have hw' := hw.symm; clear hw; subst hw')
    | (go_at_call 69; refine (HA.out).mono ?_; rintro e w1 ⟨v1, rfl, hO1, hB1⟩; have HO1 := hid (hO1.rdF hF); have HG1 := hid (gof hB1 none); clear hO1 hB1)
    | (go_at_call 68; refine (HL.out _ _ HG1.out HO1.out).mono ?_; rintro e w2 ⟨rfl, hW2, hg2⟩))
  go_end0
  exact ⟨rfl, hW2, (gsome HG1.out (some b)).andThen hg2 (fun j hj => .inr hj)⟩

set_option maxRecDepth 100000 in
set_option maxHeartbeats 1000000 in
theorem wnum_no (w : World) (b t m o : Nat) (f : Nat → Value) (F : Nat → Prop) (l : List UInt8) (bad n : Nat) (x : Int) (h : Wr w b t m o f F l bad) (hx : ¬ (1 ≤ x ∧ x ≤ 8 ∧ n < 256 ^ x.toNat)) :
    Calls Tryz.prog 26 #[.pointer (some ⟨b, o, none⟩), .int .u64 n, .int .i64 x] w fun e w' => e = .returned (.tuple #[]) ∧ (∃ f', Wr w' b t m o f' F (wz bad l) (ref bad 34) ∧ Els o f f') ∧ w.grownBy w' (some b) := by
  have HR : Hid (Calls Tryz.prog 67 #[.pointer (some ⟨b, o, none⟩), .int .i64 34] w fun r w' => r = .returned (.tuple #[]) ∧ (∃ f', Wr w' b t m o f' F (wz bad l) (ref bad 34) ∧ Els o f f') ∧ w.grownBy w' (some b)) := wrefuse_any w b t m o f F l bad 34 h
  have HI := hid (fun u => isWidth_any x u)
  clear h
  by_cases hw : 1 ≤ x ∧ x ≤ 8
  · obtain ⟨k, rfl⟩ : ∃ k : Nat, x = k := ⟨x.toNat, by omega⟩
    have hfi := fit_no n k (fun e => hx ⟨hw.1, hw.2, by simpa using e⟩)
    have hk1 : 1 ≤ k := by omega
    have hk8 : k ≤ 8 := by omega
    have t8 : (8 * (k : Int)).toNat = 8 * k := by omega
    rw [isW_nat k hk1 hk8] at HI
    clear hx hw
    go_enter Tryz.func26, Tryz.ntmps26
    go_wp2_with (first
      | (go_at_call 66; refine (HI.out _).mono ?_; rintro e w' ⟨rfl, hw⟩; have hw' := hw.symm; clear hw; subst hw')
      | (go_at_call 67; refine (HR.out).mono ?_; rintro e w1 ⟨rfl, hW1, hg1⟩))
    refine bodyPost_ret (results_none rfl _ _ _) rfl ?_
    exact ⟨rfl, hW1, hg1⟩
  · have hi : isW x = false := decide_eq_false (by omega)
    rw [hi] at HI
    clear hx hw
    go_enter Tryz.func26, Tryz.ntmps26
    go_wp2_with (first
      | (go_at_call 66; refine (HI.out _).mono ?_; rintro e w' ⟨rfl, hw⟩; have hw' := hw.symm; clear hw; subst hw')
      | (go_at_call 67; refine (HR.out).mono ?_; rintro e w1 ⟨rfl, hW1, hg1⟩))
    refine bodyPost_ret (results_none rfl _ _ _) rfl ?_
    exact ⟨rfl, hW1, hg1⟩

/-- An Int's number. -/
def i64u (x : Int) : Nat := (x % 18446744073709551616).toNat
theorem i64u_lt (x : Int) : i64u x < 18446744073709551616 := by unfold i64u; omega
set_option maxRecDepth 100000 in
set_option maxHeartbeats 1000000 in
theorem wint_any (w : World) (b t m o : Nat) (f : Nat → Value) (F : Nat → Prop) (l : List UInt8) (bad : Nat) (x : Int) (h : Wr w b t m o f F l bad) (hF : ∀ g, w.heap.size ≤ g → F g) (hl : l.length ≤ 17592186044416) :
    Calls Tryz.prog 28 #[.pointer (some ⟨b, o, none⟩), .int .i64 x] w fun e w' => e = .returned (.tuple #[]) ∧ (∃ f', Wr w' b t m o f' F (wl bad l (layL (i64u x) 8)) bad ∧ Els o f f') ∧ w.grownBy w' (some b) := by
  have HN := hid (wnum_ok w b t m o f F l bad (i64u x) 8 h hF hl (i64u_lt x) (by decide) (by decide) (by have := i64u_lt x; omega))
  have e1 : IntKind.u64.wrap x = (i64u x : Int) := by rw [IntKind.wrap_u64]; unfold i64u; omega
  generalize i64u x = n at HN e1 ⊢
  clear h
  go_enter Tryz.func28, Tryz.ntmps28
  go_wp2_with (go_at_call 26; refine (HN.out).mono ?_; rintro e w1 ⟨rfl, hW1, hg1⟩)
  go_end0
  exact ⟨rfl, hW1, hg1⟩
set_option maxRecDepth 100000 in
set_option maxHeartbeats 1000000 in
theorem wflag_any (w : World) (b t m o : Nat) (f : Nat → Value) (F : Nat → Prop) (l : List UInt8) (bad : Nat) (c : Bool) (h : Wr w b t m o f F l bad) (hF : ∀ g, w.heap.size ≤ g → F g) (hl : l.length ≤ 17592186044416) :
    Calls Tryz.prog 30 #[.pointer (some ⟨b, o, none⟩), .bool c] w fun e w' => e = .returned (.tuple #[]) ∧ (∃ f', Wr w' b t m o f' F (wl bad l (layL c.toNat 1)) bad ∧ Els o f f') ∧ w.grownBy w' (some b) := by
  cases c with
  | true =>
    have HN : Hid (Calls Tryz.prog 26 #[.pointer (some ⟨b, o, none⟩), .int .u64 1, .int .i64 1] w fun e w' => e = .returned (.tuple #[]) ∧ (∃ f', Wr w' b t m o f' F (wl bad l (layL (Bool.toNat true) 1)) bad ∧ Els o f f') ∧ w.grownBy w' (some b)) := wnum_ok w b t m o f F l bad 1 1 h hF hl (by decide) (by decide) (by decide) (by decide)
    clear h
    go_enter Tryz.func30, Tryz.ntmps30
    go_wp2_with (go_at_call 26; refine (HN.out).mono ?_; rintro e w1 ⟨rfl, hW1, hg1⟩)
    go_end0
    exact ⟨rfl, hW1, hg1⟩
  | false =>
    have HN : Hid (Calls Tryz.prog 26 #[.pointer (some ⟨b, o, none⟩), .int .u64 0, .int .i64 1] w fun e w' => e = .returned (.tuple #[]) ∧ (∃ f', Wr w' b t m o f' F (wl bad l (layL (Bool.toNat false) 1)) bad ∧ Els o f f') ∧ w.grownBy w' (some b)) := wnum_ok w b t m o f F l bad 0 1 h hF hl (by decide) (by decide) (by decide) (by decide)
    clear h
    go_enter Tryz.func30, Tryz.ntmps30
    go_wp2_with (go_at_call 26; refine (HN.out).mono ?_; rintro e w1 ⟨rfl, hW1, hg1⟩)
    go_end0
    exact ⟨rfl, hW1, hg1⟩

set_option maxRecDepth 100000 in
set_option maxHeartbeats 1000000 in
theorem begin_ok (w : World) (b t m o : Nat) (f : Nat → Value) (F : Nat → Prop) (l : List UInt8) (bad n : Nat) (h : Wr w b t m o f F l bad) (hF : ∀ g, w.heap.size ≤ g → F g) (hl : l.length ≤ 17592186044416) (hn : n ≤ 1048576) :
    Calls Tryz.prog 73 #[.pointer (some ⟨b, o, none⟩), .int .i64 n] w fun e w' => e = .returned (.bool (bad == 0)) ∧ (∃ f', Wr w' b t m o f' F (wl bad l (layL n 4)) bad ∧ Els o f f') ∧ w.grownBy w' (some b) := by
  have HN := hid (wnum_ok w b t m o f F l bad n 4 h hF hl (by omega) (by decide) (by decide) (by omega))
  have hd : decide ((1048576 : Int) < (n : Int)) = false := decide_eq_false (by omega)
  have HD : Hid ((bad == 0) = ((bad : Int) == 0)) := hid (by rw [Bool.eq_iff_iff, beq_iff_eq, beq_iff_eq]; omega)
  generalize (bad == 0) = D at HD
  clear h
  go_enter Tryz.func73, Tryz.ntmps73
  go_wp2_with (go_at_call 26; refine (HN.out).mono ?_; rintro e w1 ⟨rfl, ⟨f1, hW1, hE1⟩, hg1⟩; have HW1 := hid hW1; have HE1 := hid hE1; have HG1 := hid hg1; obtain ⟨p, c0, c1, c2, hfz, hlt, hp⟩ := hW1.cells; clear hW1 hE1 hg1 hp)
  go_ret
  exact ⟨by rw [HD.out]; rfl, ⟨f1, HW1.out, HE1.out⟩, HG1.out⟩
set_option maxRecDepth 100000 in
set_option maxHeartbeats 1000000 in
theorem begin_no (w : World) (b t m o : Nat) (f : Nat → Value) (F : Nat → Prop) (l : List UInt8) (bad n : Nat) (h : Wr w b t m o f F l bad) (hn : 1048576 < n) (hn2 : n ≤ 140737488355328) :
    Calls Tryz.prog 73 #[.pointer (some ⟨b, o, none⟩), .int .i64 n] w fun e w' => e = .returned (.bool false) ∧ (∃ f', Wr w' b t m o f' F (wz bad l) (ref bad 31) ∧ Els o f f') ∧ w.grownBy w' (some b) := by
  have HR : Hid (Calls Tryz.prog 67 #[.pointer (some ⟨b, o, none⟩), .int .i64 31] w fun r w' => r = .returned (.tuple #[]) ∧ (∃ f', Wr w' b t m o f' F (wz bad l) (ref bad 31) ∧ Els o f f') ∧ w.grownBy w' (some b)) := wrefuse_any w b t m o f F l bad 31 h
  have hd : decide ((1048576 : Int) < (n : Int)) = true := decide_eq_true (by omega)
  have hr : ¬ ref bad 31 = 0 := by unfold ref; split <;> omega
  have e1 : ((ref bad 31 : Int) == 0) = false := by simpa using hr
  have e2 : (ref bad 31 == 0) = false := by simpa using hr
  generalize ref bad 31 = R at HR e1 e2 ⊢
  clear h hr
  go_enter Tryz.func73, Tryz.ntmps73
  go_wp2_with (go_at_call 67; refine (HR.out).mono ?_; rintro e w1 ⟨rfl, ⟨f1, hW1, hE1⟩, hg1⟩; have HW1 := hid hW1; have HE1 := hid hE1; have HG1 := hid hg1; obtain ⟨p, c0, c1, c2, hfz, hlt, hp⟩ := hW1.cells; clear hW1 hE1 hg1 hp)
  go_ret
  exact ⟨rfl, ⟨f1, HW1.out, HE1.out⟩, HG1.out⟩

/-- What the Writer has laid behind Bytes or a Text. -/
def wrow (bad : Nat) (l x : List UInt8) : List UInt8 := wl bad l (layL x.length 4 ++ x)
theorem wl_wl (bad : Nat) (l x y : List UInt8) : wl bad (wl bad l x) y = wl bad l (x ++ y) := by unfold wl; split <;> simp_all
set_option maxRecDepth 100000 in
set_option maxHeartbeats 1000000 in
theorem wbytes_ok (w : World) (b t m o : Nat) (f : Nat → Value) (F G : Nat → Prop) (l x : List UInt8) (bad : Nat) (v : Value) (h : Wr w b t m o f F l bad) (hv : Rd w G v x) (hG : ¬ G b) (hF : ∀ g, w.heap.size ≤ g → F g) (hl : l.length ≤ 17592186040000) (hx : x.length ≤ 1048576) :
    Calls Tryz.prog 32 #[.pointer (some ⟨b, o, none⟩), v] w fun e w' => e = .returned (.tuple #[]) ∧ (∃ f', Wr w' b t m o f' F (wrow bad l x) bad ∧ Els o f f') ∧ w.grownBy w' (some b) := by
  have HB := hid (begin_ok w b t m o f F l bad x.length h hF (by omega) hx)
  have HV : Hid (∀ u, w.grownBy u (some b) → Rd u G v x) := fun u hu => hv.on hu (fun k e => by injection e with e; rw [← e]; exact hG)
  have hlen : (wl bad l (layL x.length 4)).length ≤ l.length + 4 := by unfold wl; split <;> simp [layL_length]
  have HL : Hid (∀ (u : World) (g : Nat → Value) (y : Value), Wr u b t m o g F (wl bad l (layL x.length 4)) bad → w.heap.size ≤ u.heap.size → Rd u F y x → Calls Tryz.prog 68 #[.pointer (some ⟨b, o, none⟩), y] u fun e w' => e = .returned (.tuple #[]) ∧ (∃ f', Wr w' b t m o f' F (wrow bad l x) bad ∧ Els o g f') ∧ u.grownBy w' (some b)) := fun u g y hW hz hy => by
    have := lay_any u b t m o g F _ bad y x hW hy (fun k hk => hF k (Nat.le_trans hz hk)) (by omega)
    rw [show (if bad = 0 then wl bad l (layL x.length 4) ++ x else wl bad l (layL x.length 4)) = wrow bad l x from wl_wl bad l _ x] at this
    exact this
  have HC : Hid (∀ u, Rd u G v x → Calls Tryz.prog 50 #[v] u fun e w' => ∃ v', e = .returned v' ∧ Out u.heap.size w' v' x ∧ u.grownBy w' none) := fun u hu => clone_any x G v u (by omega) hu
  have HZ : Hid (bad ≠ 0 → wl bad l (layL x.length 4) = wrow bad l x) := hid (fun hb => by unfold wrow wl; rw [if_neg hb, if_neg hb])
  have hvv := hv
  obtain ⟨a, b', off, c, rfl, -⟩ := hvv
  clear h hv hlen
  by_cases hb : bad = 0
  · rw [show (bad == 0) = true by simpa using hb] at HB
    clear hb HZ
    go_enter Tryz.func32, Tryz.ntmps32
    go_wp2_with (first
      | (go_at_call 73; refine (HB.out).mono ?_; rintro e w1 ⟨rfl, ⟨f1, hW1, hE1⟩, hg1⟩; have HW1 := hid hW1; have HE1 := hid hE1; have HG1 := hid hg1; clear hW1 hE1 hg1)
      | (go_at_call 50; refine (HC.out _ (HV.out _ HG1.out)).mono ?_; rintro e w2 ⟨v2, rfl, hO2, hg2⟩; have HW2 := hid (HW1.out.keep hg2); have HR2 := hid (hO2.rdF (fun k hk => hF k (Nat.le_trans HG1.out.size hk))); have HG2 := hid (gtrans HG1.out (gsome hg2 (some b))); clear hO2 hg2)
      | (go_at_call 68; refine (HL.out _ _ _ HW2.out HG2.out.size HR2.out).mono ?_; rintro e w3 ⟨rfl, ⟨f3, hW3, hE3⟩, hg3⟩))
    go_end0
    exact ⟨rfl, ⟨f3, hW3, HE1.out.trans hE3⟩, gtrans HG2.out hg3⟩
  · rw [show (bad == 0) = false by simpa using hb, HZ.out hb] at HB
    clear hb HZ
    go_enter Tryz.func32, Tryz.ntmps32
    go_wp2_with (go_at_call 73; refine (HB.out).mono ?_; rintro e w1 ⟨rfl, ⟨f1, hW1, hE1⟩, hg1⟩; have HW1 := hid hW1; have HE1 := hid hE1; have HG1 := hid hg1; clear hW1 hE1 hg1)
    go_end0
    exact ⟨rfl, ⟨f1, HW1.out, HE1.out⟩, HG1.out⟩
set_option maxRecDepth 100000 in
set_option maxHeartbeats 1000000 in
theorem wbytes_no (w : World) (b t m o : Nat) (f : Nat → Value) (F : Nat → Prop) (l : List UInt8) (bad n c : Nat) (a : Option Addr) (h : Wr w b t m o f F l bad) (hn : 1048576 < n) (hn2 : n ≤ 140737488355328) :
    Calls Tryz.prog 32 #[.pointer (some ⟨b, o, none⟩), .slice a n c] w fun e w' => e = .returned (.tuple #[]) ∧ (∃ f', Wr w' b t m o f' F (wz bad l) (ref bad 31) ∧ Els o f f') ∧ w.grownBy w' (some b) := by
  have HB := hid (begin_no w b t m o f F l bad n h hn hn2)
  clear h
  go_enter Tryz.func32, Tryz.ntmps32
  go_wp2_with (go_at_call 73; refine (HB.out).mono ?_; rintro e w1 ⟨rfl, hW1, hg1⟩)
  go_end0
  exact ⟨rfl, hW1, hg1⟩
end Go.Proofs.YtfalgjdhdgkbfaaGreatDoor

namespace Go.Proofs.YtfalgjdhdgkbfaaGreatDoor
open Go Go.RowKit
open Go.RowKit (wrap32 wrap64)

theorem conv_sb (w : World) (s : ByteArray) : ∃ w' c, (convert 9 28 (.string s)).run Tryz.prog w = .ok (.slice (some ⟨w.heap.size, 0, none⟩) s.size c) w' ∧ w.grownBy w' none ∧ Rd w' (fun g => w.heap.size ≤ g) (.slice (some ⟨w.heap.size, 0, none⟩) s.size c) s.data.toList := by
  have hge := grownCap_ge w s.size 0 5
  refine ⟨_, _, run_bytes_of_string w 9 28 5 s Tryz.underlying9 Tryz.underlying28 Tryz.underlying5, ⟨rfl, rfl, rfl, by simp, fun k hk _ => ?_⟩, ?_⟩
  · show (w.heap.push _)[k]? = _
    rw [Array.getElem?_push, if_neg (by omega)]
  · have hh : ∀ (cs : Array Value) (fr : Nat × Nat), (w.drew.alloc (.cells cs 5 fr)).heap[w.heap.size]? = some (.cells cs 5 fr) := fun cs fr => by
      show (w.heap.push _)[w.heap.size]? = _
      simp
    refine ⟨some ⟨w.heap.size, 0, none⟩, w.heap.size, 0, _, by rw [Array.length_toList]; rfl, by rw [Array.length_toList]; exact hge, (fun h => by cases h), fun _ => ⟨rfl, by simp, Nat.le_refl _⟩, fun i hi => ?_⟩
    rw [Array.length_toList] at hi
    have := bytesRow_at s (grownCap w s.size 0 5) i hi
    simp only [World.cell?, hh]
    simpa using this

set_option maxRecDepth 100000 in
set_option maxHeartbeats 1000000 in
theorem wtext_ok (w : World) (b t m o : Nat) (f : Nat → Value) (F : Nat → Prop) (l : List UInt8) (s : ByteArray) (bad : Nat) (h : Wr w b t m o f F l bad) (hF : ∀ g, w.heap.size ≤ g → F g) (hl : l.length ≤ 17592186040000) (hx : s.size ≤ 1048576) :
    Calls Tryz.prog 34 #[.pointer (some ⟨b, o, none⟩), .string s] w fun e w' => e = .returned (.tuple #[]) ∧ (∃ f', Wr w' b t m o f' F (wrow bad l s.data.toList) bad ∧ Els o f f') ∧ w.grownBy w' (some b) := by
  obtain ⟨x, hxe⟩ : ∃ x, s.data.toList = x := ⟨_, rfl⟩
  have hxl : x.length = s.size := by rw [← hxe, Array.length_toList]; rfl
  rw [hxe]
  have HB := hid (begin_ok w b t m o f F l bad x.length h hF (by omega) (by omega))
  rw [hxl] at HB
  have hlen : (wl bad l (layL x.length 4)).length ≤ l.length + 4 := by unfold wl; split <;> simp [layL_length]
  have HL : Hid (∀ (u : World) (g : Nat → Value) (y : Value), Wr u b t m o g F (wl bad l (layL s.size 4)) bad → w.heap.size ≤ u.heap.size → Rd u F y x → Calls Tryz.prog 68 #[.pointer (some ⟨b, o, none⟩), y] u fun e w' => e = .returned (.tuple #[]) ∧ (∃ f', Wr w' b t m o f' F (wrow bad l x) bad ∧ Els o g f') ∧ u.grownBy w' (some b)) := fun u g y hW hz hy => by
    rw [← hxl] at hW
    have := lay_any u b t m o g F _ bad y x hW hy (fun k hk => hF k (Nat.le_trans hz hk)) (by omega)
    rw [show (if bad = 0 then wl bad l (layL x.length 4) ++ x else wl bad l (layL x.length 4)) = wrow bad l x from wl_wl bad l _ x] at this
    exact this
  have HC : Hid (∀ u : World, ∃ w' c, (convert 9 28 (.string s)).run Tryz.prog u = .ok (.slice (some ⟨u.heap.size, 0, none⟩) s.size c) w' ∧ u.grownBy w' none ∧ Rd w' (fun g => u.heap.size ≤ g) (.slice (some ⟨u.heap.size, 0, none⟩) s.size c) x) := fun u => by
    have := conv_sb u s
    rw [hxe] at this
    exact this
  have HZ : Hid (bad ≠ 0 → wl bad l (layL s.size 4) = wrow bad l x) := hid (fun hb => by unfold wrow wl; rw [if_neg hb, if_neg hb])
  clear h hlen hxe hxl
  by_cases hb : bad = 0
  · rw [show (bad == 0) = true by simpa using hb] at HB
    clear hb HZ
    go_enter Tryz.func34, Tryz.ntmps34
    go_wp2_with (first
      | (go_at_call 73; refine (HB.out).mono ?_; rintro e w1 ⟨rfl, ⟨f1, hW1, hE1⟩, hg1⟩; have HW1 := hid hW1; have HE1 := hid hE1; have HG1 := hid hg1; clear hW1 hE1 hg1; obtain ⟨w2, c2, hcv, hg2, hr2⟩ := HC.out w1; have HW2 := hid (HW1.out.keep hg2); have HR2 := hid (hr2.mono (fun k _ hk => hF k (Nat.le_trans HG1.out.size hk))); have HG2 := hid (gtrans HG1.out (gsome hg2 (some b))); clear hg2 hr2)
      | (go_at_call 68; refine (HL.out _ _ _ HW2.out HG2.out.size HR2.out).mono ?_; rintro e w3 ⟨rfl, ⟨f3, hW3, hE3⟩, hg3⟩))
    go_end0
    exact ⟨rfl, ⟨f3, hW3, HE1.out.trans hE3⟩, gtrans HG2.out hg3⟩
  · rw [show (bad == 0) = false by simpa using hb, HZ.out hb] at HB
    clear hb HZ
    go_enter Tryz.func34, Tryz.ntmps34
    go_wp2_with (go_at_call 73; refine (HB.out).mono ?_; rintro e w1 ⟨rfl, ⟨f1, hW1, hE1⟩, hg1⟩; have HW1 := hid hW1; have HE1 := hid hE1; have HG1 := hid hg1; clear hW1 hE1 hg1)
    go_end0
    exact ⟨rfl, ⟨f1, HW1.out, HE1.out⟩, HG1.out⟩
set_option maxRecDepth 100000 in
set_option maxHeartbeats 1000000 in
theorem wtext_no (w : World) (b t m o : Nat) (f : Nat → Value) (F : Nat → Prop) (l : List UInt8) (bad : Nat) (s : ByteArray) (h : Wr w b t m o f F l bad) (hn : 1048576 < s.size) (hn2 : s.size ≤ 140737488355328) :
    Calls Tryz.prog 34 #[.pointer (some ⟨b, o, none⟩), .string s] w fun e w' => e = .returned (.tuple #[]) ∧ (∃ f', Wr w' b t m o f' F (wz bad l) (ref bad 31) ∧ Els o f f') ∧ w.grownBy w' (some b) := by
  have HB := hid (begin_no w b t m o f F l bad s.size h hn hn2)
  clear h
  go_enter Tryz.func34, Tryz.ntmps34
  go_wp2_with (go_at_call 73; refine (HB.out).mono ?_; rintro e w1 ⟨rfl, hW1, hg1⟩)
  go_end0
  exact ⟨rfl, hW1, hg1⟩

set_option maxRecDepth 100000 in
set_option maxHeartbeats 1000000 in
theorem wid_any (w : World) (b t m o : Nat) (f : Nat → Value) (F : Nat → Prop) (l d : List UInt8) (bad : Nat) (h : Wr w b t m o f F l bad) (hF : ∀ g, w.heap.size ≤ g → F g) (hl : l.length ≤ 17592186044416) (hd : d.length = 16) :
    Calls Tryz.prog 36 #[.pointer (some ⟨b, o, none⟩), .agg (Lib.byteCells d).toArray] w fun e w' => e = .returned (.tuple #[]) ∧ (∃ f', Wr w' b t m o f' F (wl bad l d) bad ∧ Els o f f') ∧ w.grownBy w' (some b) := by
  have HL : Hid (∀ (u : World) (y : Value), w.grownBy u none → Rd u F y d → Calls Tryz.prog 68 #[.pointer (some ⟨b, o, none⟩), y] u fun e w' => e = .returned (.tuple #[]) ∧ (∃ f', Wr w' b t m o f' F (wl bad l d) bad ∧ Els o f f') ∧ u.grownBy w' (some b)) := fun u y hu hy =>
    lay_any u b t m o f F l bad y d (h.keep hu) hy (fun k hk => hF k (Nat.le_trans hu.size hk)) (by omega)
  have HC : Hid (Calls Tryz.prog 50 #[.slice (some ⟨w.heap.size, 0, none⟩) 16 16] (w.alloc (.cells (Lib.byteCells d).toArray 65)) fun e w' => ∃ v', e = .returned v' ∧ Out (w.alloc (.cells (Lib.byteCells d).toArray 65)).heap.size w' v' d ∧ (w.alloc (.cells (Lib.byteCells d).toArray 65)).grownBy w' none) :=
    clone_any d (fun _ => True) _ _ (by omega) ⟨some ⟨w.heap.size, 0, none⟩, w.heap.size, 0, 16, by rw [hd], by omega, (fun h => by cases h), fun _ => ⟨rfl, by simp, trivial⟩, fun i hi => by
      have := heap_new w (Lib.byteCells d).toArray 65
      simp only [World.cell?, this]
      simp [Lib.byteCells, List.getElem?_eq_getElem hi]⟩
  clear h
  generalize (Lib.byteCells d).toArray = cs at HC ⊢
  go_enter Tryz.func36, Tryz.ntmps36
  go_wp2_with (first
    | (go_at_call 50; refine (HC.out).mono ?_; rintro e w2 ⟨v2, rfl, hO2, hg2⟩; have HG2 := hid (gtrans (galloc w _ none) hg2); have HR2 := hid (hO2.rdF (fun k hk => hF k (by simp at hk; omega))); clear hO2 hg2)
    | (go_at_call 68; refine (HL.out _ _ HG2.out HR2.out).mono ?_; rintro e w3 ⟨rfl, hW3, hg3⟩))
  go_end0
  exact ⟨rfl, hW3, gtrans (gsome HG2.out (some b)) hg3⟩
end Go.Proofs.YtfalgjdhdgkbfaaGreatDoor

namespace Go.Proofs.YtfalgjdhdgkbfaaGreatDoor
open Go Go.RowKit
open Go.RowKit (wrap32 wrap64)

theorem gsomeT {a b c : World} {k : Nat} (h : a.grownBy b (some k)) (h2 : b.grownBy c none) : a.grownBy c (some k) := gtrans h (gsome h2 _)

set_option maxRecDepth 100000 in
set_option maxHeartbeats 1000000 in
theorem rnum_ok (w : World) (b : Nat) (F : Nat → Prop) (l : List UInt8) (bad n : Nat) (h : Rr w b F l bad) (h1 : 1 ≤ n) (h8 : n ≤ 8) :
    Calls Tryz.prog 45 #[.pointer (some ⟨b, 0, none⟩), .int .i64 n] w fun r w' => r = .returned (.int .u64 (numL (rt l bad n))) ∧ Rr w' b F (rl l bad n) (rb l bad n) ∧ w.grownBy w' (some b) := by
  have HI : Hid (∀ u, Calls Tryz.prog 66 #[.int .i64 n] u fun e w' => e = .returned (.bool true) ∧ w' = u) := fun u => by
    have := isWidth_any n u
    rw [isW_nat n h1 h8] at this
    exact this
  have HT := hid (take_any w b F l bad n h h1 (by omega))
  have HN : Hid (∀ u v, Rd u F v (rt l bad n) → Calls Tryz.prog 108 #[v] u fun e w' => e = .returned (.int .u64 (numL (rt l bad n))) ∧ w' = u) := fun u v hv => number_any _ F v u (by have := (rt_length l bad n).1; omega) hv
  clear h
  generalize numL (rt l bad n) = N at HN ⊢
  go_enter Tryz.func45, Tryz.ntmps45
  go_wp2_with (first
    | (go_at_call 66; refine (HI.out _).mono ?_; rintro e w' ⟨rfl, hw⟩; have hw' := hw.symm; clear hw; subst hw')
    | (go_at_call 109; refine (HT.out).mono ?_; rintro e w1 ⟨v1, rfl, hv1, hR1, hg1⟩; have HV1 := hid hv1; have HR1 := hid hR1; have HG1 := hid hg1; clear hv1 hR1 hg1)
    | (go_at_call 108; refine (HN.out _ _ HV1.out).mono ?_; rintro e w' ⟨rfl, hw⟩; have hw' := hw.symm; clear hw; subst hw'))
  go_ret
  exact ⟨rfl, HR1.out, HG1.out⟩
set_option maxRecDepth 100000 in
set_option maxHeartbeats 1000000 in
theorem rnum_no (w : World) (b : Nat) (F : Nat → Prop) (l : List UInt8) (bad : Nat) (x : Int) (h : Rr w b F l bad) (hx : ¬ (1 ≤ x ∧ x ≤ 8)) :
    Calls Tryz.prog 45 #[.pointer (some ⟨b, 0, none⟩), .int .i64 x] w fun r w' => r = .returned (.int .u64 0) ∧ Rr w' b F l (ref bad 34) ∧ w.grownBy w' (some b) := by
  have HI : Hid (∀ u, Calls Tryz.prog 66 #[.int .i64 x] u fun e w' => e = .returned (.bool false) ∧ w' = u) := fun u => by
    have := isWidth_any x u
    rw [show isW x = false from decide_eq_false (by omega)] at this
    exact this
  have HF : Hid (Calls Tryz.prog 107 #[.pointer (some ⟨b, 0, none⟩), .int .i64 34] w fun r w' => r = .returned (.tuple #[]) ∧ Rr w' b F l (ref bad 34) ∧ w.grownBy w' (some b)) := rrefuse_any w b F l bad 34 h
  have HT : Hid (∀ u, Rr u b F l (ref bad 34) → Calls Tryz.prog 109 #[.pointer (some ⟨b, 0, none⟩), .int .i64 x] u fun r w' => r = .returned (.slice none 0 0) ∧ Rr w' b F l (ref bad 34) ∧ u.grownBy w' (some b)) := fun u hu => take_bad u b F l _ x hu (by unfold ref; split <;> omega)
  have HN : Hid (∀ u, Calls Tryz.prog 108 #[.slice none 0 0] u fun e w' => e = .returned (.int .u64 0) ∧ w' = u) := fun u => number_any [] F _ u (by simp) (Rd.nil _ _)
  clear h
  generalize ref bad 34 = R at HF HT ⊢
  go_enter Tryz.func45, Tryz.ntmps45
  go_wp2_with (first
    | (go_at_call 66; refine (HI.out _).mono ?_; rintro e w' ⟨rfl, hw⟩; have hw' := hw.symm; clear hw; subst hw')
    | (go_at_call 107; refine (HF.out).mono ?_; rintro e w1 ⟨rfl, hR1, hg1⟩; have HR1 := hid hR1; have HG1 := hid hg1; clear hR1 hg1)
    | (go_at_call 109; refine (HT.out _ HR1.out).mono ?_; rintro e w2 ⟨rfl, hR2, hg2⟩; have HR2 := hid hR2; have HG2 := hid (gtrans HG1.out hg2); clear hR2 hg2)
    | (go_at_call 108; refine (HN.out _).mono ?_; rintro e w' ⟨rfl, hw⟩; have hw' := hw.symm; clear hw; subst hw'))
  go_ret
  exact ⟨rfl, HR2.out, HG2.out⟩

/-- The number below 0 or not that eight bytes tell. -/
def u64i (n : Nat) : Int := if n < 9223372036854775808 then n else (n : Int) - 18446744073709551616
set_option maxRecDepth 100000 in
set_option maxHeartbeats 1000000 in
theorem rint_any (w : World) (b : Nat) (F : Nat → Prop) (l : List UInt8) (bad : Nat) (h : Rr w b F l bad) :
    Calls Tryz.prog 53 #[.pointer (some ⟨b, 0, none⟩)] w fun r w' => r = .returned (.int .i64 (u64i (numL (rt l bad 8)))) ∧ Rr w' b F (rl l bad 8) (rb l bad 8) ∧ w.grownBy w' (some b) := by
  have HT : Hid (Calls Tryz.prog 109 #[.pointer (some ⟨b, 0, none⟩), .int .i64 8] w fun r w' => ∃ v, r = .returned v ∧ Rd w' F v (rt l bad 8) ∧ Rr w' b F (rl l bad 8) (rb l bad 8) ∧ w.grownBy w' (some b)) := take_any w b F l bad 8 h (by decide) (by decide)
  have hrl := (rt_length l bad 8).1
  have HN : Hid (∀ u v, Rd u F v (rt l bad 8) → Calls Tryz.prog 108 #[v] u fun e w' => e = .returned (.int .u64 (numL (rt l bad 8))) ∧ w' = u) := fun u v hv => number_any _ F v u hrl hv
  have hlt : numL (rt l bad 8) < 18446744073709551616 := by
    have := numL_lt _ (rt l bad 8) rfl
    have h2 : (256 : Nat) ^ (rt l bad 8).length ≤ 256 ^ 8 := Nat.pow_le_pow_right (by decide) hrl
    have h3 : (256 : Nat) ^ 8 = 18446744073709551616 := by decide
    omega
  clear h hrl
  generalize numL (rt l bad 8) = N at HN hlt ⊢
  have e1 : IntKind.i64.wrap (N : Int) = u64i N := by rw [IntKind.wrap_i64]; unfold u64i; split <;> omega
  generalize u64i N = X at e1 ⊢
  go_enter Tryz.func53, Tryz.ntmps53
  go_wp2_with (first
    | (go_at_call 109; refine (HT.out).mono ?_; rintro e w1 ⟨v1, rfl, hv1, hR1, hg1⟩; have HV1 := hid hv1; have HR1 := hid hR1; have HG1 := hid hg1; clear hv1 hR1 hg1)
    | (go_at_call 108; refine (HN.out _ _ HV1.out).mono ?_; rintro e w' ⟨rfl, hw⟩; have hw' := hw.symm; clear hw; subst hw'))
  go_ret
  exact ⟨rfl, HR1.out, HG1.out⟩

theorem rb_rb (l : List UInt8) (bad n : Nat) : rb l (rb l bad n) n = rb l bad n := by
  unfold rb ref
  split <;> (try split) <;> simp_all
theorem rt_rb (l : List UInt8) (bad n : Nat) : rt l (rb l bad n) n = rt l bad n := by unfold rt; rw [rb_rb]
theorem rl_rb (l : List UInt8) (bad n : Nat) : rl l (rb l bad n) n = rl l bad n := by unfold rl; rw [rb_rb]
/-- The refusal behind a Flag's look. -/
def fb (l : List UInt8) (bad : Nat) : Nat := if 1 < numL (rt l bad 1) then ref (rb l bad 1) 34 else rb l bad 1
set_option maxRecDepth 100000 in
set_option maxHeartbeats 1000000 in
theorem rflag_any (w : World) (b : Nat) (F : Nat → Prop) (l : List UInt8) (bad : Nat) (h : Rr w b F l bad) :
    Calls Tryz.prog 55 #[.pointer (some ⟨b, 0, none⟩)] w fun r w' => r = .returned (.bool (numL (rt l (fb l bad) 1) == 1)) ∧ Rr w' b F (rl l (fb l bad) 1) (rb l (fb l bad) 1) ∧ w.grownBy w' (some b) := by
  have HFr : Hid (Calls Tryz.prog 116 #[.pointer (some ⟨b, 0, none⟩), .int .i64 1] w fun r w' => ∃ v, r = .returned v ∧ Rd w' F v (rt l bad 1) ∧ Rr w' b F l (rb l bad 1) ∧ w.grownBy w' (some b)) := front_any w b F l bad 1 h (by decide) (by decide)
  have HN : Hid (∀ u v bd, Rd u F v (rt l bd 1) → Calls Tryz.prog 108 #[v] u fun e w' => e = .returned (.int .u64 (numL (rt l bd 1))) ∧ w' = u) := fun u v bd hv => number_any _ F v u (by have := (rt_length l bd 1).1; omega) hv
  have HT : Hid (∀ u bd, Rr u b F l bd → Calls Tryz.prog 109 #[.pointer (some ⟨b, 0, none⟩), .int .i64 1] u fun r w' => ∃ v, r = .returned v ∧ Rd w' F v (rt l bd 1) ∧ Rr w' b F (rl l bd 1) (rb l bd 1) ∧ u.grownBy w' (some b)) := fun u bd hu => take_any u b F l bd 1 hu (by decide) (by decide)
  have HFz : Hid (∀ u bd, Rr u b F l bd → Calls Tryz.prog 107 #[.pointer (some ⟨b, 0, none⟩), .int .i64 34] u fun r w' => r = .returned (.tuple #[]) ∧ Rr w' b F l (ref bd 34) ∧ u.grownBy w' (some b)) := fun u bd hu => rrefuse_any u b F l bd 34 hu
  clear h
  by_cases hx : 1 < numL (rt l bad 1)
  · have e1 : fb l bad = ref (rb l bad 1) 34 := if_pos hx
    have hd : decide ((1 : Int) < ((numL (rt l bad 1) : Nat) : Int)) = true := decide_eq_true (by omega)
    rw [e1]
    have HNa := hid (fun u v hv => HN.out u v bad hv)
    have HNb := hid (fun u v hv => HN.out u v (ref (rb l bad 1) 34) hv)
    have HD : Hid ((numL (rt l (ref (rb l bad 1) 34) 1) == 1) = (((numL (rt l (ref (rb l bad 1) 34) 1) : Nat) : Int) == 1)) := hid (by rw [Bool.eq_iff_iff, beq_iff_eq, beq_iff_eq]; omega)
    clear hx e1 HN
    generalize numL (rt l (ref (rb l bad 1) 34) 1) = N2 at HNb HD ⊢
    generalize numL (rt l bad 1) = N1 at HNa hd
    generalize (N2 == 1) = D at HD ⊢
    go_enter Tryz.func55, Tryz.ntmps55
    go_wp2_with (first
      | (go_at_call 116; refine (HFr.out).mono ?_; rintro e w1 ⟨v1, rfl, hv1, hR1, hg1⟩; have HV1 := hid hv1; have HR1 := hid hR1; have HG1 := hid hg1; clear hv1 hR1 hg1)
      | (go_at_call 108; with_reducible refine (HNa.out _ _ HV1.out).mono ?_; rintro e w' ⟨rfl, hw⟩; have hw' := hw.symm; clear hw; subst hw')
      | (go_at_call 107; refine (HFz.out _ _ HR1.out).mono ?_; rintro e w2 ⟨rfl, hR2, hg2⟩; have HR2 := hid hR2; have HG2 := hid (gtrans HG1.out hg2); clear hR2 hg2)
      | (go_at_call 109; refine (HT.out _ _ HR2.out).mono ?_; rintro e w3 ⟨v3, rfl, hv3, hR3, hg3⟩; have HV3 := hid hv3; have HR3 := hid hR3; have HG3 := hid (gtrans HG2.out hg3); clear hv3 hR3 hg3)
      | (go_at_call 108; with_reducible refine (HNb.out _ _ HV3.out).mono ?_; rintro e w' ⟨rfl, hw⟩; have hw' := hw.symm; clear hw; subst hw'))
    go_ret
    exact ⟨by rw [HD.out]; rfl, HR3.out, HG3.out⟩
  · have e1 : fb l bad = rb l bad 1 := if_neg hx
    have hd : decide ((1 : Int) < ((numL (rt l bad 1) : Nat) : Int)) = false := decide_eq_false (by omega)
    rw [e1, rt_rb, rl_rb, rb_rb]
    have HNa := hid (fun u v hv => HN.out u v bad hv)
    have HD : Hid ((numL (rt l bad 1) == 1) = (((numL (rt l bad 1) : Nat) : Int) == 1)) := hid (by rw [Bool.eq_iff_iff, beq_iff_eq, beq_iff_eq]; omega)
    have HTb : Hid (∀ u, Rr u b F l (rb l bad 1) → Calls Tryz.prog 109 #[.pointer (some ⟨b, 0, none⟩), .int .i64 1] u fun r w' => ∃ v, r = .returned v ∧ Rd w' F v (rt l bad 1) ∧ Rr w' b F (rl l bad 1) (rb l bad 1) ∧ u.grownBy w' (some b)) := fun u hu => by
      have := HT.out u _ hu
      rw [rt_rb, rl_rb, rb_rb] at this
      exact this
    clear hx e1 HN HT
    generalize numL (rt l bad 1) = N1 at HNa hd HD ⊢
    generalize (N1 == 1) = D at HD ⊢
    go_enter Tryz.func55, Tryz.ntmps55
    go_wp2_with (first
      | (go_at_call 116; refine (HFr.out).mono ?_; rintro e w1 ⟨v1, rfl, hv1, hR1, hg1⟩; have HV1 := hid hv1; have HR1 := hid hR1; have HG1 := hid hg1; clear hv1 hR1 hg1)
      | (go_at_call 108; with_reducible refine (HNa.out _ _ HV1.out).mono ?_; rintro e w' ⟨rfl, hw⟩; have hw' := hw.symm; clear hw; subst hw')
      | (go_at_call 109; refine (HTb.out _ HR1.out).mono ?_; rintro e w3 ⟨v3, rfl, hv3, hR3, hg3⟩; have HV3 := hid hv3; have HR3 := hid hR3; have HG3 := hid (gtrans HG1.out hg3); clear hv3 hR3 hg3)
      | (go_at_call 108; with_reducible refine (HNa.out _ _ HV3.out).mono ?_; rintro e w' ⟨rfl, hw⟩; have hw' := hw.symm; clear hw; subst hw'))
    go_ret
    exact ⟨by rw [HD.out]; rfl, HR3.out, HG3.out⟩
end Go.Proofs.YtfalgjdhdgkbfaaGreatDoor
