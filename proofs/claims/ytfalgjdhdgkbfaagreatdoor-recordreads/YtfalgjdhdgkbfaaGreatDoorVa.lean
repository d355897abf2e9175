/- The reference's Reader. -/
import Derived.Test.YtfalgjdhdgkbfaaGreatDoorWalkL
import Derived.Test.YtfalgjdhdgkbfaaGreatDoorRrD
namespace Go.Proofs.YtfalgjdhdgkbfaaGreatDoor
open Go Go.RowKit
open Go.RowKit (wrap32 wrap64)

def Rv (w : World) (b : Nat) (F : Nat → Prop) (l : List UInt8) (bad : Nat) : Prop :=
  ∃ v, w.heap[b]? = some (.cells #[v, .int .i64 (bad : Int)] 114 (0, 0)) ∧ Rd w F v l ∧ ¬ F b ∧ l.length ≤ 140737488355328
theorem Rv.lt {w : World} {b : Nat} {F : Nat → Prop} {l : List UInt8} {bad : Nat} (h : Rv w b F l bad) : b < w.heap.size := by
  obtain ⟨v, hh, _⟩ := h
  exact (Array.getElem?_eq_some_iff.1 hh).1
theorem Rv.on {w w' : World} {b : Nat} {F : Nat → Prop} {l : List UInt8} {bad : Nat} {row : Option Nat} (h : Rv w b F l bad) (hg : w.grownBy w' row) (hb : row ≠ some b) (hr : ∀ k, row = some k → ¬ F k) : Rv w' b F l bad := by
  obtain ⟨v, hh, hv, hF, hl⟩ := h
  exact ⟨v, heap_at hg hb hh, hv.on hg hr, hF, hl⟩
theorem Rv.keep {w w' : World} {b : Nat} {F : Nat → Prop} {l : List UInt8} {bad : Nat} (h : Rv w b F l bad) (hg : w.grownBy w' none) : Rv w' b F l bad := h.on hg (by simp) (fun k hk => by cases hk)
theorem Rv.mono {w : World} {b : Nat} {F G : Nat → Prop} {l : List UInt8} {bad : Nat} (h : Rv w b F l bad) (hf : ∀ k, k < w.heap.size → F k → G k) (hG : ¬ G b) : Rv w b G l bad := by
  obtain ⟨v, hh, hv, _, hl⟩ := h
  exact ⟨v, hh, hv.mono hf, hG, hl⟩
theorem Rv.setLeft {w : World} {b : Nat} {F : Nat → Prop} {l l' : List UInt8} {bad : Nat} {v : Value} (h : Rv w b F l bad) (hv : Rd w F v l') (hl : l'.length ≤ l.length) : Rv (w.setCell ⟨b, 0, none⟩ v) b F l' bad := by
  obtain ⟨u, hh, _, hF, hll⟩ := h
  exact ⟨v, set0 hh, hv.on (gset _ _ _) (notb hF), hF, by omega⟩
theorem Rv.setBad {w : World} {d : Nat} {F : Nat → Prop} {l : List UInt8} {bad e : Nat} (h : Rv w d F l bad) : Rv (w.setCell ⟨d, 1, none⟩ (.int .i64 (e : Int))) d F l e := by
  obtain ⟨u, hh, hv, hF, hll⟩ := h
  exact ⟨u, set1 hh, hv.on (gset _ _ _) (notb hF), hF, hll⟩
theorem Rd.head {w : World} {F : Nat → Prop} {a : Option Addr} {b off c : Nat} {l : List UInt8} (hlc : l.length ≤ c) (hnn : a = none → c = 0) (ha : 0 < l.length → a = some ⟨b, off, none⟩ ∧ b < w.heap.size ∧ F b) (hcell : ∀ i (h : i < l.length), w.cell? ⟨b, off + i, none⟩ = some (.int .u8 l[i].toNat)) (n : Nat) (hn : n ≤ l.length) : Rd w F (.slice a n c) (l.take n) := by
  have hl : (l.take n).length = n := by rw [List.length_take]; omega
  refine ⟨a, b, off, c, by rw [hl], by rw [hl]; omega, hnn, fun h0 => ha (by rw [hl] at h0; omega), fun i hi => ?_⟩
  rw [hl] at hi
  rw [hcell i (by omega)]
  simp
set_option maxRecDepth 100000 in
set_option maxHeartbeats 1000000 in
theorem rvtake_any (w : World) (d : Nat) (F : Nat → Prop) (l : List UInt8) (bad n : Nat) (h : Rv w d F l bad) (hn : n ≤ l.length) :
    Calls Tryz.prog 115 #[.pointer (some ⟨d, 0, none⟩), .int .i64 n] w fun r w' => ∃ v, r = .returned v ∧ Rd w' F v (l.take n) ∧ Rv w' d F (l.drop n) bad ∧ w.grownBy w' (some d) := by
  have HR := hid h
  obtain ⟨v, hh, hv, hF, hl⟩ := h
  obtain ⟨c0, c1, fz⟩ := cells2 hh
  obtain ⟨a, b', off, c, rfl, hlc, hnn, ha, hcell⟩ := hv
  have HP := hid (Rd.head hlc hnn ha hcell n hn)
  have HREST : Hid (∀ p, (n < l.length → p = some ⟨b', off + n, none⟩) → (p = none → c - n = 0) → Rd w F (.slice p (l.length - n) (c - n)) (l.drop n)) := hid (fun p hp hq => Rd.rest ha hcell hlc n hn p hp hq)
  have HDL : Hid ((l.drop n).length ≤ l.length) := hid (by rw [List.length_drop]; omega)
  have HA : Hid (0 < l.length → a = some ⟨b', off, none⟩) := hid (fun h => (ha h).1)
  clear hh ha hcell
  cases a with
  | none =>
    have c00 := hnn rfl
    subst c00
    have hl0 : l.length = 0 := by omega
    have hn0 : n = 0 := by omega
    subst hn0
    rw [hl0] at c0 HREST
    clear hl0 hlc hnn hn HA
    go_enter Tryz.func115, Tryz.ntmps115
    go_wp2_with fail
    go_ret
    exact ⟨_, rfl, HP.out.on (gset _ _ _) (notb hF), HR.out.setLeft (HREST.out none (fun h => by omega) (fun _ => by trivial)) HDL.out, gset _ _ _⟩
  | some q =>
    clear hnn
    by_cases hcn : c = n
    · have hLn : l.length = n := by omega
      have HLn := hid hLn
      subst hcn
      rw [hLn] at c0 HREST
      clear hLn hlc hn HA
      go_enter Tryz.func115, Tryz.ntmps115
      go_wp2_with fail
      go_ret
      refine ⟨_, rfl, HP.out.on (gset _ _ _) (notb hF), HR.out.setLeft ?_ HDL.out, gset _ _ _⟩
      have := HREST.out (some q) (fun h => by omega) (fun h => by cases h)
      rw [Nat.sub_self] at this
      exact this
    · have d1 : ¬ c - n = 0 := by omega
      have d2 : ¬ c ≤ n := by omega
      have d3 : ¬ n = c := by omega
      go_enter Tryz.func115, Tryz.ntmps115
      go_wp2_with fail
      go_ret
      refine ⟨_, rfl, HP.out.on (gset _ _ _) (notb hF), HR.out.setLeft ?_ HDL.out, gset _ _ _⟩
      exact HREST.out _ (fun h => by have := HA.out (by omega); injection this with this; rw [this]; exact congrArg some (Addr.add_lit ..)) (fun h => by cases h)

/-- The error, in a reference's Num: the first refusal stays. -/
theorem rb_bad {l : List UInt8} {bad n : Nat} (h : bad ≠ 0) : rb l bad n = bad ∧ rt l bad n = [] ∧ rl l bad n = l := by
  have e : rb l bad n = bad := by unfold rb ref; rw [if_neg h]; split <;> rfl
  refine ⟨e, ?_, ?_⟩
  · unfold rt; rw [e, if_neg h]
  · unfold rl; rw [e, if_neg h]
theorem rb_short {l : List UInt8} {n : Nat} (h : l.length < n) : rb l 0 n = 30 ∧ rt l 0 n = [] ∧ rl l 0 n = l := by
  have e : rb l 0 n = 30 := by unfold rb ref; rw [if_pos h, if_pos rfl]
  refine ⟨e, ?_, ?_⟩
  · unfold rt; rw [e, if_neg (by decide)]
  · unfold rl; rw [e, if_neg (by decide)]
theorem rb_good {l : List UInt8} {n : Nat} (h : n ≤ l.length) : rb l 0 n = 0 ∧ rt l 0 n = l.take n ∧ rl l 0 n = l.drop n := by
  have e : rb l 0 n = 0 := by unfold rb; rw [if_neg (by omega)]
  refine ⟨e, ?_, ?_⟩
  · unfold rt; rw [e, if_pos rfl]
  · unfold rl; rw [e, if_pos rfl]
theorem Rv.open {w : World} {d : Nat} {F : Nat → Prop} {l : List UInt8} {bad : Nat} (h : Rv w d F l bad) : ∃ (a : Option Addr) (c : Nat), w.cell? ⟨d, 0, none⟩ = some (.slice a l.length c) ∧ w.cell? ⟨d, 1, none⟩ = some (.int .i64 (bad : Int)) ∧ (∀ o, w.frozen? ⟨d, o, none⟩ = false) := by
  obtain ⟨v, hh, hv, hF, hl⟩ := h
  obtain ⟨c0, c1, fz⟩ := cells2 hh
  obtain ⟨a, b', off, c, rfl, hlc, hnn, ha, hcell⟩ := hv
  exact ⟨a, c, c0, c1, fz⟩
set_option maxRecDepth 100000 in
set_option maxHeartbeats 1000000 in
theorem rvnum_no (w : World) (d : Nat) (F : Nat → Prop) (l : List UInt8) (bad : Nat) (x : Int) (h : Rv w d F l bad) (hx : ¬ (1 ≤ x ∧ x ≤ 8)) :
    Calls Tryz.prog 52 #[.pointer (some ⟨d, 0, none⟩), .int .i64 x] w fun r w' => r = .returned (.int .u64 0) ∧ Rv w' d F l (ref bad 34) ∧ w.grownBy w' (some d) := by
  have HR := hid h
  obtain ⟨a, c, c0, c1, fz⟩ := h.open
  clear h
  by_cases hb : bad = 0
  · subst hb
    rw [show ref 0 34 = 34 from rfl]
    by_cases h1 : x < 1
    · clear hx
      go_enter Tryz.func52, Tryz.ntmps52
      go_wp2_with fail
      go_ret
      exact ⟨rfl, HR.out.setBad, gset _ _ _⟩
    · have h2 : 8 < x := by omega
      clear hx
      go_enter Tryz.func52, Tryz.ntmps52
      go_wp2_with fail
      go_ret
      exact ⟨rfl, HR.out.setBad, gset _ _ _⟩
  · rw [show ref bad 34 = bad by unfold ref; rw [if_neg hb]]
    have hb' : ¬ (bad : Int) = 0 := by omega
    clear hx
    go_enter Tryz.func52, Tryz.ntmps52
    go_wp2_with fail
    go_ret
    exact ⟨rfl, HR.out, grefl _ _⟩
set_option maxRecDepth 100000 in
set_option maxHeartbeats 1000000 in
theorem rvnum_ok (w : World) (d : Nat) (F : Nat → Prop) (l : List UInt8) (bad n : Nat) (h : Rv w d F l bad) (h1 : 1 ≤ n) (h8 : n ≤ 8) :
    Calls Tryz.prog 52 #[.pointer (some ⟨d, 0, none⟩), .int .i64 n] w fun r w' => r = .returned (.int .u64 (numL (rt l bad n))) ∧ Rv w' d F (rl l bad n) (rb l bad n) ∧ w.grownBy w' (some d) := by
  have HR := hid h
  obtain ⟨a, c, c0, c1, fz⟩ := h.open
  have g1 : ¬ (n : Int) < 1 := by omega
  have g2 : ¬ 8 < (n : Int) := by omega
  by_cases hb : bad = 0
  · subst hb
    by_cases hs : l.length < n
    · obtain ⟨e1, e2, e3⟩ := rb_short hs
      rw [e1, e2, e3]
      show Calls Tryz.prog 52 _ w fun r w' => r = .returned (.int .u64 0) ∧ _
      have hs' : (l.length : Int) < (n : Int) := by omega
      clear h e1 e2 e3
      go_enter Tryz.func52, Tryz.ntmps52
      go_wp2_with fail
      go_ret
      exact ⟨rfl, HR.out.setBad, gset _ _ _⟩
    · obtain ⟨e1, e2, e3⟩ := rb_good (l := l) (n := n) (by omega)
      rw [e1, e2, e3]
      have hs' : ¬ (l.length : Int) < (n : Int) := by omega
      have HT := hid (rvtake_any w d F l 0 n h (by omega))
      have HO : Hid (∀ u v, Rd u F v (l.take n) → Calls Tryz.prog 114 #[v] u fun e w' => e = .returned (.int .u64 (numL (l.take n))) ∧ u.grownBy w' none) := hid (fun u v hv => ofC (by rw [List.length_take]; omega) hv u (grefl _ _))
      obtain ⟨N, hN⟩ : ∃ N : Nat, numL (l.take n) = N := ⟨_, rfl⟩
      rw [hN] at HO ⊢
      clear h e1 e2 e3 hN
      go_enter Tryz.func52, Tryz.ntmps52
      go_wp2_with fail
      refine (HT.out).mono ?_
      rintro e w1 ⟨v1, rfl, hv1, hR1, hg1⟩
      have HR1 := hid hR1
      have HG1 := hid hg1
      have HO1 := hid (HO.out _ _ hv1)
      clear hv1 hR1 hg1
      go_wp2_with fail
      refine (HO1.out).mono ?_
      rintro e w2 ⟨rfl, hg2⟩
      have HR2 := hid (HR1.out.keep hg2)
      have HG2 := hid (gtrans HG1.out (gsome hg2 _))
      clear hg2
      go_wp2_with fail
      go_ret
      exact ⟨rfl, HR2.out, HG2.out⟩
  · obtain ⟨e1, e2, e3⟩ := rb_bad (l := l) (n := n) hb
    rw [e1, e2, e3]
    show Calls Tryz.prog 52 _ w fun r w' => r = .returned (.int .u64 0) ∧ _
    have hb' : ¬ (bad : Int) = 0 := by omega
    clear h e1 e2 e3
    go_enter Tryz.func52, Tryz.ntmps52
    go_wp2_with fail
    go_ret
    exact ⟨rfl, HR.out, grefl _ _⟩
end Go.Proofs.YtfalgjdhdgkbfaaGreatDoor
