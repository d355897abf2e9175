/- The walks of the Reader's rows; From, Left, End. -/
import Derived.Test.YtfalgjdhdgkbfaaGreatDoorX02
import Derived.Laws.BytesArg
import Derived.Deep.MidRow
import Derived.Deep.RegionHeld3
namespace Go.Proofs.YtfalgjdhdgkbfaaGreatDoor
open Go Go.RowKit
open Go.RowKit (wrap32 wrap64)

set_option maxRecDepth 100000 in
set_option maxHeartbeats 1000000 in
theorem from_any (w : World) (F : Nat → Prop) (v : Value) (l : List UInt8) (hv : Rd w F v l) (hl : l.length ≤ 17592186044416) :
    Calls Tryz.prog 12 #[v] w fun r w' => ∃ b, r = .returned (.pointer (some ⟨b, 0, none⟩)) ∧ w.heap.size ≤ b ∧ Rr w' b (fun g => w.heap.size ≤ g ∧ g ≠ b) l 0 ∧ w.grownBy w' none := by
  have HC := hid (clone_any l F v w hl hv)
  clear hv
  go_enter Tryz.func12, Tryz.ntmps12
  go_wp2_with (go_at_call 50; refine (HC.out).mono ?_; rintro e w1 ⟨v1, rfl, hO1, hg1⟩; have HO1 := hid hO1; have HG1 := hid hg1; obtain ⟨a1, b1, o1, c1, rfl, -⟩ := hO1.rd; clear hO1 hg1)
  go_ret
  refine ⟨_, rfl, HG1.out.size, ⟨_, heap_new _ _ _, ?_, (fun h => h.2 rfl), by omega⟩, gtrans HG1.out (galloc _ _ _)⟩
  exact (HO1.out.rd.mono (G := fun g => w.heap.size ≤ g ∧ g ≠ w1.heap.size) (fun k hk h => ⟨h, by omega⟩)).keep (galloc _ _ _)

set_option maxHeartbeats 400000 in
theorem left_any (w : World) (b : Nat) (F : Nat → Prop) (l : List UInt8) (bad : Nat) (h : Rr w b F l bad) :
    Calls Tryz.prog 17 #[.pointer (some ⟨b, 0, none⟩)] w fun r w' => r = .returned (.int .i64 (l.length : Int)) ∧ w' = w := by
  obtain ⟨v, hh, hv, hF, hl⟩ := h
  obtain ⟨c0, c1, fz⟩ := cells2 hh
  obtain ⟨a, b', off, c, rfl, -⟩ := hv
  go_enter Tryz.func17, Tryz.ntmps17
  go_wp2_with fail
  go_ret
  exact ⟨rfl, rfl⟩
def endE (l : List UInt8) (bad : Nat) : Nat := if bad = 0 ∧ 0 < l.length then 33 else bad
set_option maxRecDepth 100000 in
set_option maxHeartbeats 400000 in
theorem end_any (w : World) (b : Nat) (F : Nat → Prop) (l : List UInt8) (bad : Nat) (h : Rr w b F l bad) :
    Calls Tryz.prog 20 #[.pointer (some ⟨b, 0, none⟩)] w fun r w' => r = .returned (.int .i64 (endE l bad : Int)) ∧ w' = w := by
  obtain ⟨v, hh, hv, hF, hl⟩ := h
  obtain ⟨c0, c1, fz⟩ := cells2 hh
  obtain ⟨a, b', off, c, rfl, -⟩ := hv
  by_cases hb : bad = 0
  · subst hb
    by_cases h0 : 0 < l.length
    · rw [show endE l 0 = 33 from if_pos ⟨rfl, h0⟩]
      have hi : decide ((0 : Int) < (l.length : Int)) = true := decide_eq_true (by omega)
      generalize l.length = n at *
      clear hh
      go_enter Tryz.func20, Tryz.ntmps20
      go_wp2_with fail
      go_ret
      exact ⟨rfl, rfl⟩
    · rw [show endE l 0 = 0 from if_neg (fun h => h0 h.2)]
      have hi : decide ((0 : Int) < (l.length : Int)) = false := decide_eq_false (by omega)
      generalize l.length = n at *
      clear hh
      go_enter Tryz.func20, Tryz.ntmps20
      go_wp2_with fail
      go_ret
      exact ⟨rfl, rfl⟩
  · rw [show endE l bad = bad from if_neg (fun h => hb h.1)]
    have hd : ((bad : Int) == 0) = false := by simpa using hb
    have hd2 : (bad == 0) = false := by simpa using hb
    clear hb
    go_enter Tryz.func20, Tryz.ntmps20
    go_wp2_with fail
    go_ret
    exact ⟨rfl, rfl⟩

/-- A row's field: how many bytes, the refusal ahead of its taking, its bytes. -/
def rowN (l : List UInt8) (bad : Nat) : Nat := 4 + numL (rt l bad 4)
def rowB (l : List UInt8) (bad : Nat) : Nat := if 1048576 < numL (rt l bad 4) then ref (rb l bad 4) 31 else rb l bad 4
def rowT (l : List UInt8) (bad : Nat) : List UInt8 := (rt l (rowB l bad) (rowN l bad)).drop 4
def rowL (l : List UInt8) (bad : Nat) : List UInt8 := rl l (rowB l bad) (rowN l bad)
def rowE (l : List UInt8) (bad : Nat) : Nat := rb l (rowB l bad) (rowN l bad)

set_option maxRecDepth 100000 in
set_option maxHeartbeats 2000000 in
theorem row_any (w : World) (b : Nat) (F : Nat → Prop) (l : List UInt8) (bad : Nat) (h : Rr w b F l bad) :
    Calls Tryz.prog 110 #[.pointer (some ⟨b, 0, none⟩)] w fun r w' => ∃ v, r = .returned v ∧ Rd w' F v (rowT l bad) ∧ Rr w' b F (rowL l bad) (rowE l bad) ∧ w.grownBy w' (some b) := by
  have HFr : Hid (Calls Tryz.prog 116 #[.pointer (some ⟨b, 0, none⟩), .int .i64 4] w fun r w' => ∃ v, r = .returned v ∧ Rd w' F v (rt l bad 4) ∧ Rr w' b F l (rb l bad 4) ∧ w.grownBy w' (some b)) := front_any w b F l bad 4 h (by decide) (by decide)
  have hr4 := (rt_length l bad 4).1
  have HN : Hid (∀ u v, Rd u F v (rt l bad 4) → Calls Tryz.prog 108 #[v] u fun e w' => e = .returned (.int .u64 (numL (rt l bad 4))) ∧ w' = u) := fun u v hv => number_any _ F v u (by omega) hv
  have hlt : numL (rt l bad 4) < 4294967296 := by
    have := numL_lt _ (rt l bad 4) rfl
    have h2 : (256 : Nat) ^ (rt l bad 4).length ≤ 256 ^ 4 := Nat.pow_le_pow_right (by decide) hr4
    have h3 : (256 : Nat) ^ 4 = 4294967296 := by decide
    omega
  have HFz : Hid (∀ u, Rr u b F l (rb l bad 4) → Calls Tryz.prog 107 #[.pointer (some ⟨b, 0, none⟩), .int .i64 31] u fun r w' => r = .returned (.tuple #[]) ∧ Rr w' b F l (ref (rb l bad 4) 31) ∧ u.grownBy w' (some b)) := fun u hu => rrefuse_any u b F l _ 31 hu
  have HT : Hid (∀ u, Rr u b F l (rowB l bad) → Calls Tryz.prog 109 #[.pointer (some ⟨b, 0, none⟩), .int .i64 ((rowN l bad : Nat) : Int)] u fun r w' => ∃ v, r = .returned v ∧ Rd w' F v (rt l (rowB l bad) (rowN l bad)) ∧ Rr w' b F (rowL l bad) (rowE l bad) ∧ u.grownBy w' (some b)) := fun u hu => take_any u b F l _ (rowN l bad) hu (by unfold rowN; omega) (by unfold rowN; omega)
  have HLEN : Hid ((rt l (rowB l bad) (rowN l bad)) = [] ∨ (rt l (rowB l bad) (rowN l bad)).length = rowN l bad) := hid (by
    by_cases hz : rb l (rowB l bad) (rowN l bad) = 0
    · right
      have := (rb_zero hz).2
      unfold rt
      rw [if_pos hz, List.length_take]
      omega
    · left
      unfold rt
      rw [if_neg hz])
  have HRT : Hid (rowT l bad = (rt l (rowB l bad) (rowN l bad)).drop 4) := rfl
  have hNN : rowN l bad = 4 + numL (rt l bad 4) := rfl
  have HB : Hid (rowB l bad = if 1048576 < numL (rt l bad 4) then ref (rb l bad 4) 31 else rb l bad 4) := rfl
  generalize rowB l bad = RB at HT HLEN HRT HB
  generalize rowN l bad = RN at *
  generalize rowT l bad = RT at HRT ⊢
  generalize rowL l bad = RL at HT ⊢
  generalize rowE l bad = RE at HT ⊢
  generalize numL (rt l bad 4) = N at HN hlt HB hNN
  generalize rt l RB RN = fl at HT HLEN HRT
  have HTN : Hid (∀ u, Rr u b F l RB → Calls Tryz.prog 109 #[.pointer (some ⟨b, 0, none⟩), .int .i64 (4 + (N : Int))] u fun r w' => ∃ v, r = .returned v ∧ Rd w' F v fl ∧ Rr w' b F RL RE ∧ u.grownBy w' (some b)) := fun u hu => by
    have := HT.out u hu
    rw [hNN, show ((4 + N : Nat) : Int) = 4 + (N : Int) by omega] at this
    exact this
  clear h HT hr4
  -- behind the taking
  have HEND : Hid (∀ (u : World) (v : Value), Rd u F v fl → (fl = [] → ∃ a c, v = .slice a 0 c) ∧ (fl ≠ [] → ∃ (b' off c : Nat), v = .slice (some ⟨b', off, none⟩) (4 + N) c ∧ 4 + N ≤ c ∧ ∀ p n m, n = N → m = N → (0 < N → p = some (⟨b', off + 4, none⟩ : Addr)) → p ≠ none → Rd u F (.slice p n m) RT)) := hid (fun u v hv => by
    refine ⟨fun e => ?_, fun e => ?_⟩
    · rw [e] at hv
      obtain ⟨a, b', off, c, e', -⟩ := hv
      exact ⟨a, c, e'⟩
    · have hfl : fl.length = 4 + N := by
        rcases HLEN.out with h | h
        · exact absurd h e
        · omega
      obtain ⟨a, b', off, c, rfl, hc, hn, ha, hcell⟩ := hv
      obtain ⟨rfl, hb', hFb⟩ := ha (by omega)
      refine ⟨b', off, c, by rw [hfl], by omega, fun p n m en em hp hp2 => ?_⟩
      subst en
      subst em
      have := Rd.rest ha hcell (c := fl.length) (Nat.le_refl _) 4 (by omega) p (fun h => hp (by omega)) (fun h => absurd h hp2)
      rw [show fl.length - 4 = m by omega, ← HRT.out] at this
      exact this)
  have HR0 : Hid (fl = [] → RT = []) := hid (fun e => by rw [HRT.out, e]; rfl)
  by_cases hbig : 1048576 < N
  · have hd : decide ((1048580 : Int) < 4 + (N : Int)) = true := decide_eq_true (by omega)
    have e2 := HB.out
    rw [if_pos hbig] at e2
    rw [← e2] at HFz
    by_cases hfl : fl = []
    · have HFL := hid hfl
      clear hfl e2
      go_enter Tryz.func110, Tryz.ntmps110
      go_wp2_with (first
        | (go_at_call 116; refine (HFr.out).mono ?_; rintro e w1 ⟨v1, rfl, hv1, hR1, hg1⟩; have HV1 := hid hv1; have HR1 := hid hR1; have HG1 := hid hg1; clear hv1 hR1 hg1)
        | (go_at_call 108; refine (HN.out _ _ HV1.out).mono ?_; rintro e w' ⟨rfl, hw⟩; have hw' := hw.symm; clear hw; subst hw')
        | (go_at_call 107; refine (HFz.out _ HR1.out).mono ?_; rintro e w2 ⟨rfl, hR2, hg2⟩; have HR2 := hid hR2; have HG2 := hid (gtrans HG1.out hg2); clear hR2 hg2)
        | (go_at_call 109; refine (HTN.out _ HR2.out).mono ?_; rintro e w3 ⟨v3, rfl, hv3, hR3, hg3⟩; have HR3 := hid hR3; have HG3 := hid (gtrans HG2.out hg3); obtain ⟨a3, c3, rfl⟩ := (HEND.out _ _ hv3).1 HFL.out; clear hv3 hR3 hg3))
      go_ret
      exact ⟨_, rfl, by rw [HR0.out HFL.out]; exact Rd.nil _ _, HR3.out, HG3.out⟩
    · have HFL := hid hfl
      clear hfl e2
      have k1 : ¬ (4 + (N : Int) == 0) = true := by simp; omega
      have k2 : ((4 + N : Nat) : Int) = 4 + (N : Int) := by omega
      have k3 : ¬ N = 0 := by omega
      go_enter Tryz.func110, Tryz.ntmps110
      go_wp2_with (first
        | (go_at_call 116; refine (HFr.out).mono ?_; rintro e w1 ⟨v1, rfl, hv1, hR1, hg1⟩; have HV1 := hid hv1; have HR1 := hid hR1; have HG1 := hid hg1; clear hv1 hR1 hg1)
        | (go_at_call 108; refine (HN.out _ _ HV1.out).mono ?_; rintro e w' ⟨rfl, hw⟩; have hw' := hw.symm; clear hw; subst hw')
        | (go_at_call 107; refine (HFz.out _ HR1.out).mono ?_; rintro e w2 ⟨rfl, hR2, hg2⟩; have HR2 := hid hR2; have HG2 := hid (gtrans HG1.out hg2); clear hR2 hg2)
        | (go_at_call 109; refine (HTN.out _ HR2.out).mono ?_; rintro e w3 ⟨v3, rfl, hv3, hR3, hg3⟩; have HR3 := hid hR3; have HG3 := hid (gtrans HG2.out hg3); obtain ⟨b3, o3, c3, rfl, hc3, hq3⟩ := (HEND.out _ _ hv3).2 HFL.out; have HQ3 := hid hq3; clear hv3 hR3 hg3 hq3))
      go_ret
      exact ⟨_, rfl, HQ3.out _ _ _ (by omega) (by omega) (fun _ => rfl) (by simp), HR3.out, HG3.out⟩
  · have hd : decide ((1048580 : Int) < 4 + (N : Int)) = false := decide_eq_false (by omega)
    have e2 := HB.out
    rw [if_neg hbig] at e2
    rw [← e2] at HFr HFz
    by_cases hfl : fl = []
    · have HFL := hid hfl
      clear hfl e2
      go_enter Tryz.func110, Tryz.ntmps110
      go_wp2_with (first
        | (go_at_call 116; refine (HFr.out).mono ?_; rintro e w1 ⟨v1, rfl, hv1, hR1, hg1⟩; have HV1 := hid hv1; have HR1 := hid hR1; have HG1 := hid hg1; clear hv1 hR1 hg1)
        | (go_at_call 108; refine (HN.out _ _ HV1.out).mono ?_; rintro e w' ⟨rfl, hw⟩; have hw' := hw.symm; clear hw; subst hw')
        | (go_at_call 109; refine (HTN.out _ HR1.out).mono ?_; rintro e w3 ⟨v3, rfl, hv3, hR3, hg3⟩; have HR3 := hid hR3; have HG3 := hid (gtrans HG1.out hg3); obtain ⟨a3, c3, rfl⟩ := (HEND.out _ _ hv3).1 HFL.out; clear hv3 hR3 hg3))
      go_ret
      exact ⟨_, rfl, by rw [HR0.out HFL.out]; exact Rd.nil _ _, HR3.out, HG3.out⟩
    · have HFL := hid hfl
      clear hfl e2
      go_enter Tryz.func110, Tryz.ntmps110
      go_wp2_with (first
        | (go_at_call 116; refine (HFr.out).mono ?_; rintro e w1 ⟨v1, rfl, hv1, hR1, hg1⟩; have HV1 := hid hv1; have HR1 := hid hR1; have HG1 := hid hg1; clear hv1 hR1 hg1)
        | (go_at_call 108; refine (HN.out _ _ HV1.out).mono ?_; rintro e w' ⟨rfl, hw⟩; have hw' := hw.symm; clear hw; subst hw')
        | (go_at_call 109; refine (HTN.out _ HR1.out).mono ?_; rintro e w3 ⟨v3, rfl, hv3, hR3, hg3⟩; have HR3 := hid hR3; have HG3 := hid (gtrans HG1.out hg3); obtain ⟨b3, o3, c3, rfl, hc3, hq3⟩ := (HEND.out _ _ hv3).2 HFL.out; have HQ3 := hid hq3; clear hv3 hR3 hg3 hq3))
      all_goals
        go_ret
        first
          | exact ⟨_, rfl, HQ3.out (some ⟨b3, o3 + 4, none⟩) _ _ (by omega) (by omega) (fun _ => rfl) (by simp), HR3.out, HG3.out⟩
          | exact ⟨_, rfl, HQ3.out (some ⟨b3, o3, none⟩) _ _ (by omega) (by omega) (fun h => by omega) (by simp), HR3.out, HG3.out⟩
end Go.Proofs.YtfalgjdhdgkbfaaGreatDoor

namespace Go.Proofs.YtfalgjdhdgkbfaaGreatDoor
open Go Go.RowKit
open Go.RowKit (wrap32 wrap64)

def ptrM : Value → Nat
  | .pointer (some a) => a.block + 1
  | _ => 0

set_option maxRecDepth 100000 in
set_option maxHeartbeats 1000000 in
theorem wdone_bad (w : World) (b t m o : Nat) (f : Nat → Value) (F : Nat → Prop) (l : List UInt8) (bad : Nat) (h : Wr w b t m o f F l bad) (hb : bad ≠ 0) :
    Calls Tryz.prog 38 #[.pointer (some ⟨b, o, none⟩)] w fun e w' => e = .returned (.tuple #[.slice none 0 0, .int .i64 bad]) ∧ w.grownBy w' none := by
  obtain ⟨p, c0, c1, c2, hfz, hlt, hp⟩ := h.cells
  have hd : ((bad : Int) != 0) = true := by simpa using hb
  have hd2 : (bad != 0) = true := by simpa using hb
  clear h hp hb
  go_enter Tryz.func38, Tryz.ntmps38
  go_wp2_with fail
  go_quiet ((fail))
  rename_i nq
  go_wp2_with fail
  go_ret2
  exact ⟨rfl, gdrew _ _ _⟩

theorem below_drew {B : Nat} {w u : World} (h : Below B w u) : Below B w u.drew := ⟨h.os, h.tape, h.output, h.size, h.block⟩
theorem Tryz.one5 : (Tryz.prog.info? 5).map (·.size) = some 1 := by kernel_rfl
theorem drop_splice (cur : List Value) (E : Nat) (cs : List Value) (h : E + cs.length ≤ cur.length) : (splice cur E cs).drop E = cs ++ cur.drop (E + cs.length) := by
  unfold splice
  rw [List.drop_append_of_le_length (by rw [List.length_take]; omega), List.drop_eq_nil_of_le (by rw [List.length_take]; omega), List.nil_append]

set_option maxRecDepth 100000 in
set_option maxHeartbeats 4000000 in
theorem wdone_ok (w : World) (b t m o : Nat) (f : Nat → Value) (F : Nat → Prop) (l : List UInt8) (h : Wr w b t m o f F l 0) (hl : l.length ≤ 140737488355328) :
    Calls Tryz.prog 38 #[.pointer (some ⟨b, o, none⟩)] w fun e w' => ∃ v', e = .returned (.tuple #[v', .int .i64 0]) ∧ Out w.heap.size w' v' l ∧ w.grownBy w' none := by
  obtain ⟨p, c0, c1, c2, hfz, hlt, hp⟩ := h.cells
  have hmk := run_make_row' (P := Tryz.prog) 28 5 (.int .u8 0) 1 Tryz.underlying28 Tryz.info5 rfl .i64 .i64 l.length (by omega) (by omega) w
  have hnew := heap_new w (madeCells #[.int .u8 0] l.length) 5
  have hmz : (madeCells #[Value.int .u8 0] l.length).size = l.length := by simp [size_madeCells]
  obtain ⟨w1, hw1⟩ : ∃ w1, w.alloc (.cells (madeCells #[.int .u8 0] l.length) 5) = w1 := ⟨_, rfl⟩
  have hg1 : w.grownBy w1 none := by rw [← hw1]; exact galloc _ _ _
  rw [hw1] at hmk hnew
  have HCH : Hid (∃ ps, Chain w F p ps ∧ laid ps = l) := by
    obtain ⟨h1, h2, h3, q, ps, e1, e2, e3, hc, hll⟩ := h
    rw [hp] at e1
    injection e1 with e1
    rw [e1]
    exact ⟨ps, hc, hll⟩
  have HB1 := hid (gbelow hg1)
  obtain ⟨x0, x1, x2, xl⟩ : w1.cell? ⟨b, o, none⟩ = some (.pointer p) ∧ w1.cell? ⟨b, o + 1, none⟩ = some (.int .i64 (l.length : Int)) ∧ w1.cell? ⟨b, o + 2, none⟩ = some (.int .i64 (0 : Int)) ∧ w1.heap.size = w.heap.size + 1 := by
    refine ⟨(cell_at hg1 hlt (by simp)).trans c0, (cell_at hg1 hlt (by simp)).trans c1, (cell_at hg1 hlt (by simp)).trans c2, ?_⟩
    rw [← hw1]; simp
  have HNEW := hid hnew
  have HMZ := hid hmz
  obtain ⟨n, HN⟩ : ∃ n, Hid (l.length = n) := ⟨_, hid rfl⟩
  rw [HN.out] at hmk c1 x1 hl HNEW HMZ
  generalize madeCells #[Value.int .u8 0] n = mc at HNEW HMZ hmk
  clear h hp hw1 hg1 hnew hmz
  go_enter Tryz.func38, Tryz.ntmps38
  go_wp2_with fail
  go_loopw [5, 6] (fun ev pv wr => ∃ (ps : List (List UInt8)) (q : Option Addr) (cur : List Value) (S : List UInt8) (E : Nat), ev = .int .i64 E ∧ pv = .pointer q ∧ Hid ((laid ps).length = E) ∧ Hid (Chain w F q ps) ∧ Hid (laid ps ++ S = l) ∧ Hid (wr.heap[w.heap.size]? = some (.cells cur.toArray 5 (0, 0))) ∧ cur.length = n ∧ Hid (cur.drop E = Lib.byteCells S) ∧ Hid (Below w.heap.size w wr)) (fun _ pv _ => ptrM pv)
  case atStart =>
    obtain ⟨ps, hc, hll⟩ := HCH.out
    refine ⟨ps, p, mc.toList, [], n, rfl, rfl, hid (by rw [hll, HN.out]), hid hc, hid (by rw [hll, List.append_nil]), hid (by simpa using HNEW.out), by simpa using HMZ.out, hid (by rw [List.drop_eq_nil_of_le (by have := HMZ.out; simp; omega)]; rfl), HB1⟩
  case round =>
    obtain ⟨ps, q, cur, S, E, rfl, rfl, HE, HC, HS, HH, hcl, HD, HB⟩ := hrel
    cases ps with
    | nil =>
      have hq : q = none := HC.out
      subst hq
      go_wp2_with fail
      go_ret2
      refine ⟨_, rfl, ?_, gof HB.out none⟩
      have hE0 : E = 0 := HE.out.symm
      have hSl : S = l := HS.out
      have hcur : cur = Lib.byteCells l := by have := HD.out; rw [hE0, List.drop_zero, hSl] at this; exact this
      refine ⟨by rw [byteCells_length]; omega, .inr ⟨w.heap.size, n, cur.toArray, by rw [HN.out]; rfl, Nat.le_refl _, HH.out, by rw [HN.out]; exact Nat.le_refl _, by unfold maxLen; omega, by simp; omega, ?_⟩⟩
      rw [Nat.mul_one, List.toList_toArray, hcur, List.take_of_length_le (by rw [byteCells_length]; exact Nat.le_refl _)]
    | cons x r =>
      obtain ⟨g, v, q', e, hgl, hFg, hhg, hrx, hdec, hcr⟩ := HC.out
      subst e
      have HEL : Hid ((laid r).length + x.length = E) := hid (by rw [← HE.out, laid, List.length_append])
      have HSn : Hid (laid r ++ (x ++ S) = l) := hid (by rw [← List.append_assoc]; exact HS.out)
      have hEn : E ≤ n := by rw [← HN.out, ← HS.out, List.length_append, HE.out]; omega
      have HDD : Hid (∀ u, Below w.heap.size w u → u.cell? ⟨g, 0, none⟩ = some (.pointer q') ∧ u.cell? ⟨g, 1, none⟩ = some v) := hid (fun u hu => by
        have := (hu.block g hgl).trans hhg
        exact ⟨by simp [World.cell?, this], by simp [World.cell?, this]⟩)
      obtain ⟨d0, d1⟩ := HDD.out wr HB.out
      obtain ⟨a, b', off, c, hv, hxc, hxn, hxa, hxcell⟩ := hrx
      subst hv
      have HXA := hid hxa
      have HXC := hid hxcell
      obtain ⟨E', HE'⟩ : ∃ E', Hid ((laid r).length = E') := ⟨_, hid rfl⟩
      have hEE : E' + x.length = E := by rw [← HE'.out]; exact HEL.out
      have e1 : (E : Int) - (x.length : Int) = (E' : Int) := by omega
      have HEE := hid hEE
      have hE'n : E' ≤ n := by omega
      have HCR := hid hcr
      have HDEC := hid hdec
      have HHG := hid hhg
      have HPOS : Hid (0 < (Lib.byteCells x).length → ∃ ad, a = some ad ∧ ∀ j u, (Lib.byteCells x)[j]? = some u → wr.drew.cell? (ad.add j) = some u) := hid (fun h0 => by
        rw [byteCells_length] at h0
        refine ⟨_, (HXA.out h0).1, fun j u hu => ?_⟩
        have hj : j < x.length := by have := (List.getElem?_eq_some_iff.1 hu).1; rwa [byteCells_length] at this
        rw [Addr.add_lit]
        show wr.cell? _ = _
        rw [cell_at (gof HB.out none) (HXA.out h0).2.1 (by simp), HXC.out j hj, ← hu]
        simp [Lib.byteCells, List.getElem?_eq_getElem hj])
      have HONE : Hid (∀ u ∈ Lib.byteCells x, u.oneCell' = true) := hid (fun u hu => by
        unfold Lib.byteCells at hu
        obtain ⟨_, _, rfl⟩ := List.mem_map.1 hu
        rfl)
      have hnl := byteCells_length x
      have hnl2 : (Lib.byteCells x).length = Nat.min x.length (n - E') := by rw [hnl]; exact (Nat.min_eq_left (by omega)).symm
      have HNL := hid hnl2
      have HFIT : Hid (E' + (Lib.byteCells x).length ≤ cur.length) := hid (by rw [hnl]; omega)
      generalize HX : Lib.byteCells x = cs at HPOS HONE HNL HFIT
      have HXX := hid HX
      clear HX hxn hxa hxcell hhg hcr hdec hEE hnl hnl2
      go_wp2_with fail
      by_cases hEn' : E' = n
      · have h00 : cs.length = 0 := by have := HNL.out; rw [hEn', Nat.sub_self] at this; rw [this]; exact Nat.min_zero _
        have HZ0 := hid h00
        have HEn := hid hEn'
        clear h00
        go_region_law (refine step_copy_splice rfl (.tmp 44) (.tmp 48) 28 28 rfl 5 Tryz.underlying28 Tryz.one5 _ _ _ _ _ _ rfl rfl w.heap.size E' cur 5 (by exact HH.out) cs (by have := HNL.out; rw [HEn.out, Nat.sub_self] at this; exact this) (by exact fun h0 => absurd h0 (by have := HZ0.out; omega)) HFIT.out HONE.out w.heap.size w (below_drew HB.out) (Nat.le_refl _) ?_; intro w4 hg4 hb4)
        have HB4 := hid hb4
        obtain ⟨d0', d1'⟩ := HDD.out w4 HB4.out
        go_wp2_with fail
        refine ⟨⟨r, q', splice cur E' cs, x ++ S, E', by first | rfl | rw [HEn.out], rfl, HE', HCR, HSn, hg4, ?_, ?_, HB4⟩, ?_⟩
        · rw [length_splice _ _ _ HFIT.out]; exact hcl
        · refine hid ?_
          rw [drop_splice _ _ _ HFIT.out, byteCells_append, ← HXX.out, byteCells_length, HEE.out, HD.out]
        · cases q' with
          | none => simp [ptrM]
          | some a' => have := HDEC.out a' rfl; simp only [ptrM]; omega
      · have f1 : ¬ n - E' = 0 := by omega
        have f2 : ¬ n ≤ E' := by omega
        have f3 : ¬ n = E' := by omega
        go_region_law (refine step_copy_splice rfl (.tmp 44) (.tmp 48) 28 28 rfl 5 Tryz.underlying28 Tryz.one5 _ _ _ _ _ _ rfl rfl w.heap.size E' cur 5 (by exact HH.out) cs (by exact HNL.out) (by exact fun h0 => ⟨rfl, HPOS.out h0⟩) HFIT.out HONE.out w.heap.size w (below_drew HB.out) (Nat.le_refl _) ?_; intro w4 hg4 hb4)
        have HB4 := hid hb4
        obtain ⟨d0', d1'⟩ := HDD.out w4 HB4.out
        go_wp2_with fail
        refine ⟨⟨r, q', splice cur E' cs, x ++ S, E', by first | rfl | rw [HEn.out], rfl, HE', HCR, HSn, hg4, ?_, ?_, HB4⟩, ?_⟩
        · rw [length_splice _ _ _ HFIT.out]; exact hcl
        · refine hid ?_
          rw [drop_splice _ _ _ HFIT.out, byteCells_append, ← HXX.out, byteCells_length, HEE.out, HD.out]
        · cases q' with
          | none => simp [ptrM]
          | some a' => have := HDEC.out a' rfl; simp only [ptrM]; omega
end Go.Proofs.YtfalgjdhdgkbfaaGreatDoor

namespace Go.Proofs.YtfalgjdhdgkbfaaGreatDoor
open Go Go.RowKit
open Go.RowKit (wrap32 wrap64)

theorem rowT_length (l : List UInt8) (bad : Nat) : (rowT l bad).length ≤ 1048576 := by
  unfold rowT
  rw [List.length_drop]
  by_cases h : 1048576 < numL (rt l bad 4)
  · have e : rb l (rowB l bad) (rowN l bad) ≠ 0 := fun hz => by
      have := (rb_zero hz).1
      unfold rowB ref at this
      rw [if_pos h] at this
      split at this <;> omega
    have e2 : rt l (rowB l bad) (rowN l bad) = [] := by unfold rt; rw [if_neg e]
    rw [e2]; simp
  · have := (rt_length l (rowB l bad) (rowN l bad)).1
    unfold rowN at *
    omega

set_option maxRecDepth 100000 in
set_option maxHeartbeats 1000000 in
theorem rbytes_any (w : World) (b : Nat) (F : Nat → Prop) (l : List UInt8) (bad : Nat) (h : Rr w b F l bad) :
    Calls Tryz.prog 57 #[.pointer (some ⟨b, 0, none⟩)] w fun r w' => ∃ v, r = .returned v ∧ Out w.heap.size w' v (rowT l bad) ∧ Rr w' b F (rowL l bad) (rowE l bad) ∧ w.grownBy w' (some b) := by
  have HR := hid (row_any w b F l bad h)
  have HC : Hid (∀ u v, Rd u F v (rowT l bad) → Calls Tryz.prog 50 #[v] u fun e w' => ∃ v', e = .returned v' ∧ Out u.heap.size w' v' (rowT l bad) ∧ u.grownBy w' none) := fun u v hv => clone_any _ F v u (by have := rowT_length l bad; omega) hv
  clear h
  go_enter Tryz.func57, Tryz.ntmps57
  go_wp2_with (first
    | (go_at_call 110; refine (HR.out).mono ?_; rintro e w1 ⟨v1, rfl, hv1, hR1, hg1⟩; have HV1 := hid hv1; have HR1 := hid hR1; have HG1 := hid hg1; clear hv1 hR1 hg1)
    | (go_at_call 50; refine (HC.out _ _ HV1.out).mono ?_; rintro e w2 ⟨v2, rfl, hO2, hg2⟩))
  go_ret
  exact ⟨_, rfl, hO2.below HG1.out.size, HR1.out.keep hg2, gsomeT HG1.out hg2⟩

theorem strOfNums_list (l : List UInt8) : strOfNums (l.map fun b => (b.toNat : Int)) = ⟨l.toArray⟩ := by
  unfold strOfNums
  rw [List.map_map, show l.map ((fun n : Int => UInt8.ofNat n.toNat) ∘ fun b : UInt8 => (b.toNat : Int)) = l.map id from List.map_congr_left fun x _ => by simp, List.map_id]
theorem Rd.convert {w : World} {F : Nat → Prop} {v : Value} {l : List UInt8} (h : Rd w F v l) : (convert 28 9 v).run Tryz.prog w = .ok (.string ⟨l.toArray⟩) w := by
  obtain ⟨a, b, off, c, rfl, hc, hn, ha, hcell⟩ := h
  by_cases hl : 0 < l.length
  · rw [(ha hl).1]
    have := run_convert_bytes_arg w 28 5 Tryz.underlying28 Tryz.underlying5 b off l.length c (l.map fun b => (b.toNat : Int)) (by simp) (fun i hi => by
      simp [hcell i hi, List.getD, List.getElem?_eq_getElem hi]) 9 Tryz.underlying9
    rw [this, strOfNums_list]
  · have : l = [] := by cases l with | nil => rfl | cons _ _ => simp at hl
    subst this
    rcases a with _ | ⟨b', o', sp⟩
    · exact run_convert_bytes_nil w 28 5 Tryz.underlying28 Tryz.underlying5 0 c 9 Tryz.underlying9
    · rw [run_convert_bytes_string w 28 9 5 _ _ _ Tryz.underlying28 Tryz.underlying5 Tryz.underlying9]
      have hl := run_loadCells_list (P := Tryz.prog) w ⟨b', o', sp⟩ [] (fun j v hj => by simp at hj)
      have := run_bytesToString (P := Tryz.prog) w ⟨b', o', sp⟩ 0 c [] (by simpa using hl)
      exact this
def str (l : List UInt8) : ByteArray := ⟨l.toArray⟩
set_option maxRecDepth 100000 in
set_option maxHeartbeats 1000000 in
theorem rtext_any (w : World) (b : Nat) (F : Nat → Prop) (l : List UInt8) (bad : Nat) (h : Rr w b F l bad) :
    Calls Tryz.prog 46 #[.pointer (some ⟨b, 0, none⟩)] w fun r w' => r = .returned (.string (str (rowT l bad))) ∧ Rr w' b F (rowL l bad) (rowE l bad) ∧ w.grownBy w' (some b) := by
  have HR := hid (row_any w b F l bad h)
  clear h
  go_enter Tryz.func46, Tryz.ntmps46
  go_wp2_with (go_at_call 110; refine (HR.out).mono ?_; rintro e w1 ⟨v1, rfl, hv1, hR1, hg1⟩; have HR1 := hid hR1; have HG1 := hid hg1; have hcv := hv1.convert; clear hv1 hR1 hg1)
  go_ret
  exact ⟨rfl, HR1.out, HG1.out⟩

theorem gbel {a w w' : World} {B : Nat} {row : Option Nat} (h : a.grownBy w row) (k : Below B w w') (hB : a.heap.size ≤ B) : a.grownBy w' row :=
  ⟨k.os.trans h.os, k.tape.trans h.tape, k.output.trans h.output, Nat.le_trans h.size k.size, fun i hi hr => (k.block i (by omega)).trans (h.block i hi hr)⟩
theorem Rd.bel {w w' : World} {B : Nat} {F : Nat → Prop} {v : Value} {l : List UInt8} (h : Rd w F v l) (hb : Below B w w') (hF : ∀ k, F k → k < B) : Rd w' F v l := by
  obtain ⟨a, b, off, c, hv, hc, hn, ha, hcell⟩ := h
  refine ⟨a, b, off, c, hv, hc, hn, fun hl => ⟨(ha hl).1, Nat.lt_of_lt_of_le (ha hl).2.1 hb.size, (ha hl).2.2⟩, fun i hi => ?_⟩
  rw [← hcell i hi]
  have := hb.block b (hF _ (ha (by omega)).2.2)
  simp only [World.cell?, this]
theorem Rr.bel {w w' : World} {B b : Nat} {F : Nat → Prop} {l : List UInt8} {bad : Nat} (h : Rr w b F l bad) (hb : Below B w w') (hF : ∀ k, F k → k < B) (hbB : b < B) : Rr w' b F l bad := by
  obtain ⟨v, hh, hv, hFb, hl⟩ := h
  exact ⟨v, (hb.block b hbB).trans hh, hv.bel hb hF, hFb, hl⟩
/-- Sixteen bytes, out of those that were taken. -/
def idL (x : List UInt8) : List UInt8 := x ++ List.replicate (16 - x.length) 0
def zer16 : List Value := Lib.byteCells (List.replicate 16 0)
theorem zer_at (i : Nat) (h : i < 16) : zer16.toArray[i]? = some (.int .u8 0) := by
  have e : zer16 = List.replicate 16 (.int .u8 0) := rfl
  rw [e, List.getElem?_toArray, List.getElem?_replicate, if_pos h]
theorem splice_id (x : List UInt8) : splice zer16 0 (Lib.byteCells x) = Lib.byteCells (idL x) := by
  unfold splice zer16 idL
  rw [byteCells_append, List.take_zero, List.nil_append, byteCells_length, Nat.zero_add]
  congr 1
  unfold Lib.byteCells
  rw [← List.map_drop, List.drop_replicate]
theorem cells16 {w : World} {k : Nat} {v0 v1 v2 v3 v4 v5 v6 v7 v8 v9 v10 v11 v12 v13 v14 v15 : Value} {t : TypeId} (h : w.heap[k]? = some (.cells #[v0, v1, v2, v3, v4, v5, v6, v7, v8, v9, v10, v11, v12, v13, v14, v15] t (0, 0))) : (w.cell? ⟨k, 0, none⟩ = some v0 ∧ w.cell? ⟨k, 1, none⟩ = some v1 ∧ w.cell? ⟨k, 2, none⟩ = some v2 ∧ w.cell? ⟨k, 3, none⟩ = some v3 ∧ w.cell? ⟨k, 4, none⟩ = some v4 ∧ w.cell? ⟨k, 5, none⟩ = some v5 ∧ w.cell? ⟨k, 6, none⟩ = some v6 ∧ w.cell? ⟨k, 7, none⟩ = some v7 ∧ w.cell? ⟨k, 8, none⟩ = some v8 ∧ w.cell? ⟨k, 9, none⟩ = some v9 ∧ w.cell? ⟨k, 10, none⟩ = some v10 ∧ w.cell? ⟨k, 11, none⟩ = some v11 ∧ w.cell? ⟨k, 12, none⟩ = some v12 ∧ w.cell? ⟨k, 13, none⟩ = some v13 ∧ w.cell? ⟨k, 14, none⟩ = some v14 ∧ w.cell? ⟨k, 15, none⟩ = some v15) ∧ ∀ o, w.frozen? ⟨k, o, none⟩ = false := by
  refine ⟨?_, fun o => by simp [World.frozen?, h]⟩
  simp [World.cell?, h]
def put16 (w : World) (k : Nat) (v0 v1 v2 v3 v4 v5 v6 v7 v8 v9 v10 v11 v12 v13 v14 v15 : Value) : World := ((((((((((((((((w.setCell ⟨k, 0, none⟩ v0).setCell ⟨k, 1, none⟩ v1).setCell ⟨k, 2, none⟩ v2).setCell ⟨k, 3, none⟩ v3).setCell ⟨k, 4, none⟩ v4).setCell ⟨k, 5, none⟩ v5).setCell ⟨k, 6, none⟩ v6).setCell ⟨k, 7, none⟩ v7).setCell ⟨k, 8, none⟩ v8).setCell ⟨k, 9, none⟩ v9).setCell ⟨k, 10, none⟩ v10).setCell ⟨k, 11, none⟩ v11).setCell ⟨k, 12, none⟩ v12).setCell ⟨k, 13, none⟩ v13).setCell ⟨k, 14, none⟩ v14).setCell ⟨k, 15, none⟩ v15)
theorem put16_cells {w : World} {k : Nat} {f : Nat → Value} {v0 v1 v2 v3 v4 v5 v6 v7 v8 v9 v10 v11 v12 v13 v14 v15 : Value} {t : TypeId} (h0 : w.rowIs k t 16 f) : ((put16 w k v0 v1 v2 v3 v4 v5 v6 v7 v8 v9 v10 v11 v12 v13 v14 v15).cell? ⟨k, 0, none⟩ = some v0 ∧ (put16 w k v0 v1 v2 v3 v4 v5 v6 v7 v8 v9 v10 v11 v12 v13 v14 v15).cell? ⟨k, 1, none⟩ = some v1 ∧ (put16 w k v0 v1 v2 v3 v4 v5 v6 v7 v8 v9 v10 v11 v12 v13 v14 v15).cell? ⟨k, 2, none⟩ = some v2 ∧ (put16 w k v0 v1 v2 v3 v4 v5 v6 v7 v8 v9 v10 v11 v12 v13 v14 v15).cell? ⟨k, 3, none⟩ = some v3 ∧ (put16 w k v0 v1 v2 v3 v4 v5 v6 v7 v8 v9 v10 v11 v12 v13 v14 v15).cell? ⟨k, 4, none⟩ = some v4 ∧ (put16 w k v0 v1 v2 v3 v4 v5 v6 v7 v8 v9 v10 v11 v12 v13 v14 v15).cell? ⟨k, 5, none⟩ = some v5 ∧ (put16 w k v0 v1 v2 v3 v4 v5 v6 v7 v8 v9 v10 v11 v12 v13 v14 v15).cell? ⟨k, 6, none⟩ = some v6 ∧ (put16 w k v0 v1 v2 v3 v4 v5 v6 v7 v8 v9 v10 v11 v12 v13 v14 v15).cell? ⟨k, 7, none⟩ = some v7 ∧ (put16 w k v0 v1 v2 v3 v4 v5 v6 v7 v8 v9 v10 v11 v12 v13 v14 v15).cell? ⟨k, 8, none⟩ = some v8 ∧ (put16 w k v0 v1 v2 v3 v4 v5 v6 v7 v8 v9 v10 v11 v12 v13 v14 v15).cell? ⟨k, 9, none⟩ = some v9 ∧ (put16 w k v0 v1 v2 v3 v4 v5 v6 v7 v8 v9 v10 v11 v12 v13 v14 v15).cell? ⟨k, 10, none⟩ = some v10 ∧ (put16 w k v0 v1 v2 v3 v4 v5 v6 v7 v8 v9 v10 v11 v12 v13 v14 v15).cell? ⟨k, 11, none⟩ = some v11 ∧ (put16 w k v0 v1 v2 v3 v4 v5 v6 v7 v8 v9 v10 v11 v12 v13 v14 v15).cell? ⟨k, 12, none⟩ = some v12 ∧ (put16 w k v0 v1 v2 v3 v4 v5 v6 v7 v8 v9 v10 v11 v12 v13 v14 v15).cell? ⟨k, 13, none⟩ = some v13 ∧ (put16 w k v0 v1 v2 v3 v4 v5 v6 v7 v8 v9 v10 v11 v12 v13 v14 v15).cell? ⟨k, 14, none⟩ = some v14 ∧ (put16 w k v0 v1 v2 v3 v4 v5 v6 v7 v8 v9 v10 v11 v12 v13 v14 v15).cell? ⟨k, 15, none⟩ = some v15) ∧ w.grownBy (put16 w k v0 v1 v2 v3 v4 v5 v6 v7 v8 v9 v10 v11 v12 v13 v14 v15) (some k) := by
  have hr := ((((((((((((((((h0.set 0 v0).set 1 v1).set 2 v2).set 3 v3).set 4 v4).set 5 v5).set 6 v6).set 7 v7).set 8 v8).set 9 v9).set 10 v10).set 11 v11).set 12 v12).set 13 v13).set 14 v14).set 15 v15)
  unfold put16
  refine ⟨⟨(hr.cell (i := 0) (by decide)).trans rfl, (hr.cell (i := 1) (by decide)).trans rfl, (hr.cell (i := 2) (by decide)).trans rfl, (hr.cell (i := 3) (by decide)).trans rfl, (hr.cell (i := 4) (by decide)).trans rfl, (hr.cell (i := 5) (by decide)).trans rfl, (hr.cell (i := 6) (by decide)).trans rfl, (hr.cell (i := 7) (by decide)).trans rfl, (hr.cell (i := 8) (by decide)).trans rfl, (hr.cell (i := 9) (by decide)).trans rfl, (hr.cell (i := 10) (by decide)).trans rfl, (hr.cell (i := 11) (by decide)).trans rfl, (hr.cell (i := 12) (by decide)).trans rfl, (hr.cell (i := 13) (by decide)).trans rfl, (hr.cell (i := 14) (by decide)).trans rfl, (hr.cell (i := 15) (by decide)).trans rfl⟩, ?_⟩
  · exact gtrans (gtrans (gtrans (gtrans (gtrans (gtrans (gtrans (gtrans (gtrans (gtrans (gtrans (gtrans (gtrans (gtrans (gtrans (gset _ _ _) (gset _ _ _)) (gset _ _ _)) (gset _ _ _)) (gset _ _ _)) (gset _ _ _)) (gset _ _ _)) (gset _ _ _)) (gset _ _ _)) (gset _ _ _)) (gset _ _ _)) (gset _ _ _)) (gset _ _ _)) (gset _ _ _)) (gset _ _ _)) (gset _ _ _)
theorem gdrew1 (w : World) (row : Option Nat) : w.grownBy w.drew row := ⟨rfl, rfl, rfl, Nat.le_refl _, fun _ _ _ => rfl⟩
theorem idL_length (x : List UInt8) (h : x.length ≤ 16) : (idL x).length = 16 := by simp [idL]; omega
theorem sixteen {α : Type} {l : List α} (h : l.length = 16) : ∃ a0 a1 a2 a3 a4 a5 a6 a7 a8 a9 a10 a11 a12 a13 a14 a15, l = [a0, a1, a2, a3, a4, a5, a6, a7, a8, a9, a10, a11, a12, a13, a14, a15] := by
  match l, h with
  | [a0, a1, a2, a3, a4, a5, a6, a7, a8, a9, a10, a11, a12, a13, a14, a15], _ => exact ⟨a0, a1, a2, a3, a4, a5, a6, a7, a8, a9, a10, a11, a12, a13, a14, a15, rfl⟩

set_option maxRecDepth 100000 in
set_option maxHeartbeats 4000000 in
theorem rid_any (w : World) (b : Nat) (F : Nat → Prop) (l : List UInt8) (bad : Nat) (h : Rr w b F l bad) :
    Calls Tryz.prog 60 #[.pointer (some ⟨b, 0, none⟩)] w fun r w' => r = .returned (.agg (Lib.byteCells (idL (rt l bad 16))).toArray) ∧ Rr w' b F (rl l bad 16) (rb l bad 16) ∧ w.grownBy w' (some b) := by
  have hlt := h.lt
  have hFb : ¬ (fun k => k < w.heap.size ∧ F k) b := fun h2 => (by obtain ⟨v, _, _, h3, _⟩ := h; exact h3 h2.2)
  have h' : Rr w b (fun k => k < w.heap.size ∧ F k) l bad := h.mono (fun k hk hf => ⟨hk, hf⟩) hFb
  have HT : Hid (∀ u, w.grownBy u none → Calls Tryz.prog 109 #[.pointer (some ⟨b, 0, none⟩), .int .i64 16] u fun r w' => ∃ v, r = .returned v ∧ Rd w' (fun k => k < w.heap.size ∧ F k) v (rt l bad 16) ∧ Rr w' b (fun k => k < w.heap.size ∧ F k) (rl l bad 16) (rb l bad 16) ∧ u.grownBy w' (some b)) := fun u hu => take_any u b _ l bad 16 (h'.keep hu) (by decide) (by decide)
  have hxl := (rt_length l bad 16).1
  obtain ⟨x, HX⟩ : ∃ x, Hid (rt l bad 16 = x) := ⟨_, hid rfl⟩
  rw [HX.out] at HT hxl ⊢
  have HXL := hid hxl
  have HSP := hid (splice_id x)
  have HIL := hid (idL_length x hxl)
  have HMIN : Hid ((Lib.byteCells x).length = Nat.min x.length 16) := hid (by rw [byteCells_length]; exact (Nat.min_eq_left hxl).symm)
  have HONE : Hid (∀ u ∈ Lib.byteCells x, u.oneCell' = true) := hid (fun u hu => by
    unfold Lib.byteCells at hu
    obtain ⟨_, _, rfl⟩ := List.mem_map.1 hu
    rfl)
  have HFIT : Hid (0 + (Lib.byteCells x).length ≤ zer16.length) := hid (by rw [byteCells_length, show zer16.length = 16 from rfl]; omega)
  have HG : Hid (∀ u v, Rd u (fun k => k < w.heap.size ∧ F k) v x → ∃ (a : Option Addr) (c : Nat), v = .slice a x.length c ∧ (0 < (Lib.byteCells x).length → ∃ ad, a = some ad ∧ ∀ j y, (Lib.byteCells x)[j]? = some y → u.cell? (ad.add j) = some y)) := hid (fun u v hv => by
    obtain ⟨a, b', off, c, rfl, hc, hn, ha, hcell⟩ := hv
    refine ⟨a, c, rfl, fun h0 => ?_⟩
    rw [byteCells_length] at h0
    refine ⟨_, (ha h0).1, fun j y hy => ?_⟩
    have hj : j < x.length := by have := (List.getElem?_eq_some_iff.1 hy).1; rwa [byteCells_length] at this
    rw [Addr.add_lit, hcell j hj, ← hy]
    simp [Lib.byteCells, List.getElem?_eq_getElem hj])
  generalize Lib.byteCells x = cs at HSP HMIN HONE HFIT HG
  clear h h' hFb hxl
  go_enter Tryz.func60, Tryz.ntmps60
  go_wp2_with fail
  have z1 : (Obj.cells #[.int .u8 0, .int .u8 0, .int .u8 0, .int .u8 0, .int .u8 0, .int .u8 0, .int .u8 0, .int .u8 0, .int .u8 0, .int .u8 0, .int .u8 0, .int .u8 0, .int .u8 0, .int .u8 0, .int .u8 0, .int .u8 0] 65 (0, 0)) = .cells zer16.toArray 65 (0, 0) := rfl
  generalize hW2 : (w.alloc (.cells #[.int .u8 0, .int .u8 0, .int .u8 0, .int .u8 0, .int .u8 0, .int .u8 0, .int .u8 0, .int .u8 0, .int .u8 0, .int .u8 0, .int .u8 0, .int .u8 0, .int .u8 0, .int .u8 0, .int .u8 0, .int .u8 0] 65)).alloc (.cells #[.int .u8 0, .int .u8 0, .int .u8 0, .int .u8 0, .int .u8 0, .int .u8 0, .int .u8 0, .int .u8 0, .int .u8 0, .int .u8 0, .int .u8 0, .int .u8 0, .int .u8 0, .int .u8 0, .int .u8 0, .int .u8 0] 65) = W2
  have HG2 : Hid (w.grownBy W2 none) := hid (by rw [← hW2]; exact gtrans (galloc _ _ _) (galloc _ _ _))
  have HZ1 : Hid (W2.heap[w.heap.size + 1]? = some (.cells zer16.toArray 65 (0, 0))) := hid (by
    rw [← hW2, ← z1]
    have := heap_new (w.alloc (.cells #[.int .u8 0, .int .u8 0, .int .u8 0, .int .u8 0, .int .u8 0, .int .u8 0, .int .u8 0, .int .u8 0, .int .u8 0, .int .u8 0, .int .u8 0, .int .u8 0, .int .u8 0, .int .u8 0, .int .u8 0, .int .u8 0] 65)) #[.int .u8 0, .int .u8 0, .int .u8 0, .int .u8 0, .int .u8 0, .int .u8 0, .int .u8 0, .int .u8 0, .int .u8 0, .int .u8 0, .int .u8 0, .int .u8 0, .int .u8 0, .int .u8 0, .int .u8 0, .int .u8 0] 65
    rw [show (w.alloc (.cells #[.int .u8 0, .int .u8 0, .int .u8 0, .int .u8 0, .int .u8 0, .int .u8 0, .int .u8 0, .int .u8 0, .int .u8 0, .int .u8 0, .int .u8 0, .int .u8 0, .int .u8 0, .int .u8 0, .int .u8 0, .int .u8 0] 65)).heap.size = w.heap.size + 1 by simp] at this
    exact this)
  have HZ0 : Hid (W2.heap[w.heap.size]? = some (.cells zer16.toArray 65 (0, 0))) := hid (by
    rw [← hW2, ← z1]
    exact heap_at (galloc _ _ none) (by simp) (heap_new w _ _))
  clear hW2 z1
  go_region_held3 (fun _ => True) (trivial) (first
    | (go_at_call 109; refine (HT.out _ (gtrans HG2.out (gdrew1 _ _))).mono ?_; rintro e w3 ⟨v3, rfl, hv3, hR3, hg3⟩; have HR3 := hid hR3; have HG3 := hid hg3; obtain ⟨a3, c3, rfl, hp3⟩ := HG.out _ _ hv3; have HP3 := hid hp3; clear hv3 hR3 hg3 hp3)
    | (refine step_copy_splice rfl (.tmp 5) (.tmp 7) 28 28 rfl 5 Tryz.underlying28 Tryz.one5 _ _ _ _ _ _ rfl rfl (w.heap.size + 1) 0 zer16 65 (by exact heap_at HG3.out (by simp; omega) HZ1.out) cs (by exact HMIN.out) (by exact fun h0 => ⟨rfl, HP3.out h0⟩) HFIT.out HONE.out (w.heap.size + 1) _ (Below.refl _ _) (Nat.le_refl _) ?_; intro w4 hg4 hb4))
  have HB4 := hid hb4
  have e5 := hg4.out
  rw [HSP.out] at e5
  obtain ⟨y0, y1, y2, y3, y4, y5, y6, y7, y8, y9, y10, y11, y12, y13, y14, y15, HY⟩ := sixteen HIL.out
  have e6 : w4.heap[w.heap.size + 1]? = some (.cells #[.int .u8 y0.toNat, .int .u8 y1.toNat, .int .u8 y2.toNat, .int .u8 y3.toNat, .int .u8 y4.toNat, .int .u8 y5.toNat, .int .u8 y6.toNat, .int .u8 y7.toNat, .int .u8 y8.toNat, .int .u8 y9.toNat, .int .u8 y10.toNat, .int .u8 y11.toNat, .int .u8 y12.toNat, .int .u8 y13.toNat, .int .u8 y14.toNat, .int .u8 y15.toNat] 65 (0, 0)) := by rw [e5, HY]; rfl
  have e7 : w4.heap[w.heap.size]? = some (.cells #[.int .u8 0, .int .u8 0, .int .u8 0, .int .u8 0, .int .u8 0, .int .u8 0, .int .u8 0, .int .u8 0, .int .u8 0, .int .u8 0, .int .u8 0, .int .u8 0, .int .u8 0, .int .u8 0, .int .u8 0, .int .u8 0] 65 (0, 0)) := (hb4.block _ (Nat.lt_succ_self _)).trans (heap_at HG3.out (by simp; omega) HZ0.out)
  obtain ⟨⟨c0, c1, c2, c3, c4, c5, c6, c7, c8, c9, c10, c11, c12, c13, c14, c15⟩, fz6⟩ := cells16 e6
  obtain ⟨⟨d0, d1, d2, d3, d4, d5, d6, d7, d8, d9, d10, d11, d12, d13, d14, d15⟩, fz7⟩ := cells16 e7
  have HYY := hid HY
  have HG4 : Hid (w.grownBy w4 (some b)) := hid (gbel (gtrans (gsome (gtrans HG2.out (gdrew1 _ _)) (some b)) HG3.out) HB4.out (Nat.le_succ _))
  have HR4 := hid (HR3.out.bel HB4.out (fun k hk => Nat.lt_succ_of_lt hk.1) (Nat.lt_succ_of_lt hlt))
  have E7 : Hid (w4.rowIs w.heap.size 65 16 (fun _ => .int .u8 0)) := hid ⟨zer16.toArray, e7, rfl, fun i hi => zer_at i hi⟩
  have hw4 := HB4.out.size
  have hw4 := HG4.out.size
  clear HY e5 e6 e7 hb4 hg4 HSP HMIN HONE HFIT HG HP3 HT
  go_wp2_with fail
  change bodyPost Tryz.prog Tryz.f60 _ Exit.ret _ (put16 w4 w.heap.size (.int .u8 y0.toNat) (.int .u8 y1.toNat) (.int .u8 y2.toNat) (.int .u8 y3.toNat) (.int .u8 y4.toNat) (.int .u8 y5.toNat) (.int .u8 y6.toNat) (.int .u8 y7.toNat) (.int .u8 y8.toNat) (.int .u8 y9.toNat) (.int .u8 y10.toNat) (.int .u8 y11.toNat) (.int .u8 y12.toNat) (.int .u8 y13.toNat) (.int .u8 y14.toNat) (.int .u8 y15.toNat))
  obtain ⟨⟨f0, f1, f2, f3, f4, f5, f6, f7, f8, f9, f10, f11, f12, f13, f14, f15⟩, g8⟩ := put16_cells (v0 := .int .u8 y0.toNat) (v1 := .int .u8 y1.toNat) (v2 := .int .u8 y2.toNat) (v3 := .int .u8 y3.toNat) (v4 := .int .u8 y4.toNat) (v5 := .int .u8 y5.toNat) (v6 := .int .u8 y6.toNat) (v7 := .int .u8 y7.toNat) (v8 := .int .u8 y8.toNat) (v9 := .int .u8 y9.toNat) (v10 := .int .u8 y10.toNat) (v11 := .int .u8 y11.toNat) (v12 := .int .u8 y12.toNat) (v13 := .int .u8 y13.toNat) (v14 := .int .u8 y14.toNat) (v15 := .int .u8 y15.toNat) E7.out
  generalize put16 w4 w.heap.size (.int .u8 y0.toNat) (.int .u8 y1.toNat) (.int .u8 y2.toNat) (.int .u8 y3.toNat) (.int .u8 y4.toNat) (.int .u8 y5.toNat) (.int .u8 y6.toNat) (.int .u8 y7.toNat) (.int .u8 y8.toNat) (.int .u8 y9.toNat) (.int .u8 y10.toNat) (.int .u8 y11.toNat) (.int .u8 y12.toNat) (.int .u8 y13.toNat) (.int .u8 y14.toNat) (.int .u8 y15.toNat) = W5 at g8 f0 f1 f2 f3 f4 f5 f6 f7 f8 f9 f10 f11 f12 f13 f14 f15 ⊢
  have HR5 := hid (HR4.out.on g8 (fun e => by injection e with e; omega) (fun k e h => by injection e with e; have := h.1; omega))
  have HG5 : Hid (w.grownBy W5 (some b)) := hid (HG4.out.andThen g8 (fun j hj => .inl (by injection hj with hj; omega)))
  refine bodyPost_ret (v := .agg #[.int .u8 y0.toNat, .int .u8 y1.toNat, .int .u8 y2.toNat, .int .u8 y3.toNat, .int .u8 y4.toNat, .int .u8 y5.toNat, .int .u8 y6.toNat, .int .u8 y7.toNat, .int .u8 y8.toNat, .int .u8 y9.toNat, .int .u8 y10.toNat, .int .u8 y11.toNat, .int .u8 y12.toNat, .int .u8 y13.toNat, .int .u8 y14.toNat, .int .u8 y15.toNat]) (by simp [results, Tryz.results60, go_sem, f0, f1, f2, f3, f4, f5, f6, f7, f8, f9, f10, f11, f12, f13, f14, f15]) rfl ⟨?_, HR5.out.mono (fun k _ h => h.2) ?_, HG5.out⟩
  · rw [HYY.out]; rfl
  · obtain ⟨_, _, _, h9, _⟩ := HR5.out
    exact fun h => h9 ⟨hlt, h⟩
end Go.Proofs.YtfalgjdhdgkbfaaGreatDoor
