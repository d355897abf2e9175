/- The reference's Reader: Int, Flag, Bytes, Text, Left, End, From. -/
import Derived.Test.YtfalgjdhdgkbfaaGreatDoorVa
namespace Go.Proofs.YtfalgjdhdgkbfaaGreatDoor
open Go Go.RowKit
open Go.RowKit (wrap32 wrap64)

set_option maxRecDepth 100000 in
theorem rvint_any (w : World) (d : Nat) (F : Nat → Prop) (l : List UInt8) (bad : Nat) (h : Rv w d F l bad) :
    Calls Tryz.prog 54 #[.pointer (some ⟨d, 0, none⟩)] w fun r w' => r = .returned (.int .i64 (u64i (numL (rt l bad 8)))) ∧ Rv w' d F (rl l bad 8) (rb l bad 8) ∧ w.grownBy w' (some d) := by
  have HN : Hid (Calls Tryz.prog 52 #[.pointer (some ⟨d, 0, none⟩), .int .i64 8] w fun r w' => r = .returned (.int .u64 (numL (rt l bad 8))) ∧ Rv w' d F (rl l bad 8) (rb l bad 8) ∧ w.grownBy w' (some d)) := rvnum_ok w d F l bad 8 h (by decide) (by decide)
  have hrl := (rt_length l bad 8).1
  have hlt : numL (rt l bad 8) < 18446744073709551616 := by
    have := numL_lt _ (rt l bad 8) rfl
    have h2 : (256 : Nat) ^ (rt l bad 8).length ≤ 256 ^ 8 := Nat.pow_le_pow_right (by decide) hrl
    have h3 : (256 : Nat) ^ 8 = 18446744073709551616 := by decide
    omega
  clear h hrl
  generalize numL (rt l bad 8) = N at HN hlt ⊢
  have e1 : IntKind.i64.wrap (N : Int) = u64i N := by rw [IntKind.wrap_i64]; unfold u64i; split <;> omega
  generalize u64i N = X at e1 ⊢
  go_enter Tryz.func54, Tryz.ntmps54
  go_wp2_with (go_at_call 52; refine (HN.out).mono ?_; rintro e w1 ⟨rfl, hR1, hg1⟩; have HR1 := hid hR1; have HG1 := hid hg1; clear hR1 hg1)
  go_ret
  exact ⟨rfl, HR1.out, HG1.out⟩
theorem rvleft_any (w : World) (d : Nat) (F : Nat → Prop) (l : List UInt8) (bad : Nat) (h : Rv w d F l bad) :
    Calls Tryz.prog 18 #[.pointer (some ⟨d, 0, none⟩)] w fun r w' => r = .returned (.int .i64 (l.length : Int)) ∧ w' = w := by
  obtain ⟨a, c, c0, c1, fz⟩ := h.open
  clear h
  go_enter Tryz.func18, Tryz.ntmps18
  go_wp2
  go_ret
  exact ⟨rfl, rfl⟩
theorem rvend_any (w : World) (d : Nat) (F : Nat → Prop) (l : List UInt8) (bad : Nat) (h : Rv w d F l bad) :
    Calls Tryz.prog 21 #[.pointer (some ⟨d, 0, none⟩)] w fun r w' => r = .returned (.int .i64 (endE l bad : Int)) ∧ w' = w := by
  obtain ⟨a, c, c0, c1, fz⟩ := h.open
  clear h
  by_cases hb : bad = 0
  · subst hb
    by_cases hl : 0 < l.length
    · have e : endE l 0 = 33 := by unfold endE; rw [if_pos ⟨rfl, hl⟩]
      have hl' : 0 < (l.length : Int) := by omega
      rw [e]
      clear e
      go_enter Tryz.func21, Tryz.ntmps21
      go_wp2
      go_ret
      exact ⟨rfl, rfl⟩
    · have e : endE l 0 = 0 := by unfold endE; rw [if_neg (fun h => hl h.2)]
      have hl' : ¬ 0 < (l.length : Int) := by omega
      rw [e]
      clear e
      go_enter Tryz.func21, Tryz.ntmps21
      go_wp2
      go_ret
      exact ⟨rfl, rfl⟩
  · have e : endE l bad = bad := by unfold endE; rw [if_neg (fun h => hb h.1)]
    have hb' : ¬ (bad : Int) = 0 := by omega
    rw [e]
    clear e
    go_enter Tryz.func21, Tryz.ntmps21
    go_wp2
    go_ret
    exact ⟨rfl, rfl⟩
set_option maxRecDepth 100000 in
set_option maxHeartbeats 1000000 in
theorem rvflag_any (w : World) (d : Nat) (F : Nat → Prop) (l : List UInt8) (bad : Nat) (h : Rv w d F l bad) :
    Calls Tryz.prog 56 #[.pointer (some ⟨d, 0, none⟩)] w fun r w' => r = .returned (.bool (numL (rt l (fb l bad) 1) == 1)) ∧ Rv w' d F (rl l (fb l bad) 1) (rb l (fb l bad) 1) ∧ w.grownBy w' (some d) := by
  have HR := hid h
  have HD : ∀ N : Nat, (N == 1) = ((N : Int) == 1) := fun N => by rw [Bool.eq_iff_iff, beq_iff_eq, beq_iff_eq]; omega
  have HN : Hid (∀ u bd, Rv u d F l bd → Calls Tryz.prog 52 #[.pointer (some ⟨d, 0, none⟩), .int .i64 1] u fun r w' => r = .returned (.int .u64 (numL (rt l bd 1))) ∧ Rv w' d F (rl l bd 1) (rb l bd 1) ∧ u.grownBy w' (some d)) := hid (fun u bd hu => rvnum_ok u d F l bd 1 hu (by decide) (by decide))
  by_cases hb : bad = 0
  · subst hb
    cases l with
    | nil =>
      have e : fb [] 0 = 30 := by decide
      rw [e]
      have e1 : rb [] 30 1 = 30 := by decide
      have e2 : rl [] 30 1 = [] := by decide
      have e3 : rt [] 30 1 = [] := by decide
      rw [e1, e2, e3]
      have HN0 := hid (HN.out w 0 h)
      rw [show rt [] 0 1 = [] by decide, show rl [] 0 1 = [] by decide, show rb [] 0 1 = 30 by decide] at HN0
      obtain ⟨a, c, c0, c1, fz⟩ := h.open
      clear h HN e e1 e2 e3 HD
      show Calls Tryz.prog 56 _ w fun r w' => r = .returned (.bool false) ∧ _
      go_enter Tryz.func56, Tryz.ntmps56
      go_wp2_with fail
      refine HN0.out.mono ?_
      rintro e w1 ⟨rfl, hR1, hg1⟩
      have HR1 := hid hR1
      have HG1 := hid hg1
      clear hR1 hg1
      go_wp2_with fail
      go_ret
      exact ⟨rfl, HR1.out, HG1.out⟩
    | cons x r =>
      have ex : rt (x :: r) 0 1 = [x] := (rb_good (l := x :: r) (n := 1) (by simp)).2.1
      have eb : rb (x :: r) 0 1 = 0 := (rb_good (l := x :: r) (n := 1) (by simp)).1
      have enx : numL [x] = x.toNat := by simp [numL]
      obtain ⟨v, hh, hv, hF, hl⟩ := h
      obtain ⟨c0, c1, fz⟩ := cells2 hh
      obtain ⟨a, b', off, c, rfl, hlc, hnn, ha, hcell⟩ := hv
      obtain ⟨rfl, hb', _⟩ := ha (by simp)
      have cx := hcell 0 (by simp)
      rw [Nat.add_zero] at cx
      have hx0 := u8_bd x
      obtain ⟨n, hn⟩ : ∃ n, (x :: r).length = n := ⟨_, rfl⟩
      have hn0 : 0 < n := by rw [← hn]; simp
      have cx2 : w.cell? ⟨b', off, none⟩ = some (.int .u8 (x.toNat : Int)) := cx
      rw [hn] at c0 hl
      clear hh hcell ha hnn hlc cx hl
      by_cases hx : 1 < x.toNat
      · have e : fb (x :: r) 0 = 34 := by unfold fb; rw [ex, eb, enx, if_pos hx]; rfl
        rw [e]
        have HN1 := hid (HN.out (w.setCell ⟨d, 1, none⟩ (.int .i64 34)) 34 HR.out.setBad)
        have hx' : 1 < (x.toNat : Int) := by omega
        have HDD := HD (numL (rt (x :: r) 34 1))
        rw [HDD]
        clear HN e HDD HD
        generalize numL (rt (x :: r) 34 1) = N1 at *
        go_enter Tryz.func56, Tryz.ntmps56
        go_wp2_with fail
        refine HN1.out.mono ?_
        rintro e w1 ⟨rfl, hR1, hg1⟩
        have HR1 := hid hR1
        have HG1 := hid (gtrans (gset w ⟨d, 1, none⟩ (.int .i64 34)) hg1)
        clear hR1 hg1
        go_wp2_with fail
        go_ret
        exact ⟨rfl, HR1.out, HG1.out⟩
      · have e : fb (x :: r) 0 = 0 := by unfold fb; rw [ex, eb, enx, if_neg hx]
        rw [e]
        have HN1 := hid (HN.out w 0 HR.out)
        have hx' : ¬ 1 < (x.toNat : Int) := by omega
        have HDD := HD (numL (rt (x :: r) 0 1))
        rw [HDD]
        clear HN e HDD HD ex eb
        generalize numL (rt (x :: r) 0 1) = N1 at *
        go_enter Tryz.func56, Tryz.ntmps56
        go_wp2_with fail
        refine HN1.out.mono ?_
        rintro e w1 ⟨rfl, hR1, hg1⟩
        have HR1 := hid hR1
        have HG1 := hid hg1
        clear hR1 hg1
        go_wp2_with fail
        go_ret
        exact ⟨rfl, HR1.out, HG1.out⟩
  · have e : fb l bad = bad := by
      unfold fb
      rw [(rb_bad (l := l) (n := 1) hb).2.1, if_neg (by decide), (rb_bad (l := l) (n := 1) hb).1]
    rw [e]
    have HN1 := hid (HN.out w bad h)
    have hb' : ¬ (bad : Int) = 0 := by omega
    obtain ⟨a, c, c0, c1, fz⟩ := h.open
    have HDD := HD (numL (rt l bad 1))
    rw [HDD]
    clear h HN e HDD HD
    generalize numL (rt l bad 1) = N1 at *
    go_enter Tryz.func56, Tryz.ntmps56
    go_wp2_with fail
    refine HN1.out.mono ?_
    rintro e w1 ⟨rfl, hR1, hg1⟩
    have HR1 := hid hR1
    have HG1 := hid hg1
    clear hR1 hg1
    go_wp2_with fail
    go_ret
    exact ⟨rfl, HR1.out, HG1.out⟩
theorem built114 (a : Option Addr) (n c : Nat) : Tryz.prog.built 114 [(0, .slice a n c)] = some [Value.slice a n c, .int .i64 0].toArray := by kernel_rfl
set_option maxRecDepth 100000 in
theorem rvfrom_any (w : World) (F : Nat → Prop) (v : Value) (l : List UInt8) (hv : Rd w F v l) (hl : l.length ≤ 17592186044416) :
    Calls Tryz.prog 13 #[v] w fun r w' => ∃ d, r = .returned (.pointer (some ⟨d, 0, none⟩)) ∧ w.heap.size ≤ d ∧ Rv w' d (fun g => w.heap.size ≤ g ∧ g ≠ d) l 0 ∧ w.grownBy w' none := by
  have HC := hid (copyC hl hv w (grefl _ _))
  clear hv
  go_enter Tryz.func13, Tryz.ntmps13
  go_wp2_with (go_at_call 51; refine (HC.out).mono ?_; rintro e w1 ⟨v1, rfl, hO1, hg1⟩; have HO1 := hid hO1; have HG1 := hid hg1; obtain ⟨a1, b1, o1, c1, rfl, -⟩ := hO1.rd; clear hO1 hg1)
  go_ret
  refine ⟨_, rfl, HG1.out.size, ⟨_, heap_new _ _ _, ?_, (fun h => h.2 rfl), by omega⟩, gtrans HG1.out (galloc _ _ _)⟩
  exact (HO1.out.rd.mono (G := fun g => w.heap.size ≤ g ∧ g ≠ w1.heap.size) (fun k hk h => ⟨h, by omega⟩)).keep (galloc _ _ _)
theorem Out.low {B B' : Nat} {w : World} {v : Value} {l : List UInt8} (h : Out B w v l) (hb : B' ≤ B) : Out B' w v l := by
  refine ⟨h.1, ?_⟩
  rcases h.2 with h5 | ⟨g, cap, cur, hv, hg, r⟩
  · exact Or.inl h5
  · exact Or.inr ⟨g, cap, cur, hv, Nat.le_trans hb hg, r⟩
theorem row_bad {l : List UInt8} {bad : Nat} (h : bad ≠ 0) : rowT l bad = [] ∧ rowL l bad = l ∧ rowE l bad = bad := by
  have e : rowB l bad = bad := by
    unfold rowB
    rw [(rb_bad (l := l) (n := 4) h).2.1, if_neg (by decide), (rb_bad (l := l) (n := 4) h).1]
  unfold rowT rowL rowE
  rw [e, (rb_bad (l := l) (n := rowN l bad) h).1, (rb_bad (l := l) (n := rowN l bad) h).2.1, (rb_bad (l := l) (n := rowN l bad) h).2.2]
  exact ⟨rfl, rfl, rfl⟩
theorem row_of {l : List UInt8} {B : Nat} (hB : rowB l 0 = B) (h : B ≠ 0) : rowT l 0 = [] ∧ rowL l 0 = l ∧ rowE l 0 = B := by
  unfold rowT rowL rowE
  rw [hB, (rb_bad (l := l) (n := rowN l 0) h).1, (rb_bad (l := l) (n := rowN l 0) h).2.1, (rb_bad (l := l) (n := rowN l 0) h).2.2]
  exact ⟨rfl, rfl, rfl⟩
theorem row_short {l : List UInt8} (h : l.length < 4) : rowT l 0 = [] ∧ rowL l 0 = l ∧ rowE l 0 = 30 :=
  row_of (by unfold rowB; rw [(rb_short h).2.1, if_neg (by decide), (rb_short h).1]) (by decide)
theorem row_long {l : List UInt8} (h : 4 ≤ l.length) (hn : 1048576 < numL (l.take 4)) : rowT l 0 = [] ∧ rowL l 0 = l ∧ rowE l 0 = 31 :=
  row_of (by unfold rowB; rw [(rb_good h).2.1, if_pos hn, (rb_good h).1]; rfl) (by decide)
theorem row_lack {l : List UInt8} (h : 4 ≤ l.length) (hn : ¬ 1048576 < numL (l.take 4)) (hl : l.length < 4 + numL (l.take 4)) : rowT l 0 = [] ∧ rowL l 0 = l ∧ rowE l 0 = 30 := by
  have e : rowB l 0 = 0 := by unfold rowB; rw [(rb_good h).2.1, if_neg hn, (rb_good h).1]
  have e2 : rowN l 0 = 4 + numL (l.take 4) := by unfold rowN; rw [(rb_good h).2.1]
  unfold rowT rowL rowE
  rw [e, e2, (rb_short hl).1, (rb_short hl).2.1, (rb_short hl).2.2]
  exact ⟨rfl, rfl, rfl⟩
theorem row_good {l : List UInt8} (h : 4 ≤ l.length) (hn : ¬ 1048576 < numL (l.take 4)) (hl : 4 + numL (l.take 4) ≤ l.length) : rowT l 0 = (l.drop 4).take (numL (l.take 4)) ∧ rowL l 0 = (l.drop 4).drop (numL (l.take 4)) ∧ rowE l 0 = 0 := by
  have e : rowB l 0 = 0 := by unfold rowB; rw [(rb_good h).2.1, if_neg hn, (rb_good h).1]
  have e2 : rowN l 0 = 4 + numL (l.take 4) := by unfold rowN; rw [(rb_good h).2.1]
  unfold rowT rowL rowE
  rw [e, e2, (rb_good hl).1, (rb_good hl).2.1, (rb_good hl).2.2]
  refine ⟨?_, ?_, rfl⟩
  · rw [List.drop_take, Nat.add_sub_cancel_left]
  · rw [List.drop_drop]
set_option maxRecDepth 100000 in
set_option maxHeartbeats 2000000 in
theorem rvbytes_any (w : World) (d : Nat) (F : Nat → Prop) (l : List UInt8) (bad : Nat) (h : Rv w d F l bad) :
    Calls Tryz.prog 58 #[.pointer (some ⟨d, 0, none⟩)] w fun r w' => ∃ v, r = .returned v ∧ Out w.heap.size w' v (rowT l bad) ∧ Rv w' d F (rowL l bad) (rowE l bad) ∧ w.grownBy w' (some d) := by
  have HR := hid h
  by_cases hb : bad = 0
  · subst hb
    by_cases h4 : l.length < 4
    · obtain ⟨e1, e2, e3⟩ := row_short h4
      rw [e1, e2, e3]
      have h4' : (l.length : Int) < 4 := by omega
      obtain ⟨a, c, c0, c1, fz⟩ := h.open
      clear h e1 e2 e3
      go_enter Tryz.func58, Tryz.ntmps58
      go_wp2_with fail
      go_ret
      exact ⟨_, rfl, Out.nil _ _, HR.out.setBad, gset _ _ _⟩
    · have h4n : 4 ≤ l.length := by omega
      have HOf : Hid (∀ v, Rd w F v (l.take 4) → Calls Tryz.prog 114 #[v] w fun e w' => e = .returned (.int .u64 (numL (l.take 4))) ∧ w.grownBy w' none) := hid (fun v hv => ofC (by rw [List.length_take]; omega) hv w (grefl _ _))
      have hN : numL (l.take 4) < 4294967296 := by
        have := numL_lt 4 (l.take 4) (by rw [List.length_take]; omega)
        exact this
      obtain ⟨v, hh, hv, hF, hl⟩ := h
      obtain ⟨c0, c1, fz⟩ := cells2 hh
      obtain ⟨a, b', off, c, rfl, hlc, hnn, ha, hcell⟩ := hv
      have HOf2 := hid (HOf.out _ (Rd.head hlc hnn ha hcell 4 h4n))
      obtain ⟨rfl, hb', hFb⟩ := ha (by omega)
      have h4' : ¬ (l.length : Int) < 4 := by omega
      have h4'' : 4 ≤ c := by omega
      have h4c : (4 : Int) ≤ (c : Int) := by omega
      clear hh ha hcell hnn HOf
      have HS1 : Hid (1048576 < numL (l.take 4) → rowT l 0 = [] ∧ rowL l 0 = l ∧ rowE l 0 = 31) := hid (row_long h4n)
      have HS2 : Hid (¬ 1048576 < numL (l.take 4) → l.length < 4 + numL (l.take 4) → rowT l 0 = [] ∧ rowL l 0 = l ∧ rowE l 0 = 30) := hid (row_lack h4n)
      have HS3 : Hid (¬ 1048576 < numL (l.take 4) → 4 + numL (l.take 4) ≤ l.length → rowT l 0 = (l.drop 4).take (numL (l.take 4)) ∧ rowL l 0 = (l.drop 4).drop (numL (l.take 4)) ∧ rowE l 0 = 0) := hid (row_good h4n)
      generalize numL (l.take 4) = N at *
      by_cases hx : 1048576 < N
      · obtain ⟨e1, e2, e3⟩ := HS1.out hx
        rw [e1, e2, e3]
        have hx' : 1048576 < (N : Int) := by omega
        clear e1 e2 e3 HS1 HS2 HS3 hlc hN
        go_enter Tryz.func58, Tryz.ntmps58
        go_wp2_with fail
        refine HOf2.out.mono ?_
        rintro e w1 ⟨rfl, hg1⟩
        have HR1 := hid (HR.out.keep hg1)
        have HG1 := hid hg1
        obtain ⟨a1, k1, d0, d1, dz⟩ := HR1.out.open
        clear hg1
        go_wp2_with fail
        go_ret
        exact ⟨_, rfl, Out.nil _ _, HR1.out.setBad, gtrans (gsome HG1.out _) (gset _ _ _)⟩
      · have hx' : ¬ 1048576 < (N : Int) := by omega
        by_cases hy : l.length < 4 + N
        · obtain ⟨e1, e2, e3⟩ := HS2.out hx hy
          rw [e1, e2, e3]
          have hy' : (l.length : Int) - 4 < (N : Int) := by omega
          have hl5 : (l.length : Int) ≤ 140737488355328 := by omega
          have hl6 : 4 ≤ (l.length : Int) := by omega
          clear e1 e2 e3 HS1 HS2 HS3 hlc hN
          go_enter Tryz.func58, Tryz.ntmps58
          go_wp2_with fail
          refine HOf2.out.mono ?_
          rintro e w1 ⟨rfl, hg1⟩
          have HR1 := hid (HR.out.keep hg1)
          have HG1 := hid hg1
          obtain ⟨a1, k1, d0, d1, dz⟩ := HR1.out.open
          clear hg1
          generalize (l.length : Int) = LL at *
          go_wp2_with fail
          go_ret
          exact ⟨_, rfl, Out.nil _ _, HR1.out.setBad, gtrans (gsome HG1.out _) (gset _ _ _)⟩
        · obtain ⟨e1, e2, e3⟩ := HS3.out hx (by omega)
          rw [e1, e2, e3]
          have hy' : ¬ (l.length : Int) - 4 < (N : Int) := by omega
          have hl5 : (l.length : Int) ≤ 140737488355328 := by omega
          have hl6 : 4 ≤ (l.length : Int) := by omega
          have HT4 : Hid (∀ u, Rv u d F l 0 → Calls Tryz.prog 115 #[.pointer (some ⟨d, 0, none⟩), .int .i64 4] u fun r w' => ∃ v, r = .returned v ∧ Rd w' F v (l.take 4) ∧ Rv w' d F (l.drop 4) 0 ∧ u.grownBy w' (some d)) := hid (fun u hu => rvtake_any u d F l 0 4 hu h4n)
          have HTN : Hid (∀ u, Rv u d F (l.drop 4) 0 → Calls Tryz.prog 115 #[.pointer (some ⟨d, 0, none⟩), .int .i64 (N : Int)] u fun r w' => ∃ v, r = .returned v ∧ Rd w' F v ((l.drop 4).take N) ∧ Rv w' d F ((l.drop 4).drop N) 0 ∧ u.grownBy w' (some d)) := hid (fun u hu => rvtake_any u d F (l.drop 4) 0 N hu (by rw [List.length_drop]; omega))
          have HCp : Hid (∀ u v, Rd u F v ((l.drop 4).take N) → Calls Tryz.prog 51 #[v] u fun e w' => ∃ v', e = .returned v' ∧ Out u.heap.size w' v' ((l.drop 4).take N) ∧ u.grownBy w' none) := hid (fun u v hv => copyC (by rw [List.length_take]; omega) hv u (grefl _ _))
          clear e1 e2 e3 HS1 HS2 HS3 hlc
          go_enter Tryz.func58, Tryz.ntmps58
          go_wp2_with fail
          refine HOf2.out.mono ?_
          rintro e w1 ⟨rfl, hg1⟩
          have HR1 := hid (HR.out.keep hg1)
          have HG1 := hid hg1
          obtain ⟨a1, k1, d0, d1, dz⟩ := HR1.out.open
          clear hg1
          generalize (l.length : Int) = LL at *
          go_wp2_with fail
          refine (HT4.out _ HR1.out).mono ?_
          rintro e w2 ⟨v2, rfl, hv2, hR2, hg2⟩
          have HR2 := hid hR2
          have HG2 := hid (gtrans (gsome HG1.out (some d)) hg2)
          clear hv2 hR2 hg2 d0 d1 dz
          go_wp2_with fail
          refine (HTN.out _ HR2.out).mono ?_
          rintro e w3 ⟨v3, rfl, hv3, hR3, hg3⟩
          have HR3 := hid hR3
          have HG3 := hid (gtrans HG2.out hg3)
          have HC3 := hid (HCp.out _ _ hv3)
          clear hv3 hR3 hg3
          go_wp2_with fail
          refine HC3.out.mono ?_
          rintro e w4 ⟨v4, rfl, hO4, hg4⟩
          have HR4 := hid (HR3.out.keep hg4)
          have HO4 := hid (Out.low hO4 HG3.out.size)
          have HG4 := hid (gtrans HG3.out (gsome hg4 _))
          clear hO4 hg4
          go_wp2_with fail
          go_ret
          exact ⟨_, rfl, HO4.out, HR4.out, HG4.out⟩
  · obtain ⟨e1, e2, e3⟩ := row_bad (l := l) hb
    rw [e1, e2, e3]
    have hb' : ¬ (bad : Int) = 0 := by omega
    obtain ⟨a, c, c0, c1, fz⟩ := h.open
    clear h e1 e2 e3
    go_enter Tryz.func58, Tryz.ntmps58
    go_wp2_with fail
    go_ret
    exact ⟨_, rfl, Out.nil _ _, HR.out, grefl _ _⟩
set_option maxRecDepth 100000 in
theorem rvtext_any (w : World) (d : Nat) (F : Nat → Prop) (l : List UInt8) (bad : Nat) (h : Rv w d F l bad) :
    Calls Tryz.prog 59 #[.pointer (some ⟨d, 0, none⟩)] w fun r w' => r = .returned (.string (str (rowT l bad))) ∧ Rv w' d F (rowL l bad) (rowE l bad) ∧ w.grownBy w' (some d) := by
  have HB := hid (rvbytes_any w d F l bad h)
  clear h
  go_enter Tryz.func59, Tryz.ntmps59
  go_wp2_with (go_at_call 58; refine (HB.out).mono ?_; rintro e w1 ⟨v1, rfl, hO1, hR1, hg1⟩; have HR1 := hid hR1; have HG1 := hid hg1; have k1 := hO1.rd.convert; clear hO1 hR1 hg1)
  go_ret
  exact ⟨rfl, HR1.out, HG1.out⟩
end Go.Proofs.YtfalgjdhdgkbfaaGreatDoor
