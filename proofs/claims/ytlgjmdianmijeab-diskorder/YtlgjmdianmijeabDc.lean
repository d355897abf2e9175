/- used, write. -/
import Derived.Test.YtlgjmdianmijeabDb
import Derived.Maps.RangeRun
namespace Go.Proofs.Ytlgjmdianmijeab
open Go Go.RowKit Go.ChangeMaps
open Go.RowKit (wrap32 wrap64)

/-- A slice's length; 0 of anything else. -/
def lenOf : Value → Int | .slice _ n _ => n | _ => 0
def seenLen : List MapEntry → Array Nat → Int
  | [], _ => 0
  | x :: l, seen => (if seen.contains x.born then lenOf x.val else 0) + seenLen l seen
theorem seenLen_other (seen : Array Nat) (b : Nat) : ∀ (es : List MapEntry), b ∉ es.map (·.born) → seenLen es (seen.push b) = seenLen es seen
  | [], _ => rfl
  | x :: l, h => by
    have hx : (x.born == b) = false := by
      cases hc : x.born == b with
      | false => rfl
      | true => exact absurd (List.mem_cons.2 (Or.inl (beq_iff_eq.1 hc).symm)) h
    have ih := seenLen_other seen b l (fun e => h (List.mem_cons.2 (Or.inr e)))
    simp only [seenLen, contains_push, hx, Bool.or_false, ih]
theorem seenLen_push (seen : Array Nat) (e : MapEntry) (hs : seen.contains e.born = false) : ∀ (es : List MapEntry), (es.map (·.born)).Nodup → e ∈ es → seenLen es (seen.push e.born) = seenLen es seen + lenOf e.val
  | x :: l, hn, he => by
    have hn' : x.born ∉ l.map (·.born) ∧ (l.map (·.born)).Nodup := List.nodup_cons.1 hn
    rcases List.mem_cons.1 he with rfl | h
    · simp only [seenLen, contains_push, hs, beq_self_eq_true, Bool.or_true, if_true, Bool.false_eq_true, if_false, seenLen_other seen e.born l hn'.1]
      omega
    · have hx : (x.born == e.born) = false := by
        cases hc : x.born == e.born with
        | false => rfl
        | true => exact absurd (by rw [beq_iff_eq.1 hc]; exact List.mem_map.2 ⟨e, h, rfl⟩) hn'.1
      simp only [seenLen, contains_push, hx, Bool.or_false, seenLen_push seen e hs l hn'.2 h]
      omega
theorem seenLen_full (seen : Array Nat) : ∀ (es : List MapEntry), (∀ x ∈ es, seen.contains x.born = true) → seenLen es seen = (es.map fun e => lenOf e.val).sum
  | [], _ => rfl
  | x :: l, h => by
    simp only [seenLen, h x (List.mem_cons.2 (Or.inl rfl)), if_true, List.map_cons, List.sum_cons, seenLen_full seen l (fun y hy => h y (List.mem_cons.2 (Or.inr hy)))]
theorem seenLen_none : ∀ (es : List MapEntry), seenLen es #[] = 0
  | [] => rfl
  | x :: l => by
    have : (#[] : Array Nat).contains x.born = false := by simp
    simp only [seenLen, this, Bool.false_eq_true, if_false, seenLen_none l]
    rfl
/-- How many bytes all files have. -/
def usedF (F : List Fl) : Nat := (F.map (fun f => f.bs.length)).sum
theorem Out.len {B : Nat} {w : World} {v : Value} {l : List UInt8} (h : Out B w v l) : ∃ a c, v = .slice a l.length c := by
  obtain ⟨a, b, off, c, hv, _⟩ := h.rd
  exact ⟨a, c, hv⟩
theorem sum_used : ∀ (l : List MapEntry) (F : List Fl), l.map kv = F.map entF → (∀ f ∈ F, ∃ a c, f.v = .slice a f.bs.length c) → (l.map fun e => lenOf e.val).sum = (usedF F : Int)
  | [], [], _, _ => rfl
  | [], _ :: _, h, _ => by cases h
  | _ :: _, [], h, _ => by cases h
  | e :: l, f :: F, h, hf => by
    simp only [List.map_cons, List.cons.injEq] at h
    have hv : e.val = f.v := congrArg Prod.snd h.1
    obtain ⟨a, c, ha⟩ := hf f (List.mem_cons_self ..)
    have ih := sum_used l F h.2 (fun g hg => hf g (List.mem_cons_of_mem _ hg))
    simp only [List.map_cons, List.sum_cons]
    rw [ih, hv, ha]
    unfold usedF
    simp only [List.map_cons, List.sum_cons, lenOf]
    omega
variable {w w' : World} {B b m : Nat} {lk room : Int} {off : Bool} {wr ar kp : Int} {F : List Fl}
set_option maxRecDepth 1000000 in
set_option maxHeartbeats 1600000 in
theorem used_any (h : Dk w B b m lk room off wr ar kp F) (hU : usedF F ≤ 1099511627776) : Calls Try.prog 38 #[.pointer (some ⟨b, 0, none⟩)] w fun e w' => e = .returned (.int .i64 (usedF F : Nat)) ∧ w.grownBy w' none := by
  have y3 := h.c.2.2.1
  have HF : Hid (∀ f ∈ F, ∃ a c, f.v = .slice a f.bs.length c) := hid (fun f hf => (h.own f hf).len)
  obtain ⟨es, clock, hb, hst, hF⟩ := h.map
  have HKF := hid hF
  have hrg := run_range_map (P := Try.prog) w 62 9 26 m es clock Try.underlying62 hb
  have HTot : Hid ((es.toList.map fun e => lenOf e.val).sum = (usedF F : Int)) := hid (sum_used es.toList F hF HF.out)
  have hv : ∀ x ∈ es.toList, ∃ a n c, x.val = .slice a n c := fun x hx => by
    have hm : kv x ∈ F.map entF := by rw [← hF]; exact List.mem_map.2 ⟨x, hx, rfl⟩
    obtain ⟨f, hf, he⟩ := List.mem_map.1 hm
    obtain ⟨a, c, hfc⟩ := HF.out f hf
    exact ⟨a, _, c, by rw [← hfc]; exact (congrArg Prod.snd he).symm⟩
  have HV := hid hv
  have HU := hid hU
  clear hv hU h hF
  have HW : Hid (∀ r : Nat, w.heap.size = r → w.grownBy (w.alloc (.mapIter (some m) clock #[] clock)) none ∧ (w.alloc (.mapIter (some m) clock #[] clock)).heap[r]? = some (.mapIter (some m) clock #[] clock)) := hid (fun r hr => ⟨galloc _ _ _, by rw [← hr]; exact heap_alloc_new w _⟩)
  obtain ⟨W0, hW0⟩ : ∃ x, w.alloc (.mapIter (some m) clock #[] clock) = x := ⟨_, rfl⟩
  obtain ⟨r, hr⟩ : ∃ x, w.heap.size = x := ⟨_, rfl⟩
  rw [hW0] at HW
  rw [hW0, hr] at hrg
  have HW0 := hid (HW.out r hr)
  have HR := hid hr
  have HB := hid hb
  have HSt := hid hst
  clear HW hW0 hr hb hst
  go_enter Try.func38, Try.ntmps38
  go_wp2
  go_loopw [3] (fun s w' => ∃ seen : Array Nat, s = .int .i64 (wrap64 (seenLen es.toList seen)) ∧ Hid (w.grownBy w' none ∧ w'.heap[r]? = some (.mapIter (some m) clock seen clock))) (fun _ w' => (leftOf es (w'.iterSeen r)).size)
  case atStart => exact ⟨#[], by rw [seenLen_none]; congr 1; simp [wrap64], HW0⟩
  case round =>
    obtain ⟨seen, rfl, HI⟩ := hrel
    have hb1 : wr.heap[m]? = some (.map es clock) := heap_at HI.out.1 (by simp) HB.out
    have law := run_next_at (P := Try.prog) wr 0 r m clock clock seen es clock HI.out.2 hb1 HSt.out.1 (Nat.le_refl _)
    rcases law with ⟨h0, hrun⟩ | ⟨e, he, w1, hw1, hrun⟩
    · have hnx : ∀ ty, (Instr.next (.pointer (some ⟨r, 0, none⟩)) false ty).run Try.prog wr = _ := fun _ => hrun
      have HT : Hid (wrap64 (seenLen es.toList seen) = (usedF F : Int)) := hid (by
        have hu := HU.out
        rw [seenLen_full seen es.toList (all_seen es seen h0), HTot.out]
        simp only [wrap64]
        omega)
      rw [HT.out]
      clear hb1 hrun h0
      go_wp2
      go_ret
      exact ⟨rfl, HI.out.1⟩
    · obtain ⟨a, n, c, hval⟩ := HV.out e (mem_left he).1
      rw [hval] at hrun
      obtain ⟨W2, hW2⟩ : ∃ x, setBlock w1 r (.mapIter (some m) clock (seen.push e.born) clock) = x := ⟨_, rfl⟩
      rw [hW2] at hrun
      have hrl : r < wr.heap.size := (Array.getElem?_eq_some_iff.1 HI.out.2).1
      have HI2 : Hid (w.grownBy W2 none ∧ W2.heap[r]? = some (.mapIter (some m) clock (seen.push e.born) clock)) := hid (by
        have g1 : wr.grownBy w1 none := by rcases hw1 with rfl | rfl; exact grefl _ _; exact gdrew wr 1 none
        have hr1 : r < w1.heap.size := Nat.lt_of_lt_of_le hrl g1.size
        rw [← hW2]
        refine ⟨?_, by unfold setBlock; simp [hr1]⟩
        refine (gtrans HI.out.1 g1).andThen (row' := some r) ⟨rfl, rfl, rfl, by unfold setBlock; simp, fun k hk hne => ?_⟩ (fun j hj => .inl (by injection hj with hj; rw [HR.out]; omega))
        have : r ≠ k := fun q => hne (by rw [q])
        unfold setBlock
        simp [this])
      have hb2 : W2.heap[m]? = some (.map es clock) := heap_at HI2.out.1 (by simp) HB.out
      have hen := run_entry_at (P := Try.prog) W2 r m clock seen es clock e HI2.out.2 hb2 (mem_left he).1 HSt.out.2.1
      rw [hval] at hen
      have hnx : ∀ ty, (Instr.next (.pointer (some ⟨r, 0, none⟩)) false ty).run Try.prog wr = _ := fun _ => hrun
      have HP : Hid (seenLen es.toList (seen.push e.born) = seenLen es.toList seen + (n : Int)) := hid (by rw [seenLen_push seen e (mem_left he).2 es.toList HSt.out.2.1 (mem_left he).1, hval]; rfl)
      have HM : Hid ((leftOf es (W2.iterSeen r)).size < (leftOf es (wr.iterSeen r)).size) := hid (by
        have e1 : W2.iterSeen r = seen.push e.born := by unfold World.iterSeen; rw [HI2.out.2]
        have e2 : wr.iterSeen r = seen := by unfold World.iterSeen; rw [HI.out.2]
        rw [e1, e2]
        exact left_shrinks es seen e he)
      obtain ⟨S, hS⟩ : ∃ x, seenLen es.toList seen = x := ⟨_, rfl⟩
      rw [hS] at HP ⊢
      clear hb1 hb2 hrun hW2 hw1 hS hval
      go_wp2
      go_roundw
      case rel =>
        refine ⟨seen.push e.born, ?_, HI2⟩
        rw [HP.out]
        have e3 : ∀ x v : Int, wrap64 (wrap64 x + v) = wrap64 (x + v) := fun x v => by
          simp only [wrap64]
          omega
        rw [e3]
      case measure => exact HM.out
theorem run_max (a b : Int) (ty : TypeId) (u : World) : (Builtin.max_ #[3, 3] ty #[.int .i64 a, .int .i64 b]).run Try.prog u = .ok (.int .i64 (max a b)) u := by
  simp [Builtin.max_, Builtin.max2]
  split <;> omega
theorem run_min (a b : Int) (ty : TypeId) (u : World) : (Builtin.min_ #[3, 3] ty #[.int .i64 a, .int .i64 b]).run Try.prog u = .ok (.int .i64 (min a b)) u := by
  simp [Builtin.min_, Builtin.min2]
  split <;> omega
/-- What becomes of the how-manieth write is torn. -/
def wA (ar : Int) : Int := if ar = 1 then 0 else max (ar - 1) 0
def wK (ar kp : Int) : Int := if ar = 1 then kp else 9223372036854775807
def wE (ar : Int) : Int := if ar = 1 then 94 else 0
def wO (ar : Int) (off : Bool) : Bool := if ar = 1 then true else off
set_option maxRecDepth 100000 in
set_option maxHeartbeats 1600000 in
theorem write_any (h : Dk w B b m lk room off wr ar kp F) (hw : 0 ≤ wr ∧ wr ≤ 4611686018427387904) (ha : 0 ≤ ar ∧ ar ≤ 9223372036854775807) : Calls Try.prog 34 #[.pointer (some ⟨b, 0, none⟩)] w fun e w' => e = .returned (.tuple #[.int .i64 (wK ar kp), .int .i64 (wE ar)]) ∧ Dk w' B b m lk room (wO ar off) (wr + 1) (wA ar) kp F ∧ w.grownBy w' (some b) := by
  obtain ⟨y0, y2, y3, y4, y5, y6, y7⟩ := h.c
  have f4 := h.blk.frozen 4
  have f5 := h.blk.frozen 5
  have f6 := h.blk.frozen 6
  have hwr : IntKind.i64.wrap (wr + 1) = wr + 1 := by rw [IntKind.wrap_i64]; omega
  obtain ⟨w1, hw1⟩ : ∃ x, w.setCell ⟨b, 5, none⟩ (.int .i64 (wr + 1)) = x := ⟨_, rfl⟩
  have g1 : w.grownBy w1 (some b) := by rw [← hw1]; exact gset _ _ _
  have b1 : Blk w1 b (dkc lk room m off (wr + 1) ar kp) 64 := by rw [← hw1]; exact h.blk.set 5 _
  have HD1 := hid (h.blk' g1 b1)
  have HG1 := hid g1
  have HB1 := hid b1
  obtain ⟨z0, z2, z3, z4, z5, z6, z7⟩ := HD1.out.c
  have q4 := b1.frozen 4
  have q6 := b1.frozen 6
  unfold wK wE wA wO
  clear g1 b1 h y0 y2 y3 y4 y6 y7 f4 f6 z0 z2 z3 z5
  by_cases e1 : ar = 1
  · subst e1
    obtain ⟨w2, hw2⟩ : ∃ x, w1.setCell ⟨b, 6, none⟩ (.int .i64 0) = x := ⟨_, rfl⟩
    have g2 : w1.grownBy w2 (some b) := by rw [← hw2]; exact gset _ _ _
    have b2 : Blk w2 b (dkc lk room m off (wr + 1) 0 kp) 64 := by rw [← hw2]; exact HB1.out.set 6 _
    have HD2 := hid (HD1.out.blk' g2 b2)
    have p4 := HD2.out.c.2.2.2.1
    have r4 := b2.frozen 4
    obtain ⟨w3, hw3⟩ : ∃ x, w2.setCell ⟨b, 4, none⟩ (.bool true) = x := ⟨_, rfl⟩
    have g3 : w2.grownBy w3 (some b) := by rw [← hw3]; exact gset _ _ _
    have b3 : Blk w3 b (dkc lk room m true (wr + 1) 0 kp) 64 := by rw [← hw3]; exact b2.set 4 _
    have HD3 := hid (HD2.out.blk' g3 b3)
    have HG3 := hid (gtrans (gtrans HG1.out g2) g3)
    have p7 := HD3.out.c.2.2.2.2.2.2
    clear g2 b2 g3 b3 HD1 HD2 HB1 HG1
    go_enter Try.func34, Try.ntmps34
    go_wp2
    refine bodyPost_ret (results_tmp2 rfl _ _ _) rfl ?_
    exact ⟨rfl, HD3.out, HG3.out⟩
  · have e2 : (ar == 1) = false := beq_eq_false_iff_ne.2 e1
    have hwa : IntKind.i64.wrap (ar - 1) = ar - 1 := by rw [IntKind.wrap_i64]; omega
    obtain ⟨M, hM⟩ : ∃ x : Int, max (ar - 1) 0 = x := ⟨_, rfl⟩
    rw [if_neg e1, if_neg e1, if_neg e1, if_neg e1, hM]
    obtain ⟨w2, hw2⟩ : ∃ x, w1.setCell ⟨b, 6, none⟩ (.int .i64 M) = x := ⟨_, rfl⟩
    have g2 : w1.grownBy w2 (some b) := by rw [← hw2]; exact gset _ _ _
    have b2 : Blk w2 b (dkc lk room m off (wr + 1) M kp) 64 := by rw [← hw2]; exact HB1.out.set 6 _
    have HD2 := hid (HD1.out.blk' g2 b2)
    have HG2 := hid (gtrans HG1.out g2)
    have hmax : ∀ (ty : TypeId) (u : World), (Builtin.max_ #[3, 3] ty #[.int .i64 (ar - 1), .int .i64 0]).run Try.prog u = .ok (.int .i64 M) u := fun ty u => by rw [← hM]; exact run_max _ _ _ _
    clear g2 b2 HD1 HB1 HG1
    go_enter Try.func34, Try.ntmps34
    go_wp2
    refine bodyPost_ret (results_tmp2 rfl _ _ _) rfl ?_
    exact ⟨rfl, HD2.out, HG2.out⟩
end Go.Proofs.Ytlgjmdianmijeab
