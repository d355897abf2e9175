/- New; Off, On, Writes, Arm, Size, Read: the lock is taken and let go. -/
import Derived.Test.YtlgjmdianmijeabDd
import Derived.Test.YtlgjmdianmijeabLocks
import Derived.Conc.MuLone
import Derived.Defers
namespace Go.Proofs.Ytlgjmdianmijeab
open Go Go.RowKit Go.MuLone
open Go.RowKit (wrap32 wrap64)

variable {w w' : World} {B b m : Nat} {lk room : Int} {off : Bool} {wr ar kp : Int} {F : List Fl}
/-- The lock, taken: the world behind. -/
theorem lock_any (h : Dk w B b m 0 room off wr ar kp F) : Calls Try.prog 28 #[.pointer (some ⟨b, 0, none⟩)] w fun e w' => e = .returned (.tuple #[]) ∧ Dk w' B b m 1 room off wr ar kp F ∧ w.grownBy w' (some b) := by
  refine (lock_free muLib ⟨b, 0, none⟩ w h.c.1 (h.blk.frozen 0)).mono ?_
  rintro e w' ⟨rfl, rfl⟩
  exact ⟨rfl, h.blk' (gset _ _ _) (h.blk.set 0 _), gset _ _ _⟩
/-- .. let go. -/
theorem unlock_any (u : FrameMode) (h : Dk w B b m 1 room off wr ar kp F) : CallsD Try.prog 29 #[.pointer (some ⟨b, 0, none⟩)] u w fun e u' w' => u' = u ∧ (e = .returned (.tuple #[]) ∧ Dk w' B b m 0 room off wr ar kp F ∧ w.grownBy w' (some b)) := by
  refine (unlock_deferred muLib ⟨b, 0, none⟩ u w h.c.1 (h.blk.frozen 0)).mono ?_
  rintro e u' w' ⟨rfl, rfl, rfl⟩
  exact ⟨rfl, rfl, h.blk' (gset _ _ _) (h.blk.set 0 _), gset _ _ _⟩
theorem back_same {cs : List Value} {t : TypeId} (h : Blk w b cs t) (hg : w.grownBy w' (some b)) (h' : Blk w' b cs t) : w.grownBy w' none :=
  ⟨hg.os, hg.tape, hg.output, hg.size, fun k hk _ => by
    by_cases e : k = b
    · subst e; exact h'.trans h.symm
    · exact hg.block k hk (fun q => e (by injection q))⟩
set_option maxRecDepth 100000 in
theorem off_any (h : Dk w B b m 0 room off wr ar kp F) : Calls Try.prog 13 #[.pointer (some ⟨b, 0, none⟩)] w fun e w' => e = .returned (.bool off) ∧ w.grownBy w' none := by
  have HD := hid h
  have HL := hid (lock_any h)
  clear h
  go_enter_defers Try.func13, Try.ntmps13
  go_wp2_with (go_at_call 28; refine HL.out.mono ?_; rintro e w1 ⟨rfl, hd, hg⟩; have HD1 := hid hd; have HG1 := hid hg; have y4 := hd.c.2.2.2.1; clear hd hg)
  refine leaves_cons (f := 29) (args := #[.pointer (some ⟨b, 0, none⟩)]) (by simp) (by simp [go_sem]) ?_
  refine (unlock_any .returning HD1.out).mono ?_
  rintro e u' w2 ⟨rfl, rfl, hd2, hg2⟩
  exact ⟨_, results_tmp rfl _ _ _, rfl, back_same HD.out.blk (gtrans HG1.out hg2) hd2.blk⟩
set_option maxRecDepth 100000 in
theorem writes_any (h : Dk w B b m 0 room off wr ar kp F) : Calls Try.prog 12 #[.pointer (some ⟨b, 0, none⟩)] w fun e w' => e = .returned (.int .i64 wr) ∧ w.grownBy w' none := by
  have HD := hid h
  have HL := hid (lock_any h)
  clear h
  go_enter_defers Try.func12, Try.ntmps12
  go_wp2_with (go_at_call 28; refine HL.out.mono ?_; rintro e w1 ⟨rfl, hd, hg⟩; have HD1 := hid hd; have HG1 := hid hg; have y5 := hd.c.2.2.2.2.1; clear hd hg)
  refine leaves_cons (f := 29) (args := #[.pointer (some ⟨b, 0, none⟩)]) (by simp) (by simp [go_sem]) ?_
  refine (unlock_any .returning HD1.out).mono ?_
  rintro e u' w2 ⟨rfl, rfl, hd2, hg2⟩
  exact ⟨_, results_tmp rfl _ _ _, rfl, back_same HD.out.blk (gtrans HG1.out hg2) hd2.blk⟩
set_option maxRecDepth 100000 in
theorem on_any (h : Dk w B b m 0 room off wr ar kp F) : Calls Try.prog 20 #[.pointer (some ⟨b, 0, none⟩)] w fun e w' => e = .returned (.tuple #[]) ∧ Dk w' B b m 0 room false wr ar kp F ∧ w.grownBy w' (some b) := by
  have HD := hid h
  have HL := hid (lock_any h)
  clear h
  go_enter_defers Try.func20, Try.ntmps20
  go_wp2_with (go_at_call 28; refine HL.out.mono ?_; rintro e w1 ⟨rfl, hd, hg⟩; have HD1 := hid hd; have HG1 := hid hg; have y4 := hd.c.2.2.2.1; have f4 := hd.blk.frozen 4; obtain ⟨w2, hw2⟩ : ∃ x, w1.setCell ⟨b, 4, none⟩ (.bool false) = x := ⟨_, rfl⟩; have HG2 : Hid (w1.grownBy w2 (some b)) := hid (by rw [← hw2]; exact gset _ _ _); have HD2 : Hid (Dk w2 B b m 1 room false wr ar kp F) := hid (HD1.out.blk' HG2.out (by rw [← hw2]; exact HD1.out.blk.set 4 _)); clear hd hg)
  refine leaves_cons (f := 29) (args := #[.pointer (some ⟨b, 0, none⟩)]) (by simp) (by simp [go_sem]) ?_
  refine (unlock_any .returning HD2.out).mono ?_
  rintro e u' w3 ⟨rfl, rfl, hd3, hg3⟩
  exact ⟨_, results_none rfl _ _ _, rfl, hd3, gtrans (gtrans HG1.out HG2.out) hg3⟩
set_option maxRecDepth 100000 in
theorem arm_any (h : Dk w B b m 0 room off wr ar kp F) (n k : Int) : Calls Try.prog 19 #[.pointer (some ⟨b, 0, none⟩), .int .i64 n, .int .i64 k] w fun e w' => e = .returned (.tuple #[]) ∧ Dk w' B b m 0 room off wr (max n 0) k F ∧ w.grownBy w' (some b) := by
  have HD := hid h
  have HL := hid (lock_any h)
  obtain ⟨M, hM⟩ : ∃ x : Int, max n 0 = x := ⟨_, rfl⟩
  have hmax : ∀ (ty : TypeId) (u : World), (Builtin.max_ #[3, 3] ty #[.int .i64 n, .int .i64 0]).run Try.prog u = .ok (.int .i64 M) u := fun ty u => by rw [← hM]; exact run_max _ _ _ _
  rw [hM]
  clear h hM
  go_enter_defers Try.func19, Try.ntmps19
  go_wp2_with (go_at_call 28; refine HL.out.mono ?_; rintro e w1 ⟨rfl, hd, hg⟩; have HD1 := hid hd; have HG1 := hid hg; have y6 := hd.c.2.2.2.2.2.1; have f6 := hd.blk.frozen 6; obtain ⟨w2, hw2⟩ : ∃ x, w1.setCell ⟨b, 6, none⟩ (.int .i64 M) = x := ⟨_, rfl⟩; have HG2 : Hid (w1.grownBy w2 (some b)) := hid (by rw [← hw2]; exact gset _ _ _); have HD2 : Hid (Dk w2 B b m 1 room off wr M kp F) := hid (HD1.out.blk' HG2.out (by rw [← hw2]; exact HD1.out.blk.set 6 _)); have y7 := HD2.out.c.2.2.2.2.2.2; have f7 := HD2.out.blk.frozen 7; obtain ⟨w3, hw3⟩ : ∃ x, w2.setCell ⟨b, 7, none⟩ (.int .i64 k) = x := ⟨_, rfl⟩; have HG3 : Hid (w2.grownBy w3 (some b)) := hid (by rw [← hw3]; exact gset _ _ _); have HD3 : Hid (Dk w3 B b m 1 room off wr M k F) := hid (HD2.out.blk' HG3.out (by rw [← hw3]; exact HD2.out.blk.set 7 _)); clear hd hg)
  refine leaves_cons (f := 29) (args := #[.pointer (some ⟨b, 0, none⟩)]) (by simp) (by simp [go_sem]) ?_
  refine (unlock_any .returning HD3.out).mono ?_
  rintro e u' w4 ⟨rfl, rfl, hd4, hg4⟩
  exact ⟨_, results_none rfl _ _ _, rfl, hd4, gtrans (gtrans (gtrans HG1.out HG2.out) HG3.out) hg4⟩
/-- The bytes that a look tells. -/
def bytesF (off : Bool) (F : List Fl) (s : ByteArray) : List UInt8 := if findE off F s = 0 then (match getF F s with | some f => f.bs | none => []) else []
theorem getF_mem {s : ByteArray} {f : Fl} (h : getF F s = some f) : f ∈ F ∧ f.nm = s := by
  unfold getF at h
  obtain ⟨p, hp, rfl⟩ := Option.map_eq_some_iff.1 h
  obtain ⟨j, g⟩ := p
  obtain ⟨n, h1, h2, h3, _⟩ := fpos_some F s 0 j g hp
  exact ⟨List.mem_of_getElem? h2, h3⟩
theorem Dk.find (h : Dk w B b m lk room off wr ar kp F) (s : ByteArray) : Out B w (findV off F s) (bytesF off F s) := by
  unfold findV bytesF
  by_cases e : findE off F s = 0
  · rw [if_pos e, if_pos e]
    unfold lookV
    cases hg : getF F s with
    | none => exact Out.nil _ _
    | some f => exact h.own f (getF_mem hg).1
  · rw [if_neg e, if_neg e]
    exact Out.nil _ _
set_option maxRecDepth 100000 in
theorem read_any (h : Dk w B b m 0 room off wr ar kp F) (s : ByteArray) (hl : (bytesF off F s).length ≤ 17592186044416) : Calls Try.prog 21 #[.pointer (some ⟨b, 0, none⟩), .string s] w fun e w' => ∃ v, e = .returned (.tuple #[v, .int .i64 (findE off F s)]) ∧ Out w.heap.size w' v (bytesF off F s) ∧ w.grownBy w' none := by
  have HD := hid h
  have HL := hid (lock_any h)
  obtain ⟨a, c, hv⟩ := (h.find s).len
  obtain ⟨l, hl'⟩ : ∃ x, bytesF off F s = x := ⟨_, rfl⟩
  have HO : Hid (∀ u, Dk u B b m 1 room off wr ar kp F → Out B u (findV off F s) l) := hid (fun u hu => by rw [← hl']; exact hu.find s)
  rw [hl'] at hl hv ⊢
  obtain ⟨n, hn⟩ : ∃ x, l.length = x := ⟨_, rfl⟩
  obtain ⟨E, hE⟩ : ∃ x, findE off F s = x := ⟨_, rfl⟩
  rw [hn] at hv
  rw [hv] at HO
  have HF : Hid (∀ u, Dk u B b m 1 room off wr ar kp F → Calls Try.prog 33 #[.pointer (some ⟨b, 0, none⟩), .string s] u fun e w' => e = .returned (.tuple #[.slice a n c, .int .i64 E]) ∧ u.grownBy w' none) := fun u hu => by
    have := find_any hu s
    rw [hv, hE] at this
    exact this
  have HC : Hid (∀ u, Dk u B b m 1 room off wr ar kp F → Calls Try.prog 27 #[.slice a n c] u fun e w' => ∃ v', e = .returned v' ∧ Out u.heap.size w' v' l ∧ u.grownBy w' none) := fun u hu => bclone_any u _ _ l (HO.out u hu).rd (by omega)
  rw [hE]
  clear h hv hn hE hl' hl
  go_enter_defers Try.func21, Try.ntmps21
  go_wp2_with (first
    | (go_at_call 28; refine HL.out.mono ?_; rintro e w1 ⟨rfl, hd, hg⟩; have HD1 := hid hd; have HG1 := hid hg; clear hd hg)
    | (go_at_call 33; refine (HF.out _ HD1.out).mono ?_; rintro e w2 ⟨rfl, hg⟩; have HD2 := hid (HD1.out.keep hg); have HG2 := hid (HG1.out.andThen hg (fun j hj => by cases hj)); clear hg)
    | (go_at_call 27; refine (HC.out _ HD2.out).mono ?_; rintro e w3 ⟨v3, rfl, ho, hg⟩; have HO3 := hid (ho.below (C := w.heap.size) HG2.out.size); have HD3 := hid (HD2.out.keep hg); have HG3 := hid (HG2.out.andThen hg (fun j hj => by cases hj)); clear ho hg))
  refine leaves_cons (f := 29) (args := #[.pointer (some ⟨b, 0, none⟩)]) (by simp) (by simp [go_sem]) ?_
  refine (unlock_any .returning HD3.out).mono ?_
  rintro e u' w4 ⟨rfl, rfl, hd4, hg4⟩
  exact ⟨_, results_tmp2 rfl _ _ _, _, rfl, HO3.out.on hg4 (fun k hk e => by
    injection hk with hk
    have := HO3.out.block k e
    have := HD.out.blk.lt
    omega), back_same HD.out.blk (gtrans HG3.out hg4) hd4.blk⟩
end Go.Proofs.Ytlgjmdianmijeab
