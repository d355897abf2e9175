/- New; Off, On, Writes, Arm, Size, Read: the lock is taken and let go. -/
import Derived.Test.YtpbiofnncdneoaaGreatDoorX03
import Derived.Conc.MuLone
import Derived.Defers
import Derived.Maps.AppendAt
import Derived.Carry
namespace Go.Proofs.YtpbiofnncdneoaaGreatDoor
open Go Go.RowKit Go.MuLone
open Go.RowKit (wrap32 wrap64)

variable {w w' : World} {B b m : Nat} {lk room : Int} {off : Bool} {wr ar kp : Int} {F : List Fl}
/-- The lock, taken: the world behind. -/
theorem lock_any (h : Dk w B b m 0 room off wr ar kp F) : Calls Tryz.prog 52 #[.pointer (some ⟨b, 0, none⟩)] w fun e w' => e = .returned (.tuple #[]) ∧ Dk w' B b m 1 room off wr ar kp F ∧ w.grownBy w' (some b) := by
 refine (lock_free muLib ⟨b, 0, none⟩ w h.c.1 (h.blk.frozen 0)).mono ?_
 rintro e w' ⟨rfl, rfl⟩
 exact ⟨rfl, h.blk' (gset _ _ _) (h.blk.set 0 _), gset _ _ _⟩
/-- .. let go. -/
theorem unlock_any (u : FrameMode) (h : Dk w B b m 1 room off wr ar kp F) : CallsD Tryz.prog 53 #[.pointer (some ⟨b, 0, none⟩)] u w fun e u' w' => u' = u ∧ (e = .returned (.tuple #[]) ∧ Dk w' B b m 0 room off wr ar kp F ∧ w.grownBy w' (some b)) := by
 refine (unlock_deferred muLib ⟨b, 0, none⟩ u w h.c.1 (h.blk.frozen 0)).mono ?_
 rintro e u' w' ⟨rfl, rfl, rfl⟩
 exact ⟨rfl, rfl, h.blk' (gset _ _ _) (h.blk.set 0 _), gset _ _ _⟩
theorem back_same {cs : List Value} {t : TypeId} (h : Blk w b cs t) (hg : w.grownBy w' (some b)) (h' : Blk w' b cs t) : w.grownBy w' none :=
 ⟨hg.os, hg.tape, hg.output, hg.size, fun k hk _ => by
  by_cases e : k = b
  ·subst e; exact h'.trans h.symm
  ·exact hg.block k hk (fun q => e (by injection q))⟩
set_option maxRecDepth 100000 in
theorem off_any (h : Dk w B b m 0 room off wr ar kp F) : Calls Tryz.prog 36 #[.pointer (some ⟨b, 0, none⟩)] w fun e w' => e = .returned (.bool off) ∧ w.grownBy w' none := by
 have HD := hid h
 have HL := hid (lock_any h)
 clear h
 go_enter_defers Tryz.func36, Tryz.ntmps36
 go_wp2_with (go_at_call 52; refine HL.out.mono ?_; rintro e w1 ⟨rfl, hd, hg⟩; have HD1 := hid hd; have HG1 := hid hg; have y4 := hd.c.2.2.2.1; clear hd hg)
 refine leaves_cons (f := 53) (args := #[.pointer (some ⟨b, 0, none⟩)]) (by simp) (by simp [go_sem]) ?_
 refine (unlock_any .returning HD1.out).mono ?_
 rintro e u' w2 ⟨rfl, rfl, hd2, hg2⟩
 exact ⟨_, results_tmp rfl _ _ _, rfl, back_same HD.out.blk (gtrans HG1.out hg2) hd2.blk⟩
set_option maxRecDepth 100000 in
theorem writes_any (h : Dk w B b m 0 room off wr ar kp F) : Calls Tryz.prog 35 #[.pointer (some ⟨b, 0, none⟩)] w fun e w' => e = .returned (.int .i64 wr) ∧ w.grownBy w' none := by
 have HD := hid h
 have HL := hid (lock_any h)
 clear h
 go_enter_defers Tryz.func35, Tryz.ntmps35
 go_wp2_with (go_at_call 52; refine HL.out.mono ?_; rintro e w1 ⟨rfl, hd, hg⟩; have HD1 := hid hd; have HG1 := hid hg; have y5 := hd.c.2.2.2.2.1; clear hd hg)
 refine leaves_cons (f := 53) (args := #[.pointer (some ⟨b, 0, none⟩)]) (by simp) (by simp [go_sem]) ?_
 refine (unlock_any .returning HD1.out).mono ?_
 rintro e u' w2 ⟨rfl, rfl, hd2, hg2⟩
 exact ⟨_, results_tmp rfl _ _ _, rfl, back_same HD.out.blk (gtrans HG1.out hg2) hd2.blk⟩
set_option maxRecDepth 100000 in
theorem on_any (h : Dk w B b m 0 room off wr ar kp F) : Calls Tryz.prog 18 #[.pointer (some ⟨b, 0, none⟩)] w fun e w' => e = .returned (.tuple #[]) ∧ Dk w' B b m 0 room false wr ar kp F ∧ w.grownBy w' (some b) := by
 have HD := hid h
 have HL := hid (lock_any h)
 clear h
 go_enter_defers Tryz.func18, Tryz.ntmps18
 go_wp2_with (go_at_call 52; refine HL.out.mono ?_; rintro e w1 ⟨rfl, hd, hg⟩; have HD1 := hid hd; have HG1 := hid hg; have y4 := hd.c.2.2.2.1; have f4 := hd.blk.frozen 4; obtain ⟨w2, hw2⟩ : ∃ x, w1.setCell ⟨b, 4, none⟩ (.bool false) = x := ⟨_, rfl⟩; have HG2 : Hid (w1.grownBy w2 (some b)) := hid (by rw [← hw2]; exact gset _ _ _); have HD2 : Hid (Dk w2 B b m 1 room false wr ar kp F) := hid (HD1.out.blk' HG2.out (by rw [← hw2]; exact HD1.out.blk.set 4 _)); clear hd hg)
 refine leaves_cons (f := 53) (args := #[.pointer (some ⟨b, 0, none⟩)]) (by simp) (by simp [go_sem]) ?_
 refine (unlock_any .returning HD2.out).mono ?_
 rintro e u' w3 ⟨rfl, rfl, hd3, hg3⟩
 exact ⟨_, results_none rfl _ _ _, rfl, hd3, gtrans (gtrans HG1.out HG2.out) hg3⟩
set_option maxRecDepth 100000 in
theorem arm_any (h : Dk w B b m 0 room off wr ar kp F) (n k : Int) : Calls Tryz.prog 17 #[.pointer (some ⟨b, 0, none⟩), .int .i64 n, .int .i64 k] w fun e w' => e = .returned (.tuple #[]) ∧ Dk w' B b m 0 room off wr (max n 0) k F ∧ w.grownBy w' (some b) := by
 have HD := hid h
 have HL := hid (lock_any h)
 obtain ⟨M, hM⟩ : ∃ x : Int, max n 0 = x := ⟨_, rfl⟩
 have hmax : ∀ (ty : TypeId) (u : World), (Builtin.max_ #[3, 3] ty #[.int .i64 n, .int .i64 0]).run Tryz.prog u = .ok (.int .i64 M) u := fun ty u => by rw [← hM]; exact run_max _ _ _ _
 rw [hM]
 clear h hM
 go_enter_defers Tryz.func17, Tryz.ntmps17
 go_wp2_with (go_at_call 52; refine HL.out.mono ?_; rintro e w1 ⟨rfl, hd, hg⟩; have HD1 := hid hd; have HG1 := hid hg; have y6 := hd.c.2.2.2.2.2.1; have f6 := hd.blk.frozen 6; obtain ⟨w2, hw2⟩ : ∃ x, w1.setCell ⟨b, 6, none⟩ (.int .i64 M) = x := ⟨_, rfl⟩; have HG2 : Hid (w1.grownBy w2 (some b)) := hid (by rw [← hw2]; exact gset _ _ _); have HD2 : Hid (Dk w2 B b m 1 room off wr M kp F) := hid (HD1.out.blk' HG2.out (by rw [← hw2]; exact HD1.out.blk.set 6 _)); have y7 := HD2.out.c.2.2.2.2.2.2; have f7 := HD2.out.blk.frozen 7; obtain ⟨w3, hw3⟩ : ∃ x, w2.setCell ⟨b, 7, none⟩ (.int .i64 k) = x := ⟨_, rfl⟩; have HG3 : Hid (w2.grownBy w3 (some b)) := hid (by rw [← hw3]; exact gset _ _ _); have HD3 : Hid (Dk w3 B b m 1 room off wr M k F) := hid (HD2.out.blk' HG3.out (by rw [← hw3]; exact HD2.out.blk.set 7 _)); clear hd hg)
 refine leaves_cons (f := 53) (args := #[.pointer (some ⟨b, 0, none⟩)]) (by simp) (by simp [go_sem]) ?_
 refine (unlock_any .returning HD3.out).mono ?_
 rintro e u' w4 ⟨rfl, rfl, hd4, hg4⟩
 exact ⟨_, results_none rfl _ _ _, rfl, hd4, gtrans (gtrans (gtrans HG1.out HG2.out) HG3.out) hg4⟩
/-- The bytes that a look tells. -/
def bytesF (off : Bool) (F : List Fl) (s : ByteArray) : List UInt8 := if findE off F s = 0 then (match getF F s with | some f => f.bs | none => []) else []
theorem getF_mem {s : ByteArray} {f : Fl} (h : getF F s = some f) : f ∈ F ∧ f.nm = s := by
 unfold getF at h
 obtain ⟨p, hp, rfl⟩ := Option.map_eq_some_iff.1 h
 obtain ⟨j, g⟩ := p
 obtain ⟨n, h1, h2, h3, _⟩ := fpos_some F s 0 j g hp
 exact ⟨List.mem_of_getElem? h2, h3⟩
theorem Dk.find (h : Dk w B b m lk room off wr ar kp F) (s : ByteArray) : Out B w (findV off F s) (bytesF off F s) := by
 unfold findV bytesF
 by_cases e : findE off F s = 0
 ·rw [if_pos e, if_pos e]
  unfold lookV
  cases hg : getF F s with
  | none => exact Out.nil _ _
  | some f => exact h.own f (getF_mem hg).1
 ·rw [if_neg e, if_neg e]
  exact Out.nil _ _
set_option maxRecDepth 100000 in
theorem read_any (h : Dk w B b m 0 room off wr ar kp F) (s : ByteArray) (hl : (bytesF off F s).length ≤ 17592186044416) : Calls Tryz.prog 46 #[.pointer (some ⟨b, 0, none⟩), .string s] w fun e w' => ∃ v, e = .returned (.tuple #[v, .int .i64 (findE off F s)]) ∧ Out w.heap.size w' v (bytesF off F s) ∧ w.grownBy w' none := by
 have HD := hid h
 have HL := hid (lock_any h)
 obtain ⟨a, c, hv⟩ := (h.find s).len
 obtain ⟨l, hl'⟩ : ∃ x, bytesF off F s = x := ⟨_, rfl⟩
 have HO : Hid (∀ u, Dk u B b m 1 room off wr ar kp F → Out B u (findV off F s) l) := hid (fun u hu => by rw [← hl']; exact hu.find s)
 rw [hl'] at hl hv ⊢
 obtain ⟨n, hn⟩ : ∃ x, l.length = x := ⟨_, rfl⟩
 obtain ⟨E, hE⟩ : ∃ x, findE off F s = x := ⟨_, rfl⟩
 rw [hn] at hv
 rw [hv] at HO
 have HF : Hid (∀ u, Dk u B b m 1 room off wr ar kp F → Calls Tryz.prog 101 #[.pointer (some ⟨b, 0, none⟩), .string s] u fun e w' => e = .returned (.tuple #[.slice a n c, .int .i64 E]) ∧ u.grownBy w' none) := fun u hu => by
  have := find_any hu s
  rw [hv, hE] at this
  exact this
 have HC : Hid (∀ u, Dk u B b m 1 room off wr ar kp F → Calls Tryz.prog 64 #[.slice a n c] u fun e w' => ∃ v', e = .returned v' ∧ Out u.heap.size w' v' l ∧ u.grownBy w' none) := fun u hu => bclone_any u _ _ l (HO.out u hu).rd (by omega)
 rw [hE]
 clear h hv hn hE hl' hl
 go_enter_defers Tryz.func46, Tryz.ntmps46
 go_wp2_with (first
  | (go_at_call 52; refine HL.out.mono ?_; rintro e w1 ⟨rfl, hd, hg⟩; have HD1 := hid hd; have HG1 := hid hg; clear hd hg)
  | (go_at_call 101; refine (HF.out _ HD1.out).mono ?_; rintro e w2 ⟨rfl, hg⟩; have HD2 := hid (HD1.out.keep hg); have HG2 := hid (HG1.out.andThen hg (fun j hj => by cases hj)); clear hg)
  | (go_at_call 64; refine (HC.out _ HD2.out).mono ?_; rintro e w3 ⟨v3, rfl, ho, hg⟩; have HO3 := hid (ho.below (C := w.heap.size) HG2.out.size); have HD3 := hid (HD2.out.keep hg); have HG3 := hid (HG2.out.andThen hg (fun j hj => by cases hj)); clear ho hg))
 refine leaves_cons (f := 53) (args := #[.pointer (some ⟨b, 0, none⟩)]) (by simp) (by simp [go_sem]) ?_
 refine (unlock_any .returning HD3.out).mono ?_
 rintro e u' w4 ⟨rfl, rfl, hd4, hg4⟩
 exact ⟨_, results_tmp2 rfl _ _ _, _, rfl, HO3.out.on hg4 (fun k hk e => by
  injection hk with hk
  have := HO3.out.block k e
  have := HD.out.blk.lt
  omega), back_same HD.out.blk (gtrans HG3.out hg4) hd4.blk⟩
end Go.Proofs.YtpbiofnncdneoaaGreatDoor

namespace Go.Proofs.YtpbiofnncdneoaaGreatDoor
open Go Go.RowKit Go.MuLone
open Go.RowKit (wrap32 wrap64)

/-- Names and bytes, in the order in which they were laid. -/
abbrev Cn := List (ByteArray × List UInt8)
def cont (F : List Fl) : Cn := F.map (fun f => (f.nm, f.bs))
def getC : Cn → ByteArray → Option (List UInt8)
 | [], _ => none
 | p :: C, s => if p.1 = s then some p.2 else getC C s
def setC : Cn → ByteArray → List UInt8 → Cn
 | [], s, l => [(s, l)]
 | p :: C, s, l => if p.1 = s then (s, l) :: C else p :: setC C s l
def delC : Cn → ByteArray → Cn
 | [], _ => []
 | p :: C, s => if p.1 = s then C else p :: delC C s
def usedC (C : Cn) : Nat := (C.map (fun p => p.2.length)).sum
theorem fpos_any : ∀ (F : List Fl) (s : ByteArray) (i j : Nat), (fpos F s i).map (·.2) = (fpos F s j).map (·.2)
 | [], _, _, _ => rfl
 | f :: F, s, i, j => by
  unfold fpos
  by_cases e : f.nm = s
  ·rw [if_pos e, if_pos e]; rfl
  ·rw [if_neg e, if_neg e]; exact fpos_any F s _ _
theorem get_cont : ∀ (F : List Fl) (s : ByteArray), (getF F s).map (·.bs) = getC (cont F) s
 | [], _ => rfl
 | f :: F, s => by
  unfold getF fpos
  show _ = getC ((f.nm, f.bs) :: cont F) s
  unfold getC
  by_cases e : f.nm = s
  ·rw [if_pos e, if_pos e]; rfl
  ·rw [if_neg e, if_neg e, ← get_cont F s]
   unfold getF
   rw [fpos_any F s (0 + 1) 0]
theorem has_cont (F : List Fl) (s : ByteArray) : hasF F s = (getC (cont F) s).isSome := by
 rw [← get_cont]
 unfold hasF
 cases getF F s <;> rfl
theorem set_cont : ∀ (F : List Fl) (s : ByteArray) (v : Value) (l : List UInt8), cont (setF F s v l) = setC (cont F) s l
 | [], _, _, _ => rfl
 | f :: F, s, v, l => by
  unfold setF
  show _ = setC ((f.nm, f.bs) :: cont F) s l
  unfold setC
  by_cases e : f.nm = s
  ·rw [if_pos e, if_pos e]; rfl
  ·rw [if_neg e, if_neg e, ← set_cont F s v l]; rfl
theorem del_cont : ∀ (F : List Fl) (s : ByteArray), cont (delF F s) = delC (cont F) s
 | [], _ => rfl
 | f :: F, s => by
  unfold delF
  show _ = delC ((f.nm, f.bs) :: cont F) s
  unfold delC
  by_cases e : f.nm = s
  ·rw [if_pos e, if_pos e]
  ·rw [if_neg e, if_neg e, ← del_cont F s]; rfl
theorem used_cont (F : List Fl) : usedF F = usedC (cont F) := by
 unfold usedF usedC cont
 rw [List.map_map]
 rfl
theorem len_cont (F : List Fl) : (cont F).length = F.length := by simp [cont]
theorem used_set : ∀ (C : Cn) (s : ByteArray) (l : List UInt8), usedC (setC C s l) + ((getC C s).getD []).length = usedC C + l.length
 | [], s, l => by simp [setC, getC, usedC]
 | p :: C, s, l => by
  unfold setC getC
  by_cases e : p.1 = s
  ·rw [if_pos e, if_pos e]
   simp only [usedC, List.map_cons, List.sum_cons, Option.getD_some]
   omega
  ·rw [if_neg e, if_neg e]
   have := used_set C s l
   simp only [usedC, List.map_cons, List.sum_cons] at this ⊢
   omega
theorem len_set : ∀ (C : Cn) (s : ByteArray) (l : List UInt8), (setC C s l).length = if (getC C s).isSome then C.length else C.length + 1
 | [], s, l => rfl
 | p :: C, s, l => by
  unfold setC getC
  by_cases e : p.1 = s
  ·rw [if_pos e, if_pos e]; rfl
  ·rw [if_neg e, if_neg e]
   have := len_set C s l
   simp only [List.length_cons, this]
   split <;> rfl
theorem mem_setC {q : ByteArray × List UInt8} : ∀ {C : Cn} {s : ByteArray} {l : List UInt8}, q ∈ setC C s l → q = (s, l) ∨ q ∈ C
 | [], s, l, h => by
  have : q = (s, l) := by simpa [setC] using h
  exact .inl this
 | p :: C, s, l, h => by
  unfold setC at h
  by_cases e : p.1 = s
  ·rw [if_pos e] at h
   rcases List.mem_cons.1 h with h | h
   ·exact .inl h
   ·exact .inr (List.mem_cons_of_mem _ h)
  ·rw [if_neg e] at h
   rcases List.mem_cons.1 h with h | h
   ·exact .inr (by rw [h]; exact List.mem_cons_self ..)
   ·rcases mem_setC h with h | h
    ·exact .inl h
    ·exact .inr (List.mem_cons_of_mem _ h)
theorem get_used : ∀ (C : Cn) (s : ByteArray), ((getC C s).getD []).length ≤ usedC C
 | [], _ => by simp [getC]
 | p :: C, s => by
  unfold getC
  by_cases e : p.1 = s
  ·rw [if_pos e]
   simp only [usedC, List.map_cons, List.sum_cons, Option.getD_some]
   omega
  ·rw [if_neg e]
   have := get_used C s
   simp only [usedC, List.map_cons, List.sum_cons] at this ⊢
   omega
/-- A disk, plainly. -/
structure Ab where
 room : Int
 off : Bool
 wr : Int
 ar : Int
 kp : Int
 C : Cn
structure Ab.ok (A : Ab) : Prop where
 room : 1 ≤ A.room ∧ A.room ≤ 268435456
 wr : 0 ≤ A.wr
 ar : 0 ≤ A.ar ∧ A.ar ≤ 9223372036854775807
 used : (usedC A.C : Int) ≤ A.room
 len : A.C.length ≤ 64
 nms : ∀ p ∈ A.C, goodN p.1 = true
/-- A disk at block b; what it has of its own lies in P. -/
def DkP (w : World) (B b : Nat) (A : Ab) (P : Nat → Prop) : Prop := A.ok ∧ ∃ m F, Dk w B b m 0 A.room A.off A.wr A.ar A.kp F ∧ cont F = A.C ∧ ∀ k, Fp b m F k → P k
/-- What a call makes is added. -/
def newP (P : Nat → Prop) (w w' : World) (k : Nat) : Prop := P k ∨ (w.heap.size ≤ k ∧ k < w'.heap.size)
variable {w w' : World} {B b : Nat} {A : Ab} {P : Nat → Prop}
theorem DkP.keep (h : DkP w B b A P) (hg : w.grownBy w' none) : DkP w' B b A P := by
 obtain ⟨h1, m, F, h2, h3, h4⟩ := h
 exact ⟨h1, m, F, h2.keep hg, h3, h4⟩
theorem DkP.df {Q : Nat → Prop} (h : DkP w B b A P) (hd : DF w w' Q) (hq : ∀ k, k < w.heap.size → P k → ¬ Q k) : DkP w' B b A P := by
 obtain ⟨h1, m, F, h2, h3, h4⟩ := h
 exact ⟨h1, m, F, h2.df hd (fun k hk => hq k (h2.lt hk).2 (h4 k hk)), h3, h4⟩
theorem DkP.mono {Q : Nat → Prop} (h : DkP w B b A P) (hq : ∀ k, B ≤ k → k < w.heap.size → P k → Q k) : DkP w B b A Q := by
 obtain ⟨h1, m, F, h2, h3, h4⟩ := h
 exact ⟨h1, m, F, h2, h3, fun k hk => hq k (h2.lt hk).1 (h2.lt hk).2 (h4 k hk)⟩
theorem DkP.lt (h : DkP w B b A P) : b < w.heap.size ∧ B ≤ b ∧ P b := by
 obtain ⟨h1, m, F, h2, h3, h4⟩ := h
 exact ⟨h2.blk.lt, h2.low.1, h4 b (.inl rfl)⟩
theorem off_p (h : DkP w B b A P) : Calls Tryz.prog 36 #[.pointer (some ⟨b, 0, none⟩)] w fun e w' => e = .returned (.bool A.off) ∧ w.grownBy w' none := by
 obtain ⟨h1, m, F, h2, h3, h4⟩ := h
 exact off_any h2
theorem writes_p (h : DkP w B b A P) : Calls Tryz.prog 35 #[.pointer (some ⟨b, 0, none⟩)] w fun e w' => e = .returned (.int .i64 A.wr) ∧ w.grownBy w' none := by
 obtain ⟨h1, m, F, h2, h3, h4⟩ := h
 exact writes_any h2
def Ab.on (A : Ab) : Ab := { A with off := false }
def Ab.arm (A : Ab) (n k : Int) : Ab := { A with ar := max n 0, kp := k }
theorem on_p (h : DkP w B b A P) : Calls Tryz.prog 18 #[.pointer (some ⟨b, 0, none⟩)] w fun e w' => e = .returned (.tuple #[]) ∧ DkP w' B b A.on P ∧ DF w w' P := by
 obtain ⟨h1, m, F, h2, h3, h4⟩ := h
 refine (on_any h2).mono ?_
 rintro e w' ⟨rfl, hd, hg⟩
 exact ⟨rfl, ⟨⟨h1.room, h1.wr, h1.ar, h1.used, h1.len, h1.nms⟩, m, F, hd, h3, h4⟩, DF.one hg (h4 b (.inl rfl))⟩
theorem arm_p (h : DkP w B b A P) (n k : Int) (hn : n ≤ 9223372036854775807) : Calls Tryz.prog 17 #[.pointer (some ⟨b, 0, none⟩), .int .i64 n, .int .i64 k] w fun e w' => e = .returned (.tuple #[]) ∧ DkP w' B b (A.arm n k) P ∧ DF w w' P := by
 obtain ⟨h1, m, F, h2, h3, h4⟩ := h
 refine (arm_any h2 n k).mono ?_
 rintro e w' ⟨rfl, hd, hg⟩
 exact ⟨rfl, ⟨⟨h1.room, h1.wr, by show 0 ≤ max n 0 ∧ max n 0 ≤ 9223372036854775807; omega, h1.used, h1.len, h1.nms⟩, m, F, hd, h3, h4⟩, DF.one hg (h4 b (.inl rfl))⟩
/-- What Read tells. -/
def Ab.fndE (A : Ab) (s : ByteArray) : Int := if refE A.off s = 0 then (if (getC A.C s).isSome then 0 else 92) else refE A.off s
def Ab.fndB (A : Ab) (s : ByteArray) : List UInt8 := if A.fndE s = 0 then (getC A.C s).getD [] else []
theorem fndE_of {F : List Fl} (h : cont F = A.C) (s : ByteArray) : findE A.off F s = A.fndE s := by
 unfold findE Ab.fndE
 rw [has_cont, h]
theorem fndB_of {F : List Fl} (h : cont F = A.C) (s : ByteArray) : bytesF A.off F s = A.fndB s := by
 unfold bytesF Ab.fndB
 rw [fndE_of h, ← h, ← get_cont]
 cases getF F s <;> rfl
theorem fndB_le (A : Ab) (s : ByteArray) : (A.fndB s).length ≤ usedC A.C := by
 unfold Ab.fndB
 split
 ·exact get_used A.C s
 ·simp
theorem read_p (h : DkP w B b A P) (s : ByteArray) : Calls Tryz.prog 46 #[.pointer (some ⟨b, 0, none⟩), .string s] w fun e w' => ∃ v, e = .returned (.tuple #[v, .int .i64 (A.fndE s)]) ∧ Out w.heap.size w' v (A.fndB s) ∧ w.grownBy w' none := by
 obtain ⟨h1, m, F, h2, h3, h4⟩ := h
 have := read_any h2 s (by rw [fndB_of h3]; have := fndB_le A s; have := h1.used; have := h1.room; omega)
 rw [fndE_of h3, fndB_of h3] at this
 exact this
theorem MapAt.empty (w : World) : MapAt (w.alloc (.map #[] 0)) w.heap.size [] := ⟨#[], 0, heap_alloc_new w _, MapKept.stamped_empty 0, rfl⟩
theorem built73 (room : Int) (m : Nat) : Tryz.prog.built 89 [(1, .int .i64 room), (2, .map (some m))] = some (dkc 0 room m false 0 0 0).toArray := by kernel_rfl
theorem wpList_build_of {ops : Array Oper} {rest : List Oper} {o : Oper} {a : Act} {Q : Exit → Act → World → Prop} (hgd : o.guard = none) (t : TypeId) (xs : Array (Nat × Operand)) (ho : o.op = .build t xs) (vs : List (Nat × Value)) (hx : (xs.map fun (i, x) => (i, a.eval x)).toList = vs) (z : List Value) (hz : Tryz.prog.built t vs = some z.toArray)
  (h : wpList Tryz.prog ops Q rest (a.put o.dst (.agg z.toArray)) w) : wpList Tryz.prog ops Q (o :: rest) a w := by
 have e : Tryz.prog.built t (xs.map fun (i, x) => (i, a.eval x)).toList = some z.toArray := by rw [hx]; exact hz
 refine wpList_build hgd t xs ho (by rw [e]; rfl) ?_
 rw [e]
 exact h
def Ab.new (room : Int) : Ab := ⟨room, false, 0, 0, 0, []⟩
set_option maxRecDepth 100000 in
set_option maxHeartbeats 800000 in
theorem new_ok (w : World) (room : Int) (h1 : 1 ≤ room) (h2 : room ≤ 268435456) : Calls Tryz.prog 5 #[.int .i64 room] w fun e w' => ∃ b, e = .returned (.tuple #[.pointer (some ⟨b, 0, none⟩), .int .i64 0]) ∧ DkP w' w.heap.size b (Ab.new room) (fun k => w.heap.size ≤ k ∧ k < w'.heap.size) ∧ w.grownBy w' none := by
 have h1' : ¬ room < 1 := by omega
 have h2' : ¬ 268435456 < room := by omega
 have HR := hid (And.intro h1 h2)
 have hmk : ∀ u : World, (Instr.makeMap 80 none).run Tryz.prog u = .ok (.map (some u.heap.size)) (u.alloc (.map #[] 0)) := fun u => run_makeMap 64 u
 have HG1 : Hid (w.grownBy (w.alloc (.map #[] 0)) none ∧ MapAt (w.alloc (.map #[] 0)) w.heap.size []) := hid ⟨galloc _ _ _, MapAt.empty w⟩
 obtain ⟨w1, hw1⟩ : ∃ x, w.alloc (.map #[] 0) = x := ⟨_, rfl⟩
 obtain ⟨m, hm⟩ : ∃ x, w.heap.size = x := ⟨_, rfl⟩
 have hmk' := hmk w
 rw [hw1, hm] at hmk'
 rw [hw1] at HG1
 have HM := hid hm
 clear h1 h2 hmk hw1 hm
 go_enter Tryz.func5, Tryz.ntmps5
 go_wp2_with (first
  | (with_reducible refine wpList_build_of (by with_unfolding_all rfl) 89 _ (by with_unfolding_all rfl) [(1, .int .i64 room), (2, .map (some m))] (by with_unfolding_all rfl) (dkc 0 room m false 0 0 0) (built73 room m) ?_)
  | ((with_reducible refine wpList_box_row (by with_unfolding_all rfl) 89 _ (by with_unfolding_all rfl) (dkc 0 room m false 0 0 0) (by with_unfolding_all rfl) ?_); intro w2 B2 s2 g2; have HB2 := hid B2; have HG2 := hid g2; clear B2 s2 g2))
 refine bodyPost_ret (results_tmp2 rfl _ _ _) rfl ?_
 have hr := HR.out
 have hm := HM.out
 refine ⟨w1.heap.size, rfl, ⟨⟨hr, by show (0 : Int) ≤ 0; omega, by show (0 : Int) ≤ 0 ∧ (0 : Int) ≤ 9223372036854775807; omega, by show (0 : Int) ≤ room; omega, by show 0 ≤ 64; omega, (fun p hp => by cases hp)⟩, m, [], ⟨HB2.out, ?_, (fun f hf => by cases hf), List.Pairwise.nil, HG1.out.1.size, by omega⟩, rfl, ?_⟩, gtrans HG1.out.1 HG2.out⟩
 ·have := HG1.out.2
  rw [hm] at this
  exact this.keep HG2.out
 ·have q1 := HG1.out.2.lt
  have q2 := HG1.out.1.size
  have q3 := HB2.out.lt
  have q4 := HG2.out.size
  rintro k (rfl | rfl | ⟨f, hf, _⟩)
  ·omega
  ·omega
  ·cases hf
end Go.Proofs.YtpbiofnncdneoaaGreatDoor
