/- A disk in memory; refusal, has, find, write. -/
import Derived.Test.YtpbiofnncdneoaaGreatDoorX01
import Derived.Maps.RangeRun
namespace Go.Proofs.YtpbiofnncdneoaaGreatDoor
open Go Go.RowKit
open Go.RowKit (wrap32 wrap64)

/-- The disk's cells. -/
def dkc (lk room : Int) (m : Nat) (off : Bool) (wr ar kp : Int) : List Value := [.int .i32 lk, .int .u32 0, .int .i64 room, .map (some m), .bool off, .int .i64 wr, .int .i64 ar, .int .i64 kp]
/-- No two files share memory. -/
def ApF (F : List Fl) : Prop := F.Pairwise (fun f g => f.v.ownBlock = none ∨ f.v.ownBlock ≠ g.v.ownBlock)
/-- What a disk has of its own: its block, its map, its files' rows. -/
def Fp (b m : Nat) (F : List Fl) (k : Nat) : Prop := k = b ∨ k = m ∨ ∃ f ∈ F, f.v.ownBlock = some k
/-- A disk at block b. -/
structure Dk (w : World) (B b m : Nat) (lk room : Int) (off : Bool) (wr ar kp : Int) (F : List Fl) : Prop where
 blk : Blk w b (dkc lk room m off wr ar kp) 89
 map : MapAt w m F
 own : ∀ f ∈ F, Out B w f.v f.bs
 apart : ApF F
 low : B ≤ b ∧ B ≤ m
/-- All blocks stay but those of P. -/
structure DF (w w' : World) (P : Nat → Prop) : Prop where
 os : w'.os = w.os
 tape : w'.tape = w.tape
 output : w'.output = w.output
 size : w.heap.size ≤ w'.heap.size
 block : ∀ k, k < w.heap.size → ¬ P k → w'.heap[k]? = w.heap[k]?
theorem DF.of {w w' : World} {P : Nat → Prop} (h : w.grownBy w' none) : DF w w' P := ⟨h.os, h.tape, h.output, h.size, fun k hk _ => h.block k hk (by simp)⟩
theorem DF.one {w w' : World} {P : Nat → Prop} {b : Nat} (h : w.grownBy w' (some b)) (hb : P b) : DF w w' P := ⟨h.os, h.tape, h.output, h.size, fun k hk hp => h.block k hk (fun e => hp (by injection e with e; rw [e]; exact hb))⟩
theorem DF.opt {w w' : World} {P : Nat → Prop} {r : Option Nat} (h : w.grownBy w' r) (hb : ∀ k, r = some k → P k) : DF w w' P := ⟨h.os, h.tape, h.output, h.size, fun k hk hp => h.block k hk (fun e => hp (hb k e.symm))⟩
theorem DF.trans {w w1 w2 : World} {P Q : Nat → Prop} (h : DF w w1 P) (k : DF w1 w2 Q) (hq : ∀ x, x < w.heap.size → Q x → P x) : DF w w2 P :=
 ⟨k.os.trans h.os, k.tape.trans h.tape, k.output.trans h.output, Nat.le_trans h.size k.size, fun x hx hp => (k.block x (Nat.lt_of_lt_of_le hx h.size) (fun q => hp (hq x hx q))).trans (h.block x hx hp)⟩
theorem DF.grown {w w' : World} {P : Nat → Prop} (h : DF w w' P) (hp : ∀ x, P x → w.heap.size ≤ x) : w.grownBy w' none := ⟨h.os, h.tape, h.output, h.size, fun k hk _ => h.block k hk (fun q => by have := hp k q; omega)⟩
theorem Blk.df {w w' : World} {P : Nat → Prop} {b : Nat} {cs : List Value} {t : TypeId} (h : Blk w b cs t) (hd : DF w w' P) (hp : ¬ P b) : Blk w' b cs t := (hd.block b h.lt hp).trans h
theorem Out.df {w w' : World} {P : Nat → Prop} {B : Nat} {v : Value} {l : List UInt8} (h : Out B w v l) (hd : DF w w' P) (hp : ∀ k, v.ownBlock = some k → ¬ P k) : Out B w' v l := by
 refine ⟨h.1, ?_⟩
 rcases h.2 with h1 | ⟨g, cap, cur, hv, hB, hg, hle, hm, hs, ht⟩
 ·exact .inl h1
 ·refine .inr ⟨g, cap, cur, hv, hB, ?_, hle, hm, hs, ht⟩
  rw [hd.block g (Array.getElem?_eq_some_iff.1 hg).1 (hp g (by rw [hv]; rfl))]
  exact hg
theorem MapAt.df {w w' : World} {P : Nat → Prop} {m : Nat} {F : List Fl} (h : MapAt w m F) (hd : DF w w' P) (hp : ¬ P m) : MapAt w' m F := by
 obtain ⟨es, clock, hb, hst, hF⟩ := h
 exact ⟨es, clock, (hd.block m (Array.getElem?_eq_some_iff.1 hb).1 hp).trans hb, hst, hF⟩
theorem Rd.df {w w' : World} {P F : Nat → Prop} {v : Value} {l : List UInt8} (h : Rd w F v l) (hd : DF w w' P) (hp : ∀ k, F k → ¬ P k) : Rd w' F v l := by
 obtain ⟨a, b, off, c, hv, hc, hn, ha, hcell⟩ := h
 refine ⟨a, b, off, c, hv, hc, hn, fun hl => ⟨(ha hl).1, Nat.lt_of_lt_of_le (ha hl).2.1 hd.size, (ha hl).2.2⟩, fun i hi => ?_⟩
 rw [← hcell i hi]
 have := hd.block b (ha (by omega)).2.1 (hp b (ha (by omega)).2.2)
 simp only [World.cell?, this]
variable {w w' : World} {B b m : Nat} {lk room : Int} {off : Bool} {wr ar kp : Int} {F : List Fl}
theorem Dk.keep (h : Dk w B b m lk room off wr ar kp F) (hg : w.grownBy w' none) : Dk w' B b m lk room off wr ar kp F :=
 ⟨h.blk.keep hg, h.map.keep hg, fun f hf => (h.own f hf).keep hg, h.apart, h.low⟩
theorem Dk.df {P : Nat → Prop} (h : Dk w B b m lk room off wr ar kp F) (hd : DF w w' P) (hp : ∀ k, Fp b m F k → ¬ P k) : Dk w' B b m lk room off wr ar kp F :=
 ⟨Blk.df h.blk hd (hp b (.inl rfl)), MapAt.df h.map hd (hp m (.inr (.inl rfl))), fun f hf => Out.df (h.own f hf) hd (fun k hk => hp k (.inr (.inr ⟨f, hf, hk⟩))), h.apart, h.low⟩
/-- The disk's own block is written. -/
theorem Dk.blk' {lk' room' : Int} {off' : Bool} {wr' ar' kp' : Int} (h : Dk w B b m lk room off wr ar kp F) (hg : w.grownBy w' (some b)) (hb : Blk w' b (dkc lk' room' m off' wr' ar' kp') 89) : Dk w' B b m lk' room' off' wr' ar' kp' F :=
 ⟨hb, h.map.on hg (fun e => by injection e with e; exact h.map.ne h.blk e.symm), fun f hf => (h.own f hf).on hg (fun k hk e => by
  injection hk with hk
  subst hk
  rcases (h.own f hf).2 with ⟨h1, _⟩ | ⟨g, cap, cur, hv, hB, hgg, _⟩
  ·rw [h1] at e; cases e
  ·rw [hv] at e
   injection e with e
   have e' : g = b := e
   subst e'
   have h9 := h.blk
   unfold Blk at h9
   rw [hgg] at h9
   injection h9 with h9
   injection h9 with _ h9
   cases h9), h.apart, h.low⟩
theorem Dk.lt (h : Dk w B b m lk room off wr ar kp F) {k : Nat} (hk : Fp b m F k) : B ≤ k ∧ k < w.heap.size := by
 rcases hk with rfl | rfl | ⟨f, hf, hk⟩
 ·exact ⟨h.low.1, h.blk.lt⟩
 ·exact ⟨h.low.2, h.map.lt⟩
 ·exact ⟨(h.own f hf).block k hk, ((h.own f hf).lt k hk).2⟩
theorem Dk.c (h : Dk w B b m lk room off wr ar kp F) : w.cell? ⟨b, 0, none⟩ = some (.int .i32 lk) ∧ w.cell? ⟨b, 2, none⟩ = some (.int .i64 room) ∧ w.cell? ⟨b, 3, none⟩ = some (.map (some m)) ∧ w.cell? ⟨b, 4, none⟩ = some (.bool off) ∧ w.cell? ⟨b, 5, none⟩ = some (.int .i64 wr) ∧ w.cell? ⟨b, 6, none⟩ = some (.int .i64 ar) ∧ w.cell? ⟨b, 7, none⟩ = some (.int .i64 kp) :=
 ⟨h.blk.cell 0, h.blk.cell 2, h.blk.cell 3, h.blk.cell 4, h.blk.cell 5, h.blk.cell 6, h.blk.cell 7⟩
set_option maxRecDepth 100000 in
theorem has_any (h : Dk w B b m lk room off wr ar kp F) (s : ByteArray) : Calls Tryz.prog 147 #[.pointer (some ⟨b, 0, none⟩), .string s] w fun e w' => e = .returned (.bool (hasF F s)) ∧ w' = w := by
 have y3 := h.c.2.2.1
 have hl := run_look2 h.map s
 obtain ⟨V, hV⟩ : ∃ x, lookV F s = x := ⟨_, rfl⟩
 obtain ⟨H, hH⟩ : ∃ x, hasF F s = x := ⟨_, rfl⟩
 rw [hV, hH] at hl
 rw [hH]
 clear hV hH h
 go_enter Tryz.func147, Tryz.ntmps147
 go_wp2
 go_ret
 exact ⟨rfl, rfl⟩
/-- Why a call is refused ahead of a look at the files. -/
def refE (off : Bool) (s : ByteArray) : Int := if off then 94 else if goodN s then 0 else 91
set_option maxRecDepth 100000 in
theorem refusal_any (h : Dk w B b m lk room off wr ar kp F) (s : ByteArray) : Calls Tryz.prog 107 #[.pointer (some ⟨b, 0, none⟩), .string s] w fun e w' => e = .returned (.int .i64 (refE off s)) ∧ w.grownBy w' none := by
 have y4 := h.c.2.2.2.1
 have HG : Hid (Calls Tryz.prog 151 #[.string s] w fun e w' => e = .returned (.bool (goodN s)) ∧ w.grownBy w' none) := goodName_any s w
 obtain ⟨H, hH⟩ : ∃ x, goodN s = x := ⟨_, rfl⟩
 unfold refE
 rw [hH] at HG ⊢
 clear hH h
 cases off with
 | true =>
  go_enter Tryz.func107, Tryz.ntmps107
  go_wp2_with fail
  go_ret
  exact ⟨rfl, grefl _ _⟩
 | false =>
  cases H with
  | true =>
   go_enter Tryz.func107, Tryz.ntmps107
   go_wp2_with (go_at_call 151; refine HG.out.mono ?_; rintro e w' ⟨rfl, hg⟩)
   go_ret
   exact ⟨rfl, hg⟩
  | false =>
   go_enter Tryz.func107, Tryz.ntmps107
   go_wp2_with (go_at_call 151; refine HG.out.mono ?_; rintro e w' ⟨rfl, hg⟩)
   go_ret
   exact ⟨rfl, hg⟩
/-- .. and where a file is wanted. -/
def findE (off : Bool) (F : List Fl) (s : ByteArray) : Int := if refE off s = 0 then (if hasF F s then 0 else 92) else refE off s
def findV (off : Bool) (F : List Fl) (s : ByteArray) : Value := if findE off F s = 0 then lookV F s else .slice none 0 0
theorem refE_or (off : Bool) (s : ByteArray) : refE off s = 0 ∨ refE off s = 91 ∨ refE off s = 94 := by
 unfold refE
 cases off <;> cases goodN s <;> simp
set_option maxRecDepth 100000 in
theorem find_any (h : Dk w B b m lk room off wr ar kp F) (s : ByteArray) : Calls Tryz.prog 101 #[.pointer (some ⟨b, 0, none⟩), .string s] w fun e w' => e = .returned (.tuple #[findV off F s, .int .i64 (findE off F s)]) ∧ w.grownBy w' none := by
 have HR : Hid (Calls Tryz.prog 107 #[.pointer (some ⟨b, 0, none⟩), .string s] w fun e w' => e = .returned (.int .i64 (refE off s)) ∧ w.grownBy w' none) := refusal_any h s
 have HH : Hid (∀ u, w.grownBy u none → Calls Tryz.prog 147 #[.pointer (some ⟨b, 0, none⟩), .string s] u fun e w' => e = .returned (.bool (hasF F s)) ∧ w' = u) := fun u hu => has_any (h.keep hu) s
 have HL : Hid (∀ u, w.grownBy u none → (Instr.lookup 80 (.map (some m)) (.string s) false).run Tryz.prog u = .ok (lookV F s) u) := hid (fun u hu => run_look1 (h.keep hu).map s)
 have HY : Hid (∀ u, w.grownBy u none → u.cell? ⟨b, 3, none⟩ = some (.map (some m))) := hid (fun u hu => (h.keep hu).c.2.2.1)
 have hor := refE_or off s
 unfold findV findE
 obtain ⟨E, hE⟩ : ∃ x, refE off s = x := ⟨_, rfl⟩
 obtain ⟨H, hH⟩ : ∃ x, hasF F s = x := ⟨_, rfl⟩
 obtain ⟨V, hV⟩ : ∃ x, lookV F s = x := ⟨_, rfl⟩
 rw [hE] at HR hor ⊢
 rw [hH] at HH ⊢
 rw [hV] at HL ⊢
 clear hE hH hV h
 by_cases e0 : E = 0
 ·subst e0
  clear hor
  cases H with
  | true =>
   go_enter Tryz.func101, Tryz.ntmps101
   go_wp2_with (first
    | (go_at_call 107; refine HR.out.mono ?_; rintro e w2 ⟨rfl, hg⟩; have HG := hid hg; have hl := HL.out _ hg; have hy := HY.out _ hg; clear hg)
    | (go_at_call 147; refine (HH.out _ HG.out).mono ?_; rintro e w3 ⟨rfl, rfl⟩))
   refine bodyPost_ret (results_tmp2 rfl _ _ _) rfl ?_
   exact ⟨rfl, HG.out⟩
  | false =>
   go_enter Tryz.func101, Tryz.ntmps101
   go_wp2_with (first
    | (go_at_call 107; refine HR.out.mono ?_; rintro e w2 ⟨rfl, hg⟩; have HG := hid hg; clear hg)
    | (go_at_call 147; refine (HH.out _ HG.out).mono ?_; rintro e w3 ⟨rfl, rfl⟩))
   refine bodyPost_ret (results_tmp2 rfl _ _ _) rfl ?_
   exact ⟨rfl, HG.out⟩
 ·have e1 : (E == 0) = false := beq_eq_false_iff_ne.2 e0
  have HE : Hid ((if E = 0 then (if H = true then (0 : Int) else 92) else E) = E) := hid (if_neg e0)
  have HF : Hid ((if E = 0 then V else Value.slice none 0 0) = Value.slice none 0 0) := hid (if_neg e0)
  rw [HE.out, HF.out]
  clear hor HE HF
  go_enter Tryz.func101, Tryz.ntmps101
  go_wp2_with (go_at_call 107; refine HR.out.mono ?_; rintro e w2 ⟨rfl, hg⟩; have HG := hid hg; clear hg)
  refine bodyPost_ret (results_tmp2 rfl _ _ _) rfl ?_
  exact ⟨rfl, HG.out⟩
end Go.Proofs.YtpbiofnncdneoaaGreatDoor

namespace Go.Proofs.YtpbiofnncdneoaaGreatDoor
open Go Go.RowKit Go.ChangeMaps
open Go.RowKit (wrap32 wrap64)

/-- A slice's length; 0 of anything else. -/
def lenOf : Value → Int | .slice _ n _ => n | _ => 0
def seenLen : List MapEntry → Array Nat → Int
 | [], _ => 0
 | x :: l, seen => (if seen.contains x.born then lenOf x.val else 0) + seenLen l seen
theorem seenLen_other (seen : Array Nat) (b : Nat) : ∀ (es : List MapEntry), b ∉ es.map (·.born) → seenLen es (seen.push b) = seenLen es seen
 | [], _ => rfl
 | x :: l, h => by
  have hx : (x.born == b) = false := by
   cases hc : x.born == b with
   | false => rfl
   | true => exact absurd (List.mem_cons.2 (Or.inl (beq_iff_eq.1 hc).symm)) h
  have ih := seenLen_other seen b l (fun e => h (List.mem_cons.2 (Or.inr e)))
  simp only [seenLen, contains_push, hx, Bool.or_false, ih]
theorem seenLen_push (seen : Array Nat) (e : MapEntry) (hs : seen.contains e.born = false) : ∀ (es : List MapEntry), (es.map (·.born)).Nodup → e ∈ es → seenLen es (seen.push e.born) = seenLen es seen + lenOf e.val
 | x :: l, hn, he => by
  have hn' : x.born ∉ l.map (·.born) ∧ (l.map (·.born)).Nodup := List.nodup_cons.1 hn
  rcases List.mem_cons.1 he with rfl | h
  ·simp only [seenLen, contains_push, hs, beq_self_eq_true, Bool.or_true, if_true, Bool.false_eq_true, if_false, seenLen_other seen e.born l hn'.1]
   omega
  ·have hx : (x.born == e.born) = false := by
    cases hc : x.born == e.born with
    | false => rfl
    | true => exact absurd (by rw [beq_iff_eq.1 hc]; exact List.mem_map.2 ⟨e, h, rfl⟩) hn'.1
   simp only [seenLen, contains_push, hx, Bool.or_false, seenLen_push seen e hs l hn'.2 h]
   omega
theorem seenLen_full (seen : Array Nat) : ∀ (es : List MapEntry), (∀ x ∈ es, seen.contains x.born = true) → seenLen es seen = (es.map fun e => lenOf e.val).sum
 | [], _ => rfl
 | x :: l, h => by
  simp only [seenLen, h x (List.mem_cons.2 (Or.inl rfl)), if_true, List.map_cons, List.sum_cons, seenLen_full seen l (fun y hy => h y (List.mem_cons.2 (Or.inr hy)))]
theorem seenLen_none : ∀ (es : List MapEntry), seenLen es #[] = 0
 | [] => rfl
 | x :: l => by
  have : (#[] : Array Nat).contains x.born = false := by simp
  simp only [seenLen, this, Bool.false_eq_true, if_false, seenLen_none l]
  rfl
/-- How many bytes all files have. -/
def usedF (F : List Fl) : Nat := (F.map (fun f => f.bs.length)).sum
theorem Out.len {B : Nat} {w : World} {v : Value} {l : List UInt8} (h : Out B w v l) : ∃ a c, v = .slice a l.length c := by
 obtain ⟨a, b, off, c, hv, _⟩ := h.rd
 exact ⟨a, c, hv⟩
theorem sum_used : ∀ (l : List MapEntry) (F : List Fl), l.map kv = F.map entF → (∀ f ∈ F, ∃ a c, f.v = .slice a f.bs.length c) → (l.map fun e => lenOf e.val).sum = (usedF F : Int)
 | [], [], _, _ => rfl
 | [], _ :: _, h, _ => by cases h
 | _ :: _, [], h, _ => by cases h
 | e :: l, f :: F, h, hf => by
  simp only [List.map_cons, List.cons.injEq] at h
  have hv : e.val = f.v := congrArg Prod.snd h.1
  obtain ⟨a, c, ha⟩ := hf f (List.mem_cons_self ..)
  have ih := sum_used l F h.2 (fun g hg => hf g (List.mem_cons_of_mem _ hg))
  simp only [List.map_cons, List.sum_cons]
  rw [ih, hv, ha]
  unfold usedF
  simp only [List.map_cons, List.sum_cons, lenOf]
  omega
variable {w w' : World} {B b m : Nat} {lk room : Int} {off : Bool} {wr ar kp : Int} {F : List Fl}
set_option maxRecDepth 1000000 in
set_option maxHeartbeats 1600000 in
theorem used_any (h : Dk w B b m lk room off wr ar kp F) (hU : usedF F ≤ 1099511627776) : Calls Tryz.prog 152 #[.pointer (some ⟨b, 0, none⟩)] w fun e w' => e = .returned (.int .i64 (usedF F : Nat)) ∧ w.grownBy w' none := by
 have y3 := h.c.2.2.1
 have HF : Hid (∀ f ∈ F, ∃ a c, f.v = .slice a f.bs.length c) := hid (fun f hf => (h.own f hf).len)
 obtain ⟨es, clock, hb, hst, hF⟩ := h.map
 have HKF := hid hF
 have hrg := run_range_map (P := Tryz.prog) w 80 9 74 m es clock Tryz.underlying80 hb
 have HTot : Hid ((es.toList.map fun e => lenOf e.val).sum = (usedF F : Int)) := hid (sum_used es.toList F hF HF.out)
 have hv : ∀ x ∈ es.toList, ∃ a n c, x.val = .slice a n c := fun x hx => by
  have hm : kv x ∈ F.map entF := by rw [← hF]; exact List.mem_map.2 ⟨x, hx, rfl⟩
  obtain ⟨f, hf, he⟩ := List.mem_map.1 hm
  obtain ⟨a, c, hfc⟩ := HF.out f hf
  exact ⟨a, _, c, by rw [← hfc]; exact (congrArg Prod.snd he).symm⟩
 have HV := hid hv
 have HU := hid hU
 clear hv hU h hF
 have HW : Hid (∀ r : Nat, w.heap.size = r → w.grownBy (w.alloc (.mapIter (some m) clock #[] clock)) none ∧ (w.alloc (.mapIter (some m) clock #[] clock)).heap[r]? = some (.mapIter (some m) clock #[] clock)) := hid (fun r hr => ⟨galloc _ _ _, by rw [← hr]; exact heap_alloc_new w _⟩)
 obtain ⟨W0, hW0⟩ : ∃ x, w.alloc (.mapIter (some m) clock #[] clock) = x := ⟨_, rfl⟩
 obtain ⟨r, hr⟩ : ∃ x, w.heap.size = x := ⟨_, rfl⟩
 rw [hW0] at HW
 rw [hW0, hr] at hrg
 have HW0 := hid (HW.out r hr)
 have HR := hid hr
 have HB := hid hb
 have HSt := hid hst
 clear HW hW0 hr hb hst
 go_enter Tryz.func152, Tryz.ntmps152
 go_wp2
 go_loopw [3] (fun s w' => ∃ seen : Array Nat, s = .int .i64 (wrap64 (seenLen es.toList seen)) ∧ Hid (w.grownBy w' none ∧ w'.heap[r]? = some (.mapIter (some m) clock seen clock))) (fun _ w' => (leftOf es (w'.iterSeen r)).size)
 case atStart => exact ⟨#[], by rw [seenLen_none]; congr 1; simp [wrap64], HW0⟩
 case round =>
  obtain ⟨seen, rfl, HI⟩ := hrel
  have hb1 : wr.heap[m]? = some (.map es clock) := heap_at HI.out.1 (by simp) HB.out
  have law := run_next_at (P := Tryz.prog) wr 0 r m clock clock seen es clock HI.out.2 hb1 HSt.out.1 (Nat.le_refl _)
  rcases law with ⟨h0, hrun⟩ | ⟨e, he, w1, hw1, hrun⟩
  ·have hnx : ∀ ty, (Instr.next (.pointer (some ⟨r, 0, none⟩)) false ty).run Tryz.prog wr = _ := fun _ => hrun
   have HT : Hid (wrap64 (seenLen es.toList seen) = (usedF F : Int)) := hid (by
    have hu := HU.out
    rw [seenLen_full seen es.toList (all_seen es seen h0), HTot.out]
    simp only [wrap64]
    omega)
   rw [HT.out]
   clear hb1 hrun h0
   go_wp2
   go_ret
   exact ⟨rfl, HI.out.1⟩
  ·obtain ⟨a, n, c, hval⟩ := HV.out e (mem_left he).1
   rw [hval] at hrun
   obtain ⟨W2, hW2⟩ : ∃ x, setBlock w1 r (.mapIter (some m) clock (seen.push e.born) clock) = x := ⟨_, rfl⟩
   rw [hW2] at hrun
   have hrl : r < wr.heap.size := (Array.getElem?_eq_some_iff.1 HI.out.2).1
   have HI2 : Hid (w.grownBy W2 none ∧ W2.heap[r]? = some (.mapIter (some m) clock (seen.push e.born) clock)) := hid (by
    have g1 : wr.grownBy w1 none := by rcases hw1 with rfl | rfl; exact grefl _ _; exact gdrew wr 1 none
    have hr1 : r < w1.heap.size := Nat.lt_of_lt_of_le hrl g1.size
    rw [← hW2]
    refine ⟨?_, by unfold setBlock; simp [hr1]⟩
    refine (gtrans HI.out.1 g1).andThen (row' := some r) ⟨rfl, rfl, rfl, by unfold setBlock; simp, fun k hk hne => ?_⟩ (fun j hj => .inl (by injection hj with hj; rw [HR.out]; omega))
    have : r ≠ k := fun q => hne (by rw [q])
    unfold setBlock
    simp [this])
   have hb2 : W2.heap[m]? = some (.map es clock) := heap_at HI2.out.1 (by simp) HB.out
   have hen := run_entry_at (P := Tryz.prog) W2 r m clock seen es clock e HI2.out.2 hb2 (mem_left he).1 HSt.out.2.1
   rw [hval] at hen
   have hnx : ∀ ty, (Instr.next (.pointer (some ⟨r, 0, none⟩)) false ty).run Tryz.prog wr = _ := fun _ => hrun
   have HP : Hid (seenLen es.toList (seen.push e.born) = seenLen es.toList seen + (n : Int)) := hid (by rw [seenLen_push seen e (mem_left he).2 es.toList HSt.out.2.1 (mem_left he).1, hval]; rfl)
   have HM : Hid ((leftOf es (W2.iterSeen r)).size < (leftOf es (wr.iterSeen r)).size) := hid (by
    have e1 : W2.iterSeen r = seen.push e.born := by unfold World.iterSeen; rw [HI2.out.2]
    have e2 : wr.iterSeen r = seen := by unfold World.iterSeen; rw [HI.out.2]
    rw [e1, e2]
    exact left_shrinks es seen e he)
   obtain ⟨S, hS⟩ : ∃ x, seenLen es.toList seen = x := ⟨_, rfl⟩
   rw [hS] at HP ⊢
   clear hb1 hb2 hrun hW2 hw1 hS hval
   go_wp2
   go_roundw
   case rel =>
    refine ⟨seen.push e.born, ?_, HI2⟩
    rw [HP.out]
    have e3 : ∀ x v : Int, wrap64 (wrap64 x + v) = wrap64 (x + v) := fun x v => by
     simp only [wrap64]
     omega
    rw [e3]
   case measure => exact HM.out
theorem run_max (a b : Int) (ty : TypeId) (u : World) : (Builtin.max_ #[3, 3] ty #[.int .i64 a, .int .i64 b]).run Tryz.prog u = .ok (.int .i64 (max a b)) u := by
 simp [Builtin.max_, Builtin.max2]
 split <;> omega
theorem run_min (a b : Int) (ty : TypeId) (u : World) : (Builtin.min_ #[3, 3] ty #[.int .i64 a, .int .i64 b]).run Tryz.prog u = .ok (.int .i64 (min a b)) u := by
 simp [Builtin.min_, Builtin.min2]
 split <;> omega
/-- What becomes of the how-manieth write is torn. -/
def wA (ar : Int) : Int := if ar = 1 then 0 else max (ar - 1) 0
def wK (ar kp : Int) : Int := if ar = 1 then kp else 9223372036854775807
def wE (ar : Int) : Int := if ar = 1 then 94 else 0
def wO (ar : Int) (off : Bool) : Bool := if ar = 1 then true else off
set_option maxRecDepth 100000 in
set_option maxHeartbeats 1600000 in
theorem write_any (h : Dk w B b m lk room off wr ar kp F) (hw : 0 ≤ wr ∧ wr ≤ 4611686018427387904) (ha : 0 ≤ ar ∧ ar ≤ 9223372036854775807) : Calls Tryz.prog 109 #[.pointer (some ⟨b, 0, none⟩)] w fun e w' => e = .returned (.tuple #[.int .i64 (wK ar kp), .int .i64 (wE ar)]) ∧ Dk w' B b m lk room (wO ar off) (wr + 1) (wA ar) kp F ∧ w.grownBy w' (some b) := by
 obtain ⟨y0, y2, y3, y4, y5, y6, y7⟩ := h.c
 have f4 := h.blk.frozen 4
 have f5 := h.blk.frozen 5
 have f6 := h.blk.frozen 6
 have hwr : IntKind.i64.wrap (wr + 1) = wr + 1 := by rw [IntKind.wrap_i64]; omega
 obtain ⟨w1, hw1⟩ : ∃ x, w.setCell ⟨b, 5, none⟩ (.int .i64 (wr + 1)) = x := ⟨_, rfl⟩
 have g1 : w.grownBy w1 (some b) := by rw [← hw1]; exact gset _ _ _
 have b1 : Blk w1 b (dkc lk room m off (wr + 1) ar kp) 89 := by rw [← hw1]; exact h.blk.set 5 _
 have HD1 := hid (h.blk' g1 b1)
 have HG1 := hid g1
 have HB1 := hid b1
 obtain ⟨z0, z2, z3, z4, z5, z6, z7⟩ := HD1.out.c
 have q4 := b1.frozen 4
 have q6 := b1.frozen 6
 unfold wK wE wA wO
 clear g1 b1 h y0 y2 y3 y4 y6 y7 f4 f6 z0 z2 z3 z5
 by_cases e1 : ar = 1
 ·subst e1
  obtain ⟨w2, hw2⟩ : ∃ x, w1.setCell ⟨b, 6, none⟩ (.int .i64 0) = x := ⟨_, rfl⟩
  have g2 : w1.grownBy w2 (some b) := by rw [← hw2]; exact gset _ _ _
  have b2 : Blk w2 b (dkc lk room m off (wr + 1) 0 kp) 89 := by rw [← hw2]; exact HB1.out.set 6 _
  have HD2 := hid (HD1.out.blk' g2 b2)
  have p4 := HD2.out.c.2.2.2.1
  have r4 := b2.frozen 4
  obtain ⟨w3, hw3⟩ : ∃ x, w2.setCell ⟨b, 4, none⟩ (.bool true) = x := ⟨_, rfl⟩
  have g3 : w2.grownBy w3 (some b) := by rw [← hw3]; exact gset _ _ _
  have b3 : Blk w3 b (dkc lk room m true (wr + 1) 0 kp) 89 := by rw [← hw3]; exact b2.set 4 _
  have HD3 := hid (HD2.out.blk' g3 b3)
  have HG3 := hid (gtrans (gtrans HG1.out g2) g3)
  have p7 := HD3.out.c.2.2.2.2.2.2
  clear g2 b2 g3 b3 HD1 HD2 HB1 HG1
  go_enter Tryz.func109, Tryz.ntmps109
  go_wp2
  refine bodyPost_ret (results_tmp2 rfl _ _ _) rfl ?_
  exact ⟨rfl, HD3.out, HG3.out⟩
 ·have e2 : (ar == 1) = false := beq_eq_false_iff_ne.2 e1
  have hwa : IntKind.i64.wrap (ar - 1) = ar - 1 := by rw [IntKind.wrap_i64]; omega
  obtain ⟨M, hM⟩ : ∃ x : Int, max (ar - 1) 0 = x := ⟨_, rfl⟩
  rw [if_neg e1, if_neg e1, if_neg e1, if_neg e1, hM]
  obtain ⟨w2, hw2⟩ : ∃ x, w1.setCell ⟨b, 6, none⟩ (.int .i64 M) = x := ⟨_, rfl⟩
  have g2 : w1.grownBy w2 (some b) := by rw [← hw2]; exact gset _ _ _
  have b2 : Blk w2 b (dkc lk room m off (wr + 1) M kp) 89 := by rw [← hw2]; exact HB1.out.set 6 _
  have HD2 := hid (HD1.out.blk' g2 b2)
  have HG2 := hid (gtrans HG1.out g2)
  have hmax : ∀ (ty : TypeId) (u : World), (Builtin.max_ #[3, 3] ty #[.int .i64 (ar - 1), .int .i64 0]).run Tryz.prog u = .ok (.int .i64 M) u := fun ty u => by rw [← hM]; exact run_max _ _ _ _
  clear g2 b2 HD1 HB1 HG1
  go_enter Tryz.func109, Tryz.ntmps109
  go_wp2
  refine bodyPost_ret (results_tmp2 rfl _ _ _) rfl ?_
  exact ⟨rfl, HD2.out, HG2.out⟩
end Go.Proofs.YtpbiofnncdneoaaGreatDoor
