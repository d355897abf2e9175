/- Append and Cut of a disk, plainly told. -/
import Derived.Test.YtpbiofnncdneoaaGreatDoorX05
import Derived.Shelf.SlGeneric
import Derived.Shelf.SlIter.Nil
import Derived.Shelf.SortM.Plain
import Derived.Shelf.SortM.SortNone
import Derived.Ground.GgzProg
import Derived.Ground.SlgmProg
import Derived.Test.YtpbiofnncdneoaaGreatDoorX01
import Derived.Laws.BytesArg
import Derived.Laws.BytesString
import Derived.Lib.SlBytesConst
namespace Go.Proofs.YtpbiofnncdneoaaGreatDoor
open Go Go.RowKit Go.MuLone
open Go.RowKit (wrap32 wrap64)

variable {w w' : World} {B b : Nat} {A : Ab} {P : Nat → Prop}
def Ab.fits (A : Ab) (s : ByteArray) (n : Nat) : Bool := ((getC A.C s).isSome || decide (A.C.length < 64)) && decide ((n : Int) ≤ A.room - (usedC A.C : Nat))
theorem fits_of {F : List Fl} (h : cont F = A.C) (s : ByteArray) (n : Nat) : fitsF A.room F s n = A.fits s n := by
 unfold fitsF Ab.fits
 rw [has_cont, h, ← len_cont, h, used_cont, h]
/-- A write was done, or torn. -/
def Ab.did (A : Ab) (C : Cn) : Ab := ⟨A.room, wO A.ar A.off, A.wr + 1, wA A.ar, A.kp, C⟩
def Ab.old (A : Ab) (s : ByteArray) : List UInt8 := (getC A.C s).getD []
def Ab.appC (A : Ab) (s : ByteArray) (l : List UInt8) : Cn := if 0 < wK A.ar A.kp then setC A.C s (A.old s ++ l.take (min (wK A.ar A.kp) l.length).toNat) else A.C
def Ab.appE (A : Ab) (s : ByteArray) (l : List UInt8) : Int := if refE A.off s = 0 then (if A.fits s l.length = true then wE A.ar else 93) else refE A.off s
def Ab.app (A : Ab) (s : ByteArray) (l : List UInt8) : Ab := if refE A.off s = 0 ∧ A.fits s l.length = true then A.did (A.appC s l) else A
def Ab.cutC (A : Ab) (s : ByteArray) (z : Int) : Cn := if 0 < wK A.ar A.kp then setC A.C s ((A.old s).take z.toNat) else A.C
def Ab.cutE (A : Ab) (s : ByteArray) (z : Int) : Int := if A.fndE s = 0 then (if 0 ≤ z ∧ z ≤ ((A.old s).length : Int) then wE A.ar else 95) else A.fndE s
def Ab.cut (A : Ab) (s : ByteArray) (z : Int) : Ab := if A.fndE s = 0 ∧ 0 ≤ z ∧ z ≤ ((A.old s).length : Int) then A.did (A.cutC s z) else A
theorem wA_ok {ar : Int} (h : 0 ≤ ar ∧ ar ≤ 9223372036854775807) : 0 ≤ wA ar ∧ wA ar ≤ 9223372036854775807 := by
 unfold wA
 split <;> omega
theorem Ab.ok.did (h : A.ok) {C : Cn} (h1 : (usedC C : Int) ≤ A.room) (h2 : C.length ≤ 64) (h3 : ∀ p ∈ C, goodN p.1 = true) : (A.did C).ok :=
 ⟨h.room, by have := h.wr; show 0 ≤ A.wr + 1; omega, wA_ok h.ar, h1, h2, h3⟩
theorem appC_ok (h : A.ok) {s : ByteArray} {l : List UInt8} (he : refE A.off s = 0) (hf : A.fits s l.length = true) : (usedC (A.appC s l) : Int) ≤ A.room ∧ (A.appC s l).length ≤ 64 ∧ ∀ p ∈ A.appC s l, goodN p.1 = true := by
 unfold Ab.appC
 by_cases hk : 0 < wK A.ar A.kp
 ·rw [if_pos hk]
  unfold Ab.fits at hf
  simp only [Bool.and_eq_true, Bool.or_eq_true, decide_eq_true_eq] at hf
  refine ⟨?_, ?_, fun p hp => ?_⟩
  ·have h1 := used_set A.C s (A.old s ++ l.take (min (wK A.ar A.kp) l.length).toNat)
   have h2 : (A.old s ++ l.take (min (wK A.ar A.kp) l.length).toNat).length ≤ (A.old s).length + l.length := by
    rw [List.length_append, List.length_take]
    omega
   have h3 := hf.2
   unfold Ab.old at h1 h2 ⊢
   omega
  ·rw [len_set]
   have := h.len
   rcases hf.1 with q | q
   ·rw [if_pos q]; exact this
   ·split <;> omega
  ·rcases mem_setC hp with rfl | hp
   ·exact (refE_size he).2.1
   ·exact h.nms p hp
 ·rw [if_neg hk]
  exact ⟨h.used, h.len, h.nms⟩
theorem cutC_ok (h : A.ok) {s : ByteArray} {z : Int} (he : A.fndE s = 0) : (usedC (A.cutC s z) : Int) ≤ A.room ∧ (A.cutC s z).length ≤ 64 ∧ ∀ p ∈ A.cutC s z, goodN p.1 = true := by
 have hfe : refE A.off s = 0 ∧ (getC A.C s).isSome = true := by
  unfold Ab.fndE at he
  by_cases e : refE A.off s = 0
  ·rw [if_pos e] at he
   refine ⟨e, ?_⟩
   cases hh : (getC A.C s).isSome with
   | true => rfl
   | false => rw [hh] at he; simp at he
  ·rw [if_neg e] at he
   exact absurd he e
 unfold Ab.cutC
 by_cases hk : 0 < wK A.ar A.kp
 ·rw [if_pos hk]
  refine ⟨?_, ?_, fun p hp => ?_⟩
  ·have h1 := used_set A.C s ((A.old s).take z.toNat)
   have h2 : ((A.old s).take z.toNat).length ≤ (A.old s).length := by rw [List.length_take]; omega
   have h3 := h.used
   unfold Ab.old at h1 h2 ⊢
   omega
  ·rw [len_set, if_pos hfe.2]
   exact h.len
  ·rcases mem_setC hp with rfl | hp
   ·exact (refE_size hfe.1).2.1
   ·exact h.nms p hp
 ·rw [if_neg hk]
  exact ⟨h.used, h.len, h.nms⟩
theorem newP_of {m : Nat} {F F' : List Fl} {lk room : Int} {off : Bool} {wr ar kp : Int} (h : Dk w' B b m lk room off wr ar kp F') (hp : ∀ k, Fp b m F k → P k) (hn : ∀ k, Fp b m F' k → Fp b m F k ∨ w.heap.size ≤ k) : ∀ k, Fp b m F' k → newP P w w' k := fun k hk => by
 rcases hn k hk with q | q
 ·exact .inl (hp k q)
 ·exact .inr ⟨q, (h.lt hk).2⟩
theorem DF.mono {P Q : Nat → Prop} (h : DF w w' P) (hq : ∀ k, P k → Q k) : DF w w' Q := ⟨h.os, h.tape, h.output, h.size, fun k hk hp => h.block k hk (fun x => hp (hq k x))⟩
theorem append_p (h : DkP w B b A P) (s : ByteArray) (Fr : Nat → Prop) (ba : Option Addr) (bn bc : Nat) (l : List UInt8) (hb : Rd w Fr (.slice ba bn bc) l) (hfr : ∀ k, Fr k → ¬ P k) (hw : A.wr ≤ 4611686018427387904) :
  Calls Tryz.prog 51 #[.pointer (some ⟨b, 0, none⟩), .string s, .slice ba bn bc] w fun e w' => e = .returned (.int .i64 (A.appE s l)) ∧ DkP w' B b (A.app s l) (newP P w w') ∧ DF w w' P := by
 have hbl := h.lt
 obtain ⟨h1, m, F, h2, h3, h4⟩ := h
 have hU : usedF F ≤ 1099511627776 := by rw [used_cont, h3]; have := h1.used; have := h1.room; omega
 have hr : 0 ≤ A.room ∧ A.room ≤ 1099511627776 := by have := h1.room; omega
 have hbn : l.length = bn := by obtain ⟨_, _, _, _, e, _⟩ := hb; injection e with _ e _; exact e.symm
 unfold Ab.appE Ab.app
 by_cases he : refE A.off s = 0
 ·by_cases hf : A.fits s l.length = true
  ·rw [if_pos he, if_pos hf, if_pos ⟨he, hf⟩]
   refine (append_dk h2 s Fr ba bn bc l hb (fun k hk hp => hfr k hk (h4 k hp)) hU hr ⟨h1.wr, hw⟩ h1.ar (by omega) he (by rw [fits_of h3]; exact hf)).mono ?_
   rintro e w' ⟨rfl, F', hd, hc, hdf, hn⟩
   have hok := appC_ok h1 he hf
   refine ⟨rfl, ⟨h1.did hok.1 hok.2.1 hok.2.2, m, F', hd, ?_, newP_of hd h4 hn⟩, hdf.mono h4⟩
   rw [hc]
   unfold appF Ab.did Ab.appC Ab.old
   rw [oldB_cont, h3]
  ·have hf' : A.fits s l.length = false := by simpa using hf
   rw [if_pos he, if_neg hf, if_neg (fun q => hf q.2)]
   refine (append_no2 h2 s ba bn bc hU hr he (by rw [fits_of h3, ← hbn]; exact hf')).mono ?_
   rintro e w' ⟨rfl, hg⟩
   exact ⟨rfl, ⟨h1, m, F, h2.keep hg, h3, fun k hk => .inl (h4 k hk)⟩, DF.of hg⟩
 ·rw [if_neg he, if_neg (fun q => he q.1)]
  refine (append_no1 h2 s ba bn bc he).mono ?_
  rintro e w' ⟨rfl, hg⟩
  exact ⟨rfl, ⟨h1, m, F, h2.keep hg, h3, fun k hk => .inl (h4 k hk)⟩, DF.of hg⟩
theorem cut_p (h : DkP w B b A P) (s : ByteArray) (z : Int) (hw : A.wr ≤ 4611686018427387904) :
  Calls Tryz.prog 103 #[.pointer (some ⟨b, 0, none⟩), .string s, .int .i64 z] w fun e w' => e = .returned (.int .i64 (A.cutE s z)) ∧ DkP w' B b (A.cut s z) (newP P w w') ∧ DF w w' P := by
 have hbl := h.lt
 obtain ⟨h1, m, F, h2, h3, h4⟩ := h
 have hU : usedF F ≤ 1099511627776 := by rw [used_cont, h3]; have := h1.used; have := h1.room; omega
 have hol : oldB F s = A.old s := by unfold Ab.old; rw [oldB_cont, h3]
 unfold Ab.cutE Ab.cut
 by_cases he : A.fndE s = 0
 ·have he2 : findE A.off F s = 0 := by rw [fndE_of h3]; exact he
  by_cases hz : 0 ≤ z ∧ z ≤ ((A.old s).length : Int)
  ·rw [if_pos he, if_pos hz, if_pos ⟨he, hz⟩]
   obtain ⟨n, rfl⟩ : ∃ n : Nat, z = (n : Int) := ⟨z.toNat, by omega⟩
   refine (cut_dk h2 s n hU ⟨h1.wr, hw⟩ h1.ar (by omega) he2 (by rw [hol]; omega)).mono ?_
   rintro e w' ⟨rfl, F', hd, hc, hdf, hn⟩
   have hok := cutC_ok h1 (z := (n : Int)) he
   refine ⟨rfl, ⟨h1.did hok.1 hok.2.1 hok.2.2, m, F', hd, ?_, newP_of hd h4 hn⟩, hdf.mono h4⟩
   rw [hc]
   unfold cutF Ab.did Ab.cutC
   rw [hol, h3]
   rfl
  ·rw [if_pos he, if_neg hz, if_neg (fun q => hz q.2)]
   refine (cut_no2 h2 s z he2 (by rw [hol]; omega)).mono ?_
   rintro e w' ⟨rfl, hg⟩
   exact ⟨rfl, ⟨h1, m, F, h2.keep hg, h3, fun k hk => .inl (h4 k hk)⟩, DF.of hg⟩
 ·rw [if_neg he, if_neg (fun q => he q.1)]
  have := cut_no1 h2 s z (by rw [fndE_of h3]; exact he)
  rw [fndE_of h3] at this
  refine this.mono ?_
  rintro e w' ⟨rfl, hg⟩
  exact ⟨rfl, ⟨h1, m, F, h2.keep hg, h3, fun k hk => .inl (h4 k hk)⟩, DF.of hg⟩
end Go.Proofs.YtpbiofnncdneoaaGreatDoor

namespace Go.Proofs.YtpbiofnncdneoaaGreatDoor
open Go Go.RowKit Go.MuLone
open Go.RowKit (wrap32 wrap64)

theorem sub_delF : ∀ (F : List Fl) (s : ByteArray), (delF F s).Sublist F
 | [], _ => List.Sublist.refl _
 | f :: F, s => by
  unfold delF
  by_cases e : f.nm = s
  ·rw [if_pos e]; exact List.sublist_cons_self _ _
  ·rw [if_neg e]; exact (sub_delF F s).cons_cons _
theorem mem_delF {f : Fl} : ∀ {F : List Fl} {s : ByteArray}, (F.map (·.nm)).Nodup → f ∈ delF F s → f ∈ F ∧ f.nm ≠ s
 | [], _, _, h => by cases h
 | g :: F, s, hn, h => by
  have hn' := List.nodup_cons.1 hn
  unfold delF at h
  by_cases e : g.nm = s
  ·rw [if_pos e] at h
   exact ⟨List.mem_cons_of_mem _ h, fun q => hn'.1 (by show g.nm ∈ _; rw [show g.nm = f.nm from e.trans q.symm]; exact List.mem_map.2 ⟨f, h, rfl⟩)⟩
  ·rw [if_neg e] at h
   rcases List.mem_cons.1 h with rfl | h
   ·exact ⟨List.mem_cons_self .., e⟩
   ·have := mem_delF hn'.2 h
    exact ⟨List.mem_cons_of_mem _ this.1, this.2⟩
section
variable {w w' : World} {B b m : Nat} {lk room : Int} {off : Bool} {wr ar kp : Int} {F : List Fl}
/-- A file is taken out of the map. -/
theorem Dk.del (h : Dk w B b m lk room off wr ar kp F) (s : ByteArray) : ∃ w', (∀ ty, (Builtin.delete_ #[80, 9] ty #[.map (some m), .string s]).run Tryz.prog w = .ok (.tuple #[]) w') ∧ Hid (Dk w' B b m lk room off wr ar kp (delF F s) ∧ w.grownBy w' (some m)) := by
 obtain ⟨o, hrun, hM⟩ := run_delete h.map s 0
 have hg := put_grown w m o
 refine ⟨World.put w m o, fun ty => ?_, hid ⟨⟨h.blk.on hg (fun e => by injection e with e; exact h.map.ne h.blk e), hM, fun f hf => (h.own f (mem_delF h.map.nodup hf).1).on hg (fun k e e2 => by injection e with e; subst e; exact h.map.own (h.own f (mem_delF h.map.nodup hf).1) e2), List.Pairwise.sublist (sub_delF F s) h.apart, h.low⟩, hg⟩⟩
 exact hrun
set_option maxRecDepth 100000 in
set_option maxHeartbeats 4000000 in
theorem remove_dk (h : Dk w B b m 0 room off wr ar kp F) (s : ByteArray) (hw : 0 ≤ wr ∧ wr ≤ 4611686018427387904) (ha : 0 ≤ ar ∧ ar ≤ 9223372036854775807) (he : findE off F s = 0) :
  Calls Tryz.prog 60 #[.pointer (some ⟨b, 0, none⟩), .string s] w fun e w' => e = .returned (.int .i64 (wE ar)) ∧ ∃ F', Dk w' B b m 0 room (wO ar off) (wr + 1) (wA ar) kp F' ∧ cont F' = (if 0 < wK ar kp then delC (cont F) s else cont F) ∧ DF w w' (Fp b m F) ∧ ∀ k, Fp b m F' k → Fp b m F k := by
 have HL := hid (lock_any h)
 obtain ⟨V, hV⟩ : ∃ x, findV off F s = x := ⟨_, rfl⟩
 have HFi : Hid (∀ u, Dk u B b m 1 room off wr ar kp F → Calls Tryz.prog 101 #[.pointer (some ⟨b, 0, none⟩), .string s] u fun e w' => e = .returned (.tuple #[V, .int .i64 0]) ∧ u.grownBy w' none) := fun u hu => by
  have := find_any hu s
  rw [he, hV] at this
  exact this
 have HWr : Hid (∀ u, Dk u B b m 1 room off wr ar kp F → Calls Tryz.prog 109 #[.pointer (some ⟨b, 0, none⟩)] u fun e w' => e = .returned (.tuple #[.int .i64 (wK ar kp), .int .i64 (wE ar)]) ∧ Dk w' B b m 1 room (wO ar off) (wr + 1) (wA ar) kp F ∧ u.grownBy w' (some b)) := fun u hu => write_any hu hw ha
 obtain ⟨K, hK⟩ : ∃ x, wK ar kp = x := ⟨_, rfl⟩
 obtain ⟨E, hE⟩ : ∃ x, wE ar = x := ⟨_, rfl⟩
 obtain ⟨O', hO'⟩ : ∃ x, wO ar off = x := ⟨_, rfl⟩
 obtain ⟨A', hA'⟩ : ∃ x, wA ar = x := ⟨_, rfl⟩
 rw [hK, hE, hO', hA'] at HWr
 rw [hK, hE, hO', hA']
 have HCo1 : Hid (cont (delF F s) = delC (cont F) s) := hid (del_cont F s)
 have HNd := hid h.map.nodup
 clear h hw ha he hV hK hE hO' hA'
 by_cases hK0 : 0 < K
 ·as_aux_lemma =>
  go_enter_defers Tryz.func60, Tryz.ntmps60
  go_upto_region 8 with (first
   | (go_at_call 52; refine HL.out.mono ?_; rintro e w1 ⟨rfl, hd, hg⟩; have HD1 := hid hd; have HF1 := hid (DF.one hg (P := Fp b m F) (.inl rfl)); clear hd hg)
   | (go_at_call 101; refine (HFi.out _ HD1.out).mono ?_; rintro e w2 ⟨rfl, hg⟩; have HD2 := hid (HD1.out.keep hg); have HF2 := hid (HF1.out.trans (DF.of (P := Fp b m F) hg) (fun _ _ q => q)); clear hg)
   | (go_at_call 109; refine (HWr.out _ HD2.out).mono ?_; rintro e w4 ⟨rfl, hd, hg⟩; have HD4 := hid hd; have HF4 := hid (HF2.out.trans (DF.one hg (P := Fp b m F) (.inl rfl)) (fun _ _ q => q)); clear hd hg))
  obtain ⟨w5, hdel, HQ5⟩ := HD4.out.del s
  have y3 := HD4.out.c.2.2.1
  go_wp2_with fail
  refine leaves_cons (f := 53) (args := #[.pointer (some ⟨b, 0, none⟩)]) (by simp) (by simp [go_sem]) ?_
  refine (unlock_any .returning HQ5.out.1).mono ?_
  rintro e u' w7 ⟨rfl, rfl, hd7, hg7⟩
  refine ⟨_, results_tmp rfl _ _ _, rfl, delF F s, hd7, HCo1.out, (HF4.out.trans (DF.one HQ5.out.2 (P := Fp b m F) (.inr (.inl rfl))) (fun _ _ q => q)).trans (DF.one hg7 (P := Fp b m F) (.inl rfl)) (fun _ _ q => q), ?_⟩
  rintro k (rfl | rfl | ⟨f, hf, hk⟩)
  ·exact .inl rfl
  ·exact .inr (.inl rfl)
  ·exact .inr (.inr ⟨f, (mem_delF HNd.out hf).1, hk⟩)
 ·as_aux_lemma =>
  go_enter_defers Tryz.func60, Tryz.ntmps60
  go_wp2_with (first
   | (go_at_call 52; refine HL.out.mono ?_; rintro e w1 ⟨rfl, hd, hg⟩; have HD1 := hid hd; have HF1 := hid (DF.one hg (P := Fp b m F) (.inl rfl)); clear hd hg)
   | (go_at_call 101; refine (HFi.out _ HD1.out).mono ?_; rintro e w2 ⟨rfl, hg⟩; have HD2 := hid (HD1.out.keep hg); have HF2 := hid (HF1.out.trans (DF.of (P := Fp b m F) hg) (fun _ _ q => q)); clear hg)
   | (go_at_call 109; refine (HWr.out _ HD2.out).mono ?_; rintro e w4 ⟨rfl, hd, hg⟩; have HD4 := hid hd; have HF4 := hid (HF2.out.trans (DF.one hg (P := Fp b m F) (.inl rfl)) (fun _ _ q => q)); clear hd hg))
  refine leaves_cons (f := 53) (args := #[.pointer (some ⟨b, 0, none⟩)]) (by simp) (by simp [go_sem]) ?_
  refine (unlock_any .returning HD4.out).mono ?_
  rintro e u' w7 ⟨rfl, rfl, hd7, hg7⟩
  exact ⟨_, results_tmp rfl _ _ _, rfl, F, hd7, rfl, HF4.out.trans (DF.one hg7 (P := Fp b m F) (.inl rfl)) (fun _ _ q => q), fun k hk => hk⟩
set_option maxRecDepth 100000 in
set_option maxHeartbeats 1600000 in
theorem remove_no (h : Dk w B b m 0 room off wr ar kp F) (s : ByteArray) (he : findE off F s ≠ 0) :
  Calls Tryz.prog 60 #[.pointer (some ⟨b, 0, none⟩), .string s] w fun e w' => e = .returned (.int .i64 (findE off F s)) ∧ w.grownBy w' none := by
 have HD := hid h
 have HL := hid (lock_any h)
 obtain ⟨E, hE⟩ : ∃ x, findE off F s = x := ⟨_, rfl⟩
 obtain ⟨V, hV⟩ : ∃ x, findV off F s = x := ⟨_, rfl⟩
 have HFi : Hid (∀ u, Dk u B b m 1 room off wr ar kp F → Calls Tryz.prog 101 #[.pointer (some ⟨b, 0, none⟩), .string s] u fun e w' => e = .returned (.tuple #[V, .int .i64 E]) ∧ u.grownBy w' none) := fun u hu => by
  have := find_any hu s
  rw [hV, hE] at this
  exact this
 rw [hE] at he ⊢
 have he' : (E == 0) = false := beq_eq_false_iff_ne.2 he
 clear h hE hV
 go_enter_defers Tryz.func60, Tryz.ntmps60
 go_wp2_with (first
  | (go_at_call 52; refine HL.out.mono ?_; rintro e w1 ⟨rfl, hd, hg⟩; have HD1 := hid hd; have HG1 := hid hg; clear hd hg)
  | (go_at_call 101; refine (HFi.out _ HD1.out).mono ?_; rintro e w2 ⟨rfl, hg⟩; have HD2 := hid (HD1.out.keep hg); have HG2 := hid (HG1.out.andThen hg (fun j hj => by cases hj)); clear hg))
 refine leaves_cons (f := 53) (args := #[.pointer (some ⟨b, 0, none⟩)]) (by simp) (by simp [go_sem]) ?_
 refine (unlock_any .returning HD2.out).mono ?_
 rintro e u' w3 ⟨rfl, rfl, hd3, hg3⟩
 exact ⟨_, results_tmp rfl _ _ _, rfl, back_same HD.out.blk (gtrans HG2.out hg3) hd3.blk⟩
end
variable {w w' : World} {B b : Nat} {A : Ab} {P : Nat → Prop}
def Ab.remC (A : Ab) (s : ByteArray) : Cn := if 0 < wK A.ar A.kp then delC A.C s else A.C
def Ab.remE (A : Ab) (s : ByteArray) : Int := if A.fndE s = 0 then wE A.ar else A.fndE s
def Ab.rem (A : Ab) (s : ByteArray) : Ab := if A.fndE s = 0 then A.did (A.remC s) else A
theorem used_del : ∀ (C : Cn) (s : ByteArray), usedC (delC C s) + ((getC C s).getD []).length = usedC C
 | [], _ => by simp [delC, getC, usedC]
 | p :: C, s => by
  unfold delC getC
  by_cases e : p.1 = s
  ·rw [if_pos e, if_pos e]
   simp only [usedC, List.map_cons, List.sum_cons, Option.getD_some]
   omega
  ·rw [if_neg e, if_neg e]
   have := used_del C s
   simp only [usedC, List.map_cons, List.sum_cons] at this ⊢
   omega
theorem len_del : ∀ (C : Cn) (s : ByteArray), (delC C s).length + (if (getC C s).isSome then 1 else 0) = C.length
 | [], _ => rfl
 | p :: C, s => by
  unfold delC getC
  by_cases e : p.1 = s
  ·rw [if_pos e, if_pos e]; rfl
  ·rw [if_neg e, if_neg e]
   have := len_del C s
   simp only [List.length_cons] at this ⊢
   omega
theorem mem_delC {q : ByteArray × List UInt8} : ∀ {C : Cn} {s : ByteArray}, q ∈ delC C s → q ∈ C
 | [], _, h => by cases h
 | p :: C, s, h => by
  unfold delC at h
  by_cases e : p.1 = s
  ·rw [if_pos e] at h; exact List.mem_cons_of_mem _ h
  ·rw [if_neg e] at h
   rcases List.mem_cons.1 h with h | h
   ·rw [h]; exact List.mem_cons_self ..
   ·exact List.mem_cons_of_mem _ (mem_delC h)
theorem fndE_zero {s : ByteArray} (he : A.fndE s = 0) : refE A.off s = 0 ∧ (getC A.C s).isSome = true := by
 unfold Ab.fndE at he
 by_cases e : refE A.off s = 0
 ·rw [if_pos e] at he
  refine ⟨e, ?_⟩
  cases hh : (getC A.C s).isSome with
  | true => rfl
  | false => rw [hh] at he; simp at he
 ·rw [if_neg e] at he
  exact absurd he e
theorem remC_ok (h : A.ok) {s : ByteArray} : (usedC (A.remC s) : Int) ≤ A.room ∧ (A.remC s).length ≤ 64 ∧ ∀ p ∈ A.remC s, goodN p.1 = true := by
 unfold Ab.remC
 by_cases hk : 0 < wK A.ar A.kp
 ·rw [if_pos hk]
  have h1 := used_del A.C s
  have h2 := len_del A.C s
  have h3 := h.used
  have h4 := h.len
  exact ⟨by omega, by omega, fun p hp => h.nms p (mem_delC hp)⟩
 ·rw [if_neg hk]
  exact ⟨h.used, h.len, h.nms⟩
theorem remove_p (h : DkP w B b A P) (s : ByteArray) (hw : A.wr ≤ 4611686018427387904) :
  Calls Tryz.prog 60 #[.pointer (some ⟨b, 0, none⟩), .string s] w fun e w' => e = .returned (.int .i64 (A.remE s)) ∧ DkP w' B b (A.rem s) (newP P w w') ∧ DF w w' P := by
 obtain ⟨h1, m, F, h2, h3, h4⟩ := h
 unfold Ab.remE Ab.rem
 by_cases he : A.fndE s = 0
 ·rw [if_pos he, if_pos he]
  refine (remove_dk h2 s ⟨h1.wr, hw⟩ h1.ar (by rw [fndE_of h3]; exact he)).mono ?_
  rintro e w' ⟨rfl, F', hd, hc, hdf, hn⟩
  have hok := remC_ok h1 (s := s)
  refine ⟨rfl, ⟨h1.did hok.1 hok.2.1 hok.2.2, m, F', hd, ?_, fun k hk => .inl (h4 k (hn k hk))⟩, hdf.mono h4⟩
  rw [hc, h3]
  rfl
 ·rw [if_neg he, if_neg he]
  have := remove_no h2 s (by rw [fndE_of h3]; exact he)
  rw [fndE_of h3] at this
  refine this.mono ?_
  rintro e w' ⟨rfl, hg⟩
  exact ⟨rfl, ⟨h1, m, F, h2.keep hg, h3, fun k hk => .inl (h4 k hk)⟩, DF.of hg⟩
end Go.Proofs.YtpbiofnncdneoaaGreatDoor

namespace Go.Proofs.YtpbiofnncdneoaaGreatDoor
open Go.Shelf
def Tryz.keys51_ren : Go.Shelf.Ren := ⟨fun | 7 => 123 | 10 => 166 | n => n, fun | 23 => 80 | 26 => 9 | 3 => 74 | 28 => 165 | 0 => 0 | 27 => 164 | 33 => 118 | 4 => 4 | n => n, fun | n => n⟩
theorem Tryz.keys51 : Go.Proofs.SlLaysZ.n7 Tryz.prog Tryz.keys51_ren := {
 mixed := by kernel_rfl
 f7 := ⟨Tryz.f123.name, by decide, Tryz.func123.trans (congrArg some (by kernel_rfl))⟩
 f10 := ⟨Tryz.f166.name, by decide, Tryz.func166.trans (congrArg some (by kernel_rfl))⟩
 t0 := Tryz.underlying0
 a0 := Tryz.isAgg0
 z0 := Tryz.sizeOf0
 v0 := Tryz.zeroValue0
 t4 := Tryz.underlying4
 a4 := Tryz.isAgg4
 z4 := Tryz.sizeOf4
 v4 := Tryz.zeroValue4
 t23 := Tryz.underlying80
 a23 := Tryz.isAgg80
 z23 := Tryz.sizeOf80
 v23 := Tryz.zeroValue80
 t26 := Tryz.underlying9
 a26 := Tryz.isAgg9
 z26 := Tryz.sizeOf9
 v26 := Tryz.zeroValue9
 t27 := Tryz.underlying164
 a27 := Tryz.isAgg164
 z27 := Tryz.sizeOf164
 v27 := Tryz.zeroValue164
 t28 := Tryz.underlying165
 a28 := Tryz.isAgg165
 z28 := Tryz.sizeOf165
 v28 := Tryz.zeroValue165
 t33 := Tryz.underlying118
 a33 := Tryz.isAgg118
 z33 := Tryz.sizeOf118
 v33 := Tryz.zeroValue118 }
def Tryz.sorted50_ren : Go.Shelf.Ren := ⟨fun | 6 => 122 | 8 => 164 | 9 => 165 | 11 => 176 | 13 => 178 | 12 => 177 | 23 => 188 | 24 => 189 | 14 => 179 | 15 => 180 | 16 => 181 | 17 => 182 | 18 => 183 | 19 => 184 | 20 => 185 | 21 => 186 | 22 => 187 | 25 => 190 | 26 => 191 | 27 => 192 | 28 => 193 | 29 => 194 | 30 => 195 | 31 => 196 | n => n, fun | 26 => 9 | 28 => 165 | 24 => 142 | 0 => 0 | 3 => 3 | 37 => 223 | 48 => 83 | 50 => 151 | 4 => 4 | 40 => 276 | 39 => 275 | 45 => 114 | 5 => 5 | 9 => 9 | 51 => 284 | 55 => 288 | 57 => 290 | 58 => 291 | 33 => 118 | n => n, fun | n => n⟩
theorem Tryz.sorted50 : Go.Proofs.SlLaysZ.n6 Tryz.prog Tryz.sorted50_ren := {
 mixed := by kernel_rfl
 f6 := ⟨Tryz.f122.name, by decide, Tryz.func122.trans (congrArg some (by kernel_rfl))⟩
 f8 := ⟨Tryz.f164.name, by decide, Tryz.func164.trans (congrArg some (by kernel_rfl))⟩
 f11 := ⟨Tryz.f176.name, by decide, Tryz.func176.trans (congrArg some (by kernel_rfl))⟩
 t0 := Tryz.underlying0
 a0 := Tryz.isAgg0
 z0 := Tryz.sizeOf0
 v0 := Tryz.zeroValue0
 t24 := Tryz.underlying142
 a24 := Tryz.isAgg142
 z24 := Tryz.sizeOf142
 v24 := Tryz.zeroValue142
 t26 := Tryz.underlying9
 a26 := Tryz.isAgg9
 z26 := Tryz.sizeOf9
 v26 := Tryz.zeroValue9
 t28 := Tryz.underlying165
 a28 := Tryz.isAgg165
 z28 := Tryz.sizeOf165
 v28 := Tryz.zeroValue165
 i26 := by kernel_rfl }
def Tryz.sort65_ren : Go.Shelf.Ren := ⟨fun | 6 => 165 | 8 => 178 | 9 => 177 | 19 => 188 | 20 => 189 | 21 => 179 | 22 => 180 | 23 => 181 | 24 => 182 | 25 => 183 | 26 => 184 | 27 => 185 | 28 => 186 | 29 => 187 | 36 => 190 | 31 => 191 | 32 => 192 | 37 => 193 | 38 => 194 | 39 => 195 | 41 => 196 | n => n, fun | 27 => 142 | 29 => 9 | 3 => 3 | 32 => 223 | 26 => 142 | 0 => 0 | 44 => 83 | 46 => 151 | 4 => 4 | 36 => 276 | 35 => 275 | 41 => 114 | 5 => 5 | 9 => 9 | 53 => 284 | 57 => 288 | 63 => 290 | 64 => 291 | n => n, fun | n => n⟩
theorem Tryz.sort65 : Go.Proofs.SlLaysM.n6 Tryz.prog Tryz.sort65_ren := {
 mixed := by kernel_rfl
 f6 := ⟨Tryz.f165.name, by decide, Tryz.func165.trans (congrArg some (by kernel_rfl))⟩
 f8 := Tryz.func178.trans (congrArg some (by kernel_rfl))
 f9 := ⟨Tryz.f177.name, by decide, Tryz.func177.trans (congrArg some (by kernel_rfl))⟩
 f19 := Tryz.func188.trans (congrArg some (by kernel_rfl))
 f20 := Tryz.func189.trans (congrArg some (by kernel_rfl))
 f21 := ⟨Tryz.f179.name, by decide, Tryz.func179.trans (congrArg some (by kernel_rfl))⟩
 f22 := ⟨Tryz.f180.name, by decide, Tryz.func180.trans (congrArg some (by kernel_rfl))⟩
 f23 := ⟨Tryz.f181.name, by decide, Tryz.func181.trans (congrArg some (by kernel_rfl))⟩
 f24 := ⟨Tryz.f182.name, by decide, Tryz.func182.trans (congrArg some (by kernel_rfl))⟩
 f25 := ⟨Tryz.f183.name, by decide, Tryz.func183.trans (congrArg some (by kernel_rfl))⟩
 f26 := ⟨Tryz.f184.name, by decide, Tryz.func184.trans (congrArg some (by kernel_rfl))⟩
 f27 := ⟨Tryz.f185.name, by decide, Tryz.func185.trans (congrArg some (by kernel_rfl))⟩
 f28 := ⟨Tryz.f186.name, by decide, Tryz.func186.trans (congrArg some (by kernel_rfl))⟩
 f29 := ⟨Tryz.f187.name, by decide, Tryz.func187.trans (congrArg some (by kernel_rfl))⟩
 f31 := Tryz.func191.trans (congrArg some (by kernel_rfl))
 f32 := Tryz.func192.trans (congrArg some (by kernel_rfl))
 f36 := ⟨Tryz.f190.name, by decide, Tryz.func190.trans (congrArg some (by kernel_rfl))⟩
 f37 := ⟨Tryz.f193.name, by decide, Tryz.func193.trans (congrArg some (by kernel_rfl))⟩
 f38 := ⟨Tryz.f194.name, by decide, Tryz.func194.trans (congrArg some (by kernel_rfl))⟩
 f39 := ⟨Tryz.f195.name, by decide, Tryz.func195.trans (congrArg some (by kernel_rfl))⟩
 f41 := ⟨Tryz.f196.name, by decide, Tryz.func196.trans (congrArg some (by kernel_rfl))⟩
 t0 := Tryz.underlying0
 a0 := Tryz.isAgg0
 z0 := Tryz.sizeOf0
 v0 := Tryz.zeroValue0
 t3 := Tryz.underlying3
 a3 := Tryz.isAgg3
 z3 := Tryz.sizeOf3
 v3 := Tryz.zeroValue3
 t4 := Tryz.underlying4
 a4 := Tryz.isAgg4
 z4 := Tryz.sizeOf4
 v4 := Tryz.zeroValue4
 t5 := Tryz.underlying5
 a5 := Tryz.isAgg5
 z5 := Tryz.sizeOf5
 v5 := Tryz.zeroValue5
 t9 := Tryz.underlying9
 a9 := Tryz.isAgg9
 z9 := Tryz.sizeOf9
 v9 := Tryz.zeroValue9
 t26 := Tryz.underlying142
 a26 := Tryz.isAgg142
 z26 := Tryz.sizeOf142
 v26 := Tryz.zeroValue142
 t27 := Tryz.underlying142
 a27 := Tryz.isAgg142
 z27 := Tryz.sizeOf142
 v27 := Tryz.zeroValue142
 t29 := Tryz.underlying9
 a29 := Tryz.isAgg9
 z29 := Tryz.sizeOf9
 v29 := Tryz.zeroValue9
 t32 := Tryz.underlying223
 a32 := Tryz.isAgg223
 z32 := Tryz.sizeOf223
 v32 := Tryz.zeroValue223
 t35 := Tryz.underlying275
 a35 := Tryz.isAgg275
 z35 := Tryz.sizeOf275
 v35 := Tryz.zeroValue275
 t36 := Tryz.underlying276
 a36 := Tryz.isAgg276
 z36 := Tryz.sizeOf276
 v36 := Tryz.zeroValue276
 t41 := Tryz.underlying114
 a41 := Tryz.isAgg114
 z41 := Tryz.sizeOf114
 v41 := Tryz.zeroValue114
 t44 := Tryz.underlying83
 a44 := Tryz.isAgg83
 z44 := Tryz.sizeOf83
 v44 := Tryz.zeroValue83
 t46 := Tryz.underlying151
 a46 := Tryz.isAgg151
 z46 := Tryz.sizeOf151
 v46 := Tryz.zeroValue151
 t53 := Tryz.underlying284
 a53 := Tryz.isAgg284
 z53 := Tryz.sizeOf284
 v53 := Tryz.zeroValue284
 t57 := Tryz.underlying288
 a57 := Tryz.isAgg288
 z57 := Tryz.sizeOf288
 v57 := Tryz.zeroValue288
 t63 := Tryz.underlying290
 a63 := Tryz.isAgg290
 z63 := Tryz.sizeOf290
 v63 := Tryz.zeroValue290
 t64 := Tryz.underlying291
 a64 := Tryz.isAgg291
 z64 := Tryz.sizeOf291
 v64 := Tryz.zeroValue291 }
open Go Go.RowKit Go.Maps Go.Sort
/-- slices.Sort's two contracts at this dump, at the fence that asks nothing. -/
theorem Tryz.sorts50 (m : Nat) : AnyZ.SortsIn Tryz.prog Tryz.sorted50_ren Fence.wide m :=
 ⟨fun blk off cap ss W hH hblk hsz => callsIn_wide.2 (AnyM.slices_Sort_string Tryz.sort65 blk off cap ss W hH hblk hsz),
  fun p cap W => callsIn_wide.2 (AnyM.slices_Sort_string_none Tryz.sort65 p cap W)⟩

/-- **maps.Keys[map[string][]byte,string,[]byte], at whatever map, the nil one too:** a function value over ONE NEW BLOCK, which holds the map. -/
theorem Tryz.maps_Keys_51 (mb : Option Nat) (W : World) : CallsIn Fence.wide 5 Tryz.prog 123 #[.map mb] W fun e w' => e = .returned (.func (.func 166) #[] #[.pointer (some ⟨W.heap.size, 0, none⟩)]) ∧ w' = W.alloc (.cells #[.map mb] 80) :=
 AnyZ.keys_in Tryz.keys51 Fence.wide 5 trivial rfl mb W

set_option maxHeartbeats 1000000 in
/-- **slices.Sorted[string] AT WHAT maps.Keys[map[string][]byte,string,[]byte] HANDED BACK FOR A MAP THAT IS NOT nil** ('w': the world AHEAD of maps.Keys' call): A NEW SLICE THAT HOLDS THE MAP's KEYS, SORTED; nil just where it has none; nothing that lay before has turned. -/
theorem Tryz.slices_Sorted_keys_50_51 {H : Type} (b nn : Nat) (D0 : DataW H) (R : Value → Option (DataW H × List MemPlace)) (w : World) (hown : w.ownsMap Tryz.prog 9 R b nn D0) (hmax : Maps.size D0 ≤ maxLen) (hbytes : Maps.size D0 * 16 ≤ 140737488355328) :
  CallsIn Fence.wide 5 Tryz.prog 122 #[.func (.func 166) #[] #[.pointer (some ⟨w.heap.size, 0, none⟩)]] (w.alloc (.cells #[.map (some b)] 80)) fun e w' => ∃ (v : Value) (ss : List (List UInt8)), e = .returned v ∧ ss.Perm (strKeys D0) ∧
   w'.ownsRow (w.alloc (.cells #[.map (some b)] 80)).heap.size 9 1 v ss.length ((ss.mergeSort (fun x y => decide (x ≤ y))).map encStr) ∧ (v = .slice none 0 0 ↔ ss = []) ∧ Below (w.alloc (.cells #[.map (some b)] 80)).heap.size (w.alloc (.cells #[.map (some b)] 80)) w' := by
 have hbl := hown.lt
 have hseq : SeqGives Fence.wide 2 Tryz.prog 166 #[.pointer (some ⟨w.heap.size, 0, none⟩)] encStr (fun ss => ss.Perm (strKeys D0)) (Maps.size D0) (w.alloc (.cells #[.map (some b)] 80)) :=
  AnyZ.keys_gives (ρ := Tryz.keys51_ren) { Tryz.keys51 with } Fence.wide _ trivial rfl (by omega) w.heap.size b nn D0 _ (by simp) (by simp) (by
   obtain ⟨es, clock, hb, Ft, hs, hD⟩ := hown
   exact ⟨es, clock, (Below.heap_alloc _ _ b hbl).trans hb, Ft, hs, hD⟩)
 exact AnyZ.sorted_in Tryz.sorted50 Fence.wide 5 trivial trivial trivial trivial rfl (by omega) (Tryz.sorts50 _) (enters_of Tryz.func165 (by kernel_rfl) rfl) 166 #[.pointer (some ⟨w.heap.size, 0, none⟩)] trivial (enters_of Tryz.func166 (by kernel_rfl) rfl) _ _ hmax hbytes _ hseq

end Go.Proofs.YtpbiofnncdneoaaGreatDoor

namespace Go.Proofs.YtpbiofnncdneoaaGreatDoor
open Go Go.RowKit Go.MapKept Go.MuLone
open Go.WideElems (Fit rd rg)
open Go.WideShapes (sorted_perm)
open Go.RowKit (wrap32 wrap64)

/-- The names of files, sorted. -/
def nmL (F : List Fl) : List (List UInt8) := F.map (fun f => f.nm.data.toList)
def srtL (l : List (List UInt8)) : List (List UInt8) := l.mergeSort leB
def rTr : Value → Option (DataW Unit × List MemPlace) := fun _ => some (.lit (.bool true), [])
variable {w w' : World} {B b m : Nat} {lk room : Int} {off : Bool} {wr ar kp : Int} {F : List Fl}
theorem keyOf_9 (s : ByteArray) (h : s.size ≤ 64) : keyOf Tryz.prog 9 (.string s) = some (.string s.data.toList) := by
 simp only [keyOf, Tryz.underlying9, mapKey]
 have h' : s.size ≤ maxLen := Nat.le_trans h (by decide)
 simp [h']
set_option maxRecDepth 100000 in
theorem MapAt.owns (h : MapAt w m F) (hl : F.length ≤ 64) (hn : ∀ f ∈ F, f.nm.size ≤ 64) : ∃ D : DataW Unit, w.ownsMap Tryz.prog 9 rTr m F.length D ∧ (strKeys D).Perm (nmL F) ∧ Maps.size D = F.length := by
 obtain ⟨es, clock, hb, hst, hF⟩ := h
 have hlen : es.size = F.length := by have := congrArg List.length hF; simpa using this
 have hk : ∀ x ∈ es.toList, ∃ f ∈ F, x.key = .string f.nm := fun x hx => by
  have : kv x ∈ F.map entF := by rw [← hF]; exact List.mem_map.2 ⟨x, hx, rfl⟩
  obtain ⟨f, hf, he⟩ := List.mem_map.1 this
  exact ⟨f, hf, (congrArg Prod.fst he).symm⟩
 have hrd : ∀ x ∈ es.toList, ∀ s : ByteArray, x.key = .string s → s.size ≤ 64 → rd Tryz.prog 9 rTr x = some (.string s.data.toList, .lit (.bool true)) := fun x hx s hs hz => by
  unfold rd
  rw [hs, keyOf_9 s hz]
  rfl
 refine ⟨_, ⟨es, clock, hb, ⟨by rw [hlen]; exact Nat.le_trans hl (by decide), hst, fun x hx => ?_⟩, Nat.le_of_eq hlen, rfl⟩, ?_, ?_⟩
 ·obtain ⟨f, hf, he⟩ := hk x hx
  exact ⟨_, hrd x hx f.nm he (hn f hf)⟩
 ·refine (List.Perm.map _ (sorted_perm _)).trans (List.Perm.of_eq ?_)
  rw [List.map_map]
  have h1 : es.toList.map ((fun p : Lit × DataW Unit => strOf p.1) ∘ rg Tryz.prog 9 rTr) = (es.toList.map kv).map (fun p => match p.1 with | .string s => s.data.toList | _ => []) := by
   rw [List.map_map]
   refine List.map_congr_left fun x hx => ?_
   obtain ⟨f, hf, he⟩ := hk x hx
   show strOf (rg Tryz.prog 9 rTr x).1 = (match x.key with | .string s => s.data.toList | _ => [])
   unfold rg
   rw [hrd x hx f.nm he (hn f hf)]

   rw [he, Option.getD_some]
   rfl
  rw [h1, hF, List.map_map]
  rfl
 ·rw [Maps.size_eq, length_sorted]
  simp [hlen]
theorem leB_sorted (l : List (List UInt8)) : (srtL l).Pairwise (fun x y => x ≤ y) := by
 have tr : ∀ a b c : List UInt8, leB a b = true → leB b c = true → leB a c = true := fun a b c h1 h2 => by simp only [leB, decide_eq_true_eq] at *; exact List.le_trans h1 h2
 have to : ∀ a b : List UInt8, (leB a b || leB b a) = true := fun a b => by simp only [leB, Bool.or_eq_true, decide_eq_true_eq]; exact List.le_total a b
 exact (List.pairwise_mergeSort tr to l).imp (fun h => by simpa [leB] using h)
theorem below_grown {n : Nat} (h : Below n w w') (hn : w.heap.size ≤ n) : w.grownBy w' none := ⟨h.os, h.tape, h.output, h.size, fun k hk _ => h.block k (by omega)⟩
theorem owns_base {B B' e q n : Nat} {v : Value} {xs : List Value} (h : w.ownsRow B e q v n xs) (hb : B' ≤ B) : w.ownsRow B' e q v n xs := by
 refine ⟨h.1, ?_⟩
 rcases h.2 with h1 | ⟨g, cap, cur, h1, h2, h3⟩
 ·exact .inl h1
 ·exact .inr ⟨g, cap, cur, h1, by omega, h3⟩
theorem keys_call (mb : Option Nat) (W : World) : Calls Tryz.prog 123 #[.map mb] W fun e w' => e = .returned (.func (.func 166) #[] #[.pointer (some ⟨W.heap.size, 0, none⟩)]) ∧ w' = W.alloc (.cells #[.map mb] 80) := callsIn_wide.1 (Tryz.maps_Keys_51 mb W)
theorem sort_call (h : MapAt w m F) (hl : F.length ≤ 64) (hn : ∀ f ∈ F, f.nm.size ≤ 64) : Calls Tryz.prog 122 #[.func (.func 166) #[] #[.pointer (some ⟨w.heap.size, 0, none⟩)]] (w.alloc (.cells #[.map (some m)] 80)) fun e w' => ∃ v, e = .returned v ∧ w'.ownsRow w.heap.size 9 1 v F.length ((srtL (nmL F)).map encStr) ∧ w.grownBy w' none := by
 obtain ⟨D, h1, h2, h3⟩ := h.owns hl hn
 have hc := callsIn_wide.1 (Tryz.slices_Sorted_keys_50_51 m F.length D rTr w h1 (by rw [h3]; exact Nat.le_trans hl (by decide)) (by rw [h3]; omega))
 refine hc.mono fun e w' ⟨v, ss, he, hp, ho, _, hb⟩ => ⟨v, he, ?_, gtrans (galloc w _ none) (below_grown hb (Nat.le_refl _))⟩
 have hperm := hp.trans h2
 have hss : ss.mergeSort (fun x y => decide (x ≤ y)) = srtL (nmL F) := mergeSort_of_perm hperm
 rw [hss] at ho
 have hlen : ss.length = F.length := by rw [hperm.length_eq]; simp [nmL]
 rw [hlen] at ho
 exact owns_base ho (by simp)
theorem sorted_any (h : Dk w B b m lk room off wr ar kp F) (hl : F.length ≤ 64) (hn : ∀ f ∈ F, f.nm.size ≤ 64) : Calls Tryz.prog 63 #[.pointer (some ⟨b, 0, none⟩)] w fun e w' => ∃ v, e = .returned v ∧ w'.ownsRow w.heap.size 9 1 v F.length ((srtL (nmL F)).map encStr) ∧ w.grownBy w' none := by
 have hb := h.blk
 have hm := h.map
 have c1 := fun W => keys_call (some m) W
 have c2 := sort_call hm hl hn
 have y3 := h.c.2.2.1
 have C1 := hid c1
 have C2 := hid c2
 clear c1 c2 hb hm h
 go_enter Tryz.func63, Tryz.ntmps63
 go_wp2_with first | (go_at_call 123; refine (C1.out _).mono ?_; rintro e w1 ⟨rfl, rfl⟩) | (go_at_call 122; refine C2.out.mono ?_; rintro e w1 ⟨v, rfl, ho, hg⟩)
 go_ret
 exact ⟨v, rfl, ho, hg⟩
end Go.Proofs.YtpbiofnncdneoaaGreatDoor

namespace Go.Proofs.YtpbiofnncdneoaaGreatDoor
open Go Go.RowKit Go.MuLone
open Go.RowKit (wrap32 wrap64)

/-- Files that are handed in: one behind the other, two cells each. -/
structure ArF (w : World) (Fr : Nat → Prop) (a : Option Addr) (b o : Nat) (L : Cn) : Prop where
 at_ : 0 < L.length → a = some ⟨b, o, none⟩ ∧ b < w.heap.size ∧ Fr b
 each : ∀ i (h : i < L.length), w.cell? ⟨b, o + i * 2, none⟩ = some (.string (L[i]).1) ∧ ∃ v, w.cell? ⟨b, o + i * 2 + 1, none⟩ = some v ∧ Rd w Fr v (L[i]).2
theorem ArF.on {w w' : World} {Fr : Nat → Prop} {a : Option Addr} {b o : Nat} {L : Cn} {row : Option Nat} (h : ArF w Fr a b o L) (hg : w.grownBy w' row) (hr : ∀ k, row = some k → ¬ Fr k) : ArF w' Fr a b o L := by
 refine ⟨fun h0 => ⟨(h.at_ h0).1, Nat.lt_of_lt_of_le (h.at_ h0).2.1 hg.size, (h.at_ h0).2.2⟩, fun i hi => ?_⟩
 have hb := h.at_ (by omega)
 have hne : row ≠ some b := fun e => hr b e hb.2.2
 obtain ⟨h1, v, h2, h3⟩ := h.each i hi
 exact ⟨(cell_at hg hb.2.1 hne).trans h1, v, (cell_at hg hb.2.1 hne).trans h2, h3.on hg hr⟩
theorem ArF.keep {w w' : World} {Fr : Nat → Prop} {a : Option Addr} {b o : Nat} {L : Cn} (h : ArF w Fr a b o L) (hg : w.grownBy w' none) : ArF w' Fr a b o L := h.on hg (fun k hk => by cases hk)
theorem ld9 (b i : Nat) (s : ByteArray) (u : World) (h : u.cell? ⟨b, i, none⟩ = some (.string s)) : (Instr.loadAt 9 (.pointer (some ⟨b, i, none⟩))).run Tryz.prog u = .ok (.string s) u := by go_simp
theorem Tryz.zero117 : (Tryz.prog.info? 117).map (fun i => i.zero) = some (some (.agg [Value.string ⟨#[]⟩, .slice none 0 0].toArray)) := by kernel_rfl
theorem Tryz.size117 : (Tryz.prog.info? 117).map (·.size) = some 2 := by kernel_rfl
theorem file_one (s : ByteArray) (a : Option Addr) (n c : Nat) : ∀ v ∈ [Value.string s, .slice a n c], v.oneCell' = true := fun v hv => by
 rcases List.mem_cons.1 hv with rfl | hv
 ·rfl
 ·rw [List.mem_singleton.1 hv]; rfl
end Go.Proofs.YtpbiofnncdneoaaGreatDoor

namespace Go.Proofs.YtpbiofnncdneoaaGreatDoor
open Go Go.RowKit Go.MuLone
open Go.RowKit (wrap32 wrap64)

theorem num_any (E : Int) (w : World) : Calls Tryz.prog 7 #[.int .i64 E] w fun e w' => e = .returned (.int .i64 E) ∧ w' = w := by
 go_enter Tryz.func7, Tryz.ntmps7
 go_wp2
 go_ret
 exact ⟨rfl, rfl⟩
theorem strOfNums_list (l : List UInt8) : strOfNums (l.map fun b => (b.toNat : Int)) = ⟨l.toArray⟩ := by
 unfold strOfNums
 rw [List.map_map, show l.map ((fun n : Int => UInt8.ofNat n.toNat) ∘ fun b : UInt8 => (b.toNat : Int)) = l.map id from List.map_congr_left fun x _ => by simp, List.map_id]
theorem conv33 (w : World) (C : Array Value) (n c : Nat) : (convert 74 74 (.slice (some ⟨w.heap.size, 0, none⟩) n c)).run Tryz.prog (w.alloc (.cells C 5)) = .ok (.slice (some ⟨w.heap.size, 0, none⟩) n c) (w.alloc (.cells C 5 (C.size, C.size + 1))) := Lib.run_convert_bytes_const (P := Tryz.prog) w 74 5 C n c Tryz.underlying74 Tryz.underlying5
/-- string(b). -/
theorem Rd.convert {w : World} {F : Nat → Prop} {v : Value} {l : List UInt8} (h : Rd w F v l) : (convert 74 9 v).run Tryz.prog w = .ok (.string ⟨l.toArray⟩) w := by
 obtain ⟨a, b, off, c, rfl, hc, hn, ha, hcell⟩ := h
 by_cases hl : 0 < l.length
 ·rw [(ha hl).1]
  have := run_convert_bytes_arg w 74 5 Tryz.underlying74 Tryz.underlying5 b off l.length c (l.map fun b => (b.toNat : Int)) (by simp) (fun i hi => by
   simp [hcell i hi, List.getD, List.getElem?_eq_getElem hi]) 9 Tryz.underlying9
  rw [this, strOfNums_list]
 ·have : l = [] := by cases l with | nil => rfl | cons _ _ => simp at hl
  subst this
  rcases a with _ | ⟨b', o', sp⟩
  ·exact run_convert_bytes_nil w 74 5 Tryz.underlying74 Tryz.underlying5 0 c 9 Tryz.underlying9
  ·rw [run_convert_bytes_string w 74 9 5 _ _ _ Tryz.underlying74 Tryz.underlying5 Tryz.underlying9]
   have hl := run_loadCells_list (P := Tryz.prog) w ⟨b', o', sp⟩ [] (fun j v hj => by simp at hj)
   have := run_bytesToString (P := Tryz.prog) w ⟨b', o', sp⟩ 0 c [] (by simpa using hl)
   exact this
/-- A disk that lies beyond w, with all that it has. -/
def Wd (w u : World) (b : Nat) (A : Ab) : Prop := DkP u w.heap.size b A (fun k => w.heap.size ≤ k ∧ k < u.heap.size) ∧ w.grownBy u none
theorem Wd.keep {w u u' : World} {b : Nat} {A : Ab} (h : Wd w u b A) (hg : u.grownBy u' none) : Wd w u' b A := ⟨(h.1.keep hg).mono (fun _ _ hk q => ⟨q.1, hk⟩), gtrans h.2 hg⟩
theorem Wd.step {w u u' : World} {b : Nat} {A A' : Ab} {Q : Nat → Prop} (h : Wd w u b A) (hd : DkP u' w.heap.size b A' Q) (hf : DF u u' (fun k => w.heap.size ≤ k ∧ k < u.heap.size)) : Wd w u' b A' :=
 ⟨hd.mono (fun _ h1 h2 _ => ⟨h1, h2⟩), ((DF.of h.2 (P := fun k => w.heap.size ≤ k)).trans hf (fun _ _ q => q.1)).grown (fun _ q => q)⟩
theorem lit_rd (w : World) (x : List UInt8) (fr : Nat × Nat) (cs : Array Value) (hcs : cs.toList = Lib.byteCells x) (n : Nat) (hn : n = x.length) : Rd (w.alloc (.cells cs 5 fr)) (fun k => k = w.heap.size) (.slice (some ⟨w.heap.size, 0, none⟩) n n) x := by
 subst hn
 have hh : (w.alloc (.cells cs 5 fr)).heap[w.heap.size]? = some (.cells cs 5 fr) := heap_alloc_new w _
 refine ⟨some ⟨w.heap.size, 0, none⟩, w.heap.size, 0, x.length, rfl, Nat.le_refl _, (fun h => by cases h), fun _ => ⟨rfl, (Array.getElem?_eq_some_iff.1 hh).1, rfl⟩, fun i hi => ?_⟩
 rw [Nat.zero_add, cell_of_row _ _ i _ 5 fr hh, ← Array.getElem?_toList, hcs]
 simp [Lib.byteCells, hi]
theorem Wd.lit {w u : World} {b : Nat} {A : Ab} (h : Wd w u b A) (s : ByteArray) (l : List UInt8) (cs : Array Value) (fr : Nat × Nat) (hc : cs.toList = Lib.byteCells l) (n : Nat) (hn : n = l.length) (hw : A.wr ≤ 4611686018427387904) :
  Calls Tryz.prog 51 #[.pointer (some ⟨b, 0, none⟩), .string s, .slice (some ⟨u.heap.size, 0, none⟩) n n] (u.alloc (.cells cs 5 fr)) fun e w' => e = .returned (.int .i64 (A.appE s l)) ∧ Wd w w' b (A.app s l) := by
 have hk := h.keep (galloc u (.cells cs 5 fr) none)
 have hk1 := h.1.keep (galloc u (.cells cs 5 fr) none)
 refine (append_p hk1 s (fun k => k = u.heap.size) _ _ _ l (lit_rd u l fr cs hc n hn) (fun k e q => by omega) hw).mono ?_
 rintro e w' ⟨rfl, hd, hf⟩
 exact ⟨rfl, hk.step hd (hf.mono (fun k q => ⟨q.1, by have := (galloc u (.cells cs 5 fr) none).size; omega⟩))⟩
def A0 : Ab := Ab.new 10
def A1 : Ab := A0.app ⟨#[97]⟩ [120, 121]
def A2 : Ab := A1.arm 1 1
end Go.Proofs.YtpbiofnncdneoaaGreatDoor
