/- Append and Cut of a disk, plainly told. -/
import Derived.Test.YtlgjmdianmijeabDh
namespace Go.Proofs.Ytlgjmdianmijeab
open Go Go.RowKit Go.MuLone
open Go.RowKit (wrap32 wrap64)

variable {w w' : World} {B b : Nat} {A : Ab} {P : Nat → Prop}
def Ab.fits (A : Ab) (s : ByteArray) (n : Nat) : Bool := ((getC A.C s).isSome || decide (A.C.length < 64)) && decide ((n : Int) ≤ A.room - (usedC A.C : Nat))
theorem fits_of {F : List Fl} (h : cont F = A.C) (s : ByteArray) (n : Nat) : fitsF A.room F s n = A.fits s n := by
  unfold fitsF Ab.fits
  rw [has_cont, h, ← len_cont, h, used_cont, h]
/-- A write was done, or torn. -/
def Ab.did (A : Ab) (C : Cn) : Ab := ⟨A.room, wO A.ar A.off, A.wr + 1, wA A.ar, A.kp, C⟩
def Ab.old (A : Ab) (s : ByteArray) : List UInt8 := (getC A.C s).getD []
def Ab.appC (A : Ab) (s : ByteArray) (l : List UInt8) : Cn := if 0 < wK A.ar A.kp then setC A.C s (A.old s ++ l.take (min (wK A.ar A.kp) l.length).toNat) else A.C
def Ab.appE (A : Ab) (s : ByteArray) (l : List UInt8) : Int := if refE A.off s = 0 then (if A.fits s l.length = true then wE A.ar else 93) else refE A.off s
def Ab.app (A : Ab) (s : ByteArray) (l : List UInt8) : Ab := if refE A.off s = 0 ∧ A.fits s l.length = true then A.did (A.appC s l) else A
def Ab.cutC (A : Ab) (s : ByteArray) (z : Int) : Cn := if 0 < wK A.ar A.kp then setC A.C s ((A.old s).take z.toNat) else A.C
def Ab.cutE (A : Ab) (s : ByteArray) (z : Int) : Int := if A.fndE s = 0 then (if 0 ≤ z ∧ z ≤ ((A.old s).length : Int) then wE A.ar else 95) else A.fndE s
def Ab.cut (A : Ab) (s : ByteArray) (z : Int) : Ab := if A.fndE s = 0 ∧ 0 ≤ z ∧ z ≤ ((A.old s).length : Int) then A.did (A.cutC s z) else A
theorem wA_ok {ar : Int} (h : 0 ≤ ar ∧ ar ≤ 9223372036854775807) : 0 ≤ wA ar ∧ wA ar ≤ 9223372036854775807 := by
  unfold wA
  split <;> omega
theorem Ab.ok.did (h : A.ok) {C : Cn} (h1 : (usedC C : Int) ≤ A.room) (h2 : C.length ≤ 64) (h3 : ∀ p ∈ C, goodN p.1 = true) : (A.did C).ok :=
  ⟨h.room, by have := h.wr; show 0 ≤ A.wr + 1; omega, wA_ok h.ar, h1, h2, h3⟩
theorem appC_ok (h : A.ok) {s : ByteArray} {l : List UInt8} (he : refE A.off s = 0) (hf : A.fits s l.length = true) : (usedC (A.appC s l) : Int) ≤ A.room ∧ (A.appC s l).length ≤ 64 ∧ ∀ p ∈ A.appC s l, goodN p.1 = true := by
  unfold Ab.appC
  by_cases hk : 0 < wK A.ar A.kp
  · rw [if_pos hk]
    unfold Ab.fits at hf
    simp only [Bool.and_eq_true, Bool.or_eq_true, decide_eq_true_eq] at hf
    refine ⟨?_, ?_, fun p hp => ?_⟩
    · have h1 := used_set A.C s (A.old s ++ l.take (min (wK A.ar A.kp) l.length).toNat)
      have h2 : (A.old s ++ l.take (min (wK A.ar A.kp) l.length).toNat).length ≤ (A.old s).length + l.length := by
        rw [List.length_append, List.length_take]
        omega
      have h3 := hf.2
      unfold Ab.old at h1 h2 ⊢
      omega
    · rw [len_set]
      have := h.len
      rcases hf.1 with q | q
      · rw [if_pos q]; exact this
      · split <;> omega
    · rcases mem_setC hp with rfl | hp
      · exact (refE_size he).2.1
      · exact h.nms p hp
  · rw [if_neg hk]
    exact ⟨h.used, h.len, h.nms⟩
theorem cutC_ok (h : A.ok) {s : ByteArray} {z : Int} (he : A.fndE s = 0) : (usedC (A.cutC s z) : Int) ≤ A.room ∧ (A.cutC s z).length ≤ 64 ∧ ∀ p ∈ A.cutC s z, goodN p.1 = true := by
  have hfe : refE A.off s = 0 ∧ (getC A.C s).isSome = true := by
    unfold Ab.fndE at he
    by_cases e : refE A.off s = 0
    · rw [if_pos e] at he
      refine ⟨e, ?_⟩
      cases hh : (getC A.C s).isSome with
      | true => rfl
      | false => rw [hh] at he; simp at he
    · rw [if_neg e] at he
      exact absurd he e
  unfold Ab.cutC
  by_cases hk : 0 < wK A.ar A.kp
  · rw [if_pos hk]
    refine ⟨?_, ?_, fun p hp => ?_⟩
    · have h1 := used_set A.C s ((A.old s).take z.toNat)
      have h2 : ((A.old s).take z.toNat).length ≤ (A.old s).length := by rw [List.length_take]; omega
      have h3 := h.used
      unfold Ab.old at h1 h2 ⊢
      omega
    · rw [len_set, if_pos hfe.2]
      exact h.len
    · rcases mem_setC hp with rfl | hp
      · exact (refE_size hfe.1).2.1
      · exact h.nms p hp
  · rw [if_neg hk]
    exact ⟨h.used, h.len, h.nms⟩
theorem newP_of {m : Nat} {F F' : List Fl} {lk room : Int} {off : Bool} {wr ar kp : Int} (h : Dk w' B b m lk room off wr ar kp F') (hp : ∀ k, Fp b m F k → P k) (hn : ∀ k, Fp b m F' k → Fp b m F k ∨ w.heap.size ≤ k) : ∀ k, Fp b m F' k → newP P w w' k := fun k hk => by
  rcases hn k hk with q | q
  · exact .inl (hp k q)
  · exact .inr ⟨q, (h.lt hk).2⟩
theorem DF.mono {P Q : Nat → Prop} (h : DF w w' P) (hq : ∀ k, P k → Q k) : DF w w' Q := ⟨h.os, h.tape, h.output, h.size, fun k hk hp => h.block k hk (fun x => hp (hq k x))⟩
theorem append_p (h : DkP w B b A P) (s : ByteArray) (Fr : Nat → Prop) (ba : Option Addr) (bn bc : Nat) (l : List UInt8) (hb : Rd w Fr (.slice ba bn bc) l) (hfr : ∀ k, Fr k → ¬ P k) (hw : A.wr ≤ 4611686018427387904) :
    Calls Try.prog 18 #[.pointer (some ⟨b, 0, none⟩), .string s, .slice ba bn bc] w fun e w' => e = .returned (.int .i64 (A.appE s l)) ∧ DkP w' B b (A.app s l) (newP P w w') ∧ DF w w' P := by
  have hbl := h.lt
  obtain ⟨h1, m, F, h2, h3, h4⟩ := h
  have hU : usedF F ≤ 1099511627776 := by rw [used_cont, h3]; have := h1.used; have := h1.room; omega
  have hr : 0 ≤ A.room ∧ A.room ≤ 1099511627776 := by have := h1.room; omega
  have hbn : l.length = bn := by obtain ⟨_, _, _, _, e, _⟩ := hb; injection e with _ e _; exact e.symm
  unfold Ab.appE Ab.app
  by_cases he : refE A.off s = 0
  · by_cases hf : A.fits s l.length = true
    · rw [if_pos he, if_pos hf, if_pos ⟨he, hf⟩]
      refine (append_dk h2 s Fr ba bn bc l hb (fun k hk hp => hfr k hk (h4 k hp)) hU hr ⟨h1.wr, hw⟩ h1.ar (by omega) he (by rw [fits_of h3]; exact hf)).mono ?_
      rintro e w' ⟨rfl, F', hd, hc, hdf, hn⟩
      have hok := appC_ok h1 he hf
      refine ⟨rfl, ⟨h1.did hok.1 hok.2.1 hok.2.2, m, F', hd, ?_, newP_of hd h4 hn⟩, hdf.mono h4⟩
      rw [hc]
      unfold appF Ab.did Ab.appC Ab.old
      rw [oldB_cont, h3]
    · have hf' : A.fits s l.length = false := by simpa using hf
      rw [if_pos he, if_neg hf, if_neg (fun q => hf q.2)]
      refine (append_no2 h2 s ba bn bc hU hr he (by rw [fits_of h3, ← hbn]; exact hf')).mono ?_
      rintro e w' ⟨rfl, hg⟩
      exact ⟨rfl, ⟨h1, m, F, h2.keep hg, h3, fun k hk => .inl (h4 k hk)⟩, DF.of hg⟩
  · rw [if_neg he, if_neg (fun q => he q.1)]
    refine (append_no1 h2 s ba bn bc he).mono ?_
    rintro e w' ⟨rfl, hg⟩
    exact ⟨rfl, ⟨h1, m, F, h2.keep hg, h3, fun k hk => .inl (h4 k hk)⟩, DF.of hg⟩
end Go.Proofs.Ytlgjmdianmijeab
