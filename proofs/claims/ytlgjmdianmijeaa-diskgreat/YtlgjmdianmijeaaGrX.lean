/- DiskGreat's walk. -/
import Derived.Test.YtlgjmdianmijeaaDk
namespace Go.Proofs.Ytlgjmdianmijeaa
open Go Go.RowKit Go.MuLone
open Go.RowKit (wrap32 wrap64)

def na : ByteArray := ⟨#[97]⟩
def nb : ByteArray := ⟨#[98]⟩
theorem ne_ab : ¬ na = nb := by decide
theorem w0A : wA 0 = 0 := rfl
theorem w0O (o : Bool) : wO 0 o = o := rfl
theorem w0E : wE 0 = 0 := rfl
theorem w0K (k : Int) : wK 0 k = 9223372036854775807 := rfl
theorem take_all (l : List UInt8) (h : (l.length : Int) ≤ 9223372036854775807) : l.take (min (9223372036854775807 : Int) (l.length : Int)).toNat = l := List.take_of_length_le (by omega)
theorem ref_a : refE false na = 0 := by decide +kernel
theorem ref_b : refE false nb = 0 := by decide +kernel
/-- Files, nothing armed, the power on. -/
def calm (room wr : Int) (C : Cn) : Ab := ⟨room, false, wr, 0, 0, C⟩
theorem app_calm {room wr : Int} {C : Cn} {s : ByteArray} {l : List UInt8} (hs : refE false s = 0) (hf : (calm room wr C).fits s l.length = true) (hl : (l.length : Int) ≤ 9223372036854775807) : (calm room wr C).appE s l = 0 ∧ (calm room wr C).app s l = calm room (wr + 1) (setC C s ((getC C s).getD [] ++ l)) := by
  unfold Ab.appE Ab.app
  rw [show refE (calm room wr C).off s = 0 from hs, if_pos rfl, if_pos hf, if_pos ⟨rfl, hf⟩]
  refine ⟨rfl, ?_⟩
  unfold Ab.did Ab.appC Ab.old
  rw [show wK (calm room wr C).ar (calm room wr C).kp = 9223372036854775807 from rfl, if_pos (by omega), take_all l hl]
  rfl
theorem app_full {room wr : Int} {C : Cn} {s : ByteArray} {l : List UInt8} (hs : refE false s = 0) (hf : room - (usedC C : Nat) < (l.length : Int)) : (calm room wr C).appE s l = 93 ∧ (calm room wr C).app s l = calm room wr C := by
  have hff : ¬ (calm room wr C).fits s l.length = true := by
    unfold Ab.fits
    rw [show decide ((l.length : Int) ≤ (calm room wr C).room - (usedC (calm room wr C).C : Nat)) = false from decide_eq_false (by show ¬ (l.length : Int) ≤ room - (usedC C : Nat); omega), Bool.and_false]
    simp
  unfold Ab.appE Ab.app
  rw [show refE (calm room wr C).off s = 0 from hs, if_pos rfl, if_neg hff, if_neg (fun q => hff q.2)]
  exact ⟨rfl, rfl⟩
theorem fnd_calm {room wr : Int} {C : Cn} {s : ByteArray} {l : List UInt8} (hs : refE false s = 0) (hg : getC C s = some l) : (calm room wr C).fndE s = 0 ∧ (calm room wr C).fndB s = l := by
  have h1 : (calm room wr C).fndE s = 0 := by
    unfold Ab.fndE
    rw [show refE (calm room wr C).off s = 0 from hs, if_pos rfl, show getC (calm room wr C).C s = some l from hg]
    rfl
  refine ⟨h1, ?_⟩
  unfold Ab.fndB
  rw [h1, if_pos rfl, show getC (calm room wr C).C s = some l from hg]
  rfl
theorem cut_calm {room wr : Int} {C : Cn} {s : ByteArray} {l : List UInt8} {z : Int} (hs : refE false s = 0) (hg : getC C s = some l) (h0 : 0 ≤ z) (hz : z ≤ (l.length : Int)) : (calm room wr C).cutE s z = 0 ∧ (calm room wr C).cut s z = calm room (wr + 1) (setC C s (l.take z.toNat)) := by
  have ho : (calm room wr C).old s = l := by unfold Ab.old; rw [show getC (calm room wr C).C s = some l from hg]; rfl
  unfold Ab.cutE Ab.cut
  rw [(fnd_calm hs hg).1, if_pos rfl, ho, if_pos ⟨h0, hz⟩, if_pos ⟨rfl, h0, hz⟩]
  refine ⟨rfl, ?_⟩
  unfold Ab.did Ab.cutC
  rw [show wK (calm room wr C).ar (calm room wr C).kp = 9223372036854775807 from rfl, if_pos (by omega), ho]
  rfl
theorem Wd.app {w u : World} {b : Nat} {A : Ab} {Fr : Nat → Prop} {ba : Option Addr} {bn bc : Nat} {l : List UInt8} (h : Wd w u b A) {v : World} (hg : v.grownBy u none) (hl : DkP v w.heap.size b A (fun k => w.heap.size ≤ k ∧ k < v.heap.size)) (s : ByteArray) (hb : Rd u Fr (.slice ba bn bc) l) (hfr : ∀ k, Fr k → v.heap.size ≤ k) (hw : A.wr ≤ 4611686018427387904) :
    Calls Try.prog 25 #[.pointer (some ⟨b, 0, none⟩), .string s, .slice ba bn bc] u fun e w' => e = .returned (.int .i64 (A.appE s l)) ∧ Wd w w' b (A.app s l) := by
  refine (append_p (hl.keep hg) s Fr ba bn bc l hb (fun k e q => by have := hfr k e; omega) hw).mono ?_
  rintro e w' ⟨rfl, hd, hf⟩
  exact ⟨rfl, h.step hd (hf.mono (fun k q => ⟨q.1, by have := hg.size; omega⟩))⟩
set_option maxRecDepth 100000 in
theorem run_files1 (s : ByteArray) (a : Option Addr) (n c : Nat) (u : World) : (Instr.buildSlice 34 1 #[(0, .agg #[.string s, .slice a n c])]).run Try.prog u = .ok (.slice (some ⟨u.heap.size, 0, none⟩) 1 1) (u.alloc (.cells #[.string s, .slice a n c] 58)) := by
  kernel_rfl
theorem built58 (s : ByteArray) (a : Option Addr) (n c : Nat) : Try.prog.built 58 [(0, .string s), (1, .slice a n c)] = some [Value.string s, .slice a n c].toArray := by kernel_rfl
end Go.Proofs.Ytlgjmdianmijeaa
