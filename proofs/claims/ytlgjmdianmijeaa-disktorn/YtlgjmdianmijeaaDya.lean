/- A disk loaded with what another one tells; facts for DiskHolds and DiskTorn. -/
import Derived.Test.YtlgjmdianmijeaaDy
import Derived.Test.YtlgjmdianmijeaaDvA
namespace Go.Proofs.Ytlgjmdianmijeaa
open Go Go.RowKit Go.MapKept Go.MuLone
open Go.RowKit (wrap32 wrap64)

theorem load_back (A : Ab) (hok : A.ok) (hn : NdC A.C) (u : World) (Fr : Nat → Prop) (a : Option Addr) (fb fo fc : Nat) (hA : ArF u Fr a fb fo (srtC A.C)) :
    Calls Try.prog 24 #[.slice a (srtC A.C).length fc, .int .i64 A.room] u fun e w' => ∃ bz, e = .returned (.tuple #[.pointer (some ⟨bz, 0, none⟩), .int .i64 0]) ∧ DkP w' u.heap.size bz ⟨A.room, false, 0, 0, 0, srtC A.C⟩ (fun k => u.heap.size ≤ k ∧ k < w'.heap.size) ∧ u.grownBy w' none := by
  have hl : (srtC A.C).length ≤ 64 := by rw [srtC_len]; exact hok.len
  have q := load_srt (room := A.room) hn hok.nms hok.len hok.used
  refine (load_any u Fr a fb fo fc (srtC A.C) A.room hA (by omega) (fun p hp => ?_) hok.room).mono fun e w' ⟨hg, hh⟩ => ?_
  · have h1 := get_used (srtC A.C) p.1
    rw [get_mem (srt_nd hn) hp] at h1
    have h2 := used_srt hn
    have h3 := hok.used
    have h4 := hok.room.2
    simp only [Option.getD_some] at h1
    omega
  · rcases hh with ⟨h1, -⟩ | ⟨C, b, h1, h2, h3⟩
    · rw [q.1] at h1; cases h1
    · rw [q.1] at h1
      injection h1 with h1
      subst h1
      exact ⟨b, h2, h3, hg⟩
theorem srt_le {C : Cn} {n : Nat} (hn : NdC C) (h : usedC C ≤ n) : ∀ p ∈ srtC C, p.2.length ≤ n := fun p hp => by
  have h1 := get_used (srtC C) p.1
  rw [get_mem (srt_nd hn) hp, used_srt hn] at h1
  simp only [Option.getD_some] at h1
  omega
/-- What an Append that was not refused leaves of the other files. -/
theorem app_others {C : Cn} {s : ByteArray} {l : List UInt8} (hn : NdC C) (hn' : NdC (setC C s l)) : (∀ p ∈ srtC C, p.1 ≠ s → getC (srtC (setC C s l)) p.1 = some p.2) ∧ (∀ p ∈ srtC (setC C s l), p.1 ≠ s → (getC (srtC C) p.1).isSome = true) := by
  refine ⟨fun p hp hs => ?_, fun p hp hs => ?_⟩
  · rw [get_srt hn', get_set, if_neg hs]
    exact srt_mem hn hp
  · have := srt_mem hn' hp
    rw [get_set, if_neg hs] at this
    rw [get_srt hn, this]
    rfl
end Go.Proofs.Ytlgjmdianmijeaa
