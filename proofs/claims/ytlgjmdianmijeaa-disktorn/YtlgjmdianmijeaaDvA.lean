/- DiskMoves' walk. -/
import Derived.Test.YtlgjmdianmijeaaDu
namespace Go.Proofs.Ytlgjmdianmijeaa
open Go Go.RowKit Go.MapKept Go.MuLone
open Go.RowKit (wrap32 wrap64)

/-- The operations that are handed in. -/
structure ArO (w : World) (F : Nat → Prop) (a : Option Addr) (g off n : Nat) (T : Nat → Opv) : Prop where
  at_ : 0 < n → a = some ⟨g, off, none⟩ ∧ g < w.heap.size ∧ F g
  each : ∀ i, i < n → w.rangeAt g (off + i * 8) (T i).cells ∧ (T i).In w F
theorem range_keep {w w' : World} {g o : Nat} {cs : List Value} (h : w.rangeAt g o cs) (hg : w.grownBy w' none) (hl : g < w.heap.size) : w'.rangeAt g o cs := fun j v hv => (cell_at hg hl (by simp)).trans (h j v hv)
theorem ArO.keep {w w' : World} {F : Nat → Prop} {a : Option Addr} {g off n : Nat} {T : Nat → Opv} (h : ArO w F a g off n T) (hg : w.grownBy w' none) : ArO w' F a g off n T :=
  ⟨fun h0 => ⟨(h.at_ h0).1, Nat.lt_of_lt_of_le (h.at_ h0).2.1 hg.size, (h.at_ h0).2.2⟩, fun i hi => ⟨range_keep (h.each i hi).1 hg (h.at_ (by omega)).2.1, (h.each i hi).2.keep hg⟩⟩
theorem Opv.len (o : Opv) : o.cells.length = 8 := rfl
theorem Try.size36 : (Try.prog.info? 36).map (·.size) = some 8 := by kernel_rfl
theorem Try.zero36 : (Try.prog.info? 36).map (fun i => i.zero) = some (some (.agg [Value.int .i64 0, .int .i64 0, .string ⟨#[]⟩, .string ⟨#[]⟩, .slice none 0 0, .int .i64 0, .int .i64 0, .slice none 0 0].toArray)) := by kernel_rfl
theorem ArF.df {w w' : World} {F P : Nat → Prop} {a : Option Addr} {g off : Nat} {L : Cn} (h : ArF w F a g off L) (hd : DF w w' P) (hp : ∀ k, F k → ¬ P k) : ArF w' F a g off L := by
  refine ⟨fun h0 => ⟨(h.at_ h0).1, Nat.lt_of_lt_of_le (h.at_ h0).2.1 hd.size, (h.at_ h0).2.2⟩, fun i hi => ?_⟩
  have hb := h.at_ (by omega)
  obtain ⟨h1, v, h2, h3⟩ := h.each i hi
  have hc : ∀ o, w'.cell? ⟨g, o, none⟩ = w.cell? ⟨g, o, none⟩ := fun o => World.cell?_of_block (hd.block g hb.2.1 (hp g hb.2.2))
  exact ⟨(hc _).trans h1, v, (hc _).trans h2, h3.df hd hp⟩
theorem ArF.mono {w : World} {F G : Nat → Prop} {a : Option Addr} {g off : Nat} {L : Cn} (h : ArF w F a g off L) (hf : ∀ k, F k → G k) : ArF w G a g off L := by
  refine ⟨fun h0 => ⟨(h.at_ h0).1, (h.at_ h0).2.1, hf _ (h.at_ h0).2.2⟩, fun i hi => ?_⟩
  obtain ⟨h1, v, h2, h3⟩ := h.each i hi
  obtain ⟨q1, q2, q3, q4, q5, q6, q7, q8, q9⟩ := h3
  exact ⟨h1, v, h2, q1, q2, q3, q4, q5, q6, q7, fun h0 => ⟨(q8 h0).1, (q8 h0).2.1, hf _ (q8 h0).2.2⟩, q9⟩
end Go.Proofs.Ytlgjmdianmijeaa
