/- Rows of keys, rows of fates and rings lie in unlike blocks. -/
import Derived.Test.YtmpcpakdocaieaaFateC
import Derived.Test.YtmpcpakdocaieaaSt
namespace Go.Proofs.Ytmpcpakdocaieaa
open Go Go.RowKit
open Go.RowKit (wrap32 wrap64)

theorem Blk.ne {w : World} {b b' : Nat} {cs cs' : List Value} {t t' : TypeId} (h : Blk w b cs t) (h' : Blk w b' cs' t') (ht : t ≠ t') : b ≠ b' := fun e => by
  subst e
  exact ht (h.agree h').2
theorem OutF.blk {C g : Nat} {w : World} {v : Value} {fs : List Ft} (h : OutF C w v fs) (hv : v.ownBlock = some g) : ∃ cs, Blk w g cs 96 ∧ C ≤ g := by
  rcases h.2.2 with ⟨rfl, _⟩ | ⟨g', cap, cur, rfl, hb, hg, _⟩
  · simp [Value.ownBlock] at hv
  · have : g' = g := by simpa [Value.ownBlock] using hv
    subst this
    exact ⟨cur.toList, by unfold Blk; simpa using hg, hb⟩
theorem OutK.blk {C g : Nat} {w : World} {v : Value} {l : List Ky} (h : OutK C w v l) (hv : v.ownBlock = some g) : ∃ cs, Blk w g cs 107 ∧ C ≤ g := by
  rcases h.2.2 with ⟨rfl, _⟩ | ⟨g', cap, cur, rfl, hb, hg, _⟩
  · simp [Value.ownBlock] at hv
  · have : g' = g := by simpa [Value.ownBlock] using hv
    subst this
    exact ⟨cur.toList, by unfold Blk; simpa using hg, hb⟩
/-- A change in a row of fates, or in a ring's block, leaves a row of keys. -/
theorem OutK.off {C g : Nat} {w w' : World} {v : Value} {l : List Ky} {cs : List Value} {t : TypeId} (h : OutK C w v l) (hg : w.grownBy w' (some g)) (hb : Blk w g cs t) (ht : t ≠ 107) : OutK C w' v l :=
  h.on hg (fun k hk e => by obtain ⟨cs', h1, _⟩ := h.blk e; have hk' : g = k := Option.some.inj hk; subst hk'; exact hb.ne h1 ht rfl)
theorem OutF.off {C g : Nat} {w w' : World} {v : Value} {l : List Ft} {cs : List Value} {t : TypeId} (h : OutF C w v l) (hg : w.grownBy w' (some g)) (hb : Blk w g cs t) (ht : t ≠ 96) : OutF C w' v l :=
  h.on hg (fun k hk e => by obtain ⟨cs', h1, _⟩ := h.blk e; have hk' : g = k := Option.some.inj hk; subst hk'; exact hb.ne h1 ht rfl)
end Go.Proofs.Ytmpcpakdocaieaa
