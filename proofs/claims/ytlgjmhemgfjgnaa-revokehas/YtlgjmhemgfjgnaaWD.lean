/- RevokeHas: the two lists side by side. -/
import Derived.Test.YtlgjmhemgfjgnaaWC
namespace Go.Proofs.Ytlgjmhemgfjgnaa
open Go Go.RowKit

/-- the two lists behind a step. -/
structure Hs (i : Nat) (l m : List Ky) : Prop where
  c : chk l = true
  p : m.Perm l
  n : l.length ≤ i
theorem Hs.add {i : Nat} {l m : List Ky} (h : Hs i l m) (hk : okL l) (g : Nat) {id : List UInt8} (hid : id.length = 16) (ex : Int) : Hs (i + 1) (addL l g id ex) (addK g id ex m) :=
  ⟨chk_add h.c _ _ _, add_perm h.p hk h.c g hid ex, Nat.le_trans (len_add _ _ _ _) (by have := h.n; omega)⟩
theorem Hs.kill {i : Nat} {l m : List Ky} (h : Hs i l m) (g : Nat) (ex : Int) : Hs (i + 1) (killL l g ex) (killK g ex m) :=
  ⟨chk_kill h.c _ _, kill_perm h.p h.c g ex, Nat.le_trans (len_kill _ _ _) (by have := h.n; omega)⟩
theorem Hs.prune {i : Nat} {l m : List Ky} (h : Hs i l m) (now : Int) : Hs (i + 1) (prnL l now) (m.filter (fun r => decide (r.ex > now))) :=
  ⟨chk_prn _ _, prn_perm h.p h.c now, Nat.le_trans (len_prn _ _) (by have := h.n; omega)⟩
theorem Hs.skip {i : Nat} {l m : List Ky} (h : Hs i l m) : Hs (i + 1) l m := ⟨h.c, h.p, by have := h.n; omega⟩
theorem Hs.len {i : Nat} {l m : List Ky} (h : Hs i l m) : m.length = l.length := h.p.length_eq
theorem Hs.has {i : Nat} {l m : List Ky} (h : Hs i l m) (g : Nat) (id : List UInt8) : hasL l g id = m.any (fun r => cov r g id) := has_perm h.p h.c g id
end Go.Proofs.Ytlgjmhemgfjgnaa
