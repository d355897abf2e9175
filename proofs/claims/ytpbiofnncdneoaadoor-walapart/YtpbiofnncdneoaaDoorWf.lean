/- Plain facts on a disk that holds a log. -/
import Derived.Test.YtpbiofnncdneoaaDoorWe
namespace Go.Proofs.YtpbiofnncdneoaaDoor
open Go Go.RowKit Go.MapKept Go.MuLone
open Go.RowKit (wrap32 wrap64)

variable {A : Ab} {s t : ByteArray} {l : List UInt8}
theorem get_set : ∀ (C : Cn) (s : ByteArray) (l : List UInt8) (t : ByteArray), getC (setC C s l) t = if t = s then some l else getC C t
  | [], s, l, t => by
    unfold setC getC
    by_cases e : s = t
    · rw [if_pos e, if_pos e.symm]
    · rw [if_neg e, if_neg (fun q => e q.symm)]
      rfl
  | p :: C, s, l, t => by
    unfold setC
    by_cases e : p.1 = s
    · rw [if_pos e]
      unfold getC
      by_cases e2 : t = s
      · rw [if_pos e2.symm, if_pos e2]
      · rw [if_neg (fun q => e2 q.symm), if_neg e2, if_neg (fun q => e2 (by rw [← q, e]))]
    · rw [if_neg e]
      unfold getC
      by_cases e2 : p.1 = t
      · rw [if_pos e2, if_pos e2, if_neg (fun q => e (by rw [e2, q]))]
      · rw [if_neg e2, if_neg e2]
        exact get_set C s l t
theorem old_set (C : Cn) (r : Int) (o : Bool) (wr ar kp : Int) : Ab.old ⟨r, o, wr, ar, kp, setC C s l⟩ s = l := by
  unfold Ab.old
  rw [get_set, if_pos rfl]
  rfl
theorem old_other (C : Cn) (r : Int) (o : Bool) (wr ar kp : Int) (h : t ≠ s) : Ab.old ⟨r, o, wr, ar, kp, setC C s l⟩ t = (getC C t).getD [] := by
  unfold Ab.old
  rw [get_set, if_neg h]
/-- How many of two names there are. -/
def cntN (C : Cn) (m n : ByteArray) : Nat := (if (getC C m).isSome then 1 else 0) + (if (getC C n).isSome then 1 else 0)
theorem cntN_le (C : Cn) (m n : ByteArray) : cntN C m n ≤ 2 := by
  unfold cntN
  cases (getC C m).isSome <;> cases (getC C n).isSome <;> decide
theorem cntN_set {C : Cn} {m n : ByteArray} (hmn : m ≠ n) (hs : s = m ∨ s = n) (h : C.length ≤ cntN C m n) : (setC C s l).length ≤ cntN (setC C s l) m n := by
  have g1 : getC (setC C s l) s = some l := by rw [get_set, if_pos rfl]
  rw [len_set]
  unfold cntN at h ⊢
  rcases hs with rfl | rfl
  · have g2 : getC (setC C s l) n = getC C n := by rw [get_set, if_neg (fun e => hmn e.symm)]
    rw [g1, g2]
    cases h1 : (getC C s).isSome <;> cases h2 : (getC C n).isSome <;> simp [h1, h2] at h ⊢ <;> omega
  · have g2 : getC (setC C s l) m = getC C m := by rw [get_set, if_neg hmn]
    rw [g1, g2]
    cases h1 : (getC C s).isSome <;> cases h2 : (getC C m).isSome <;> simp [h1, h2] at h ⊢ <;> omega
/-- A disk of at most two files. -/
structure Live (A : Ab) (R U : Nat) (m n : ByteArray) : Prop where
  ne : m ≠ n
  room : A.room = R
  used : usedC A.C ≤ U
  len : A.C.length ≤ cntN A.C m n
variable {R U : Nat} {m n : ByteArray}
theorem ref_on (h : A.off = false) (hg : goodN s = true) : refE A.off s = 0 := by unfold refE; rw [h, hg]; rfl
theorem Live.fits (h : Live A R U m n) (hU : U + l.length ≤ R) : A.fits s l.length = true := by
  unfold Ab.fits
  have h1 := h.len
  have h3 := cntN_le A.C m n
  have h2 := h.used
  rw [decide_eq_true (by omega : A.C.length < 64), Bool.or_true, Bool.true_and, h.room]
  exact decide_eq_true (by omega)
theorem fnd_on (ho : A.off = false) (hg : goodN s = true) : A.fndB s = A.old s ∧ (A.fndE s = 0 ∨ A.fndE s = 92) := by
  unfold Ab.fndB Ab.fndE
  rw [ref_on ho hg, if_pos rfl]
  unfold Ab.old
  cases hq : getC A.C s with
  | none => simp
  | some x => simp
theorem fil_on (h0 : A.off = false) (hg : goodN s = true) {rs : List (List UInt8)} {t : List UInt8} (ho : A.old s = flat rs ++ t) (he : ∀ r ∈ rs, r.length ≤ 16777216) (hn : rs.length ≤ 1000000) (ht : t ≠ [] → unfrE t ≠ 0) : Fil A s rs t :=
  ⟨(fnd_on h0 hg).2, by rw [(fnd_on h0 hg).1]; exact ho, he, hn, ht⟩
theorem Live.set (h : Live A R U m n) (hs : s = m ∨ s = n) {V : Nat} (hV : U + l.length ≤ V + (A.old s).length) {o : Bool} {wr ar kp : Int} : Live ⟨A.room, o, wr, ar, kp, setC A.C s l⟩ R V m n := by
  have hu := used_set A.C s l
  refine ⟨h.ne, h.room, ?_, cntN_set h.ne hs h.len⟩
  show usedC (setC A.C s l) ≤ V
  have h3 := h.used
  unfold Ab.old at hV
  omega
/-- Append to a disk that isn't armed, or whose time has not come. -/
theorem Live.app (h : Live A R U m n) (h0 : A.off = false) (hs : s = m ∨ s = n) (hg : goodN s = true) (hU : U + l.length ≤ R) (har : A.ar ≠ 1) (hl : l.length ≤ 16777229) :
    A.appE s l = 0 ∧ A.app s l = ⟨A.room, false, A.wr + 1, max (A.ar - 1) 0, A.kp, setC A.C s (A.old s ++ l)⟩ ∧ Live (A.app s l) R (U + l.length) m n := by
  have h1 := ref_on h0 hg
  have h2 := h.fits hU (s := s)
  have e1 : A.appE s l = 0 := by unfold Ab.appE; rw [if_pos h1, if_pos h2]; unfold wE; rw [if_neg har]
  have e2 : A.appC s l = setC A.C s (A.old s ++ l) := by
    unfold Ab.appC wK
    rw [if_neg har, if_pos (by decide)]
    have : (min (9223372036854775807 : Int) (l.length : Int)).toNat = l.length := by omega
    rw [this, List.take_length]
  have e3 : A.app s l = ⟨A.room, false, A.wr + 1, max (A.ar - 1) 0, A.kp, setC A.C s (A.old s ++ l)⟩ := by
    unfold Ab.app
    rw [if_pos ⟨h1, h2⟩, e2]
    unfold Ab.did wO wA
    rw [if_neg har, if_neg har, h0]
  refine ⟨e1, e3, ?_⟩
  rw [e3]
  exact h.set hs (by rw [List.length_append]; omega)
/-- A torn Append. -/
theorem Live.torn (h : Live A R U m n) (h0 : A.off = false) (hs : s = m ∨ s = n) (hg : goodN s = true) (hU : U + l.length ≤ R) (har : A.ar = 1) :
    A.appE s l = 94 ∧ Live (A.app s l) R (U + l.length) m n ∧ (A.app s l).off = true ∧ (A.app s l).ar = 0 ∧ (A.app s l).wr = A.wr + 1 ∧ (A.app s l).old s = A.old s ++ l.take (min A.kp l.length).toNat ∧ ∀ x, x ≠ s → (A.app s l).old x = A.old x := by
  have h1 := ref_on h0 hg
  have h2 := h.fits hU (s := s)
  have e1 : A.appE s l = 94 := by unfold Ab.appE; rw [if_pos h1, if_pos h2]; unfold wE; rw [if_pos har]
  have e3 : A.app s l = ⟨A.room, true, A.wr + 1, 0, A.kp, A.appC s l⟩ := by
    unfold Ab.app
    rw [if_pos ⟨h1, h2⟩]
    unfold Ab.did wO wA
    rw [if_pos har, if_pos har]
  rw [e3]
  unfold Ab.appC wK
  rw [if_pos har]
  by_cases hk : 0 < A.kp
  · rw [if_pos hk]
    refine ⟨e1, h.set hs (by rw [List.length_append, List.length_take]; omega), rfl, rfl, rfl, old_set .., fun x hx => ?_⟩
    rw [old_other _ _ _ _ _ _ hx]
    rfl
  · rw [if_neg hk]
    refine ⟨e1, ⟨h.ne, h.room, Nat.le_trans h.used (by omega), h.len⟩, rfl, rfl, rfl, ?_, fun _ _ => rfl⟩
    have : (min A.kp (l.length : Int)).toNat = 0 := by omega
    rw [this, List.take_zero, List.append_nil]
    rfl
/-- Cut. -/
theorem Live.cut (h : Live A R U m n) (h0 : A.off = false) (hs : s = m ∨ s = n) {k : Nat} (hf : A.fndE s = 0) (hk : k ≤ (A.old s).length) (har : A.ar ≠ 1) :
    A.cutE s k = 0 ∧ A.cut s k = ⟨A.room, false, A.wr + 1, max (A.ar - 1) 0, A.kp, setC A.C s ((A.old s).take k)⟩ ∧ Live (A.cut s k) R U m n := by
  have hk' : 0 ≤ (k : Int) ∧ (k : Int) ≤ ((A.old s).length : Int) := by omega
  have e1 : A.cutE s k = 0 := by unfold Ab.cutE; rw [if_pos hf, if_pos hk']; unfold wE; rw [if_neg har]
  have e3 : A.cut s k = ⟨A.room, false, A.wr + 1, max (A.ar - 1) 0, A.kp, setC A.C s ((A.old s).take k)⟩ := by
    unfold Ab.cut
    rw [if_pos ⟨hf, hk'⟩]
    unfold Ab.did wO wA Ab.cutC wK
    rw [if_neg har, if_neg har, if_neg har, if_pos (by decide), h0]
    rfl
  refine ⟨e1, e3, ?_⟩
  rw [e3]
  exact h.set hs (by rw [List.length_take]; omega)
/-- A torn Cut. -/
theorem Live.cutTorn (h : Live A R U m n) (hs : s = m ∨ s = n) {k : Nat} (hf : A.fndE s = 0) (hk : k ≤ (A.old s).length) (har : A.ar = 1) :
    A.cutE s k = 94 ∧ Live (A.cut s k) R U m n ∧ (A.cut s k).off = true ∧ (A.cut s k).ar = 0 ∧ (A.cut s k).wr = A.wr + 1 ∧ ((A.cut s k).old s = (A.old s).take k ∨ (A.cut s k).old s = A.old s) := by
  have hk' : 0 ≤ (k : Int) ∧ (k : Int) ≤ ((A.old s).length : Int) := by omega
  have e1 : A.cutE s k = 94 := by unfold Ab.cutE; rw [if_pos hf, if_pos hk']; unfold wE; rw [if_pos har]
  have e3 : A.cut s k = ⟨A.room, true, A.wr + 1, 0, A.kp, A.cutC s k⟩ := by
    unfold Ab.cut
    rw [if_pos ⟨hf, hk'⟩]
    unfold Ab.did wO wA
    rw [if_pos har, if_pos har]
  rw [e3]
  unfold Ab.cutC wK
  rw [if_pos har]
  by_cases hkp : 0 < A.kp
  · rw [if_pos hkp]
    exact ⟨e1, h.set hs (by rw [List.length_take]; omega), rfl, rfl, rfl, .inl (old_set ..)⟩
  · rw [if_neg hkp]
    exact ⟨e1, ⟨h.ne, h.room, h.used, h.len⟩, rfl, rfl, rfl, .inr rfl⟩
theorem Live.new (R : Nat) (h : m ≠ n) : Live (Ab.new R) R 0 m n := ⟨h, rfl, Nat.le_refl _, Nat.zero_le _⟩
theorem Live.le (h : Live A R U m n) {V : Nat} (hv : U ≤ V) : Live A R V m n := ⟨h.ne, h.room, Nat.le_trans h.used hv, h.len⟩
theorem Live.arm (h : Live A R U m n) (x y : Int) : Live (A.arm x y) R U m n := ⟨h.ne, h.room, h.used, h.len⟩
theorem Live.on (h : Live A R U m n) : Live A.on R U m n := ⟨h.ne, h.room, h.used, h.len⟩
end Go.Proofs.YtpbiofnncdneoaaDoor
