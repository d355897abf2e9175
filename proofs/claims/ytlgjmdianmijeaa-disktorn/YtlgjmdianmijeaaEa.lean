/- Two disks alike, of which the one is armed; disks whose files are the same; plain facts for DiskTorn. -/
import Derived.Test.YtlgjmdianmijeaaDya
namespace Go.Proofs.Ytlgjmdianmijeaa
open Go Go.RowKit Go.MapKept Go.MuLone
open Go.RowKit (wrap32 wrap64)

variable {A B : Ab} {o : Opv}
/-- May the write be carried out? -/
def Ab.can (A : Ab) (o : Opv) : Bool :=
  if o.dv = 1 then decide (refE A.off o.nm = 0) && A.fits o.nm o.bs.length
  else if o.dv = 2 then decide (A.fndE o.nm = 0) && decide (0 ≤ o.nv ∧ o.nv ≤ ((A.old o.nm).length : Int))
  else if o.dv = 3 then decide (refE A.off o.to = 0) && decide (A.fndE o.nm = 0)
  else decide (A.fndE o.nm = 0)
/-- What is told where it may not. -/
def Ab.bad (A : Ab) (o : Opv) : Int :=
  if o.dv = 1 then (if refE A.off o.nm = 0 then 93 else refE A.off o.nm)
  else if o.dv = 2 then (if A.fndE o.nm = 0 then 95 else A.fndE o.nm)
  else if o.dv = 3 then (if refE A.off o.to = 0 then A.fndE o.nm else refE A.off o.to)
  else A.fndE o.nm
/-- What becomes of the files where so much of the write is kept. -/
def doC (C : Cn) (k : Int) (o : Opv) : Cn :=
  if 0 < k then
    (if o.dv = 1 then setC C o.nm ((getC C o.nm).getD [] ++ o.bs.take (min k o.bs.length).toNat)
    else if o.dv = 2 then setC C o.nm (((getC C o.nm).getD []).take o.nv.toNat)
    else if o.dv = 3 then setC (delC C o.nm) o.to ((getC C o.nm).getD [])
    else delC C o.nm)
  else C
theorem isDo_or (hd : o.isDo = true) : o.dv = 1 ∨ o.dv = 2 ∨ o.dv = 3 ∨ o.dv = 4 := by
  unfold Opv.isDo at hd
  simp only [Bool.or_eq_true, decide_eq_true_eq] at hd
  omega
theorem do_split (hd : o.isDo = true) : A.doE o = (if A.can o = true then wE A.ar else A.bad o) ∧ A.doA o = (if A.can o = true then A.did (doC A.C (wK A.ar A.kp) o) else A) ∧ (A.can o ≠ true → A.bad o ≠ 0) := by
  rcases isDo_or hd with h | h | h | h
  · unfold Ab.doE Ab.doA Ab.can Ab.bad doC Ab.appE Ab.app Ab.appC Ab.old
    simp only [h, if_true]
    by_cases h1 : refE A.off o.nm = 0
    · by_cases h2 : A.fits o.nm o.bs.length = true
      · simp [h1, h2]
      · simp [h1, h2]
    · simp [h1]
  · unfold Ab.doE Ab.doA Ab.can Ab.bad doC Ab.cutE Ab.cut Ab.cutC
    simp only [h, if_true, if_neg (by decide : ¬ ((2 : Int) = 1))]
    by_cases h1 : A.fndE o.nm = 0
    · by_cases h2 : 0 ≤ o.nv ∧ o.nv ≤ ((A.old o.nm).length : Int)
      · have hc : (decide (A.fndE o.nm = 0) && decide (0 ≤ o.nv ∧ o.nv ≤ ((A.old o.nm).length : Int))) = true := by rw [decide_eq_true h1, decide_eq_true h2]; rfl
        rw [hc]
        exact ⟨by rw [if_pos h1, if_pos h2, if_pos rfl], by rw [if_pos ⟨h1, h2⟩, if_pos rfl]; rfl, fun q => absurd rfl q⟩
      · have hc : (decide (A.fndE o.nm = 0) && decide (0 ≤ o.nv ∧ o.nv ≤ ((A.old o.nm).length : Int))) = false := by rw [decide_eq_false h2, Bool.and_false]
        rw [hc]
        exact ⟨by rw [if_pos h1, if_neg h2, if_neg (by decide), if_pos h1], by rw [if_neg (fun q => h2 q.2), if_neg (by decide)], fun _ => by rw [if_pos h1]; decide⟩
    · have hc : (decide (A.fndE o.nm = 0) && decide (0 ≤ o.nv ∧ o.nv ≤ ((A.old o.nm).length : Int))) = false := by rw [decide_eq_false h1, Bool.false_and]
      rw [hc]
      exact ⟨by rw [if_neg h1, if_neg (by decide), if_neg h1], by rw [if_neg (fun q => h1 q.1), if_neg (by decide)], fun _ => by rw [if_neg h1]; exact h1⟩
  · unfold Ab.doE Ab.doA Ab.can Ab.bad doC Ab.renE Ab.ren Ab.renC
    simp only [h, if_true, if_neg (by decide : ¬ ((3 : Int) = 1)), if_neg (by decide : ¬ ((3 : Int) = 2))]
    by_cases h2 : refE A.off o.to = 0
    · by_cases h1 : A.fndE o.nm = 0
      · have hc : (decide (refE A.off o.to = 0) && decide (A.fndE o.nm = 0)) = true := by rw [decide_eq_true h1, decide_eq_true h2]; rfl
        rw [hc]
        exact ⟨by rw [if_pos h2, if_pos h1, if_pos rfl], by rw [if_pos ⟨h2, h1⟩, if_pos rfl]; rfl, fun q => absurd rfl q⟩
      · have hc : (decide (refE A.off o.to = 0) && decide (A.fndE o.nm = 0)) = false := by rw [decide_eq_false h1, Bool.and_false]
        rw [hc]
        exact ⟨by rw [if_pos h2, if_neg h1, if_neg (by decide), if_pos h2], by rw [if_neg (fun q => h1 q.2), if_neg (by decide)], fun _ => by rw [if_pos h2]; exact h1⟩
    · have hc : (decide (refE A.off o.to = 0) && decide (A.fndE o.nm = 0)) = false := by rw [decide_eq_false h2, Bool.false_and]
      rw [hc]
      exact ⟨by rw [if_neg h2, if_neg (by decide), if_neg h2], by rw [if_neg (fun q => h2 q.1), if_neg (by decide)], fun _ => by rw [if_neg h2]; exact h2⟩
  · unfold Ab.doE Ab.doA Ab.can Ab.bad doC Ab.remE Ab.rem Ab.remC
    simp only [h, if_true, if_neg (by decide : ¬ ((4 : Int) = 1)), if_neg (by decide : ¬ ((4 : Int) = 2)), if_neg (by decide : ¬ ((4 : Int) = 3))]
    by_cases h1 : A.fndE o.nm = 0
    · have hc : decide (A.fndE o.nm = 0) = true := decide_eq_true h1
      rw [hc]
      exact ⟨by rw [if_pos h1, if_pos rfl], by rw [if_pos h1, if_pos rfl], fun q => absurd rfl q⟩
    · have hc : decide (A.fndE o.nm = 0) = false := decide_eq_false h1
      rw [hc]
      exact ⟨by rw [if_neg h1, if_neg (by decide)], by rw [if_neg h1, if_neg (by decide)], fun _ => h1⟩
theorem do_not (hd : o.isDo = false) : A.doE o = 0 ∧ A.doA o = A := by
  unfold Opv.isDo at hd
  simp only [Bool.or_eq_false_iff, decide_eq_false_iff_not] at hd
  obtain ⟨⟨⟨h1, h2⟩, h3⟩, h4⟩ := hd
  unfold Ab.doE Ab.doA
  rw [if_neg h1, if_neg h2, if_neg h3, if_neg h4, if_neg h1, if_neg h2, if_neg h3, if_neg h4]
  exact ⟨rfl, rfl⟩
/-- The one is armed; else both are alike. -/
structure Twin (A B : Ab) (n kp : Int) : Prop where
  calm : A.calm
  eq : B = ⟨A.room, false, A.wr, n - A.wr, kp, A.C⟩
  lt : A.wr < n
theorem Twin.can {n kp : Int} (h : Twin A B n kp) : B.can o = A.can o ∧ B.bad o = A.bad o := by
  obtain ⟨⟨h1, h2⟩, h3, h4⟩ := h
  obtain ⟨room, off, wr, ar, kp', C⟩ := A
  replace h1 : off = false := h1
  subst h1
  subst h3
  exact ⟨rfl, rfl⟩
theorem twin_step {n kp : Int} (h : Twin A B n kp) (hd : o.isDo = true) :
    (A.doE o ≠ 0 ∧ B.doE o = A.doE o ∧ A.doA o = A ∧ B.doA o = B) ∨ (A.doE o = 0 ∧ B.doE o = 0 ∧ (A.doA o).wr = A.wr + 1 ∧ Twin (A.doA o) (B.doA o) n kp) ∨
    (A.doE o = 0 ∧ B.doE o = 94 ∧ (A.doA o).wr = A.wr + 1 ∧ A.wr + 1 = n ∧ B.doA o = ⟨A.room, true, A.wr + 1, 0, kp, doC A.C kp o⟩ ∧ (A.doA o).C = doC A.C 9223372036854775807 o) := by
  obtain ⟨a1, a2, a3⟩ := do_split (A := A) hd
  obtain ⟨b1, b2, b3⟩ := do_split (A := B) hd
  rw [h.can.1] at b1 b2
  rw [h.can.2] at b1
  by_cases hc : A.can o = true
  · rw [if_pos hc] at a1 a2 b1 b2
    have hw := h.calm.w
    rw [hw.1] at a1
    rw [hw.2.1] at a2
    have hB := h.eq
    have e1 : B.ar = n - A.wr := by rw [hB]
    have e2 : B.kp = kp := by rw [hB]
    have e3 : B.C = A.C := by rw [hB]
    rw [e1] at b1
    rw [e1, e2, e3] at b2
    by_cases hn : n - A.wr = 1
    · refine .inr (.inr ⟨a1, ?_, by rw [a2]; rfl, by omega, ?_, by rw [a2]; rfl⟩)
      · rw [b1, hn]; rfl
      · rw [b2, hn]
        unfold Ab.did
        rw [e1, hn, hB]
        rfl
    · refine .inr (.inl ⟨a1, ?_, by rw [a2]; rfl, ?_⟩)
      · rw [b1]; unfold wE; rw [if_neg hn]
      · have hk : wK (n - A.wr) kp = 9223372036854775807 := by unfold wK; rw [if_neg hn]
        rw [hk] at b2
        refine ⟨by rw [a2]; exact h.calm.did _, ?_, ?_⟩
        · rw [a2, b2]
          unfold Ab.did
          have ho : wO (n - A.wr) false = false := by unfold wO; rw [if_neg hn]
          have ha : wA (n - A.wr) = n - (A.wr + 1) := by unfold wA; rw [if_neg hn]; have := h.lt; omega
          rw [e1, hB]
          show Ab.mk A.room (wO (n - A.wr) false) (A.wr + 1) (wA (n - A.wr)) kp _ = Ab.mk A.room false (A.wr + 1) (n - (A.wr + 1)) kp _
          rw [ho, ha]
        · rw [a2]
          show A.wr + 1 < n
          have := h.lt
          omega
  · rw [if_neg hc] at a1 a2 b1 b2
    exact .inl ⟨by rw [a1]; exact a3 hc, by rw [a1, b1], a2, b2⟩
/-- A disk whose power is off. -/
theorem dark_do (h : A.off = true) : A.doE o = (if o.isDo = true then 94 else 0) ∧ A.doA o = A := by
  cases hd : o.isDo with
  | false =>
    rw [if_neg (by decide)]
    exact do_not hd
  | true =>
    rw [if_pos rfl]
    obtain ⟨a1, a2, _⟩ := do_split (A := A) hd
    have hr : ∀ s, refE A.off s = 94 := fun s => by rw [h]; rfl
    have hf : ∀ s, A.fndE s = 94 := fun s => by unfold Ab.fndE; rw [hr s]; rfl
    have hc : A.can o ≠ true := by
      unfold Ab.can
      rw [hf, hr, hr]
      split
      · intro q; cases q
      · split
        · intro q; cases q
        · split <;> (intro q; cases q)
    rw [if_neg hc] at a1 a2
    refine ⟨?_, a2⟩
    rw [a1]
    unfold Ab.bad
    rw [hf, hr, hr]
    split
    · rfl
    · split
      · rfl
      · split <;> rfl
/-- The same files, in whatever order. -/
structure Lk (C D : Cn) : Prop where
  nc : NdC C
  nd : NdC D
  nm : (C.map (·.1)).Perm (D.map (·.1))
  get : ∀ s, getC C s = getC D s
variable {C D : Cn}
theorem none_get : ∀ {C : Cn} {s : ByteArray}, getC C s = none → s ∉ C.map (·.1)
  | [], s, _ => by simp
  | p :: C, s, h => by
    unfold getC at h
    by_cases e : p.1 = s
    · rw [if_pos e] at h; cases h
    · rw [if_neg e] at h
      simp only [List.map_cons, List.mem_cons, not_or]
      exact ⟨fun q => e q.symm, none_get h⟩
theorem set_names : ∀ (C : Cn) (s : ByteArray) (l : List UInt8), (getC C s).isSome = true → (setC C s l).map (·.1) = C.map (·.1)
  | [], s, l, h => by cases h
  | p :: C, s, l, h => by
    unfold setC
    unfold getC at h
    by_cases e : p.1 = s
    · rw [if_pos e, List.map_cons, List.map_cons, e]
    · rw [if_neg e] at h ⊢
      rw [List.map_cons, List.map_cons, set_names C s l h]
theorem set_nd (h : NdC C) (s : ByteArray) (l : List UInt8) : NdC (setC C s l) := by
  unfold NdC
  cases hg : getC C s with
  | some q => rw [set_names C s l (by rw [hg]; rfl)]; exact h
  | none =>
    rw [set_new C s l hg, List.map_append, List.nodup_append]
    refine ⟨h, by simp, fun a ha b hb e => ?_⟩
    have hb' : b = s := by simpa using hb
    exact none_get hg (by rw [← hb', ← e]; exact ha)
theorem del_none : ∀ {C : Cn} {s : ByteArray}, getC C s = none → delC C s = C
  | [], s, _ => rfl
  | p :: C, s, h => by
    unfold getC at h
    by_cases e : p.1 = s
    · rw [if_pos e] at h; cases h
    · rw [if_neg e] at h
      unfold delC
      rw [if_neg e, del_none h]
theorem del_nd (h : NdC C) (s : ByteArray) : NdC (delC C s) := by
  cases hg : getC C s with
  | none => rw [del_none hg]; exact h
  | some q =>
    have := (del_names C s (by rw [hg]; rfl)).nodup_iff.1 h
    exact (List.nodup_cons.1 this).2
theorem Lk.set (h : Lk C D) (s : ByteArray) (l : List UInt8) : Lk (setC C s l) (setC D s l) := by
  refine ⟨set_nd h.nc s l, set_nd h.nd s l, ?_, fun t => by rw [get_set, get_set, h.get]⟩
  cases hg : getC C s with
  | some q => rw [set_names C s l (by rw [hg]; rfl), set_names D s l (by rw [← h.get, hg]; rfl)]; exact h.nm
  | none =>
    rw [set_new C s l hg, set_new D s l (by rw [← h.get]; exact hg), List.map_append, List.map_append]
    exact h.nm.append_right _
theorem Lk.del (h : Lk C D) (s : ByteArray) : Lk (delC C s) (delC D s) := by
  refine ⟨del_nd h.nc s, del_nd h.nd s, ?_, fun t => by rw [get_del _ _ _ h.nc, get_del _ _ _ h.nd, h.get]⟩
  cases hg : getC C s with
  | none => rw [del_none hg, del_none (by rw [← h.get]; exact hg)]; exact h.nm
  | some q =>
    have h1 := del_names C s (by rw [hg]; rfl)
    have h2 := del_names D s (by rw [← h.get, hg]; rfl)
    exact List.Perm.cons_inv ((h1.symm.trans h.nm).trans h2)
theorem Lk.perm (h : Lk C D) : C.Perm D := by
  refine (List.perm_ext_iff_of_nodup (nd_list h.nc) (nd_list h.nd)).2 (fun p => ⟨fun hp => ?_, fun hp => ?_⟩)
  · have := get_mem h.nc hp
    rw [h.get] at this
    exact mem_get this
  · have := get_mem h.nd hp
    rw [← h.get] at this
    exact mem_get this
theorem Lk.len (h : Lk C D) : C.length = D.length := h.perm.length_eq
theorem Lk.used (h : Lk C D) : usedC C = usedC D := by
  unfold usedC
  exact (h.perm.map _).sum_nat
theorem Lk.srt (h : Lk C D) : srtC C = srtC D := srt_ext h.nm h.get
theorem Lk.doC (h : Lk C D) (k : Int) : Lk (doC C k o) (doC D k o) := by
  unfold Proofs.Ytlgjmdianmijeaa.doC
  rw [← h.get]
  split
  · split
    · exact h.set _ _
    · split
      · exact h.set _ _
      · split
        · exact (h.del _).set _ _
        · exact h.del _
  · exact h
/-- Two disks with the same files. -/
structure Alike (A B : Ab) : Prop where
  a : A.calm
  b : B.calm
  room : A.room = B.room
  lk : Lk A.C B.C
theorem Alike.can (h : Alike A B) : A.can o = B.can o ∧ A.bad o = B.bad o := by
  have ho : A.off = B.off := h.a.1.trans h.b.1.symm
  have hf : ∀ s, A.fndE s = B.fndE s := fun s => by unfold Ab.fndE; rw [ho, h.lk.get]
  have hl : ∀ s, A.old s = B.old s := fun s => by unfold Ab.old; rw [h.lk.get]
  have hi : ∀ s n, A.fits s n = B.fits s n := fun s n => by unfold Ab.fits; rw [h.lk.get, h.lk.len, h.lk.used, h.room]
  unfold Ab.can Ab.bad
  rw [ho, hf, hl, hi]
  exact ⟨rfl, rfl⟩
theorem alike_step (h : Alike A B) : A.doE o = B.doE o ∧ Alike (A.doA o) (B.doA o) := by
  cases hd : o.isDo with
  | false =>
    rw [(do_not (A := A) hd).1, (do_not (A := B) hd).1, (do_not (A := A) hd).2, (do_not (A := B) hd).2]
    exact ⟨rfl, h⟩
  | true =>
    obtain ⟨a1, a2, -⟩ := do_split (A := A) hd
    obtain ⟨b1, b2, -⟩ := do_split (A := B) hd
    rw [a1, b1, a2, b2, h.can.1, h.can.2, h.a.w.1, h.b.w.1, h.a.w.2.1, h.b.w.2.1]
    refine ⟨rfl, ?_⟩
    by_cases hc : B.can o = true
    · rw [if_pos hc, if_pos hc]
      exact ⟨h.a.did _, h.b.did _, h.room, h.lk.doC (o := o) 9223372036854775807⟩
    · rw [if_neg hc, if_neg hc]
      exact h
/-- What is left of an Append that is torn. -/
theorem torn_app (hn : NdC C) (kp : Int) (h1 : o.dv = 1) : (∀ p ∈ srtC C, p.1 ≠ o.nm → getC (srtC (doC C kp o)) p.1 = some p.2) ∧ (∀ p ∈ srtC (doC C kp o), p.1 ≠ o.nm → (getC (srtC C) p.1).isSome = true) ∧
    (getC (srtC (doC C kp o)) o.nm).isSome = ((getC (srtC C) o.nm).isSome || decide (0 < kp)) ∧ (getC (srtC (doC C kp o)) o.nm).getD [] = (getC (srtC C) o.nm).getD [] ++ o.bs.take (min (max kp 0) o.bs.length).toNat := by
  by_cases hk : 0 < kp
  · have e : doC C kp o = setC C o.nm ((getC C o.nm).getD [] ++ o.bs.take (min kp o.bs.length).toNat) := by unfold doC; rw [if_pos hk, if_pos h1]
    rw [e]
    have hn' := set_nd hn o.nm ((getC C o.nm).getD [] ++ o.bs.take (min kp o.bs.length).toNat)
    have q := app_others hn hn'
    refine ⟨q.1, q.2, ?_, ?_⟩
    · rw [get_srt hn', get_set, if_pos rfl, decide_eq_true hk, Bool.or_true]; rfl
    · rw [get_srt hn', get_set, if_pos rfl, get_srt hn, Int.max_eq_left (by omega)]; rfl
  · have e : doC C kp o = C := by unfold doC; rw [if_neg hk]
    rw [e]
    refine ⟨fun p hp _ => by rw [get_srt hn]; exact srt_mem hn hp, fun p hp _ => by rw [get_srt hn, srt_mem hn hp]; rfl, by rw [decide_eq_false hk, Bool.or_false], ?_⟩
    have : (min (max kp 0) o.bs.length).toNat = 0 := by omega
    rw [this, List.take_zero, List.append_nil]
/-- What is left of any other write. -/
theorem torn_else (kp : Int) (h1 : o.dv ≠ 1) : doC C kp o = if 0 < kp then doC C 9223372036854775807 o else C := by
  unfold doC
  by_cases hk : 0 < kp
  · rw [if_pos hk, if_pos hk, if_pos (by decide : (0 : Int) < 9223372036854775807), if_neg h1, if_neg h1]
  · rw [if_neg hk, if_neg hk]
theorem doC_nd (hn : NdC C) (k : Int) : NdC (doC C k o) := (Lk.doC ⟨hn, hn, List.Perm.refl _, fun _ => rfl⟩ k).nc
end Go.Proofs.Ytlgjmdianmijeaa
