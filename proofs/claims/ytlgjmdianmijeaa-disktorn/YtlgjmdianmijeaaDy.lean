/- Plain facts for DiskHolds. -/
import Derived.Test.YtlgjmdianmijeaaDx
namespace Go.Proofs.Ytlgjmdianmijeaa
open Go Go.RowKit Go.MapKept Go.MuLone
open Go.RowKit (wrap32 wrap64)

variable {A : Ab} {o : Opv}
/-- What is refused leaves all as it was. -/
theorem doA_no (h : A.calm) (he : A.doE o ≠ 0) : A.doA o = A := by
  have hw := h.w.1
  unfold Ab.doE Ab.appE Ab.cutE Ab.renE Ab.remE at he
  unfold Ab.doA Ab.app Ab.cut Ab.ren Ab.rem
  by_cases d1 : o.dv = 1
  · rw [if_pos d1] at he ⊢
    refine if_neg (fun q => he ?_)
    rw [if_pos q.1, if_pos q.2, hw]
  · rw [if_neg d1] at he ⊢
    by_cases d2 : o.dv = 2
    · rw [if_pos d2] at he ⊢
      refine if_neg (fun q => he ?_)
      rw [if_pos q.1, if_pos q.2, hw]
    · rw [if_neg d2] at he ⊢
      by_cases d3 : o.dv = 3
      · rw [if_pos d3] at he ⊢
        refine if_neg (fun q => he ?_)
        rw [if_pos q.1, if_pos q.2, hw]
      · rw [if_neg d3] at he ⊢
        by_cases d4 : o.dv = 4
        · rw [if_pos d4] at he ⊢
          refine if_neg (fun q => he ?_)
          rw [if_pos q, hw]
        · rw [if_neg d4]
/-- An Append that was not refused. -/
theorem app_zero (h : A.calm) {s : ByteArray} {l : List UInt8} (hl : l.length ≤ 9223372036854775807) (he : A.appE s l = 0) : (A.app s l).C = setC A.C s ((getC A.C s).getD [] ++ l) := by
  unfold Ab.appE at he
  by_cases h1 : refE A.off s = 0
  · rw [if_pos h1] at he
    by_cases h2 : A.fits s l.length = true
    · unfold Ab.app
      rw [if_pos ⟨h1, h2⟩]
      show A.appC s l = _
      unfold Ab.appC
      rw [h.w.2.1, if_pos (by decide)]
      have e : (min (9223372036854775807 : Int) (l.length : Int)).toNat = l.length := by omega
      rw [e, List.take_length]
      rfl
    · rw [if_neg h2] at he; cases he
  · rw [if_neg h1] at he; exact absurd he h1
theorem ref_ne93 (b : Bool) (s : ByteArray) : refE b s ≠ 93 := by
  unfold refE
  repeat' split
  all_goals decide
theorem fnd_ne93 (s : ByteArray) : A.fndE s ≠ 93 := by
  unfold Ab.fndE
  split
  · split <;> decide
  · exact ref_ne93 _ _
/-- Full: there was no room. -/
theorem full_no (h : A.calm) (he : A.doE o = 93) : ¬ (((getC A.C o.nm).isSome = true ∨ A.C.length < 64) ∧ (o.bs.length : Int) + (usedC A.C : Nat) ≤ A.room) := by
  have hw := h.w.1
  unfold Ab.doE at he
  by_cases d1 : o.dv = 1
  · rw [if_pos d1] at he
    unfold Ab.appE at he
    by_cases h1 : refE A.off o.nm = 0
    · rw [if_pos h1] at he
      by_cases h2 : A.fits o.nm o.bs.length = true
      · rw [if_pos h2, hw] at he; cases he
      · rintro ⟨q1, q2⟩
        refine h2 ?_
        unfold Ab.fits
        rw [decide_eq_true (by omega : (o.bs.length : Int) ≤ A.room - (usedC A.C : Nat)), Bool.and_true]
        rcases q1 with q | q
        · rw [q]; rfl
        · rw [decide_eq_true q, Bool.or_true]
    · rw [if_neg h1] at he; exact absurd he (ref_ne93 _ _)
  · exfalso
    rw [if_neg d1] at he
    unfold Ab.cutE Ab.renE Ab.remE at he
    rw [hw] at he
    have q1 := fnd_ne93 (A := A) o.nm
    have q2 := ref_ne93 A.off o.to
    split at he
    · split at he
      · split at he <;> cases he
      · exact q1 he
    · split at he
      · split at he
        · split at he
          · cases he
          · exact q1 he
        · exact q2 he
      · split at he
        · split at he
          · cases he
          · exact q1 he
        · cases he
theorem nd_list {C : Cn} (h : NdC C) : C.Nodup := List.Pairwise.of_map (·.1) (fun a b hab e => hab (by rw [e])) h
theorem srt_perm {C : Cn} (h : NdC C) : (srtC C).Perm C := by
  refine (List.perm_ext_iff_of_nodup (nd_list (srt_nd h)) (nd_list h)).2 (fun p => ⟨fun hp => ?_, fun hp => ?_⟩)
  · exact mem_get (srt_mem h hp)
  · have h1 := get_mem h hp
    rw [← get_srt h] at h1
    exact mem_get h1
theorem used_srt {C : Cn} (h : NdC C) : usedC (srtC C) = usedC C := by
  unfold usedC
  exact ((srt_perm h).map _).sum_nat
theorem load_all {room : Int} : ∀ (L D : Cn), NdC (D ++ L) → (∀ p ∈ L, goodN p.1 = true) → (D ++ L).length ≤ 64 → (usedC (D ++ L) : Int) ≤ room → loadC room D L = some (D ++ L)
  | [], D, _, _, _, _ => by unfold loadC; rw [List.append_nil]
  | p :: L, D, hn, hg, hl, hu => by
    have hnone : getC D p.1 = none := by
      refine get_none (fun hm => ?_)
      have := hn
      unfold NdC at this
      rw [List.map_append, List.nodup_append] at this
      exact this.2.2 _ hm _ (by simp) rfl
    have hlen : D.length + L.length + 1 ≤ 64 := by simpa [Nat.add_assoc] using hl
    have hus : usedC (D ++ p :: L) = usedC D + (p.2.length + usedC L) := by
      unfold usedC
      simp
    rw [hus] at hu
    unfold loadC
    rw [if_pos ⟨hg p (List.mem_cons_self ..), by rw [hnone]; rfl, by omega, by omega⟩, set_new _ _ _ hnone]
    have e : D ++ [(p.1, p.2)] ++ L = D ++ p :: L := by rw [List.append_assoc]; rfl
    rw [load_all L (D ++ [(p.1, p.2)]) (by rw [e]; exact hn) (fun q hq => hg q (List.mem_cons_of_mem _ hq)) (by rw [e]; exact hl) (by rw [e, hus]; exact hu), e]
theorem load_srt {C : Cn} {room : Int} (hn : NdC C) (hg : ∀ p ∈ C, goodN p.1 = true) (hl : C.length ≤ 64) (hu : (usedC C : Int) ≤ room) : loadC room [] (srtC C) = some (srtC C) ∧ srtC (srtC C) = srtC C := by
  refine ⟨?_, ?_⟩
  · have := load_all (room := room) (srtC C) [] (srt_nd hn) (fun p hp => hg p ((srt_perm hn).mem_iff.1 hp)) (by rw [List.nil_append, srtC_len]; exact hl) (by rw [List.nil_append, used_srt hn]; exact hu)
    rw [List.nil_append] at this
    exact this
  · exact srt_ext (srt_names C) (fun s => get_srt hn s)
end Go.Proofs.Ytlgjmdianmijeaa
