/- Plain facts: files looked up behind a sort, a write, a removal. -/
import Derived.Test.YtlgjmdianmijeabDr
namespace Go.Proofs.Ytlgjmdianmijeab
open Go Go.RowKit Go.MapKept Go.MuLone
open Go.RowKit (wrap32 wrap64)

def NdC (C : Cn) : Prop := (C.map (·.1)).Nodup
theorem get_set : ∀ (C : Cn) (s : ByteArray) (l : List UInt8) (t : ByteArray), getC (setC C s l) t = if t = s then some l else getC C t
  | [], s, l, t => by
    unfold setC getC
    by_cases e : t = s
    · rw [if_pos e, if_pos e.symm]
    · rw [if_neg e, if_neg (fun q => e q.symm)]; rfl
  | p :: C, s, l, t => by
    unfold setC
    by_cases e : p.1 = s
    · rw [if_pos e]
      unfold getC
      by_cases q : t = s
      · rw [if_pos q, if_pos q.symm]
      · rw [if_neg q, if_neg (fun z => q z.symm), if_neg (fun z => q (by rw [← z, e]))]
    · rw [if_neg e]
      unfold getC
      rw [get_set C s l t]
      by_cases q : p.1 = t
      · rw [if_pos q, if_pos q, if_neg (fun z => e (q.trans z))]
      · rw [if_neg q, if_neg q]
theorem get_none : ∀ {C : Cn} {s : ByteArray}, s ∉ C.map (·.1) → getC C s = none
  | [], s, _ => rfl
  | p :: C, s, h => by
    simp only [List.map_cons, List.mem_cons, not_or] at h
    unfold getC
    rw [if_neg (fun e => h.1 e.symm)]
    exact get_none h.2
theorem get_del : ∀ (C : Cn) (s t : ByteArray), NdC C → getC (delC C s) t = if t = s then none else getC C t
  | [], s, t, _ => by unfold delC getC; split <;> rfl
  | p :: C, s, t, h => by
    have h' : p.1 ∉ C.map (·.1) ∧ (C.map (·.1)).Nodup := List.nodup_cons.1 h
    unfold delC
    by_cases e : p.1 = s
    · rw [if_pos e]
      by_cases q : t = s
      · rw [if_pos q, q, ← e]; exact get_none h'.1
      · rw [if_neg q]
        conv => rhs; unfold getC
        rw [if_neg (fun z => q (by rw [← z, e]))]
    · rw [if_neg e]
      unfold getC
      rw [get_del C s t h'.2]
      by_cases q : p.1 = t
      · rw [if_pos q, if_pos q, if_neg (fun z => e (q.trans z))]
      · rw [if_neg q, if_neg q]
theorem get_mem : ∀ {C : Cn} {p : ByteArray × List UInt8}, NdC C → p ∈ C → getC C p.1 = some p.2
  | [], p, _, h => by cases h
  | q :: C, p, hn, h => by
    have h' : q.1 ∉ C.map (·.1) ∧ (C.map (·.1)).Nodup := List.nodup_cons.1 hn
    unfold getC
    rcases List.mem_cons.1 h with rfl | h
    · rw [if_pos rfl]
    · rw [if_neg (fun e => h'.1 (by rw [e]; exact List.mem_map.2 ⟨p, h, rfl⟩))]
      exact get_mem h'.2 h
theorem mem_get : ∀ {C : Cn} {s : ByteArray} {l : List UInt8}, getC C s = some l → (s, l) ∈ C
  | [], s, l, h => by cases h
  | q :: C, s, l, h => by
    unfold getC at h
    by_cases e : q.1 = s
    · rw [if_pos e] at h
      injection h with h
      rw [← e, ← h]
      exact List.mem_cons_self ..
    · rw [if_neg e] at h
      exact List.mem_cons_of_mem _ (mem_get h)
theorem ba_back (s : ByteArray) : (⟨s.data.toList.toArray⟩ : ByteArray) = s := by cases s; rfl
theorem srt_names (C : Cn) : ((srtC C).map (·.1)).Perm (C.map (·.1)) := by
  have h1 : (srtC C).map (·.1) = (srtL (C.map (fun p => p.1.data.toList))).map (fun n => (⟨n.toArray⟩ : ByteArray)) := by
    unfold srtC
    rw [List.map_map]
    rfl
  rw [h1]
  have h2 : ((srtL (C.map (fun p => p.1.data.toList))).map (fun n => (⟨n.toArray⟩ : ByteArray))).Perm ((C.map (fun p => p.1.data.toList)).map (fun n => (⟨n.toArray⟩ : ByteArray))) := (List.mergeSort_perm _ leB).map _
  refine h2.trans (List.Perm.of_eq ?_)
  rw [List.map_map]
  refine List.map_congr_left fun p _ => ?_
  exact ba_back p.1
theorem srt_nd {C : Cn} (h : NdC C) : NdC (srtC C) := (srt_names C).nodup_iff.2 h
theorem srt_mem {C : Cn} {p : ByteArray × List UInt8} (hn : NdC C) (h : p ∈ srtC C) : getC C p.1 = some p.2 := by
  unfold srtC at h
  obtain ⟨n, h1, h2⟩ := List.mem_map.1 h
  have h3 : n ∈ C.map (fun p => p.1.data.toList) := (List.mergeSort_perm _ leB).mem_iff.1 h1
  obtain ⟨q, hq, he⟩ := List.mem_map.1 h3
  have h4 : (⟨n.toArray⟩ : ByteArray) = q.1 := by rw [← he]
  rw [← h2]
  show getC C ⟨n.toArray⟩ = some ((getC C ⟨n.toArray⟩).getD [])
  rw [h4, get_mem hn hq]
  rfl
theorem get_srt {C : Cn} (hn : NdC C) (s : ByteArray) : getC (srtC C) s = getC C s := by
  by_cases h : s ∈ C.map (·.1)
  · obtain ⟨p, hp, rfl⟩ := List.mem_map.1 h
    have h1 : p.1 ∈ (srtC C).map (·.1) := (srt_names C).mem_iff.2 (List.mem_map.2 ⟨p, hp, rfl⟩)
    obtain ⟨q, hq, he⟩ := List.mem_map.1 h1
    have he' : q.1 = p.1 := he
    have h2 := srt_mem hn hq
    have h3 := get_mem (srt_nd hn) hq
    rw [he'] at h2 h3
    rw [h2, h3]
  · rw [get_none h, get_none (fun q => h ((srt_names C).mem_iff.1 q))]
theorem srt_ext {C D : Cn} (h1 : (C.map (·.1)).Perm (D.map (·.1))) (h2 : ∀ s, getC C s = getC D s) : srtC C = srtC D := by
  have h3 : srtL (C.map (fun p => p.1.data.toList)) = srtL (D.map (fun p => p.1.data.toList)) := by
    refine mergeSort_of_perm ?_
    have := h1.map (fun s : ByteArray => s.data.toList)
    rw [List.map_map, List.map_map] at this
    exact this
  unfold srtC
  rw [h3]
  refine List.map_congr_left fun n _ => ?_
  rw [h2]
theorem del_names : ∀ (C : Cn) (s : ByteArray), (getC C s).isSome = true → (C.map (·.1)).Perm (s :: (delC C s).map (·.1))
  | [], s, h => by cases h
  | p :: C, s, h => by
    unfold delC
    unfold getC at h
    by_cases e : p.1 = s
    · rw [if_pos e, List.map_cons, e]
    · rw [if_neg e] at h ⊢
      rw [List.map_cons, List.map_cons]
      exact ((del_names C s h).cons p.1).trans (List.Perm.swap ..)
theorem set_new : ∀ (C : Cn) (s : ByteArray) (l : List UInt8), getC C s = none → setC C s l = C ++ [(s, l)]
  | [], s, l, _ => rfl
  | p :: C, s, l, h => by
    unfold getC at h
    by_cases e : p.1 = s
    · rw [if_pos e] at h; cases h
    · rw [if_neg e] at h
      unfold setC
      rw [if_neg e, set_new C s l h]
      rfl
theorem self_srt {C : Cn} {s : ByteArray} {old : List UInt8} (hn : NdC C) (h : getC C s = some old) : srtC (setC (delC C s) s old) = srtC C := by
  have hd : getC (delC C s) s = none := by rw [get_del C s s hn, if_pos rfl]
  refine srt_ext ?_ (fun t => ?_)
  · rw [set_new _ _ _ hd, List.map_append]
    refine (List.perm_append_comm).trans ?_
    exact (del_names C s (by rw [h]; rfl)).symm
  · rw [get_set, get_del C s t hn]
    by_cases e : t = s
    · rw [if_pos e, e, h]
    · rw [if_neg e, if_neg e]
variable {w w' : World} {B b : Nat} {A : Ab} {P : Nat → Prop}
theorem DkP.nd (h : DkP w B b A P) : NdC A.C := by
  obtain ⟨_, m, F, h2, h3, _⟩ := h
  have := h2.map.nodup
  unfold NdC
  rw [← h3]
  unfold cont
  rw [List.map_map]
  exact this
/-- A disk that is not armed and has its power. -/
def Ab.calm (A : Ab) : Prop := A.off = false ∧ A.ar = 0
end Go.Proofs.Ytlgjmdianmijeab
