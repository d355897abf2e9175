/- Plain facts: files loaded in whatever order. -/
import Derived.Test.YtlgjmdianmijeabOb
namespace Go.Proofs.Ytlgjmdianmijeab
open Go Go.RowKit Go.MapKept Go.MuLone
open Go.RowKit (wrap32 wrap64)

theorem nd_list {C : Cn} (h : NdC C) : C.Nodup := List.Pairwise.of_map (·.1) (fun a b hab e => hab (by rw [e])) h
theorem srt_perm {C : Cn} (h : NdC C) : (srtC C).Perm C := by
  refine (List.perm_ext_iff_of_nodup (nd_list (srt_nd h)) (nd_list h)).2 (fun p => ⟨fun hp => ?_, fun hp => ?_⟩)
  · exact mem_get (srt_mem h hp)
  · have h1 := get_mem h hp
    rw [← get_srt h] at h1
    exact mem_get h1
theorem used_srt {C : Cn} (h : NdC C) : usedC (srtC C) = usedC C := by
  unfold usedC
  exact ((srt_perm h).map _).sum_nat
theorem load_all {room : Int} : ∀ (L D : Cn), NdC (D ++ L) → (∀ p ∈ L, goodN p.1 = true) → (D ++ L).length ≤ 64 → (usedC (D ++ L) : Int) ≤ room → loadC room D L = some (D ++ L)
  | [], D, _, _, _, _ => by unfold loadC; rw [List.append_nil]
  | p :: L, D, hn, hg, hl, hu => by
    have hnone : getC D p.1 = none := by
      refine get_none (fun hm => ?_)
      have := hn
      unfold NdC at this
      rw [List.map_append, List.nodup_append] at this
      exact this.2.2 _ hm _ (by simp) rfl
    have hlen : D.length + L.length + 1 ≤ 64 := by simpa [Nat.add_assoc] using hl
    have hus : usedC (D ++ p :: L) = usedC D + (p.2.length + usedC L) := by
      unfold usedC
      simp
    rw [hus] at hu
    unfold loadC
    rw [if_pos ⟨hg p (List.mem_cons_self ..), by rw [hnone]; rfl, by omega, by omega⟩, set_new _ _ _ hnone]
    have e : D ++ [(p.1, p.2)] ++ L = D ++ p :: L := by rw [List.append_assoc]; rfl
    rw [load_all L (D ++ [(p.1, p.2)]) (by rw [e]; exact hn) (fun q hq => hg q (List.mem_cons_of_mem _ hq)) (by rw [e]; exact hl) (by rw [e, hus]; exact hu), e]
variable {C D : Cn}
theorem none_get : ∀ {C : Cn} {s : ByteArray}, getC C s = none → s ∉ C.map (·.1)
  | [], s, _ => by simp
  | p :: C, s, h => by
    unfold getC at h
    by_cases e : p.1 = s
    · rw [if_pos e] at h; cases h
    · rw [if_neg e] at h
      simp only [List.map_cons, List.mem_cons, not_or]
      exact ⟨fun q => e q.symm, none_get h⟩
theorem set_names : ∀ (C : Cn) (s : ByteArray) (l : List UInt8), (getC C s).isSome = true → (setC C s l).map (·.1) = C.map (·.1)
  | [], s, l, h => by cases h
  | p :: C, s, l, h => by
    unfold setC
    unfold getC at h
    by_cases e : p.1 = s
    · rw [if_pos e, List.map_cons, List.map_cons, e]
    · rw [if_neg e] at h ⊢
      rw [List.map_cons, List.map_cons, set_names C s l h]
theorem set_nd (h : NdC C) (s : ByteArray) (l : List UInt8) : NdC (setC C s l) := by
  unfold NdC
  cases hg : getC C s with
  | some q => rw [set_names C s l (by rw [hg]; rfl)]; exact h
  | none =>
    rw [set_new C s l hg, List.map_append, List.nodup_append]
    refine ⟨h, by simp, fun a ha b hb e => ?_⟩
    have hb' : b = s := by simpa using hb
    exact none_get hg (by rw [← hb', ← e]; exact ha)
theorem del_none : ∀ {C : Cn} {s : ByteArray}, getC C s = none → delC C s = C
  | [], s, _ => rfl
  | p :: C, s, h => by
    unfold getC at h
    by_cases e : p.1 = s
    · rw [if_pos e] at h; cases h
    · rw [if_neg e] at h
      unfold delC
      rw [if_neg e, del_none h]
theorem del_nd (h : NdC C) (s : ByteArray) : NdC (delC C s) := by
  cases hg : getC C s with
  | none => rw [del_none hg]; exact h
  | some q =>
    have := (del_names C s (by rw [hg]; rfl)).nodup_iff.1 h
    exact (List.nodup_cons.1 this).2
/-- The same files, in whatever order. -/
structure Lk (C D : Cn) : Prop where
  nc : NdC C
  nd : NdC D
  nm : (C.map (·.1)).Perm (D.map (·.1))
  get : ∀ s, getC C s = getC D s
theorem Lk.perm (h : Lk C D) : C.Perm D := by
  refine (List.perm_ext_iff_of_nodup (nd_list h.nc) (nd_list h.nd)).2 (fun p => ⟨fun hp => ?_, fun hp => ?_⟩)
  · have := get_mem h.nc hp
    rw [h.get] at this
    exact mem_get this
  · have := get_mem h.nd hp
    rw [← h.get] at this
    exact mem_get this
theorem Lk.len (h : Lk C D) : C.length = D.length := h.perm.length_eq
theorem Lk.srt (h : Lk C D) : srtC C = srtC D := srt_ext h.nm h.get
theorem load_inv {room : Int} : ∀ (L D C : Cn), NdC D → loadC room D L = some C → C = D ++ L ∧ NdC C
  | [], D, C, hn, h => by
    injection h with h
    subst h
    exact ⟨(List.append_nil _).symm, hn⟩
  | p :: L, D, C, hn, h => by
    unfold loadC at h
    by_cases hc : goodN p.1 = true ∧ (getC D p.1).isSome = false ∧ D.length < 64 ∧ (p.2.length : Int) ≤ room - (usedC D : Nat)
    · rw [if_pos hc] at h
      have hg : getC D p.1 = none := by
        cases hg : getC D p.1 with
        | none => rfl
        | some x => rw [hg] at hc; simp at hc
      have q := load_inv L _ C (set_nd hn p.1 p.2) h
      rw [set_new D p.1 p.2 hg] at q
      refine ⟨?_, q.2⟩
      rw [q.1, List.append_assoc]
      rfl
    · rw [if_neg hc] at h; cases h
theorem used_perm {L M : Cn} (h : L.Perm M) : usedC L = usedC M := by
  unfold usedC
  exact (h.map _).sum_nat
/-- One order is refused as another one. -/
theorem load_perm {room : Int} {L M : Cn} (hr : 0 ≤ room) (h : L.Perm M) (C : Cn) (hl : loadC room [] L = some C) : C = L ∧ loadC room [] M = some M ∧ Lk L M := by
  obtain ⟨q1, q2⟩ := load_inv L [] C List.nodup_nil hl
  rw [List.nil_append] at q1
  subst q1
  have q3 := loadC_ok hl (by show ((0 : Nat) : Int) ≤ room; omega) (by decide) (fun p hp => by cases hp)
  have hm : NdC M := (h.map (fun p : ByteArray × List UInt8 => p.1)).nodup_iff.1 q2
  have q4 := load_all (room := room) M [] hm (fun p hp => q3.2.2 p (h.mem_iff.2 hp)) (by rw [List.nil_append, ← h.length_eq]; exact q3.2.1) (by rw [List.nil_append, ← used_perm h]; exact q3.1)
  rw [List.nil_append] at q4
  refine ⟨rfl, q4, q2, hm, h.map _, fun s => ?_⟩
  cases hg : getC C s with
  | some x =>
    have := h.mem_iff.1 (mem_get hg)
    exact (get_mem hm this).symm
  | none =>
    have h1 := none_get hg
    exact (get_none (fun q => h1 ((h.map (fun p : ByteArray × List UInt8 => p.1)).mem_iff.2 q))).symm
theorem load_none {room : Int} {L M : Cn} (hr : 0 ≤ room) (h : L.Perm M) (hl : loadC room [] L = none) : loadC room [] M = none := by
  cases hm : loadC room [] M with
  | none => rfl
  | some C =>
    have := load_perm hr h.symm C hm
    rw [hl] at this
    cases this.2.1
variable {w w' : World} {B b : Nat} {A : Ab} {P : Nat → Prop}
theorem files_p (h : DkP w B b A P) : Calls Try.prog 10 #[.pointer (some ⟨b, 0, none⟩)] w fun e w' => (∃ a g c, e = .returned (.slice a (srtC A.C).length c) ∧ ArF w' (fun k => w.heap.size ≤ k ∧ k < w'.heap.size) a g 0 (srtC A.C)) ∧ w.grownBy w' none := by
  have nd := h.nd
  obtain ⟨h1, m, F, h2, h3, h4⟩ := h
  have hmem : ∀ f ∈ F, (f.nm, f.bs) ∈ A.C := fun f hf => by rw [← h3]; exact List.mem_map.2 ⟨f, hf, rfl⟩
  refine (files_dk h2 (by rw [← len_cont, h3]; exact h1.len) (fun f hf => ?_) (fun f hf => ?_)).mono fun e w' ⟨v, E, he, ho, hE, hg⟩ => ⟨?_, hg⟩
  · have hgd : goodN f.nm = true := h1.nms _ (hmem f hf)
    unfold goodN at hgd
    simp only [Bool.and_eq_true, decide_eq_true_eq] at hgd
    exact hgd.2.1
  · have q1 := h1.used
    have q2 := h1.room
    have q3 : f.bs.length ≤ usedC A.C := by
      have q := get_used A.C f.nm
      rw [get_mem nd (hmem f hf)] at q
      exact q
    omega
  · obtain ⟨a, g, c, hv, hA⟩ := ho.ar
    rw [hE, h3] at hv hA
    exact ⟨a, g, c, by rw [he, hv], hA⟩
theorem room_p (h : DkP w B b A P) : Calls Try.prog 14 #[.pointer (some ⟨b, 0, none⟩)] w fun e w' => e = .returned (.int .i64 A.room) ∧ w.grownBy w' none := by
  obtain ⟨h1, m, F, h2, h3, h4⟩ := h
  exact room_any h2
theorem cont_perm {E E' : List Fl} (h : E.Perm E') : (cont E).Perm (cont E') := h.map _
/-- A row that begins at another place. -/
theorem rot_at {E : List Fl} {t i : Nat} (ht : t < E.length) (hi : i < E.length) : (E.drop t ++ E.take t)[i]'(by simp; omega) = E[(i + t) % E.length]'(Nat.mod_lt _ (by omega)) := by
  rw [List.getElem_append]
  by_cases h : i < E.length - t
  · have e : (i + t) % E.length = t + i := by rw [Nat.mod_eq_of_lt (by omega)]; omega
    rw [dif_pos (by rw [List.length_drop]; exact h), List.getElem_drop]
    simp only [e]
  · have e : (i + t) % E.length = i - (E.length - t) := by
      rw [Nat.mod_eq_sub_mod (by omega), Nat.mod_eq_of_lt (by omega)]; omega
    rw [dif_neg (by rw [List.length_drop]; exact h), List.getElem_take]
    simp only [e, List.length_drop]
theorem rot_perm (E : List Fl) (t : Nat) : (E.drop t ++ E.take t).Perm E := by
  have := List.perm_append_comm (l₁ := E.drop t) (l₂ := E.take t)
  rw [List.take_append_drop] at this
  exact this
/-- The row as a block. -/
theorem OutF.blk {g n c : Nat} {E : List Fl} (h : OutF B w (.slice (some ⟨g, 0, none⟩) n c) E) : n = E.length ∧ ∃ cs : List Value, Blk w g cs 32 ∧ cs.take (n * 2) = fcs E ∧ n * 2 ≤ cs.length ∧ ∀ (w' : World) (cs' : List Value) (E' : List Fl), Blk w' g cs' 32 → cs'.length = cs.length → cs'.take (n * 2) = fcs E' → E'.length = n → (∀ f ∈ E', Out B w' f.v f.bs) → OutF B w' (.slice (some ⟨g, 0, none⟩) n c) E' := by
  rcases h.row.2 with ⟨h1, _⟩ | ⟨g', cap, cur, h1, hB, hg, hle, hm, hs, ht⟩
  · cases h1
  · injection h1 with e1 e2 e3
    injection e1 with e1
    injection e1 with e1 _ _
    subst e1
    subst e3
    subst e2
    refine ⟨rfl, cur.toList, by unfold Blk; rw [hg], ht, by simp; omega, fun w' cs' E' hb hl ht' hE ho => ⟨⟨by rw [fcs_len], .inr ⟨g, c, cs'.toArray, by rw [hE], hB, hb, by rw [hE]; exact hle, hm, by simp at hl ⊢; omega, by rw [hE]; exact ht'⟩⟩, ho⟩⟩
end Go.Proofs.Ytlgjmdianmijeab
