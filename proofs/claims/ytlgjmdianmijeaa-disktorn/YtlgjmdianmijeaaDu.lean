/- moved, of what do made; what may be refused. -/
import Derived.Test.YtlgjmdianmijeaaDsA
import Derived.Test.YtlgjmdianmijeaaDsB
import Derived.Test.YtlgjmdianmijeaaDt
namespace Go.Proofs.Ytlgjmdianmijeaa
open Go Go.RowKit Go.MapKept Go.MuLone
open Go.RowKit (wrap32 wrap64)

variable {A : Ab} {o : Opv}
theorem Ab.calm.w (h : A.calm) : wE A.ar = 0 ∧ wK A.ar A.kp = 9223372036854775807 ∧ wO A.ar A.off = false ∧ wA A.ar = 0 := by
  obtain ⟨h1, h2⟩ := h
  rw [h2, h1]
  exact ⟨rfl, rfl, rfl, rfl⟩
theorem Ab.calm.did (h : A.calm) (C : Cn) : (A.did C).calm := ⟨h.w.2.2.1, h.w.2.2.2⟩
theorem Ab.calm.doA (h : A.calm) : (A.doA o).calm ∧ A.wr ≤ (A.doA o).wr ∧ (A.doA o).wr ≤ A.wr + 1 ∧ (A.doA o).room = A.room := by
  unfold Ab.doA Ab.app Ab.cut Ab.ren Ab.rem
  repeat' split
  all_goals first
    | exact ⟨h, Int.le_refl _, by omega, rfl⟩
    | exact ⟨h.did _, by show A.wr ≤ A.wr + 1; omega, Int.le_refl _, rfl⟩
theorem cut_zero (h : A.calm) {s : ByteArray} {z : Int} (he : A.cutE s z = 0) : ∃ (n : Nat) (old : List UInt8), z = (n : Int) ∧ n ≤ old.length ∧ getC A.C s = some old ∧ (A.cut s z).C = setC A.C s (old.take n) := by
  unfold Ab.cutE at he
  by_cases h1 : A.fndE s = 0
  · rw [if_pos h1] at he
    by_cases h2 : 0 ≤ z ∧ z ≤ ((A.old s).length : Int)
    · obtain ⟨old, ho⟩ := Option.isSome_iff_exists.1 (fndE_zero h1).2
      have hold : A.old s = old := by unfold Ab.old; rw [ho]; rfl
      rw [hold] at h2
      refine ⟨z.toNat, old, by omega, by omega, ho, ?_⟩
      unfold Ab.cut
      rw [if_pos ⟨h1, by rw [hold]; exact h2⟩]
      show A.cutC s z = _
      unfold Ab.cutC
      rw [h.w.2.1, if_pos (by decide), hold]
    · rw [if_neg h2] at he; cases he
  · rw [if_neg h1] at he; exact absurd he h1
theorem rem_zero (h : A.calm) {s : ByteArray} (he : A.remE s = 0) : ∃ old, getC A.C s = some old ∧ (A.rem s).C = delC A.C s := by
  unfold Ab.remE at he
  by_cases h1 : A.fndE s = 0
  · obtain ⟨old, ho⟩ := Option.isSome_iff_exists.1 (fndE_zero h1).2
    refine ⟨old, ho, ?_⟩
    unfold Ab.rem
    rw [if_pos h1]
    show A.remC s = _
    unfold Ab.remC
    rw [h.w.2.1, if_pos (by decide)]
  · rw [if_neg h1] at he; exact absurd he h1
theorem ren_zero (h : A.calm) {s t : ByteArray} (he : A.renE s t = 0) : ∃ old, getC A.C s = some old ∧ (A.ren s t).C = setC (delC A.C s) t old := by
  unfold Ab.renE at he
  by_cases h2 : refE A.off t = 0
  · rw [if_pos h2] at he
    by_cases h1 : A.fndE s = 0
    · obtain ⟨old, ho⟩ := Option.isSome_iff_exists.1 (fndE_zero h1).2
      refine ⟨old, ho, ?_⟩
      unfold Ab.ren
      rw [if_pos ⟨h2, h1⟩]
      show A.renC s t = _
      unfold Ab.renC
      have hold : A.old s = old := by unfold Ab.old; rw [ho]; rfl
      rw [h.w.2.1, if_pos (by decide), hold]
    · rw [if_neg h1] at he; exact absurd he h1
  · rw [if_neg h2] at he; exact absurd he h2
theorem moved_any (u : World) (Fa Fb : Nat → Prop) (a a' : Option Addr) (fa fo fc fb go gc : Nat) (A : Ab) (o : Opv) (hc : A.calm) (hok : A.ok) (hok' : (A.doA o).ok) (hn : NdC A.C) (hn' : NdC (A.doA o).C) (hA : ArF u Fa a fa fo (srtC A.C)) (hB : ArF u Fb a' fb go (srtC (A.doA o).C)) (he : A.doE o = 0) :
    Calls Try.prog 28 #[.slice a (srtC A.C).length fc, .slice a' (srtC (A.doA o).C).length gc, .agg o.cells.toArray] u fun e w' => e = .returned (.bool true) ∧ u.grownBy w' none := by
  have l1 : (srtC A.C).length ≤ 1000000 := by rw [srtC_len]; have := hok.len; omega
  have l2 : (srtC (A.doA o).C).length ≤ 1000000 := by rw [srtC_len]; have := hok'.len; omega
  have hmem : ∀ (s : ByteArray), (∀ t, t ≠ s → getC (A.doA o).C t = getC A.C t) → (∀ p ∈ srtC A.C, p.1 ≠ s → getC (srtC (A.doA o).C) p.1 = some p.2) ∧ (∀ p ∈ srtC (A.doA o).C, p.1 ≠ s → (getC (srtC A.C) p.1).isSome = true) := fun s hs =>
    ⟨fun p hp hne => by rw [get_srt hn', hs p.1 hne]; exact srt_mem hn hp, fun p hp hne => by rw [get_srt hn, ← hs p.1 hne, srt_mem hn' hp]; rfl⟩
  obtain ⟨dv, on, nm, to, ba, bn, bc, bs, nv, kv, ffa, fn, ffc, L⟩ := o
  by_cases d2 : dv = 2
  · subst d2
    have he' : A.cutE nm nv = 0 := he
    obtain ⟨n, old, rfl, hnl, hg, hC⟩ := cut_zero hc he'
    have hCd : (A.doA ⟨2, on, nm, to, ba, bn, bc, bs, (n : Int), kv, ffa, fn, ffc, L⟩).C = setC A.C nm (old.take n) := hC
    obtain ⟨m1, m2⟩ := hmem nm (fun t ht => by rw [hCd, get_set, if_neg ht])
    exact moved_cut u Fa Fb a a' fa fo fc fb go gc _ _ hA hB l1 l2 on nm to ba bn bc kv ffa fn ffc n old (by rw [get_srt hn]; exact hg) (by rw [get_srt hn', hCd, get_set, if_pos rfl]) hnl m1 m2
  · by_cases d4 : dv = 4
    · subst d4
      have he' : A.remE nm = 0 := he
      obtain ⟨old, hg, hC⟩ := rem_zero hc he'
      have hCd : (A.doA ⟨4, on, nm, to, ba, bn, bc, bs, nv, kv, ffa, fn, ffc, L⟩).C = delC A.C nm := hC
      obtain ⟨m1, m2⟩ := hmem nm (fun t ht => by rw [hCd, get_del _ _ _ hn, if_neg ht])
      exact moved_rem u Fa Fb a a' fa fo fc fb go gc _ _ hA hB l1 l2 on nm to ba bn bc kv ffa fn ffc nv old (by rw [get_srt hn]; exact hg) (by rw [get_srt hn', hCd, get_del _ _ _ hn, if_pos rfl]) m1 m2
    · by_cases d3 : dv = 3
      · subst d3
        have he' : A.renE nm to = 0 := he
        obtain ⟨old, hg, hC⟩ := ren_zero hc he'
        have hCd : (A.doA ⟨3, on, nm, to, ba, bn, bc, bs, nv, kv, ffa, fn, ffc, L⟩).C = setC (delC A.C nm) to old := hC
        by_cases hto : nm = to
        · subst hto
          refine moved_self u Fa Fb a a' fa fo fc fb go gc _ _ hA hB l1 l2 on nm nm ba bn bc kv ffa fn ffc nv old (by rw [get_srt hn]; exact hg) rfl (by rw [hCd, self_srt hn hg]) (fun p hp => ?_)
          have h1 := srt_mem hn hp
          have h2 := get_used A.C p.1
          rw [h1] at h2
          have h3 := hok.used
          have h4 := hok.room
          have h5 : p.2.length ≤ usedC A.C := h2
          omega
        · have hl : (setC (delC A.C nm) to old).length + (if (getC A.C to).isSome then 1 else 0) = A.C.length := by
            have q1 := len_set (delC A.C nm) to old
            have q2 := len_del A.C nm
            have gd : getC (delC A.C nm) to = getC A.C to := by rw [get_del _ _ _ hn, if_neg (fun (e : to = nm) => hto e.symm)]
            rw [gd] at q1
            rw [hg] at q2
            simp only [Option.isSome_some, if_true] at q2
            rw [q1]
            cases hq : (getC A.C to).isSome with
            | true => simp only [if_true]; omega
            | false => simp only [Bool.false_eq_true, if_false]; omega
          refine moved_ren u Fa Fb a a' fa fo fc fb go gc _ _ hA hB l1 l2 on nm to ba bn bc kv ffa fn ffc nv old (by rw [get_srt hn]; exact hg) (by rw [get_srt hn', hCd, get_set, if_neg hto, get_del _ _ _ hn, if_pos rfl]) (by rw [get_srt hn', hCd, get_set, if_pos rfl]) hto (fun p hp h1 h2 => by rw [get_srt hn', hCd, get_set, if_neg h2, get_del _ _ _ hn, if_neg h1]; exact srt_mem hn hp) ?_
          rw [get_srt hn, srtC_len, srtC_len, hCd]
          cases hq : (getC A.C to).isSome with
          | true => rw [hq] at hl; simpa using hl
          | false => rw [hq] at hl; simpa using hl
      · exact moved_else u Fa Fb a a' fa fo fc fb go gc _ _ hA hB l1 l2 on nm to ba bn bc kv ffa fn ffc dv nv d2 d3 d4
theorem ref_of (h : A.calm) (hok : A.ok) {s : ByteArray} (hs : (getC A.C s).isSome = true) : A.fndE s = 0 := by
  obtain ⟨l, hl⟩ := Option.isSome_iff_exists.1 hs
  have h1 := hok.nms _ (mem_get hl)
  unfold Ab.fndE refE
  rw [h.1]
  have h2 : goodN s = true := h1
  simp [h2, hs]
/-- What may not be refused. -/
theorem may_zero (h : A.calm) (hok : A.ok) (hs : (getC A.C o.nm).isSome = true) (hm : o.dv = 4 ∨ (o.dv = 2 ∧ 0 ≤ o.nv ∧ o.nv ≤ (((getC A.C o.nm).getD []).length : Int)) ∨ (o.dv = 3 ∧ (o.to = ⟨#[97]⟩ ∨ o.to = ⟨#[98]⟩))) : A.doE o = 0 := by
  have hf := ref_of h hok hs
  unfold Ab.doE
  rcases hm with h4 | ⟨h2, h3⟩ | ⟨h3, ht⟩
  · rw [if_neg (by omega), if_neg (by omega), if_neg (by omega), if_pos h4]
    unfold Ab.remE
    rw [if_pos hf, h.w.1]
  · rw [if_neg (by omega), if_pos h2]
    unfold Ab.cutE
    rw [if_pos hf, if_pos (show 0 ≤ o.nv ∧ o.nv ≤ ((A.old o.nm).length : Int) from h3), h.w.1]
  · rw [if_neg (by omega), if_neg (by omega), if_pos h3]
    unfold Ab.renE
    have hr : refE A.off o.to = 0 := by
      unfold refE
      rw [h.1]
      rcases ht with e | e
      · rw [e, good_a]; rfl
      · rw [e, good_b]; rfl
    rw [if_pos hr, if_pos hf, h.w.1]
variable {w w' : World} {B b : Nat} {P : Nat → Prop}
theorem files_p (h : DkP w B b A P) : Calls Try.prog 13 #[.pointer (some ⟨b, 0, none⟩)] w fun e w' => (∃ a g c, e = .returned (.slice a (srtC A.C).length c) ∧ ArF w' (fun k => w.heap.size ≤ k ∧ k < w'.heap.size) a g 0 (srtC A.C)) ∧ w.grownBy w' none := by
  have nd := h.nd
  obtain ⟨h1, m, F, h2, h3, h4⟩ := h
  have hmem : ∀ f ∈ F, (f.nm, f.bs) ∈ A.C := fun f hf => by rw [← h3]; exact List.mem_map.2 ⟨f, hf, rfl⟩
  refine (files_dk h2 (by rw [← len_cont, h3]; exact h1.len) (fun f hf => ?_) (fun f hf => ?_)).mono fun e w' ⟨v, E, he, ho, hE, hg⟩ => ⟨?_, hg⟩
  · have hgd : goodN f.nm = true := h1.nms _ (hmem f hf)
    unfold goodN at hgd
    simp only [Bool.and_eq_true, decide_eq_true_eq] at hgd
    exact hgd.2.1
  · have q1 := h1.used
    have q2 := h1.room
    have q3 : f.bs.length ≤ usedC A.C := by
      have q := get_used A.C f.nm
      rw [get_mem nd (hmem f hf)] at q
      exact q
    omega
  · obtain ⟨a, g, c, hv, hA⟩ := ho.ar
    rw [hE, h3] at hv hA
    exact ⟨a, g, c, by rw [he, hv], hA⟩
end Go.Proofs.Ytlgjmdianmijeaa
