/- Rename and Remove. -/
import Derived.Test.YtlgjmdianmijeabDi
namespace Go.Proofs.Ytlgjmdianmijeab
open Go Go.RowKit Go.MuLone
open Go.RowKit (wrap32 wrap64)

theorem sub_delF : ∀ (F : List Fl) (s : ByteArray), (delF F s).Sublist F
  | [], _ => List.Sublist.refl _
  | f :: F, s => by
    unfold delF
    by_cases e : f.nm = s
    · rw [if_pos e]; exact List.sublist_cons_self _ _
    · rw [if_neg e]; exact (sub_delF F s).cons_cons _
theorem mem_delF {f : Fl} : ∀ {F : List Fl} {s : ByteArray}, (F.map (·.nm)).Nodup → f ∈ delF F s → f ∈ F ∧ f.nm ≠ s
  | [], _, _, h => by cases h
  | g :: F, s, hn, h => by
    have hn' := List.nodup_cons.1 hn
    unfold delF at h
    by_cases e : g.nm = s
    · rw [if_pos e] at h
      exact ⟨List.mem_cons_of_mem _ h, fun q => hn'.1 (by show g.nm ∈ _; rw [show g.nm = f.nm from e.trans q.symm]; exact List.mem_map.2 ⟨f, h, rfl⟩)⟩
    · rw [if_neg e] at h
      rcases List.mem_cons.1 h with rfl | h
      · exact ⟨List.mem_cons_self .., e⟩
      · have := mem_delF hn'.2 h
        exact ⟨List.mem_cons_of_mem _ this.1, this.2⟩
section
variable {w w' : World} {B b m : Nat} {lk room : Int} {off : Bool} {wr ar kp : Int} {F : List Fl}
/-- A file is taken out of the map. -/
theorem Dk.del (h : Dk w B b m lk room off wr ar kp F) (s : ByteArray) : ∃ w', (∀ ty, (Builtin.delete_ #[62, 9] ty #[.map (some m), .string s]).run Try.prog w = .ok (.tuple #[]) w') ∧ Hid (Dk w' B b m lk room off wr ar kp (delF F s) ∧ w.grownBy w' (some m)) := by
  obtain ⟨o, hrun, hM⟩ := run_delete h.map s 0
  have hg := put_grown w m o
  refine ⟨World.put w m o, fun ty => ?_, hid ⟨⟨h.blk.on hg (fun e => by injection e with e; exact h.map.ne h.blk e), hM, fun f hf => (h.own f (mem_delF h.map.nodup hf).1).on hg (fun k e e2 => by injection e with e; subst e; exact h.map.own (h.own f (mem_delF h.map.nodup hf).1) e2), List.Pairwise.sublist (sub_delF F s) h.apart, h.low⟩, hg⟩⟩
  exact hrun
set_option maxRecDepth 100000 in
set_option maxHeartbeats 4000000 in
theorem remove_dk (h : Dk w B b m 0 room off wr ar kp F) (s : ByteArray) (hw : 0 ≤ wr ∧ wr ≤ 4611686018427387904) (ha : 0 ≤ ar ∧ ar ≤ 9223372036854775807) (he : findE off F s = 0) :
    Calls Try.prog 15 #[.pointer (some ⟨b, 0, none⟩), .string s] w fun e w' => e = .returned (.int .i64 (wE ar)) ∧ ∃ F', Dk w' B b m 0 room (wO ar off) (wr + 1) (wA ar) kp F' ∧ cont F' = (if 0 < wK ar kp then delC (cont F) s else cont F) ∧ DF w w' (Fp b m F) ∧ ∀ k, Fp b m F' k → Fp b m F k := by
  have HL := hid (lock_any h)
  obtain ⟨V, hV⟩ : ∃ x, findV off F s = x := ⟨_, rfl⟩
  have HFi : Hid (∀ u, Dk u B b m 1 room off wr ar kp F → Calls Try.prog 33 #[.pointer (some ⟨b, 0, none⟩), .string s] u fun e w' => e = .returned (.tuple #[V, .int .i64 0]) ∧ u.grownBy w' none) := fun u hu => by
    have := find_any hu s
    rw [he, hV] at this
    exact this
  have HWr : Hid (∀ u, Dk u B b m 1 room off wr ar kp F → Calls Try.prog 34 #[.pointer (some ⟨b, 0, none⟩)] u fun e w' => e = .returned (.tuple #[.int .i64 (wK ar kp), .int .i64 (wE ar)]) ∧ Dk w' B b m 1 room (wO ar off) (wr + 1) (wA ar) kp F ∧ u.grownBy w' (some b)) := fun u hu => write_any hu hw ha
  obtain ⟨K, hK⟩ : ∃ x, wK ar kp = x := ⟨_, rfl⟩
  obtain ⟨E, hE⟩ : ∃ x, wE ar = x := ⟨_, rfl⟩
  obtain ⟨O', hO'⟩ : ∃ x, wO ar off = x := ⟨_, rfl⟩
  obtain ⟨A', hA'⟩ : ∃ x, wA ar = x := ⟨_, rfl⟩
  rw [hK, hE, hO', hA'] at HWr
  rw [hK, hE, hO', hA']
  have HCo1 : Hid (cont (delF F s) = delC (cont F) s) := hid (del_cont F s)
  have HNd := hid h.map.nodup
  clear h hw ha he hV hK hE hO' hA'
  by_cases hK0 : 0 < K
  · as_aux_lemma =>
    go_enter_defers Try.func15, Try.ntmps15
    go_upto_region 8 with (first
      | (go_at_call 28; refine HL.out.mono ?_; rintro e w1 ⟨rfl, hd, hg⟩; have HD1 := hid hd; have HF1 := hid (DF.one hg (P := Fp b m F) (.inl rfl)); clear hd hg)
      | (go_at_call 33; refine (HFi.out _ HD1.out).mono ?_; rintro e w2 ⟨rfl, hg⟩; have HD2 := hid (HD1.out.keep hg); have HF2 := hid (HF1.out.trans (DF.of (P := Fp b m F) hg) (fun _ _ q => q)); clear hg)
      | (go_at_call 34; refine (HWr.out _ HD2.out).mono ?_; rintro e w4 ⟨rfl, hd, hg⟩; have HD4 := hid hd; have HF4 := hid (HF2.out.trans (DF.one hg (P := Fp b m F) (.inl rfl)) (fun _ _ q => q)); clear hd hg))
    obtain ⟨w5, hdel, HQ5⟩ := HD4.out.del s
    have y3 := HD4.out.c.2.2.1
    go_wp2_with fail
    refine leaves_cons (f := 29) (args := #[.pointer (some ⟨b, 0, none⟩)]) (by simp) (by simp [go_sem]) ?_
    refine (unlock_any .returning HQ5.out.1).mono ?_
    rintro e u' w7 ⟨rfl, rfl, hd7, hg7⟩
    refine ⟨_, results_tmp rfl _ _ _, rfl, delF F s, hd7, HCo1.out, (HF4.out.trans (DF.one HQ5.out.2 (P := Fp b m F) (.inr (.inl rfl))) (fun _ _ q => q)).trans (DF.one hg7 (P := Fp b m F) (.inl rfl)) (fun _ _ q => q), ?_⟩
    rintro k (rfl | rfl | ⟨f, hf, hk⟩)
    · exact .inl rfl
    · exact .inr (.inl rfl)
    · exact .inr (.inr ⟨f, (mem_delF HNd.out hf).1, hk⟩)
  · as_aux_lemma =>
    go_enter_defers Try.func15, Try.ntmps15
    go_wp2_with (first
      | (go_at_call 28; refine HL.out.mono ?_; rintro e w1 ⟨rfl, hd, hg⟩; have HD1 := hid hd; have HF1 := hid (DF.one hg (P := Fp b m F) (.inl rfl)); clear hd hg)
      | (go_at_call 33; refine (HFi.out _ HD1.out).mono ?_; rintro e w2 ⟨rfl, hg⟩; have HD2 := hid (HD1.out.keep hg); have HF2 := hid (HF1.out.trans (DF.of (P := Fp b m F) hg) (fun _ _ q => q)); clear hg)
      | (go_at_call 34; refine (HWr.out _ HD2.out).mono ?_; rintro e w4 ⟨rfl, hd, hg⟩; have HD4 := hid hd; have HF4 := hid (HF2.out.trans (DF.one hg (P := Fp b m F) (.inl rfl)) (fun _ _ q => q)); clear hd hg))
    refine leaves_cons (f := 29) (args := #[.pointer (some ⟨b, 0, none⟩)]) (by simp) (by simp [go_sem]) ?_
    refine (unlock_any .returning HD4.out).mono ?_
    rintro e u' w7 ⟨rfl, rfl, hd7, hg7⟩
    exact ⟨_, results_tmp rfl _ _ _, rfl, F, hd7, rfl, HF4.out.trans (DF.one hg7 (P := Fp b m F) (.inl rfl)) (fun _ _ q => q), fun k hk => hk⟩
set_option maxRecDepth 100000 in
set_option maxHeartbeats 1600000 in
theorem remove_no (h : Dk w B b m 0 room off wr ar kp F) (s : ByteArray) (he : findE off F s ≠ 0) :
    Calls Try.prog 15 #[.pointer (some ⟨b, 0, none⟩), .string s] w fun e w' => e = .returned (.int .i64 (findE off F s)) ∧ w.grownBy w' none := by
  have HD := hid h
  have HL := hid (lock_any h)
  obtain ⟨E, hE⟩ : ∃ x, findE off F s = x := ⟨_, rfl⟩
  obtain ⟨V, hV⟩ : ∃ x, findV off F s = x := ⟨_, rfl⟩
  have HFi : Hid (∀ u, Dk u B b m 1 room off wr ar kp F → Calls Try.prog 33 #[.pointer (some ⟨b, 0, none⟩), .string s] u fun e w' => e = .returned (.tuple #[V, .int .i64 E]) ∧ u.grownBy w' none) := fun u hu => by
    have := find_any hu s
    rw [hV, hE] at this
    exact this
  rw [hE] at he ⊢
  have he' : (E == 0) = false := beq_eq_false_iff_ne.2 he
  clear h hE hV
  go_enter_defers Try.func15, Try.ntmps15
  go_wp2_with (first
    | (go_at_call 28; refine HL.out.mono ?_; rintro e w1 ⟨rfl, hd, hg⟩; have HD1 := hid hd; have HG1 := hid hg; clear hd hg)
    | (go_at_call 33; refine (HFi.out _ HD1.out).mono ?_; rintro e w2 ⟨rfl, hg⟩; have HD2 := hid (HD1.out.keep hg); have HG2 := hid (HG1.out.andThen hg (fun j hj => by cases hj)); clear hg))
  refine leaves_cons (f := 29) (args := #[.pointer (some ⟨b, 0, none⟩)]) (by simp) (by simp [go_sem]) ?_
  refine (unlock_any .returning HD2.out).mono ?_
  rintro e u' w3 ⟨rfl, rfl, hd3, hg3⟩
  exact ⟨_, results_tmp rfl _ _ _, rfl, back_same HD.out.blk (gtrans HG2.out hg3) hd3.blk⟩
end
variable {w w' : World} {B b : Nat} {A : Ab} {P : Nat → Prop}
def Ab.remC (A : Ab) (s : ByteArray) : Cn := if 0 < wK A.ar A.kp then delC A.C s else A.C
def Ab.remE (A : Ab) (s : ByteArray) : Int := if A.fndE s = 0 then wE A.ar else A.fndE s
def Ab.rem (A : Ab) (s : ByteArray) : Ab := if A.fndE s = 0 then A.did (A.remC s) else A
def Ab.renC (A : Ab) (s t : ByteArray) : Cn := if 0 < wK A.ar A.kp then setC (delC A.C s) t (A.old s) else A.C
def Ab.renE (A : Ab) (s t : ByteArray) : Int := if refE A.off t = 0 then (if A.fndE s = 0 then wE A.ar else A.fndE s) else refE A.off t
def Ab.ren (A : Ab) (s t : ByteArray) : Ab := if refE A.off t = 0 ∧ A.fndE s = 0 then A.did (A.renC s t) else A
theorem used_del : ∀ (C : Cn) (s : ByteArray), usedC (delC C s) + ((getC C s).getD []).length = usedC C
  | [], _ => by simp [delC, getC, usedC]
  | p :: C, s => by
    unfold delC getC
    by_cases e : p.1 = s
    · rw [if_pos e, if_pos e]
      simp only [usedC, List.map_cons, List.sum_cons, Option.getD_some]
      omega
    · rw [if_neg e, if_neg e]
      have := used_del C s
      simp only [usedC, List.map_cons, List.sum_cons] at this ⊢
      omega
theorem len_del : ∀ (C : Cn) (s : ByteArray), (delC C s).length + (if (getC C s).isSome then 1 else 0) = C.length
  | [], _ => rfl
  | p :: C, s => by
    unfold delC getC
    by_cases e : p.1 = s
    · rw [if_pos e, if_pos e]; rfl
    · rw [if_neg e, if_neg e]
      have := len_del C s
      simp only [List.length_cons] at this ⊢
      omega
theorem mem_delC {q : ByteArray × List UInt8} : ∀ {C : Cn} {s : ByteArray}, q ∈ delC C s → q ∈ C
  | [], _, h => by cases h
  | p :: C, s, h => by
    unfold delC at h
    by_cases e : p.1 = s
    · rw [if_pos e] at h; exact List.mem_cons_of_mem _ h
    · rw [if_neg e] at h
      rcases List.mem_cons.1 h with h | h
      · rw [h]; exact List.mem_cons_self ..
      · exact List.mem_cons_of_mem _ (mem_delC h)
theorem fndE_zero {s : ByteArray} (he : A.fndE s = 0) : refE A.off s = 0 ∧ (getC A.C s).isSome = true := by
  unfold Ab.fndE at he
  by_cases e : refE A.off s = 0
  · rw [if_pos e] at he
    refine ⟨e, ?_⟩
    cases hh : (getC A.C s).isSome with
    | true => rfl
    | false => rw [hh] at he; simp at he
  · rw [if_neg e] at he
    exact absurd he e
theorem remC_ok (h : A.ok) {s : ByteArray} : (usedC (A.remC s) : Int) ≤ A.room ∧ (A.remC s).length ≤ 64 ∧ ∀ p ∈ A.remC s, goodN p.1 = true := by
  unfold Ab.remC
  by_cases hk : 0 < wK A.ar A.kp
  · rw [if_pos hk]
    have h1 := used_del A.C s
    have h2 := len_del A.C s
    have h3 := h.used
    have h4 := h.len
    exact ⟨by omega, by omega, fun p hp => h.nms p (mem_delC hp)⟩
  · rw [if_neg hk]
    exact ⟨h.used, h.len, h.nms⟩
theorem renC_ok (h : A.ok) {s t : ByteArray} (ht : refE A.off t = 0) (he : A.fndE s = 0) : (usedC (A.renC s t) : Int) ≤ A.room ∧ (A.renC s t).length ≤ 64 ∧ ∀ p ∈ A.renC s t, goodN p.1 = true := by
  unfold Ab.renC
  by_cases hk : 0 < wK A.ar A.kp
  · rw [if_pos hk]
    have h1 := used_del A.C s
    have h2 := len_del A.C s
    have h3 := h.used
    have h4 := h.len
    have h5 := used_set (delC A.C s) t (A.old s)
    have h6 := len_set (delC A.C s) t (A.old s)
    rw [if_pos (fndE_zero he).2] at h2
    unfold Ab.old at h5 h6 ⊢
    refine ⟨by omega, ?_, fun p hp => ?_⟩
    · rw [h6]; split <;> omega
    · rcases mem_setC hp with rfl | hp
      · exact (refE_size ht).2.1
      · exact h.nms p (mem_delC hp)
  · rw [if_neg hk]
    exact ⟨h.used, h.len, h.nms⟩
theorem remove_p (h : DkP w B b A P) (s : ByteArray) (hw : A.wr ≤ 4611686018427387904) :
    Calls Try.prog 15 #[.pointer (some ⟨b, 0, none⟩), .string s] w fun e w' => e = .returned (.int .i64 (A.remE s)) ∧ DkP w' B b (A.rem s) (newP P w w') ∧ DF w w' P := by
  obtain ⟨h1, m, F, h2, h3, h4⟩ := h
  unfold Ab.remE Ab.rem
  by_cases he : A.fndE s = 0
  · rw [if_pos he, if_pos he]
    refine (remove_dk h2 s ⟨h1.wr, hw⟩ h1.ar (by rw [fndE_of h3]; exact he)).mono ?_
    rintro e w' ⟨rfl, F', hd, hc, hdf, hn⟩
    have hok := remC_ok h1 (s := s)
    refine ⟨rfl, ⟨h1.did hok.1 hok.2.1 hok.2.2, m, F', hd, ?_, fun k hk => .inl (h4 k (hn k hk))⟩, hdf.mono h4⟩
    rw [hc, h3]
    rfl
  · rw [if_neg he, if_neg he]
    have := remove_no h2 s (by rw [fndE_of h3]; exact he)
    rw [fndE_of h3] at this
    refine this.mono ?_
    rintro e w' ⟨rfl, hg⟩
    exact ⟨rfl, ⟨h1, m, F, h2.keep hg, h3, fun k hk => .inl (h4 k hk)⟩, DF.of hg⟩
end Go.Proofs.Ytlgjmdianmijeab
