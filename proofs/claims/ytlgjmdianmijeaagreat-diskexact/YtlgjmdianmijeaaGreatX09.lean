/- Rename and Remove. -/
import Derived.Test.YtlgjmdianmijeaaGreatX08
import Derived.Shelf.SlGeneric
import Derived.Shelf.SlIter.Nil
import Derived.Shelf.SortM.Plain
import Derived.Shelf.SortM.SortNone
import Derived.Ground.GgzProg
import Derived.Ground.SlgmProg
import Derived.Test.YtlgjmdianmijeaaGreatX03
namespace Go.Proofs.YtlgjmdianmijeaaGreat
open Go Go.RowKit Go.MuLone
open Go.RowKit (wrap32 wrap64)

theorem sub_delF : ∀ (F : List Fl) (s : ByteArray), (delF F s).Sublist F
  | [], _ => List.Sublist.refl _
  | f :: F, s => by
    unfold delF
    by_cases e : f.nm = s
    · rw [if_pos e]; exact List.sublist_cons_self _ _
    · rw [if_neg e]; exact (sub_delF F s).cons_cons _
theorem mem_delF {f : Fl} : ∀ {F : List Fl} {s : ByteArray}, (F.map (·.nm)).Nodup → f ∈ delF F s → f ∈ F ∧ f.nm ≠ s
  | [], _, _, h => by cases h
  | g :: F, s, hn, h => by
    have hn' := List.nodup_cons.1 hn
    unfold delF at h
    by_cases e : g.nm = s
    · rw [if_pos e] at h
      exact ⟨List.mem_cons_of_mem _ h, fun q => hn'.1 (by show g.nm ∈ _; rw [show g.nm = f.nm from e.trans q.symm]; exact List.mem_map.2 ⟨f, h, rfl⟩)⟩
    · rw [if_neg e] at h
      rcases List.mem_cons.1 h with rfl | h
      · exact ⟨List.mem_cons_self .., e⟩
      · have := mem_delF hn'.2 h
        exact ⟨List.mem_cons_of_mem _ this.1, this.2⟩
section
variable {w w' : World} {B b m : Nat} {lk room : Int} {off : Bool} {wr ar kp : Int} {F : List Fl}
/-- A file is taken out of the map. -/
theorem Dk.del (h : Dk w B b m lk room off wr ar kp F) (s : ByteArray) : ∃ w', (∀ ty, (Builtin.delete_ #[114, 9] ty #[.map (some m), .string s]).run Tryz.prog w = .ok (.tuple #[]) w') ∧ Hid (Dk w' B b m lk room off wr ar kp (delF F s) ∧ w.grownBy w' (some m)) := by
  obtain ⟨o, hrun, hM⟩ := run_delete h.map s 0
  have hg := put_grown w m o
  refine ⟨World.put w m o, fun ty => ?_, hid ⟨⟨h.blk.on hg (fun e => by injection e with e; exact h.map.ne h.blk e), hM, fun f hf => (h.own f (mem_delF h.map.nodup hf).1).on hg (fun k e e2 => by injection e with e; subst e; exact h.map.own (h.own f (mem_delF h.map.nodup hf).1) e2), List.Pairwise.sublist (sub_delF F s) h.apart, h.low⟩, hg⟩⟩
  exact hrun
set_option maxRecDepth 100000 in
set_option maxHeartbeats 4000000 in
theorem remove_dk (h : Dk w B b m 0 room off wr ar kp F) (s : ByteArray) (hw : 0 ≤ wr ∧ wr ≤ 4611686018427387904) (ha : 0 ≤ ar ∧ ar ≤ 9223372036854775807) (he : findE off F s = 0) :
    Calls Tryz.prog 29 #[.pointer (some ⟨b, 0, none⟩), .string s] w fun e w' => e = .returned (.int .i64 (wE ar)) ∧ ∃ F', Dk w' B b m 0 room (wO ar off) (wr + 1) (wA ar) kp F' ∧ cont F' = (if 0 < wK ar kp then delC (cont F) s else cont F) ∧ DF w w' (Fp b m F) ∧ ∀ k, Fp b m F' k → Fp b m F k := by
  have HL := hid (lock_any h)
  obtain ⟨V, hV⟩ : ∃ x, findV off F s = x := ⟨_, rfl⟩
  have HFi : Hid (∀ u, Dk u B b m 1 room off wr ar kp F → Calls Tryz.prog 49 #[.pointer (some ⟨b, 0, none⟩), .string s] u fun e w' => e = .returned (.tuple #[V, .int .i64 0]) ∧ u.grownBy w' none) := fun u hu => by
    have := find_any hu s
    rw [he, hV] at this
    exact this
  have HWr : Hid (∀ u, Dk u B b m 1 room off wr ar kp F → Calls Tryz.prog 47 #[.pointer (some ⟨b, 0, none⟩)] u fun e w' => e = .returned (.tuple #[.int .i64 (wK ar kp), .int .i64 (wE ar)]) ∧ Dk w' B b m 1 room (wO ar off) (wr + 1) (wA ar) kp F ∧ u.grownBy w' (some b)) := fun u hu => write_any hu hw ha
  obtain ⟨K, hK⟩ : ∃ x, wK ar kp = x := ⟨_, rfl⟩
  obtain ⟨E, hE⟩ : ∃ x, wE ar = x := ⟨_, rfl⟩
  obtain ⟨O', hO'⟩ : ∃ x, wO ar off = x := ⟨_, rfl⟩
  obtain ⟨A', hA'⟩ : ∃ x, wA ar = x := ⟨_, rfl⟩
  rw [hK, hE, hO', hA'] at HWr
  rw [hK, hE, hO', hA']
  have HCo1 : Hid (cont (delF F s) = delC (cont F) s) := hid (del_cont F s)
  have HNd := hid h.map.nodup
  clear h hw ha he hV hK hE hO' hA'
  by_cases hK0 : 0 < K
  · as_aux_lemma =>
    go_enter_defers Tryz.func29, Tryz.ntmps29
    go_upto_region 8 with (first
      | (go_at_call 43; refine HL.out.mono ?_; rintro e w1 ⟨rfl, hd, hg⟩; have HD1 := hid hd; have HF1 := hid (DF.one hg (P := Fp b m F) (.inl rfl)); clear hd hg)
      | (go_at_call 49; refine (HFi.out _ HD1.out).mono ?_; rintro e w2 ⟨rfl, hg⟩; have HD2 := hid (HD1.out.keep hg); have HF2 := hid (HF1.out.trans (DF.of (P := Fp b m F) hg) (fun _ _ q => q)); clear hg)
      | (go_at_call 47; refine (HWr.out _ HD2.out).mono ?_; rintro e w4 ⟨rfl, hd, hg⟩; have HD4 := hid hd; have HF4 := hid (HF2.out.trans (DF.one hg (P := Fp b m F) (.inl rfl)) (fun _ _ q => q)); clear hd hg))
    obtain ⟨w5, hdel, HQ5⟩ := HD4.out.del s
    have y3 := HD4.out.c.2.2.1
    go_wp2_with fail
    refine leaves_cons (f := 44) (args := #[.pointer (some ⟨b, 0, none⟩)]) (by simp) (by simp [go_sem]) ?_
    refine (unlock_any .returning HQ5.out.1).mono ?_
    rintro e u' w7 ⟨rfl, rfl, hd7, hg7⟩
    refine ⟨_, results_tmp rfl _ _ _, rfl, delF F s, hd7, HCo1.out, (HF4.out.trans (DF.one HQ5.out.2 (P := Fp b m F) (.inr (.inl rfl))) (fun _ _ q => q)).trans (DF.one hg7 (P := Fp b m F) (.inl rfl)) (fun _ _ q => q), ?_⟩
    rintro k (rfl | rfl | ⟨f, hf, hk⟩)
    · exact .inl rfl
    · exact .inr (.inl rfl)
    · exact .inr (.inr ⟨f, (mem_delF HNd.out hf).1, hk⟩)
  · as_aux_lemma =>
    go_enter_defers Tryz.func29, Tryz.ntmps29
    go_wp2_with (first
      | (go_at_call 43; refine HL.out.mono ?_; rintro e w1 ⟨rfl, hd, hg⟩; have HD1 := hid hd; have HF1 := hid (DF.one hg (P := Fp b m F) (.inl rfl)); clear hd hg)
      | (go_at_call 49; refine (HFi.out _ HD1.out).mono ?_; rintro e w2 ⟨rfl, hg⟩; have HD2 := hid (HD1.out.keep hg); have HF2 := hid (HF1.out.trans (DF.of (P := Fp b m F) hg) (fun _ _ q => q)); clear hg)
      | (go_at_call 47; refine (HWr.out _ HD2.out).mono ?_; rintro e w4 ⟨rfl, hd, hg⟩; have HD4 := hid hd; have HF4 := hid (HF2.out.trans (DF.one hg (P := Fp b m F) (.inl rfl)) (fun _ _ q => q)); clear hd hg))
    refine leaves_cons (f := 44) (args := #[.pointer (some ⟨b, 0, none⟩)]) (by simp) (by simp [go_sem]) ?_
    refine (unlock_any .returning HD4.out).mono ?_
    rintro e u' w7 ⟨rfl, rfl, hd7, hg7⟩
    exact ⟨_, results_tmp rfl _ _ _, rfl, F, hd7, rfl, HF4.out.trans (DF.one hg7 (P := Fp b m F) (.inl rfl)) (fun _ _ q => q), fun k hk => hk⟩
set_option maxRecDepth 100000 in
set_option maxHeartbeats 1600000 in
theorem remove_no (h : Dk w B b m 0 room off wr ar kp F) (s : ByteArray) (he : findE off F s ≠ 0) :
    Calls Tryz.prog 29 #[.pointer (some ⟨b, 0, none⟩), .string s] w fun e w' => e = .returned (.int .i64 (findE off F s)) ∧ w.grownBy w' none := by
  have HD := hid h
  have HL := hid (lock_any h)
  obtain ⟨E, hE⟩ : ∃ x, findE off F s = x := ⟨_, rfl⟩
  obtain ⟨V, hV⟩ : ∃ x, findV off F s = x := ⟨_, rfl⟩
  have HFi : Hid (∀ u, Dk u B b m 1 room off wr ar kp F → Calls Tryz.prog 49 #[.pointer (some ⟨b, 0, none⟩), .string s] u fun e w' => e = .returned (.tuple #[V, .int .i64 E]) ∧ u.grownBy w' none) := fun u hu => by
    have := find_any hu s
    rw [hV, hE] at this
    exact this
  rw [hE] at he ⊢
  have he' : (E == 0) = false := beq_eq_false_iff_ne.2 he
  clear h hE hV
  go_enter_defers Tryz.func29, Tryz.ntmps29
  go_wp2_with (first
    | (go_at_call 43; refine HL.out.mono ?_; rintro e w1 ⟨rfl, hd, hg⟩; have HD1 := hid hd; have HG1 := hid hg; clear hd hg)
    | (go_at_call 49; refine (HFi.out _ HD1.out).mono ?_; rintro e w2 ⟨rfl, hg⟩; have HD2 := hid (HD1.out.keep hg); have HG2 := hid (HG1.out.andThen hg (fun j hj => by cases hj)); clear hg))
  refine leaves_cons (f := 44) (args := #[.pointer (some ⟨b, 0, none⟩)]) (by simp) (by simp [go_sem]) ?_
  refine (unlock_any .returning HD2.out).mono ?_
  rintro e u' w3 ⟨rfl, rfl, hd3, hg3⟩
  exact ⟨_, results_tmp rfl _ _ _, rfl, back_same HD.out.blk (gtrans HG2.out hg3) hd3.blk⟩
set_option maxRecDepth 100000 in
set_option maxHeartbeats 4000000 in
theorem rename_dk (h : Dk w B b m 0 room off wr ar kp F) (s t : ByteArray) (hw : 0 ≤ wr ∧ wr ≤ 4611686018427387904) (ha : 0 ≤ ar ∧ ar ≤ 9223372036854775807) (ht : refE off t = 0) (he : findE off F s = 0) :
    Calls Tryz.prog 27 #[.pointer (some ⟨b, 0, none⟩), .string s, .string t] w fun e w' => e = .returned (.int .i64 (wE ar)) ∧ ∃ F', Dk w' B b m 0 room (wO ar off) (wr + 1) (wA ar) kp F' ∧ cont F' = (if 0 < wK ar kp then setC (delC (cont F) s) t (oldB F s) else cont F) ∧ DF w w' (Fp b m F) ∧ ∀ k, Fp b m F' k → Fp b m F k := by
  have HL := hid (lock_any h)
  have HSz : Hid (t.size ≤ 64) := hid (refE_size ht).1
  have hfv0 : findV off F s = lookV F s := by unfold findV; rw [if_pos he]
  have hlk := h.look s
  obtain ⟨fa, fc, hfv⟩ := hlk.1.len
  obtain ⟨ol, hol⟩ : ∃ x, oldB F s = x := ⟨_, rfl⟩
  rw [hol] at hfv
  obtain ⟨fn, hfn⟩ : ∃ x, ol.length = x := ⟨_, rfl⟩
  rw [hfn] at hfv
  have HRf : Hid (∀ u, Dk u B b m 1 room off wr ar kp F → Calls Tryz.prog 45 #[.pointer (some ⟨b, 0, none⟩), .string t] u fun e w' => e = .returned (.int .i64 0) ∧ u.grownBy w' none) := fun u hu => by
    have := refusal_any hu t
    rw [ht] at this
    exact this
  have HFi : Hid (∀ u, Dk u B b m 1 room off wr ar kp F → Calls Tryz.prog 49 #[.pointer (some ⟨b, 0, none⟩), .string s] u fun e w' => e = .returned (.tuple #[.slice fa fn fc, .int .i64 0]) ∧ u.grownBy w' none) := fun u hu => by
    have := find_any hu s
    rw [he, hfv0, hfv] at this
    exact this
  have HWr : Hid (∀ u, Dk u B b m 1 room off wr ar kp F → Calls Tryz.prog 47 #[.pointer (some ⟨b, 0, none⟩)] u fun e w' => e = .returned (.tuple #[.int .i64 (wK ar kp), .int .i64 (wE ar)]) ∧ Dk w' B b m 1 room (wO ar off) (wr + 1) (wA ar) kp F ∧ u.grownBy w' (some b)) := fun u hu => write_any hu hw ha
  obtain ⟨K, hK⟩ : ∃ x, wK ar kp = x := ⟨_, rfl⟩
  obtain ⟨E, hE⟩ : ∃ x, wE ar = x := ⟨_, rfl⟩
  obtain ⟨O', hO'⟩ : ∃ x, wO ar off = x := ⟨_, rfl⟩
  obtain ⟨A', hA'⟩ : ∃ x, wA ar = x := ⟨_, rfl⟩
  rw [hK, hE, hO', hA'] at HWr
  rw [hK, hE, hO', hA']
  have HO4 : Hid (∀ u, Dk u B b m 1 room O' (wr + 1) A' kp F → Out B u (.slice fa fn fc) ol) := hid (fun u hu => by rw [← hfv, ← hol]; exact (hu.look s).1)
  have HOwn : Hid (∀ k, (Value.slice fa fn fc).ownBlock = some k → Fp b m F k) := hid (by rw [← hfv]; exact hlk.2.1)
  have HNe : Hid (∀ f ∈ F, f.nm ≠ s → (Value.slice fa fn fc).ownBlock = none ∨ (Value.slice fa fn fc).ownBlock ≠ f.v.ownBlock) := hid (by rw [← hfv]; exact hlk.2.2)
  have HCo1 : Hid (∀ v, cont (setF (delF F s) t v ol) = setC (delC (cont F) s) t (oldB F s)) := hid (fun v => by rw [set_cont, del_cont, hol])
  have HNd := hid h.map.nodup
  clear h hw ha he hK hE hO' hA' hfv0 hfv hol hfn ht hlk
  by_cases hK0 : 0 < K
  · as_aux_lemma =>
    go_enter_defers Tryz.func27, Tryz.ntmps27
    go_upto_region 11 with (first
      | (go_at_call 43; refine HL.out.mono ?_; rintro e w1 ⟨rfl, hd, hg⟩; have HD1 := hid hd; have HF1 := hid (DF.one hg (P := Fp b m F) (.inl rfl)); clear hd hg)
      | (go_at_call 45; refine (HRf.out _ HD1.out).mono ?_; rintro e w2 ⟨rfl, hg⟩; have HD2 := hid (HD1.out.keep hg); have HF2 := hid (HF1.out.trans (DF.of (P := Fp b m F) hg) (fun _ _ q => q)); clear hg)
      | (go_at_call 49; refine (HFi.out _ HD2.out).mono ?_; rintro e w3 ⟨rfl, hg⟩; have HD3 := hid (HD2.out.keep hg); have HF3 := hid (HF2.out.trans (DF.of (P := Fp b m F) hg) (fun _ _ q => q)); clear hg)
      | (go_at_call 47; refine (HWr.out _ HD3.out).mono ?_; rintro e w4 ⟨rfl, hd, hg⟩; have HD4 := hid hd; have HF4 := hid (HF3.out.trans (DF.one hg (P := Fp b m F) (.inl rfl)) (fun _ _ q => q)); clear hd hg))
    obtain ⟨w5, hdel, HQ5⟩ := HD4.out.del s
    have y3 := HD4.out.c.2.2.1
    have HO5 : Hid (Out B w5 (.slice fa fn fc) ol) := hid ((HO4.out _ HD4.out).on HQ5.out.2 (fun k e e2 => by injection e with e; subst e; exact HD4.out.map.own (HO4.out _ HD4.out) e2))
    have HP5 := hid (put_any t (HQ5.out.1.toW t) fa fn fc ol HSz.out HO5.out (fun f hf _ => HNe.out f (mem_delF HNd.out hf).1 (mem_delF HNd.out hf).2))
    go_wp2_with (go_at_call 48; refine HP5.out.mono ?_; rintro e w6 ⟨rfl, hd6, hg6⟩; have HD6 := hid hd6; have HG6 := hid hg6; clear hd6 hg6)
    refine leaves_cons (f := 44) (args := #[.pointer (some ⟨b, 0, none⟩)]) (by simp) (by simp [go_sem]) ?_
    refine (unlock_any .returning HD6.out).mono ?_
    rintro e u' w7 ⟨rfl, rfl, hd7, hg7⟩
    refine ⟨_, results_tmp rfl _ _ _, rfl, setF (delF F s) t (.slice fa fn fc) ol, hd7, HCo1.out _, ((HF4.out.trans (DF.one HQ5.out.2 (P := Fp b m F) (.inr (.inl rfl))) (fun _ _ q => q)).trans (DF.one HG6.out (P := Fp b m F) (.inr (.inl rfl))) (fun _ _ q => q)).trans (DF.one hg7 (P := Fp b m F) (.inl rfl)) (fun _ _ q => q), ?_⟩
    rintro k (rfl | rfl | ⟨f, hf, hk⟩)
    · exact .inl rfl
    · exact .inr (.inl rfl)
    · rcases mem_setF HQ5.out.1.map.nodup hf with rfl | ⟨hf, _⟩
      · exact HOwn.out k hk
      · exact .inr (.inr ⟨f, (mem_delF HNd.out hf).1, hk⟩)
  · as_aux_lemma =>
    go_enter_defers Tryz.func27, Tryz.ntmps27
    go_wp2_with (first
      | (go_at_call 43; refine HL.out.mono ?_; rintro e w1 ⟨rfl, hd, hg⟩; have HD1 := hid hd; have HF1 := hid (DF.one hg (P := Fp b m F) (.inl rfl)); clear hd hg)
      | (go_at_call 45; refine (HRf.out _ HD1.out).mono ?_; rintro e w2 ⟨rfl, hg⟩; have HD2 := hid (HD1.out.keep hg); have HF2 := hid (HF1.out.trans (DF.of (P := Fp b m F) hg) (fun _ _ q => q)); clear hg)
      | (go_at_call 49; refine (HFi.out _ HD2.out).mono ?_; rintro e w3 ⟨rfl, hg⟩; have HD3 := hid (HD2.out.keep hg); have HF3 := hid (HF2.out.trans (DF.of (P := Fp b m F) hg) (fun _ _ q => q)); clear hg)
      | (go_at_call 47; refine (HWr.out _ HD3.out).mono ?_; rintro e w4 ⟨rfl, hd, hg⟩; have HD4 := hid hd; have HF4 := hid (HF3.out.trans (DF.one hg (P := Fp b m F) (.inl rfl)) (fun _ _ q => q)); clear hd hg))
    refine leaves_cons (f := 44) (args := #[.pointer (some ⟨b, 0, none⟩)]) (by simp) (by simp [go_sem]) ?_
    refine (unlock_any .returning HD4.out).mono ?_
    rintro e u' w7 ⟨rfl, rfl, hd7, hg7⟩
    exact ⟨_, results_tmp rfl _ _ _, rfl, F, hd7, rfl, HF4.out.trans (DF.one hg7 (P := Fp b m F) (.inl rfl)) (fun _ _ q => q), fun k hk => hk⟩
set_option maxRecDepth 100000 in
set_option maxHeartbeats 1600000 in
theorem rename_no1 (h : Dk w B b m 0 room off wr ar kp F) (s t : ByteArray) (he : refE off t ≠ 0) :
    Calls Tryz.prog 27 #[.pointer (some ⟨b, 0, none⟩), .string s, .string t] w fun e w' => e = .returned (.int .i64 (refE off t)) ∧ w.grownBy w' none := by
  have HD := hid h
  have HL := hid (lock_any h)
  obtain ⟨E, hE⟩ : ∃ x, refE off t = x := ⟨_, rfl⟩
  have HRf : Hid (∀ u, Dk u B b m 1 room off wr ar kp F → Calls Tryz.prog 45 #[.pointer (some ⟨b, 0, none⟩), .string t] u fun e w' => e = .returned (.int .i64 E) ∧ u.grownBy w' none) := fun u hu => by
    have := refusal_any hu t
    rw [hE] at this
    exact this
  rw [hE] at he ⊢
  have he' : (E == 0) = false := beq_eq_false_iff_ne.2 he
  clear h hE
  go_enter_defers Tryz.func27, Tryz.ntmps27
  go_wp2_with (first
    | (go_at_call 43; refine HL.out.mono ?_; rintro e w1 ⟨rfl, hd, hg⟩; have HD1 := hid hd; have HG1 := hid hg; clear hd hg)
    | (go_at_call 45; refine (HRf.out _ HD1.out).mono ?_; rintro e w2 ⟨rfl, hg⟩; have HD2 := hid (HD1.out.keep hg); have HG2 := hid (HG1.out.andThen hg (fun j hj => by cases hj)); clear hg))
  refine leaves_cons (f := 44) (args := #[.pointer (some ⟨b, 0, none⟩)]) (by simp) (by simp [go_sem]) ?_
  refine (unlock_any .returning HD2.out).mono ?_
  rintro e u' w3 ⟨rfl, rfl, hd3, hg3⟩
  exact ⟨_, results_tmp rfl _ _ _, rfl, back_same HD.out.blk (gtrans HG2.out hg3) hd3.blk⟩
set_option maxRecDepth 100000 in
set_option maxHeartbeats 1600000 in
theorem rename_no2 (h : Dk w B b m 0 room off wr ar kp F) (s t : ByteArray) (ht : refE off t = 0) (he : findE off F s ≠ 0) :
    Calls Tryz.prog 27 #[.pointer (some ⟨b, 0, none⟩), .string s, .string t] w fun e w' => e = .returned (.int .i64 (findE off F s)) ∧ w.grownBy w' none := by
  have HD := hid h
  have HL := hid (lock_any h)
  have HRf : Hid (∀ u, Dk u B b m 1 room off wr ar kp F → Calls Tryz.prog 45 #[.pointer (some ⟨b, 0, none⟩), .string t] u fun e w' => e = .returned (.int .i64 0) ∧ u.grownBy w' none) := fun u hu => by
    have := refusal_any hu t
    rw [ht] at this
    exact this
  obtain ⟨E, hE⟩ : ∃ x, findE off F s = x := ⟨_, rfl⟩
  obtain ⟨V, hV⟩ : ∃ x, findV off F s = x := ⟨_, rfl⟩
  have HFi : Hid (∀ u, Dk u B b m 1 room off wr ar kp F → Calls Tryz.prog 49 #[.pointer (some ⟨b, 0, none⟩), .string s] u fun e w' => e = .returned (.tuple #[V, .int .i64 E]) ∧ u.grownBy w' none) := fun u hu => by
    have := find_any hu s
    rw [hV, hE] at this
    exact this
  rw [hE] at he ⊢
  have he' : (E == 0) = false := beq_eq_false_iff_ne.2 he
  clear h hE hV ht
  go_enter_defers Tryz.func27, Tryz.ntmps27
  go_wp2_with (first
    | (go_at_call 43; refine HL.out.mono ?_; rintro e w1 ⟨rfl, hd, hg⟩; have HD1 := hid hd; have HG1 := hid hg; clear hd hg)
    | (go_at_call 45; refine (HRf.out _ HD1.out).mono ?_; rintro e w2 ⟨rfl, hg⟩; have HD2 := hid (HD1.out.keep hg); have HG2 := hid (HG1.out.andThen hg (fun j hj => by cases hj)); clear hg)
    | (go_at_call 49; refine (HFi.out _ HD2.out).mono ?_; rintro e w3 ⟨rfl, hg⟩; have HD3 := hid (HD2.out.keep hg); have HG3 := hid (HG2.out.andThen hg (fun j hj => by cases hj)); clear hg))
  refine leaves_cons (f := 44) (args := #[.pointer (some ⟨b, 0, none⟩)]) (by simp) (by simp [go_sem]) ?_
  refine (unlock_any .returning HD3.out).mono ?_
  rintro e u' w4 ⟨rfl, rfl, hd4, hg4⟩
  exact ⟨_, results_tmp rfl _ _ _, rfl, back_same HD.out.blk (gtrans HG3.out hg4) hd4.blk⟩
end
variable {w w' : World} {B b : Nat} {A : Ab} {P : Nat → Prop}
def Ab.remC (A : Ab) (s : ByteArray) : Cn := if 0 < wK A.ar A.kp then delC A.C s else A.C
def Ab.remE (A : Ab) (s : ByteArray) : Int := if A.fndE s = 0 then wE A.ar else A.fndE s
def Ab.rem (A : Ab) (s : ByteArray) : Ab := if A.fndE s = 0 then A.did (A.remC s) else A
def Ab.renC (A : Ab) (s t : ByteArray) : Cn := if 0 < wK A.ar A.kp then setC (delC A.C s) t (A.old s) else A.C
def Ab.renE (A : Ab) (s t : ByteArray) : Int := if refE A.off t = 0 then (if A.fndE s = 0 then wE A.ar else A.fndE s) else refE A.off t
def Ab.ren (A : Ab) (s t : ByteArray) : Ab := if refE A.off t = 0 ∧ A.fndE s = 0 then A.did (A.renC s t) else A
theorem used_del : ∀ (C : Cn) (s : ByteArray), usedC (delC C s) + ((getC C s).getD []).length = usedC C
  | [], _ => by simp [delC, getC, usedC]
  | p :: C, s => by
    unfold delC getC
    by_cases e : p.1 = s
    · rw [if_pos e, if_pos e]
      simp only [usedC, List.map_cons, List.sum_cons, Option.getD_some]
      omega
    · rw [if_neg e, if_neg e]
      have := used_del C s
      simp only [usedC, List.map_cons, List.sum_cons] at this ⊢
      omega
theorem len_del : ∀ (C : Cn) (s : ByteArray), (delC C s).length + (if (getC C s).isSome then 1 else 0) = C.length
  | [], _ => rfl
  | p :: C, s => by
    unfold delC getC
    by_cases e : p.1 = s
    · rw [if_pos e, if_pos e]; rfl
    · rw [if_neg e, if_neg e]
      have := len_del C s
      simp only [List.length_cons] at this ⊢
      omega
theorem mem_delC {q : ByteArray × List UInt8} : ∀ {C : Cn} {s : ByteArray}, q ∈ delC C s → q ∈ C
  | [], _, h => by cases h
  | p :: C, s, h => by
    unfold delC at h
    by_cases e : p.1 = s
    · rw [if_pos e] at h; exact List.mem_cons_of_mem _ h
    · rw [if_neg e] at h
      rcases List.mem_cons.1 h with h | h
      · rw [h]; exact List.mem_cons_self ..
      · exact List.mem_cons_of_mem _ (mem_delC h)
theorem fndE_zero {s : ByteArray} (he : A.fndE s = 0) : refE A.off s = 0 ∧ (getC A.C s).isSome = true := by
  unfold Ab.fndE at he
  by_cases e : refE A.off s = 0
  · rw [if_pos e] at he
    refine ⟨e, ?_⟩
    cases hh : (getC A.C s).isSome with
    | true => rfl
    | false => rw [hh] at he; simp at he
  · rw [if_neg e] at he
    exact absurd he e
theorem remC_ok (h : A.ok) {s : ByteArray} : (usedC (A.remC s) : Int) ≤ A.room ∧ (A.remC s).length ≤ 64 ∧ ∀ p ∈ A.remC s, goodN p.1 = true := by
  unfold Ab.remC
  by_cases hk : 0 < wK A.ar A.kp
  · rw [if_pos hk]
    have h1 := used_del A.C s
    have h2 := len_del A.C s
    have h3 := h.used
    have h4 := h.len
    exact ⟨by omega, by omega, fun p hp => h.nms p (mem_delC hp)⟩
  · rw [if_neg hk]
    exact ⟨h.used, h.len, h.nms⟩
theorem renC_ok (h : A.ok) {s t : ByteArray} (ht : refE A.off t = 0) (he : A.fndE s = 0) : (usedC (A.renC s t) : Int) ≤ A.room ∧ (A.renC s t).length ≤ 64 ∧ ∀ p ∈ A.renC s t, goodN p.1 = true := by
  unfold Ab.renC
  by_cases hk : 0 < wK A.ar A.kp
  · rw [if_pos hk]
    have h1 := used_del A.C s
    have h2 := len_del A.C s
    have h3 := h.used
    have h4 := h.len
    have h5 := used_set (delC A.C s) t (A.old s)
    have h6 := len_set (delC A.C s) t (A.old s)
    rw [if_pos (fndE_zero he).2] at h2
    unfold Ab.old at h5 h6 ⊢
    refine ⟨by omega, ?_, fun p hp => ?_⟩
    · rw [h6]; split <;> omega
    · rcases mem_setC hp with rfl | hp
      · exact (refE_size ht).2.1
      · exact h.nms p (mem_delC hp)
  · rw [if_neg hk]
    exact ⟨h.used, h.len, h.nms⟩
theorem remove_p (h : DkP w B b A P) (s : ByteArray) (hw : A.wr ≤ 4611686018427387904) :
    Calls Tryz.prog 29 #[.pointer (some ⟨b, 0, none⟩), .string s] w fun e w' => e = .returned (.int .i64 (A.remE s)) ∧ DkP w' B b (A.rem s) (newP P w w') ∧ DF w w' P := by
  obtain ⟨h1, m, F, h2, h3, h4⟩ := h
  unfold Ab.remE Ab.rem
  by_cases he : A.fndE s = 0
  · rw [if_pos he, if_pos he]
    refine (remove_dk h2 s ⟨h1.wr, hw⟩ h1.ar (by rw [fndE_of h3]; exact he)).mono ?_
    rintro e w' ⟨rfl, F', hd, hc, hdf, hn⟩
    have hok := remC_ok h1 (s := s)
    refine ⟨rfl, ⟨h1.did hok.1 hok.2.1 hok.2.2, m, F', hd, ?_, fun k hk => .inl (h4 k (hn k hk))⟩, hdf.mono h4⟩
    rw [hc, h3]
    rfl
  · rw [if_neg he, if_neg he]
    have := remove_no h2 s (by rw [fndE_of h3]; exact he)
    rw [fndE_of h3] at this
    refine this.mono ?_
    rintro e w' ⟨rfl, hg⟩
    exact ⟨rfl, ⟨h1, m, F, h2.keep hg, h3, fun k hk => .inl (h4 k hk)⟩, DF.of hg⟩
theorem rename_p (h : DkP w B b A P) (s t : ByteArray) (hw : A.wr ≤ 4611686018427387904) :
    Calls Tryz.prog 27 #[.pointer (some ⟨b, 0, none⟩), .string s, .string t] w fun e w' => e = .returned (.int .i64 (A.renE s t)) ∧ DkP w' B b (A.ren s t) (newP P w w') ∧ DF w w' P := by
  obtain ⟨h1, m, F, h2, h3, h4⟩ := h
  unfold Ab.renE Ab.ren
  by_cases ht : refE A.off t = 0
  · by_cases he : A.fndE s = 0
    · rw [if_pos ht, if_pos he, if_pos ⟨ht, he⟩]
      refine (rename_dk h2 s t ⟨h1.wr, hw⟩ h1.ar ht (by rw [fndE_of h3]; exact he)).mono ?_
      rintro e w' ⟨rfl, F', hd, hc, hdf, hn⟩
      have hok := renC_ok h1 ht he
      refine ⟨rfl, ⟨h1.did hok.1 hok.2.1 hok.2.2, m, F', hd, ?_, fun k hk => .inl (h4 k (hn k hk))⟩, hdf.mono h4⟩
      rw [hc, oldB_cont, h3]
      rfl
    · rw [if_pos ht, if_neg he, if_neg (fun q => he q.2)]
      have := rename_no2 h2 s t ht (by rw [fndE_of h3]; exact he)
      rw [fndE_of h3] at this
      refine this.mono ?_
      rintro e w' ⟨rfl, hg⟩
      exact ⟨rfl, ⟨h1, m, F, h2.keep hg, h3, fun k hk => .inl (h4 k hk)⟩, DF.of hg⟩
  · rw [if_neg ht, if_neg (fun q => ht q.1)]
    refine (rename_no1 h2 s t ht).mono ?_
    rintro e w' ⟨rfl, hg⟩
    exact ⟨rfl, ⟨h1, m, F, h2.keep hg, h3, fun k hk => .inl (h4 k hk)⟩, DF.of hg⟩
end Go.Proofs.YtlgjmdianmijeaaGreat

namespace Go.Proofs.YtlgjmdianmijeaaGreat
open Go.Shelf
def Tryz.keys51_ren : Go.Shelf.Ren := ⟨fun | 7 => 150 | 10 => 164 | n => n, fun | 23 => 114 | 26 => 9 | 3 => 58 | 28 => 240 | 0 => 0 | 27 => 239 | 33 => 137 | 4 => 4 | n => n, fun | n => n⟩
theorem Tryz.keys51 : Go.Proofs.SlLaysZ.n7 Tryz.prog Tryz.keys51_ren := {
  mixed := by kernel_rfl
  f7 := ⟨Tryz.f150.name, by decide, Tryz.func150.trans (congrArg some (by kernel_rfl))⟩
  f10 := ⟨Tryz.f164.name, by decide, Tryz.func164.trans (congrArg some (by kernel_rfl))⟩
  t0 := Tryz.underlying0
  a0 := Tryz.isAgg0
  z0 := Tryz.sizeOf0
  v0 := Tryz.zeroValue0
  t4 := Tryz.underlying4
  a4 := Tryz.isAgg4
  z4 := Tryz.sizeOf4
  v4 := Tryz.zeroValue4
  t23 := Tryz.underlying114
  a23 := Tryz.isAgg114
  z23 := Tryz.sizeOf114
  v23 := Tryz.zeroValue114
  t26 := Tryz.underlying9
  a26 := Tryz.isAgg9
  z26 := Tryz.sizeOf9
  v26 := Tryz.zeroValue9
  t27 := Tryz.underlying239
  a27 := Tryz.isAgg239
  z27 := Tryz.sizeOf239
  v27 := Tryz.zeroValue239
  t28 := Tryz.underlying240
  a28 := Tryz.isAgg240
  z28 := Tryz.sizeOf240
  v28 := Tryz.zeroValue240
  t33 := Tryz.underlying137
  a33 := Tryz.isAgg137
  z33 := Tryz.sizeOf137
  v33 := Tryz.zeroValue137 }
def Tryz.sorted50_ren : Go.Shelf.Ren := ⟨fun | 6 => 149 | 8 => 162 | 9 => 163 | 11 => 172 | 13 => 174 | 12 => 173 | 23 => 184 | 24 => 185 | 14 => 175 | 15 => 176 | 16 => 177 | 17 => 178 | 18 => 179 | 19 => 180 | 20 => 181 | 21 => 182 | 22 => 183 | 25 => 186 | 26 => 187 | 27 => 188 | 28 => 189 | 29 => 190 | 30 => 191 | 31 => 192 | n => n, fun | 26 => 9 | 28 => 240 | 24 => 59 | 0 => 0 | 3 => 3 | 37 => 211 | 48 => 117 | 50 => 164 | 4 => 4 | 40 => 260 | 39 => 259 | 45 => 132 | 5 => 5 | 9 => 9 | 51 => 268 | 55 => 272 | 57 => 274 | 58 => 142 | 33 => 137 | n => n, fun | n => n⟩
theorem Tryz.sorted50 : Go.Proofs.SlLaysZ.n6 Tryz.prog Tryz.sorted50_ren := {
  mixed := by kernel_rfl
  f6 := ⟨Tryz.f149.name, by decide, Tryz.func149.trans (congrArg some (by kernel_rfl))⟩
  f8 := ⟨Tryz.f162.name, by decide, Tryz.func162.trans (congrArg some (by kernel_rfl))⟩
  f11 := ⟨Tryz.f172.name, by decide, Tryz.func172.trans (congrArg some (by kernel_rfl))⟩
  t0 := Tryz.underlying0
  a0 := Tryz.isAgg0
  z0 := Tryz.sizeOf0
  v0 := Tryz.zeroValue0
  t24 := Tryz.underlying59
  a24 := Tryz.isAgg59
  z24 := Tryz.sizeOf59
  v24 := Tryz.zeroValue59
  t26 := Tryz.underlying9
  a26 := Tryz.isAgg9
  z26 := Tryz.sizeOf9
  v26 := Tryz.zeroValue9
  t28 := Tryz.underlying240
  a28 := Tryz.isAgg240
  z28 := Tryz.sizeOf240
  v28 := Tryz.zeroValue240
  i26 := by kernel_rfl }
def Tryz.sort65_ren : Go.Shelf.Ren := ⟨fun | 6 => 163 | 8 => 174 | 9 => 173 | 19 => 184 | 20 => 185 | 21 => 175 | 22 => 176 | 23 => 177 | 24 => 178 | 25 => 179 | 26 => 180 | 27 => 181 | 28 => 182 | 29 => 183 | 36 => 186 | 31 => 187 | 32 => 188 | 37 => 189 | 38 => 190 | 39 => 191 | 41 => 192 | n => n, fun | 27 => 59 | 29 => 9 | 3 => 3 | 32 => 211 | 26 => 59 | 0 => 0 | 44 => 117 | 46 => 164 | 4 => 4 | 36 => 260 | 35 => 259 | 41 => 132 | 5 => 5 | 9 => 9 | 53 => 268 | 57 => 272 | 63 => 274 | 64 => 142 | n => n, fun | n => n⟩
theorem Tryz.sort65 : Go.Proofs.SlLaysM.n6 Tryz.prog Tryz.sort65_ren := {
  mixed := by kernel_rfl
  f6 := ⟨Tryz.f163.name, by decide, Tryz.func163.trans (congrArg some (by kernel_rfl))⟩
  f8 := Tryz.func174.trans (congrArg some (by kernel_rfl))
  f9 := ⟨Tryz.f173.name, by decide, Tryz.func173.trans (congrArg some (by kernel_rfl))⟩
  f19 := Tryz.func184.trans (congrArg some (by kernel_rfl))
  f20 := Tryz.func185.trans (congrArg some (by kernel_rfl))
  f21 := ⟨Tryz.f175.name, by decide, Tryz.func175.trans (congrArg some (by kernel_rfl))⟩
  f22 := ⟨Tryz.f176.name, by decide, Tryz.func176.trans (congrArg some (by kernel_rfl))⟩
  f23 := ⟨Tryz.f177.name, by decide, Tryz.func177.trans (congrArg some (by kernel_rfl))⟩
  f24 := ⟨Tryz.f178.name, by decide, Tryz.func178.trans (congrArg some (by kernel_rfl))⟩
  f25 := ⟨Tryz.f179.name, by decide, Tryz.func179.trans (congrArg some (by kernel_rfl))⟩
  f26 := ⟨Tryz.f180.name, by decide, Tryz.func180.trans (congrArg some (by kernel_rfl))⟩
  f27 := ⟨Tryz.f181.name, by decide, Tryz.func181.trans (congrArg some (by kernel_rfl))⟩
  f28 := ⟨Tryz.f182.name, by decide, Tryz.func182.trans (congrArg some (by kernel_rfl))⟩
  f29 := ⟨Tryz.f183.name, by decide, Tryz.func183.trans (congrArg some (by kernel_rfl))⟩
  f31 := Tryz.func187.trans (congrArg some (by kernel_rfl))
  f32 := Tryz.func188.trans (congrArg some (by kernel_rfl))
  f36 := ⟨Tryz.f186.name, by decide, Tryz.func186.trans (congrArg some (by kernel_rfl))⟩
  f37 := ⟨Tryz.f189.name, by decide, Tryz.func189.trans (congrArg some (by kernel_rfl))⟩
  f38 := ⟨Tryz.f190.name, by decide, Tryz.func190.trans (congrArg some (by kernel_rfl))⟩
  f39 := ⟨Tryz.f191.name, by decide, Tryz.func191.trans (congrArg some (by kernel_rfl))⟩
  f41 := ⟨Tryz.f192.name, by decide, Tryz.func192.trans (congrArg some (by kernel_rfl))⟩
  t0 := Tryz.underlying0
  a0 := Tryz.isAgg0
  z0 := Tryz.sizeOf0
  v0 := Tryz.zeroValue0
  t3 := Tryz.underlying3
  a3 := Tryz.isAgg3
  z3 := Tryz.sizeOf3
  v3 := Tryz.zeroValue3
  t4 := Tryz.underlying4
  a4 := Tryz.isAgg4
  z4 := Tryz.sizeOf4
  v4 := Tryz.zeroValue4
  t5 := Tryz.underlying5
  a5 := Tryz.isAgg5
  z5 := Tryz.sizeOf5
  v5 := Tryz.zeroValue5
  t9 := Tryz.underlying9
  a9 := Tryz.isAgg9
  z9 := Tryz.sizeOf9
  v9 := Tryz.zeroValue9
  t26 := Tryz.underlying59
  a26 := Tryz.isAgg59
  z26 := Tryz.sizeOf59
  v26 := Tryz.zeroValue59
  t27 := Tryz.underlying59
  a27 := Tryz.isAgg59
  z27 := Tryz.sizeOf59
  v27 := Tryz.zeroValue59
  t29 := Tryz.underlying9
  a29 := Tryz.isAgg9
  z29 := Tryz.sizeOf9
  v29 := Tryz.zeroValue9
  t32 := Tryz.underlying211
  a32 := Tryz.isAgg211
  z32 := Tryz.sizeOf211
  v32 := Tryz.zeroValue211
  t35 := Tryz.underlying259
  a35 := Tryz.isAgg259
  z35 := Tryz.sizeOf259
  v35 := Tryz.zeroValue259
  t36 := Tryz.underlying260
  a36 := Tryz.isAgg260
  z36 := Tryz.sizeOf260
  v36 := Tryz.zeroValue260
  t41 := Tryz.underlying132
  a41 := Tryz.isAgg132
  z41 := Tryz.sizeOf132
  v41 := Tryz.zeroValue132
  t44 := Tryz.underlying117
  a44 := Tryz.isAgg117
  z44 := Tryz.sizeOf117
  v44 := Tryz.zeroValue117
  t46 := Tryz.underlying164
  a46 := Tryz.isAgg164
  z46 := Tryz.sizeOf164
  v46 := Tryz.zeroValue164
  t53 := Tryz.underlying268
  a53 := Tryz.isAgg268
  z53 := Tryz.sizeOf268
  v53 := Tryz.zeroValue268
  t57 := Tryz.underlying272
  a57 := Tryz.isAgg272
  z57 := Tryz.sizeOf272
  v57 := Tryz.zeroValue272
  t63 := Tryz.underlying274
  a63 := Tryz.isAgg274
  z63 := Tryz.sizeOf274
  v63 := Tryz.zeroValue274
  t64 := Tryz.underlying142
  a64 := Tryz.isAgg142
  z64 := Tryz.sizeOf142
  v64 := Tryz.zeroValue142 }
open Go Go.RowKit Go.Maps Go.Sort
/-- slices.Sort's two contracts at this dump, at the fence that asks nothing. -/
theorem Tryz.sorts50 (m : Nat) : AnyZ.SortsIn Tryz.prog Tryz.sorted50_ren Fence.wide m :=
  ⟨fun blk off cap ss W hH hblk hsz => callsIn_wide.2 (AnyM.slices_Sort_string Tryz.sort65 blk off cap ss W hH hblk hsz),
   fun p cap W => callsIn_wide.2 (AnyM.slices_Sort_string_none Tryz.sort65 p cap W)⟩

/-- **maps.Keys[map[string][]byte,string,[]byte], at whatever map, the nil one too:** a function value over ONE NEW BLOCK, which holds the map. -/
theorem Tryz.maps_Keys_51 (mb : Option Nat) (W : World) : CallsIn Fence.wide 5 Tryz.prog 150 #[.map mb] W fun e w' => e = .returned (.func (.func 164) #[] #[.pointer (some ⟨W.heap.size, 0, none⟩)]) ∧ w' = W.alloc (.cells #[.map mb] 114) :=
  AnyZ.keys_in Tryz.keys51 Fence.wide 5 trivial rfl mb W

set_option maxHeartbeats 1000000 in
/-- **slices.Sorted[string] AT WHAT maps.Keys[map[string][]byte,string,[]byte] HANDED BACK FOR A MAP THAT IS NOT nil** ('w': the world AHEAD of maps.Keys' call): A NEW SLICE THAT HOLDS THE MAP's KEYS, SORTED; nil just where it has none; nothing that lay before has turned. -/
theorem Tryz.slices_Sorted_keys_50_51 {H : Type} (b nn : Nat) (D0 : DataW H) (R : Value → Option (DataW H × List MemPlace)) (w : World) (hown : w.ownsMap Tryz.prog 9 R b nn D0) (hmax : Maps.size D0 ≤ maxLen) (hbytes : Maps.size D0 * 16 ≤ 140737488355328) :
    CallsIn Fence.wide 5 Tryz.prog 149 #[.func (.func 164) #[] #[.pointer (some ⟨w.heap.size, 0, none⟩)]] (w.alloc (.cells #[.map (some b)] 114)) fun e w' => ∃ (v : Value) (ss : List (List UInt8)), e = .returned v ∧ ss.Perm (strKeys D0) ∧
      w'.ownsRow (w.alloc (.cells #[.map (some b)] 114)).heap.size 9 1 v ss.length ((ss.mergeSort (fun x y => decide (x ≤ y))).map encStr) ∧ (v = .slice none 0 0 ↔ ss = []) ∧ Below (w.alloc (.cells #[.map (some b)] 114)).heap.size (w.alloc (.cells #[.map (some b)] 114)) w' := by
  have hbl := hown.lt
  have hseq : SeqGives Fence.wide 2 Tryz.prog 164 #[.pointer (some ⟨w.heap.size, 0, none⟩)] encStr (fun ss => ss.Perm (strKeys D0)) (Maps.size D0) (w.alloc (.cells #[.map (some b)] 114)) :=
    AnyZ.keys_gives (ρ := Tryz.keys51_ren) { Tryz.keys51 with } Fence.wide _ trivial rfl (by omega) w.heap.size b nn D0 _ (by simp) (by simp) (by
      obtain ⟨es, clock, hb, Ft, hs, hD⟩ := hown
      exact ⟨es, clock, (Below.heap_alloc _ _ b hbl).trans hb, Ft, hs, hD⟩)
  exact AnyZ.sorted_in Tryz.sorted50 Fence.wide 5 trivial trivial trivial trivial rfl (by omega) (Tryz.sorts50 _) (enters_of Tryz.func163 (by kernel_rfl) rfl) 164 #[.pointer (some ⟨w.heap.size, 0, none⟩)] trivial (enters_of Tryz.func164 (by kernel_rfl) rfl) _ _ hmax hbytes _ hseq

set_option maxHeartbeats 1000000 in
/-- **.. AND FOR THE nil MAP: nil.** -/
theorem Tryz.slices_Sorted_keys_nil_50_51 (w : World) :
    CallsIn Fence.wide 5 Tryz.prog 149 #[.func (.func 164) #[] #[.pointer (some ⟨w.heap.size, 0, none⟩)]] (w.alloc (.cells #[.map none] 114)) fun e w' => ∃ (v : Value) (ss : List (List UInt8)), e = .returned v ∧ ss = [] ∧
      w'.ownsRow (w.alloc (.cells #[.map none] 114)).heap.size 9 1 v ss.length ((ss.mergeSort (fun x y => decide (x ≤ y))).map encStr) ∧ (v = .slice none 0 0 ↔ ss = []) ∧ Below (w.alloc (.cells #[.map none] 114)).heap.size (w.alloc (.cells #[.map none] 114)) w' := by
  have hseq : SeqGives Fence.wide 2 Tryz.prog 164 #[.pointer (some ⟨w.heap.size, 0, none⟩)] encStr (fun ss : List (List UInt8) => ss = []) 0 (w.alloc (.cells #[.map none] 114)) :=
    AnyZ.keys_gives_nil (ρ := Tryz.keys51_ren) { Tryz.keys51 with } Fence.wide _ trivial rfl w.heap.size _ (by simp) (by simp)
  exact AnyZ.sorted_in Tryz.sorted50 Fence.wide 5 trivial trivial trivial trivial rfl (by omega) (Tryz.sorts50 _) (enters_of Tryz.func163 (by kernel_rfl) rfl) 164 #[.pointer (some ⟨w.heap.size, 0, none⟩)] trivial (enters_of Tryz.func164 (by kernel_rfl) rfl) _ 0 (Nat.zero_le _) (by omega) _ hseq

end Go.Proofs.YtlgjmdianmijeaaGreat
