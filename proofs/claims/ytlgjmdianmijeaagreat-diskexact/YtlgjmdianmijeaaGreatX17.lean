/- Cut of the reference's disk. -/
import Derived.Test.YtlgjmdianmijeaaGreatX16
namespace Go.Proofs.YtlgjmdianmijeaaGreat
open Go Go.RowKit Go.MapKept Go.MuLone
open Go.RowKit (wrap32 wrap64)

variable {w w' w2 : World} {B b : Nat} {A A' : Ab} {P : Nat → Prop} {sv sv' : Value} {E E' : List Fl}
theorem ok_sr (h : A.ok) (hn : NdC A.C) : A.sr.ok := ⟨h.room, h.wr, h.ar, by show (usedC (srtC A.C) : Int) ≤ A.room; rw [used_srt hn]; exact h.used, by show (srtC A.C).length ≤ 64; rw [srtC_len]; exact h.len, fun p hp => h.nms p ((srt_perm hn).mem_iff.1 hp)⟩
theorem lay_self (h : SrtS A.C) (s : ByteArray) (l : List UInt8) : insC (delC A.C s) s l = srtC (setC A.C s l) := by
  have q := lay_srt h.nd s l
  rw [srt_self h] at q
  exact q
theorem built130 (s : ByteArray) (a : Option Addr) (n c : Nat) : Tryz.prog.built 130 [(0, .string s), (1, .slice a n c)] = some [Value.string s, .slice a n c].toArray := by kernel_rfl
/-- lay, told as what a call leaves. -/
theorem lay_end (h : Rk w' B b A sv E) (s : ByteArray) (fa : Option Addr) (fn fc : Nat) (l : List UInt8) (hf : Out B w' (.slice fa fn fc) l) (hok : (A.con (srtC (setC A.C s l))).ok) (hk : ∀ k, (Value.slice fa fn fc).ownBlock = some k → Rfp b sv E k ∨ w.heap.size ≤ k) (hg : w.grownBy w' (some b)) :
    Calls Tryz.prog 60 #[.pointer (some ⟨b, 0, none⟩), .agg [Value.string s, .slice fa fn fc].toArray] w' fun e w2 => e = .returned (.tuple #[]) ∧ REnd w w2 B b sv E (A.con (srtC (setC A.C s l))) := by
  rw [← lay_self h.srt s l] at hok ⊢
  refine (lay_any h s fa fn fc l hf hok).mono fun e w2 ⟨q1, q2, sv', E', q3, q4⟩ => ⟨q1, gtrans hg q2, sv', E', q3, fun k hk' => ?_⟩
  rcases q4 k hk' with q | q | q
  · exact .inl q
  · exact hk k q
  · exact .inr (Nat.le_trans hg.size q)
theorem out_on (h : Rk w B b A sv E) {v : Value} {l : List UInt8} (ho : Out B w v l) (hg : w.grownBy w' (some b)) : Out B w' v l := ho.on hg (fun k hk e => by
  injection hk with hk
  have hk' : b = k := hk
  subst hk'
  exact out_ne ho h.blk (by decide) e)
set_option maxRecDepth 100000 in
set_option maxHeartbeats 1600000 in
theorem rcut_any (h : Rk w B b A sv E) (s : ByteArray) (z : Int) (hs : s.size ≤ 140737488355328) (hw : A.wr ≤ 4611686018427387904) : Calls Tryz.prog 26 #[.pointer (some ⟨b, 0, none⟩), .string s, .int .i64 z] w fun e w' => e = .returned (.int .i64 (A.cutE s z)) ∧ REnd w w' B b sv E (A.cut s z).sr := by
  have HM := hid (missing_any h s hs)
  have HOf := hid roff_any
  have HBy : Hid (∀ u, w.grownBy u none → Calls Tryz.prog 62 #[.pointer (some ⟨b, 0, none⟩), .string s] u fun e w' => ∃ va vc, e = .returned (.slice va (A.old s).length vc) ∧ Out B w' (.slice va (A.old s).length vc) (A.old s) ∧ u.grownBy w' none) := hid (fun u hu => (rbytes_any (h.keep hu) s).mono fun e w' ⟨v, q1, q2, q3, q4⟩ => by
    obtain ⟨va, vc, rfl⟩ := q2.len
    exact ⟨va, vc, q1, q2, q4⟩)
  by_cases hf : A.fndE s = 0
  · obtain ⟨hoff, hsome⟩ := fnd_off hf
    rw [hf] at HM
    obtain ⟨on, Hon⟩ : ∃ x, Hid ((A.old s).length = x) := ⟨_, hid rfl⟩
    rw [Hon.out] at HBy
    have hon : on ≤ 268435456 := by
      have h1 := get_used A.C s
      have h2 := h.ok.used
      have h3 := h.ok.room.2
      have h4 := Hon.out
      unfold Ab.old at h4
      omega
    by_cases hz : 0 ≤ z ∧ z ≤ (on : Int)
    · obtain ⟨m, rfl⟩ : ∃ m : Nat, z = (m : Int) := ⟨z.toNat, by omega⟩
      have hmo : m ≤ on := by omega
      have hE : A.cutE s (m : Int) = wE A.ar := by unfold Ab.cutE; rw [if_pos hf, if_pos (by rw [Hon.out]; exact hz)]
      have hA0 : A.cut s (m : Int) = A.did (if 0 < wK A.ar A.kp then setC A.C s ((A.old s).take m) else A.C) := by
        unfold Ab.cut Ab.cutC
        rw [if_pos ⟨hf, by rw [Hon.out]; exact hz⟩]
        rfl
      have hok0 : (A.cut s (m : Int)).ok := by
        have q := cutC_ok h.ok (s := s) (z := (m : Int)) hf
        have e : A.cut s (m : Int) = A.did (A.cutC s (m : Int)) := by unfold Ab.cut; rw [if_pos ⟨hf, by rw [Hon.out]; exact hz⟩]
        rw [e]
        exact h.ok.did q.1 q.2.1 q.2.2
      have hA : (A.cut s (m : Int)).sr = A.tore.con (if 0 < wK A.ar A.kp then srtC (setC A.C s ((A.old s).take m)) else A.C) := by
        rw [hA0, did_sr]
        split
        · rfl
        · rw [srt_self h.srt]; rfl
      have hokT : 0 < wK A.ar A.kp → (A.tore.con (srtC (setC A.C s ((A.old s).take m)))).ok := fun hk => by
        have q := ok_sr hok0 (by rw [hA0, if_pos hk]; exact set_nd h.srt.nd _ _)
        rw [hA, if_pos hk] at q
        exact q
      rw [hE, hA]
      have HT : Hid (∀ u, w.grownBy u none → Calls Tryz.prog 59 #[.pointer (some ⟨b, 0, none⟩)] u fun e w' => e = .returned (.bool (decide (A.ar = 1))) ∧ Rk w' B b A.tore sv E ∧ u.grownBy w' (some b)) := hid (fun u hu => torn_any (h.keep hu) hoff hw)
      have HOn : Hid (∀ u u' v l, w.grownBy u none → Out B u v l → u.grownBy u' (some b) → Out B u' v l) := hid (fun u u' v l hu ho hg => out_on (h.keep hu) ho hg)
      have HLy : Hid (0 < wK A.ar A.kp → ∀ u fa fn fc, w.grownBy u (some b) → Rk u B b A.tore sv E → Out B u (.slice fa fn fc) ((A.old s).take m) → (∀ k, (Value.slice fa fn fc).ownBlock = some k → w.heap.size ≤ k) → Calls Tryz.prog 60 #[.pointer (some ⟨b, 0, none⟩), .agg [Value.string s, .slice fa fn fc].toArray] u fun e w2 => e = .returned (.tuple #[]) ∧ REnd w w2 B b sv E (A.tore.con (srtC (setC A.C s ((A.old s).take m))))) := hid (fun hk u fa fn fc hg hr ho hb => lay_end hr s fa fn fc _ ho (hokT hk) (fun k hk => .inr (hb k hk)) hg)
      have HSm : Hid (A.tore.con A.C = A.tore) := hid rfl
      have HBw : Hid (B ≤ w.heap.size) := hid (by have := h.low; have := h.blk.lt; omega)
      obtain ⟨ar, har⟩ : ∃ x, A.ar = x := ⟨_, rfl⟩
      obtain ⟨kp, hkp⟩ : ∃ x, A.kp = x := ⟨_, rfl⟩
      have HK3 : Hid (∀ u, Rk u B b A.tore sv E → u.cell? ⟨b, 3, none⟩ = some (.int .i64 kp)) := hid (fun u hu => by rw [← hkp]; exact hu.blk.cell 3)
      rw [har] at HT HLy ⊢
      rw [hkp] at HLy ⊢
      obtain ⟨T, hT⟩ : ∃ x, A.tore = x := ⟨_, rfl⟩
      rw [hT] at HT HLy HSm HK3 ⊢
      obtain ⟨ol, Hol⟩ : ∃ x, Hid (A.old s = x) := ⟨_, hid rfl⟩
      rw [Hol.out] at HBy HLy ⊢
      have hz1 : ¬ (m : Int) < 0 := by omega
      have hz2 : ¬ (on : Int) < (m : Int) := by omega
      have HCp : Hid (∀ u va vc, Out B u (.slice va on vc) ol → Calls Tryz.prog 61 #[.slice va m vc] u fun e w' => ∃ fa fc, e = .returned (.slice fa m fc) ∧ Out u.heap.size w' (.slice fa m fc) (ol.take m) ∧ u.grownBy w' none) := hid (fun u va vc ho => by
        have hr : Rd u _ (.slice va m vc) (ol.take m) := Rd.take ho.rd hmo
        have hl : (ol.take m).length = m := by obtain ⟨_, _, _, _, e, _⟩ := hr; injection e with _ e _; exact e.symm
        refine (copyR_any u _ _ _ hr (by rw [hl]; omega)).mono fun e w' ⟨v, q1, q2, q3⟩ => ?_
        obtain ⟨fa, fc, rfl⟩ := q2.len
        rw [hl] at q1 q2
        exact ⟨fa, fc, q1, q2, q3⟩)
      have HVc : Hid (∀ u va vc, Out B u (.slice va on vc) ol → (m : Int) ≤ (vc : Int) ∧ (va = none → vc = 0 ∧ m = 0)) := hid (fun u va vc ho => by
        obtain ⟨_, _, _, c', e, ec, en, _⟩ := ho.rd
        injection e with e1 e2 e3
        subst e1
        subst e3
        exact ⟨by omega, fun q => ⟨en q, by have := en q; omega⟩⟩)
      clear hT hA hA0 hE hsome hoff har hkp h hf hs hw hok0 hokT hz
      by_cases h1 : ar = 1
      · subst h1
        have e1 : wK 1 kp = kp := rfl
        rw [e1] at HLy ⊢
        rw [show wE 1 = 94 from rfl]
        have hd : decide ((1 : Int) = 1) = true := rfl
        rw [hd] at HT
        by_cases hk : 0 < kp
        · as_aux_lemma =>
          rw [if_pos hk]
          have HLy := hid (HLy.out hk)
          go_enter Tryz.func26, Tryz.ntmps26
          go_upto_region 9 with (first
            | (go_at_call 63; (with_reducible refine HM.out.mono ?_); rintro e w5 ⟨rfl, hg⟩; have HG5 := hid hg; clear hg)
            | (go_at_call 62; (with_reducible refine (HBy.out _ HG5.out).mono ?_); rintro e w6 ⟨va, vc, rfl, ho, hg⟩; have HO6 := hid ho; have HG6 := hid (gtrans HG5.out hg); have hvc := (HVc.out _ _ _ ho).1; have hvn := (HVc.out _ _ _ ho).2; clear ho hg)
            | (go_at_call 59; (with_reducible refine (HT.out _ HG6.out).mono ?_); rintro e w7 ⟨rfl, hr, hg⟩; have HR7 := hid hr; have HG7 := hid hg; have y3 := HK3.out w7 hr; have HO7 := hid (HOn.out _ _ _ _ HG6.out HO6.out hg); clear hr hg))
          rcases va with _ | va
          · obtain ⟨rfl, rfl⟩ := hvn rfl
            go_wp2_with (first
              | (go_at_call 61; (with_reducible refine (HCp.out _ _ _ HO7.out).mono ?_); rintro e w8 ⟨fa, fc, rfl, ho, hg⟩; have HO8 := hid ho; have HG8 := hid hg; have HR8 := hid (HR7.out.keep hg); clear ho hg)
              | (with_reducible refine wpList_build_of (by with_unfolding_all rfl) 130 _ (by with_unfolding_all rfl) [(0, .string s), (1, .slice fa 0 fc)] (by with_unfolding_all rfl) [Value.string s, .slice fa 0 fc] (built130 s fa 0 fc) ?_)
              | (go_at_call 60; (with_reducible refine (HLy.out _ _ _ _ (gtrans (gtrans (gany HG6.out _) HG7.out) (gany HG8.out _)) HR8.out (HO8.out.below (by have h1 := HBw.out; have h2 := HG6.out.size; have h3 := HG7.out.size; omega)) (fun k hk => by have h1 := HO8.out.block k hk; have h2 := HG6.out.size; have h3 := HG7.out.size; omega)).mono ?_); rintro e w9 ⟨rfl, hr⟩; have HR9 := hid hr; clear hr)
              | (go_at_call 64; (with_reducible refine (HOf.out _ _).mono ?_); rintro e w8 ⟨rfl, hw8⟩; have hw8' := hw8.symm; clear hw8; subst hw8'))
            go_ret
            exact ⟨rfl, HR9.out⟩
          · clear hvn
            go_wp2_with (first
              | (go_at_call 61; (with_reducible refine (HCp.out _ _ _ HO7.out).mono ?_); rintro e w8 ⟨fa, fc, rfl, ho, hg⟩; have HO8 := hid ho; have HG8 := hid hg; have HR8 := hid (HR7.out.keep hg); clear ho hg)
              | (with_reducible refine wpList_build_of (by with_unfolding_all rfl) 130 _ (by with_unfolding_all rfl) [(0, .string s), (1, .slice fa m fc)] (by with_unfolding_all rfl) [Value.string s, .slice fa m fc] (built130 s fa m fc) ?_)
              | (go_at_call 60; (with_reducible refine (HLy.out _ _ _ _ (gtrans (gtrans (gany HG6.out _) HG7.out) (gany HG8.out _)) HR8.out (HO8.out.below (by have h1 := HBw.out; have h2 := HG6.out.size; have h3 := HG7.out.size; omega)) (fun k hk => by have h1 := HO8.out.block k hk; have h2 := HG6.out.size; have h3 := HG7.out.size; omega)).mono ?_); rintro e w9 ⟨rfl, hr⟩; have HR9 := hid hr; clear hr)
              | (go_at_call 64; (with_reducible refine (HOf.out _ _).mono ?_); rintro e w8 ⟨rfl, hw8⟩; have hw8' := hw8.symm; clear hw8; subst hw8'))
            go_ret
            exact ⟨rfl, HR9.out⟩
        · as_aux_lemma =>
          rw [if_neg hk, HSm.out]
          go_enter Tryz.func26, Tryz.ntmps26
          go_wp2_with (first
            | (go_at_call 63; (with_reducible refine HM.out.mono ?_); rintro e w5 ⟨rfl, hg⟩; have HG5 := hid hg; clear hg)
            | (go_at_call 62; (with_reducible refine (HBy.out _ HG5.out).mono ?_); rintro e w6 ⟨va, vc, rfl, ho, hg⟩; have HO6 := hid ho; have HG6 := hid (gtrans HG5.out hg); have hvc := (HVc.out _ _ _ ho).1; have hvn := (HVc.out _ _ _ ho).2; clear ho hg)
            | (go_at_call 59; (with_reducible refine (HT.out _ HG6.out).mono ?_); rintro e w7 ⟨rfl, hr, hg⟩; have HR7 := hid hr; have HG7 := hid hg; have y3 := HK3.out w7 hr; have HO7 := hid (HOn.out _ _ _ _ HG6.out HO6.out hg); clear hr hg)
            | (go_at_call 64; (with_reducible refine (HOf.out _ _).mono ?_); rintro e w8 ⟨rfl, hw8⟩; have hw8' := hw8.symm; clear hw8; subst hw8'))
          go_ret
          exact ⟨rfl, REnd.of HR7.out (gtrans (gany HG6.out _) HG7.out)⟩
      · as_aux_lemma =>
        have e1 : wK ar kp = 9223372036854775807 := by unfold wK; rw [if_neg h1]
        have e2 : wE ar = 0 := by unfold wE; rw [if_neg h1]
        rw [e1] at HLy ⊢
        have HLy := hid (HLy.out (by decide))
        rw [e2, if_pos (by decide)]
        rw [decide_eq_false h1] at HT
        go_enter Tryz.func26, Tryz.ntmps26
        go_upto_region 9 with (first
          | (go_at_call 63; (with_reducible refine HM.out.mono ?_); rintro e w5 ⟨rfl, hg⟩; have HG5 := hid hg; clear hg)
          | (go_at_call 62; (with_reducible refine (HBy.out _ HG5.out).mono ?_); rintro e w6 ⟨va, vc, rfl, ho, hg⟩; have HO6 := hid ho; have HG6 := hid (gtrans HG5.out hg); have hvc := (HVc.out _ _ _ ho).1; have hvn := (HVc.out _ _ _ ho).2; clear ho hg)
          | (go_at_call 59; (with_reducible refine (HT.out _ HG6.out).mono ?_); rintro e w7 ⟨rfl, hr, hg⟩; have HR7 := hid hr; have HG7 := hid hg; have y3 := HK3.out w7 hr; have HO7 := hid (HOn.out _ _ _ _ HG6.out HO6.out hg); clear hr hg))
        rcases va with _ | va
        · obtain ⟨rfl, rfl⟩ := hvn rfl
          go_wp2_with (first
            | (go_at_call 61; (with_reducible refine (HCp.out _ _ _ HO7.out).mono ?_); rintro e w8 ⟨fa, fc, rfl, ho, hg⟩; have HO8 := hid ho; have HG8 := hid hg; have HR8 := hid (HR7.out.keep hg); clear ho hg)
            | (with_reducible refine wpList_build_of (by with_unfolding_all rfl) 130 _ (by with_unfolding_all rfl) [(0, .string s), (1, .slice fa 0 fc)] (by with_unfolding_all rfl) [Value.string s, .slice fa 0 fc] (built130 s fa 0 fc) ?_)
            | (go_at_call 60; (with_reducible refine (HLy.out _ _ _ _ (gtrans (gtrans (gany HG6.out _) HG7.out) (gany HG8.out _)) HR8.out (HO8.out.below (by have h1 := HBw.out; have h2 := HG6.out.size; have h3 := HG7.out.size; omega)) (fun k hk => by have h1 := HO8.out.block k hk; have h2 := HG6.out.size; have h3 := HG7.out.size; omega)).mono ?_); rintro e w9 ⟨rfl, hr⟩; have HR9 := hid hr; clear hr)
            | (go_at_call 64; (with_reducible refine (HOf.out _ _).mono ?_); rintro e w8 ⟨rfl, hw8⟩; have hw8' := hw8.symm; clear hw8; subst hw8'))
          go_ret
          exact ⟨rfl, HR9.out⟩
        · clear hvn
          go_wp2_with (first
            | (go_at_call 61; (with_reducible refine (HCp.out _ _ _ HO7.out).mono ?_); rintro e w8 ⟨fa, fc, rfl, ho, hg⟩; have HO8 := hid ho; have HG8 := hid hg; have HR8 := hid (HR7.out.keep hg); clear ho hg)
            | (with_reducible refine wpList_build_of (by with_unfolding_all rfl) 130 _ (by with_unfolding_all rfl) [(0, .string s), (1, .slice fa m fc)] (by with_unfolding_all rfl) [Value.string s, .slice fa m fc] (built130 s fa m fc) ?_)
            | (go_at_call 60; (with_reducible refine (HLy.out _ _ _ _ (gtrans (gtrans (gany HG6.out _) HG7.out) (gany HG8.out _)) HR8.out (HO8.out.below (by have h1 := HBw.out; have h2 := HG6.out.size; have h3 := HG7.out.size; omega)) (fun k hk => by have h1 := HO8.out.block k hk; have h2 := HG6.out.size; have h3 := HG7.out.size; omega)).mono ?_); rintro e w9 ⟨rfl, hr⟩; have HR9 := hid hr; clear hr)
            | (go_at_call 64; (with_reducible refine (HOf.out _ _).mono ?_); rintro e w8 ⟨rfl, hw8⟩; have hw8' := hw8.symm; clear hw8; subst hw8'))
          go_ret
          exact ⟨rfl, HR9.out⟩
    · have hE : A.cutE s z = 95 := by unfold Ab.cutE; rw [if_pos hf, if_neg (by rw [Hon.out]; exact hz)]
      have hA : (A.cut s z).sr = A := by
        unfold Ab.cut
        rw [if_neg (fun q => hz (by rw [Hon.out] at q; exact q.2))]
        exact sr_self h.srt
      rw [hE, hA]
      have HR : Hid (∀ u, w.grownBy u none → Rk u B b A sv E) := hid (fun u hu => h.keep hu)
      clear hA hE h hsome hoff hf
      by_cases hz1 : z < 0
      · as_aux_lemma =>
        go_enter Tryz.func26, Tryz.ntmps26
        go_wp2_with (first
          | (go_at_call 63; (with_reducible refine HM.out.mono ?_); rintro e w5 ⟨rfl, hg⟩; have HG5 := hid hg; clear hg)
          | (go_at_call 62; (with_reducible refine (HBy.out _ HG5.out).mono ?_); rintro e w6 ⟨va, vc, rfl, ho, hg⟩; have HG6 := hid (gtrans HG5.out hg); clear ho hg))
        go_ret
        exact ⟨rfl, REnd.of (HR.out _ HG6.out) (gany HG6.out _)⟩
      · as_aux_lemma =>
        have hz2 : (on : Int) < z := by omega
        go_enter Tryz.func26, Tryz.ntmps26
        go_wp2_with (first
          | (go_at_call 63; (with_reducible refine HM.out.mono ?_); rintro e w5 ⟨rfl, hg⟩; have HG5 := hid hg; clear hg)
          | (go_at_call 62; (with_reducible refine (HBy.out _ HG5.out).mono ?_); rintro e w6 ⟨va, vc, rfl, ho, hg⟩; have HG6 := hid (gtrans HG5.out hg); clear ho hg))
        go_ret
        exact ⟨rfl, REnd.of (HR.out _ HG6.out) (gany HG6.out _)⟩
  · have hE : A.cutE s z = A.fndE s := by unfold Ab.cutE; rw [if_neg hf]
    have hA : (A.cut s z).sr = A := by
      unfold Ab.cut
      rw [if_neg (fun q => hf q.1)]
      exact sr_self h.srt
    rw [hE, hA]
    have HR : Hid (∀ u, w.grownBy u none → Rk u B b A sv E) := hid (fun u hu => h.keep hu)
    obtain ⟨x, hx⟩ : ∃ x, A.fndE s = x := ⟨_, rfl⟩
    rw [hx] at HM hf ⊢
    have hb : (x == 0) = false := beq_eq_false_iff_ne.2 hf
    clear hx hA hE h
    go_enter Tryz.func26, Tryz.ntmps26
    go_wp2_with (go_at_call 63; (with_reducible refine HM.out.mono ?_); rintro e w5 ⟨rfl, hg⟩; have HG5 := hid hg; clear hg)
    go_ret
    exact ⟨rfl, REnd.of (HR.out _ HG5.out) (gany HG5.out _)⟩
end Go.Proofs.YtlgjmdianmijeaaGreat

namespace Go.Proofs.YtlgjmdianmijeaaGreat
open Go Go.RowKit Go.MapKept Go.MuLone
open Go.RowKit (wrap32 wrap64)

variable {w w' w2 : World} {B b : Nat} {A A' : Ab} {P : Nat → Prop} {sv sv' : Value} {E E' : List Fl}
theorem refE_cases (o : Bool) (s : ByteArray) : (o = true ∧ refE o s = 94) ∨ (o = false ∧ goodN s = true ∧ refE o s = 0) ∨ (o = false ∧ goodN s = false ∧ refE o s = 91) := by
  unfold refE
  cases o with
  | true => exact .inl ⟨rfl, rfl⟩
  | false =>
    cases h : goodN s with
    | true => exact .inr (.inl ⟨rfl, rfl, rfl⟩)
    | false => exact .inr (.inr ⟨rfl, rfl, rfl⟩)
set_option maxRecDepth 100000 in
set_option maxHeartbeats 1600000 in
theorem rren_any (h : Rk w B b A sv E) (s t : ByteArray) (hs : s.size ≤ 140737488355328) (ht : t.size ≤ 140737488355328) (hw : A.wr ≤ 4611686018427387904) : Calls Tryz.prog 28 #[.pointer (some ⟨b, 0, none⟩), .string s, .string t] w fun e w' => e = .returned (.int .i64 (A.renE s t)) ∧ REnd w w' B b sv E (A.ren s t).sr := by
  have HRf := hid (refused_any h s hs)
  have HNa : Hid (∀ u : World, Calls Tryz.prog 65 #[.string t] u fun e w' => e = .returned (.bool (goodN t)) ∧ w' = u) := hid (fun u => named_any t ht u)
  have HM := hid (missing_any h s hs)
  have HOf := hid roff_any
  have HR : Hid (∀ u, w.grownBy u none → Rk u B b A sv E) := hid (fun u hu => h.keep hu)
  by_cases hr : refE A.off s = 0
  · by_cases hg : goodN t = true
    · have hoff : A.off = false := by
        rcases refE_cases A.off s with ⟨_, q⟩ | ⟨q, _⟩ | ⟨q, _⟩
        · rw [hr] at q; cases q
        · exact q
        · exact q
      have hrt : refE A.off t = 0 := by unfold refE; rw [hoff, hg]; rfl
      rw [hr] at HRf
      rw [hg] at HNa
      by_cases hf : A.fndE s = 0
      · rw [hf] at HM
        have hE : A.renE s t = wE A.ar := by unfold Ab.renE; rw [if_pos hrt, if_pos hf]
        have hA0 : A.ren s t = A.did (A.renC s t) := by unfold Ab.ren; rw [if_pos ⟨hrt, hf⟩]
        have hok0 : (A.ren s t).ok := by
          have q := renC_ok h.ok hrt hf
          rw [hA0]
          exact h.ok.did q.1 q.2.1 q.2.2
        have hD : SrtS (delC A.C s) := h.srt.sub (del_sub _ _)
        have hA : (A.ren s t).sr = A.tore.con (if 0 < wK A.ar A.kp then srtC (setC (delC A.C s) t (A.old s)) else A.C) := by
          rw [hA0, did_sr]
          unfold Ab.renC
          split
          · rfl
          · rw [srt_self h.srt]; rfl
        have hokT : 0 < wK A.ar A.kp → (A.tore.con (srtC (setC (delC A.C s) t (A.old s)))).ok := fun hk => by
          have q := ok_sr hok0 (by rw [hA0]; show NdC (A.renC s t); unfold Ab.renC; rw [if_pos hk]; exact set_nd hD.nd _ _)
          rw [hA, if_pos hk] at q
          exact q
        rw [hE, hA]
        have HT : Hid (∀ u, w.grownBy u none → Calls Tryz.prog 59 #[.pointer (some ⟨b, 0, none⟩)] u fun e w' => e = .returned (.bool (decide (A.ar = 1))) ∧ Rk w' B b A.tore sv E ∧ u.grownBy w' (some b)) := hid (fun u hu => torn_any (h.keep hu) hoff hw)
        obtain ⟨on, Hon⟩ : ∃ x, Hid ((A.old s).length = x) := ⟨_, hid rfl⟩
        have HBy : Hid (∀ u, Rk u B b A.tore sv E → Calls Tryz.prog 62 #[.pointer (some ⟨b, 0, none⟩), .string s] u fun e w' => ∃ va vc, e = .returned (.slice va on vc) ∧ Out B w' (.slice va on vc) (A.old s) ∧ (∀ k, (Value.slice va on vc).ownBlock = some k → Rfp b sv E k) ∧ u.grownBy w' none) := hid (fun u hu => (rbytes_any hu s).mono fun e w' ⟨v, q1, q2, q3, q4⟩ => by
          obtain ⟨va, vc, rfl⟩ := q2.len
          have e : ((getC A.tore.C s).getD []).length = on := Hon.out
          rw [e] at q1 q2 q3
          exact ⟨va, vc, q1, q2, q3, q4⟩)
        have HDr : Hid (∀ u, Rk u B b A.tore sv E → Calls Tryz.prog 66 #[.pointer (some ⟨b, 0, none⟩), .string s] u fun e w' => e = .returned (.tuple #[]) ∧ REnd u w' B b sv E (A.tore.con (delC A.C s))) := hid (fun u hu => drop_any hu s)
        have HLy : Hid (0 < wK A.ar A.kp → ∀ u u' va vc, Rk u B b A.tore sv E → Out B u (.slice va on vc) (A.old s) → (∀ k, (Value.slice va on vc).ownBlock = some k → Rfp b sv E k) → w.grownBy u (some b) → REnd u u' B b sv E (A.tore.con (delC A.C s)) → Calls Tryz.prog 60 #[.pointer (some ⟨b, 0, none⟩), .agg [Value.string t, .slice va on vc].toArray] u' fun e w2 => e = .returned (.tuple #[]) ∧ REnd w w2 B b sv E (A.tore.con (srtC (setC (delC A.C s) t (A.old s))))) := hid (fun hk u u' va vc hR ho hb hg ⟨g1, sv1, E1, r1, r2⟩ => by
          have ho' := out_on hR ho g1
          have e1 : insC (delC (delC A.C s) t) t (A.old s) = srtC (setC (delC A.C s) t (A.old s)) := by
            have q := lay_srt hD.nd t (A.old s)
            rw [srt_self hD] at q
            exact q
          have q := lay_any r1 t va on vc (A.old s) ho' (by show (A.tore.con (insC (delC (delC A.C s) t) t (A.old s))).ok; rw [e1]; exact hokT hk)
          have e2 : (A.tore.con (delC A.C s)).con (insC (delC (A.tore.con (delC A.C s)).C t) t (A.old s)) = A.tore.con (srtC (setC (delC A.C s) t (A.old s))) := by rw [← e1]; rfl
          rw [e2] at q
          refine q.mono fun e w2 ⟨q1, q2, sv2, E2, q3, q4⟩ => ⟨q1, gtrans hg (gtrans g1 q2), sv2, E2, q3, fun k hk' => ?_⟩
          rcases q4 k hk' with q | q | q
          · exact (r2 k q).imp id (fun q => Nat.le_trans hg.size q)
          · exact .inl (hb k q)
          · exact .inr (Nat.le_trans hg.size (Nat.le_trans g1.size q)))
        have HSm : Hid (A.tore.con A.C = A.tore) := hid rfl
        obtain ⟨ar, har⟩ : ∃ x, A.ar = x := ⟨_, rfl⟩
        obtain ⟨kp, hkp⟩ : ∃ x, A.kp = x := ⟨_, rfl⟩
        have HK3 : Hid (∀ u, Rk u B b A.tore sv E → u.cell? ⟨b, 3, none⟩ = some (.int .i64 kp)) := hid (fun u hu => by rw [← hkp]; exact hu.blk.cell 3)
        rw [har] at HT HLy ⊢
        rw [hkp] at HLy ⊢
        obtain ⟨X, hX⟩ : ∃ x, A.tore = x := ⟨_, rfl⟩
        rw [hX] at HT HLy HSm HK3 HBy HDr ⊢
        obtain ⟨ol, Hol⟩ : ∃ x, Hid (A.old s = x) := ⟨_, hid rfl⟩
        rw [Hol.out] at HBy HLy ⊢
        clear hX hA hA0 hE hoff har hkp h hf hs hw hok0 hokT hD hr hg hrt
        by_cases h1 : ar = 1
        · subst h1
          have e1 : wK 1 kp = kp := rfl
          rw [e1] at HLy ⊢
          rw [show wE 1 = 94 from rfl]
          have hd : decide ((1 : Int) = 1) = true := rfl
          rw [hd] at HT
          by_cases hk : 0 < kp
          · as_aux_lemma =>
            rw [if_pos hk]
            have HLy := hid (HLy.out hk)
            go_enter Tryz.func28, Tryz.ntmps28
            go_wp2_with (first
              | (go_at_call 56; (with_reducible refine HRf.out.mono ?_); rintro e w8 ⟨rfl, hw8⟩; have hw8' := hw8.symm; clear hw8; subst hw8')
              | (go_at_call 65; (with_reducible refine (HNa.out _).mono ?_); rintro e w8 ⟨rfl, hw8⟩; have hw8' := hw8.symm; clear hw8; subst hw8')
              | (go_at_call 63; (with_reducible refine HM.out.mono ?_); rintro e w5 ⟨rfl, hg⟩; have HG5 := hid hg; clear hg)
              | (go_at_call 59; (with_reducible refine (HT.out _ HG5.out).mono ?_); rintro e w7 ⟨rfl, hr, hg⟩; have HR7 := hid hr; have HG7 := hid (gtrans (gany HG5.out _) hg); have y3 := HK3.out w7 hr; clear hr hg)
              | (go_at_call 62; (with_reducible refine (HBy.out _ HR7.out).mono ?_); rintro e w9 ⟨va, vc, rfl, ho, hk, hg⟩; have HO9 := hid ho; have HK9 := hid hk; have HR9 := hid (HR7.out.keep hg); have HG9 := hid (gtrans HG7.out (gany hg _)); clear ho hk hg)
              | (go_at_call 66; (with_reducible refine (HDr.out _ HR9.out).mono ?_); rintro e w10 ⟨rfl, hr⟩; have HR10 := hid hr; clear hr)
              | (with_reducible refine wpList_build_of (by with_unfolding_all rfl) 130 _ (by with_unfolding_all rfl) [(0, .string t), (1, .slice va on vc)] (by with_unfolding_all rfl) [Value.string t, .slice va on vc] (built130 t va on vc) ?_)
              | (go_at_call 60; (with_reducible refine (HLy.out _ _ va vc HR9.out HO9.out HK9.out HG9.out HR10.out).mono ?_); rintro e w11 ⟨rfl, hr⟩; have HR11 := hid hr; clear hr)
              | (go_at_call 64; (with_reducible refine (HOf.out _ _).mono ?_); rintro e w8 ⟨rfl, hw8⟩; have hw8' := hw8.symm; clear hw8; subst hw8'))
            go_ret
            exact ⟨rfl, HR11.out⟩
          · as_aux_lemma =>
            rw [if_neg hk, HSm.out]
            go_enter Tryz.func28, Tryz.ntmps28
            go_wp2_with (first
              | (go_at_call 56; (with_reducible refine HRf.out.mono ?_); rintro e w8 ⟨rfl, hw8⟩; have hw8' := hw8.symm; clear hw8; subst hw8')
              | (go_at_call 65; (with_reducible refine (HNa.out _).mono ?_); rintro e w8 ⟨rfl, hw8⟩; have hw8' := hw8.symm; clear hw8; subst hw8')
              | (go_at_call 63; (with_reducible refine HM.out.mono ?_); rintro e w5 ⟨rfl, hg⟩; have HG5 := hid hg; clear hg)
              | (go_at_call 59; (with_reducible refine (HT.out _ HG5.out).mono ?_); rintro e w7 ⟨rfl, hr, hg⟩; have HR7 := hid hr; have HG7 := hid (gtrans (gany HG5.out _) hg); have y3 := HK3.out w7 hr; clear hr hg)
              | (go_at_call 64; (with_reducible refine (HOf.out _ _).mono ?_); rintro e w8 ⟨rfl, hw8⟩; have hw8' := hw8.symm; clear hw8; subst hw8'))
            go_ret
            exact ⟨rfl, REnd.of HR7.out HG7.out⟩
        · as_aux_lemma =>
          have e1 : wK ar kp = 9223372036854775807 := by unfold wK; rw [if_neg h1]
          have e2 : wE ar = 0 := by unfold wE; rw [if_neg h1]
          rw [e1] at HLy ⊢
          have HLy := hid (HLy.out (by decide))
          rw [e2, if_pos (by decide)]
          rw [decide_eq_false h1] at HT
          go_enter Tryz.func28, Tryz.ntmps28
          go_wp2_with (first
            | (go_at_call 56; (with_reducible refine HRf.out.mono ?_); rintro e w8 ⟨rfl, hw8⟩; have hw8' := hw8.symm; clear hw8; subst hw8')
            | (go_at_call 65; (with_reducible refine (HNa.out _).mono ?_); rintro e w8 ⟨rfl, hw8⟩; have hw8' := hw8.symm; clear hw8; subst hw8')
            | (go_at_call 63; (with_reducible refine HM.out.mono ?_); rintro e w5 ⟨rfl, hg⟩; have HG5 := hid hg; clear hg)
            | (go_at_call 59; (with_reducible refine (HT.out _ HG5.out).mono ?_); rintro e w7 ⟨rfl, hr, hg⟩; have HR7 := hid hr; have HG7 := hid (gtrans (gany HG5.out _) hg); have y3 := HK3.out w7 hr; clear hr hg)
            | (go_at_call 62; (with_reducible refine (HBy.out _ HR7.out).mono ?_); rintro e w9 ⟨va, vc, rfl, ho, hk, hg⟩; have HO9 := hid ho; have HK9 := hid hk; have HR9 := hid (HR7.out.keep hg); have HG9 := hid (gtrans HG7.out (gany hg _)); clear ho hk hg)
            | (go_at_call 66; (with_reducible refine (HDr.out _ HR9.out).mono ?_); rintro e w10 ⟨rfl, hr⟩; have HR10 := hid hr; clear hr)
            | (with_reducible refine wpList_build_of (by with_unfolding_all rfl) 130 _ (by with_unfolding_all rfl) [(0, .string t), (1, .slice va on vc)] (by with_unfolding_all rfl) [Value.string t, .slice va on vc] (built130 t va on vc) ?_)
            | (go_at_call 60; (with_reducible refine (HLy.out _ _ va vc HR9.out HO9.out HK9.out HG9.out HR10.out).mono ?_); rintro e w11 ⟨rfl, hr⟩; have HR11 := hid hr; clear hr)
            | (go_at_call 64; (with_reducible refine (HOf.out _ _).mono ?_); rintro e w8 ⟨rfl, hw8⟩; have hw8' := hw8.symm; clear hw8; subst hw8'))
          go_ret
          exact ⟨rfl, HR11.out⟩
      · as_aux_lemma =>
        have hE : A.renE s t = A.fndE s := by unfold Ab.renE; rw [if_pos hrt, if_neg hf]
        have hA : (A.ren s t).sr = A := by
          unfold Ab.ren
          rw [if_neg (fun q => hf q.2)]
          exact sr_self h.srt
        rw [hE, hA]
        obtain ⟨x, hx⟩ : ∃ x, A.fndE s = x := ⟨_, rfl⟩
        rw [hx] at HM hf ⊢
        have hb : (x == 0) = false := beq_eq_false_iff_ne.2 hf
        clear hx hA hE h
        go_enter Tryz.func28, Tryz.ntmps28
        go_wp2_with (first
          | (go_at_call 56; (with_reducible refine HRf.out.mono ?_); rintro e w8 ⟨rfl, hw8⟩; have hw8' := hw8.symm; clear hw8; subst hw8')
          | (go_at_call 65; (with_reducible refine (HNa.out _).mono ?_); rintro e w8 ⟨rfl, hw8⟩; have hw8' := hw8.symm; clear hw8; subst hw8')
          | (go_at_call 63; (with_reducible refine HM.out.mono ?_); rintro e w5 ⟨rfl, hg⟩; have HG5 := hid hg; clear hg))
        go_ret
        exact ⟨rfl, REnd.of (HR.out _ HG5.out) (gany HG5.out _)⟩
    · as_aux_lemma =>
      have hg' : goodN t = false := by cases q : goodN t with | true => exact absurd q hg | false => rfl
      have hoff : A.off = false := by
        rcases refE_cases A.off s with ⟨_, q⟩ | ⟨q, _⟩ | ⟨q, _⟩
        · rw [hr] at q; cases q
        · exact q
        · exact q
      have hrt : refE A.off t = 91 := by unfold refE; rw [hoff, hg']; rfl
      have hE : A.renE s t = 91 := by unfold Ab.renE; rw [hrt]; rfl
      have hA : (A.ren s t).sr = A := by
        unfold Ab.ren
        rw [if_neg (fun q => by rw [hrt] at q; cases q.1)]
        exact sr_self h.srt
      rw [hE, hA]
      rw [hr] at HRf
      rw [hg'] at HNa
      clear hA hE h hrt hoff
      go_enter Tryz.func28, Tryz.ntmps28
      go_wp2_with (first
        | (go_at_call 56; (with_reducible refine HRf.out.mono ?_); rintro e w8 ⟨rfl, hw8⟩; have hw8' := hw8.symm; clear hw8; subst hw8')
        | (go_at_call 65; (with_reducible refine (HNa.out _).mono ?_); rintro e w8 ⟨rfl, hw8⟩; have hw8' := hw8.symm; clear hw8; subst hw8'))
      go_ret
      exact ⟨rfl, REnd.of (HR.out _ (grefl _ _)) (grefl _ _)⟩
  · as_aux_lemma =>
    have hE : A.renE s t = refE A.off s := by
      unfold Ab.renE
      have hf : A.fndE s = refE A.off s := by unfold Ab.fndE; rw [if_neg hr]
      rcases refE_cases A.off t with ⟨o, q⟩ | ⟨o, _, q⟩ | ⟨o, _, q⟩
      · rcases refE_cases A.off s with ⟨_, q2⟩ | ⟨o2, _⟩ | ⟨o2, _⟩
        · rw [q, q2]; rfl
        · rw [o] at o2; cases o2
        · rw [o] at o2; cases o2
      · rw [if_pos q, hf, if_neg hr]
      · rw [q]
        rcases refE_cases A.off s with ⟨o2, _⟩ | ⟨_, _, q2⟩ | ⟨_, _, q2⟩
        · rw [o] at o2; cases o2
        · exact absurd q2 hr
        · rw [q2]; rfl
    have hA : (A.ren s t).sr = A := by
      unfold Ab.ren
      rw [if_neg (fun q => hr (fndE_zero q.2).1)]
      exact sr_self h.srt
    rw [hE, hA]
    obtain ⟨x, hx⟩ : ∃ x, refE A.off s = x := ⟨_, rfl⟩
    rw [hx] at HRf hr ⊢
    have hb : (x == 0) = false := beq_eq_false_iff_ne.2 hr
    clear hx hA hE h
    go_enter Tryz.func28, Tryz.ntmps28
    go_wp2_with (go_at_call 56; (with_reducible refine HRf.out.mono ?_); rintro e w8 ⟨rfl, hw8⟩; have hw8' := hw8.symm; clear hw8; subst hw8')
    go_ret
    exact ⟨rfl, REnd.of (HR.out _ (grefl _ _)) (grefl _ _)⟩
end Go.Proofs.YtlgjmdianmijeaaGreat
