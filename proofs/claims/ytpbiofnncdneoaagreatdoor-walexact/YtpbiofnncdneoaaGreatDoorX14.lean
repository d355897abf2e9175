/- Remove, Cut of the reference's disk. -/
import Derived.Test.YtpbiofnncdneoaaGreatDoorX13
namespace Go.Proofs.YtpbiofnncdneoaaGreatDoor
open Go Go.RowKit Go.MapKept Go.MuLone
open Go.RowKit (wrap32 wrap64)

variable {w w' w2 : World} {B b : Nat} {A A' : Ab} {P : Nat → Prop} {sv sv' : Value} {E E' : List Fl}
/-- Its files in the order of their names. -/
def Ab.sr (A : Ab) : Ab := { A with C := srtC A.C }
theorem sr_self (h : SrtS A.C) : A.sr = A := by
 unfold Ab.sr
 rw [srt_self h]
/-- What a call leaves of the disk at b. -/
def REnd (w w' : World) (B b : Nat) (sv : Value) (E : List Fl) (A' : Ab) : Prop := w.grownBy w' (some b) ∧ ∃ sv' E', Rk w' B b A' sv' E' ∧ Lef w b sv E sv' E'
theorem REnd.of (h : Rk w' B b A' sv E) (hg : w.grownBy w' (some b)) : REnd w w' B b sv E A' := ⟨hg, sv, E, h, Lef.refl⟩
theorem REnd.trans (h : w.grownBy w' (some b)) (hk : REnd w' w2 B b sv E A') : REnd w w2 B b sv E A' := by
 obtain ⟨h1, sv', E', h2, h3⟩ := hk
 exact ⟨gtrans h h1, sv', E', h2, fun k hk => (h3 k hk).imp id (fun q => Nat.le_trans h.size q)⟩
theorem fnd_off {s : ByteArray} (h : A.fndE s = 0) : A.off = false ∧ (getC A.C s).isSome = true := by
 obtain ⟨h1, h2⟩ := fndE_zero h
 refine ⟨?_, h2⟩
 unfold refE at h1
 cases ho : A.off with
 | false => rfl
 | true => rw [ho] at h1; cases h1
theorem did_sr (A : Ab) (C : Cn) : (A.did C).sr = (A.did (srtC C)) := rfl
set_option maxRecDepth 100000 in
set_option maxHeartbeats 1600000 in
theorem rrem_any (h : Rk w B b A sv E) (s : ByteArray) (hs : s.size ≤ 140737488355328) (hw : A.wr ≤ 4611686018427387904) : Calls Tryz.prog 61 #[.pointer (some ⟨b, 0, none⟩), .string s] w fun e w' => e = .returned (.int .i64 (A.remE s)) ∧ REnd w w' B b sv E (A.rem s).sr := by
 have HM := hid (missing_any h s hs)
 have HOf := hid roff_any
 by_cases hf : A.fndE s = 0
 ·obtain ⟨hoff, hsome⟩ := fnd_off hf
  have hE : A.remE s = wE A.ar := by unfold Ab.remE; rw [if_pos hf]
  have hA : (A.rem s).sr = A.tore.con (if 0 < wK A.ar A.kp then delC A.C s else A.C) := by
   unfold Ab.rem Ab.remC
   rw [if_pos hf, did_sr]
   have : srtC (if 0 < wK A.ar A.kp then delC A.C s else A.C) = (if 0 < wK A.ar A.kp then delC A.C s else A.C) := by
    refine srt_self ?_
    split
    ·exact h.srt.sub (del_sub _ _)
    ·exact h.srt
   rw [this]
   rfl
  rw [hE, hA]
  rw [hf] at HM
  have HT : Hid (∀ u, w.grownBy u none → Calls Tryz.prog 116 #[.pointer (some ⟨b, 0, none⟩)] u fun e w' => e = .returned (.bool (decide (A.ar = 1))) ∧ Rk w' B b A.tore sv E ∧ u.grownBy w' (some b)) := hid (fun u hu => torn_any (h.keep hu) hoff hw)
  have HDr : Hid (∀ u, Rk u B b A.tore sv E → Calls Tryz.prog 99 #[.pointer (some ⟨b, 0, none⟩), .string s] u fun e w' => e = .returned (.tuple #[]) ∧ REnd u w' B b sv E (A.tore.con (delC A.C s))) := hid (fun u hu => drop_any hu s)
  have HSm : Hid (A.tore.con A.C = A.tore) := hid rfl
  obtain ⟨ar, har⟩ : ∃ x, A.ar = x := ⟨_, rfl⟩
  obtain ⟨kp, hkp⟩ : ∃ x, A.kp = x := ⟨_, rfl⟩
  have HK3 : Hid (∀ u, Rk u B b A.tore sv E → u.cell? ⟨b, 3, none⟩ = some (.int .i64 kp)) := hid (fun u hu => by rw [← hkp]; exact hu.blk.cell 3)
  rw [har] at HT ⊢
  rw [hkp]
  obtain ⟨T, hT⟩ : ∃ x, A.tore = x := ⟨_, rfl⟩
  rw [hT] at HT HDr HSm HK3 ⊢
  clear hT hA hE hsome hoff har hkp h hf hs hw
  by_cases h1 : ar = 1
  ·subst h1
   have e1 : wK 1 kp = kp := rfl
   rw [e1]
   rw [show wE 1 = 94 from rfl]
   have hd : decide ((1 : Int) = 1) = true := rfl
   rw [hd] at HT
   by_cases hk : 0 < kp
   ·as_aux_lemma =>
    rw [if_pos hk]
    go_enter Tryz.func61, Tryz.ntmps61
    go_wp2_with (first
     | (go_at_call 113; (with_reducible refine HM.out.mono ?_); rintro e w5 ⟨rfl, hg⟩; have HG5 := hid hg; clear hg)
     | (go_at_call 116; (with_reducible refine (HT.out _ HG5.out).mono ?_); rintro e w6 ⟨rfl, hr, hg⟩; have HR6 := hid hr; have HG6 := hid hg; have y3 := HK3.out w6 hr; clear hr hg)
     | (go_at_call 99; (with_reducible refine (HDr.out _ HR6.out).mono ?_); rintro e w7 ⟨rfl, hr⟩; have HR7 := hid hr; clear hr)
     | (go_at_call 117; (with_reducible refine (HOf.out _ _).mono ?_); rintro e w8 ⟨rfl, hw8⟩; have hw8' := hw8.symm; clear hw8; subst hw8'))
    go_ret
    exact ⟨rfl, REnd.trans (gtrans (gany HG5.out _) HG6.out) HR7.out⟩
   ·as_aux_lemma =>
    rw [if_neg hk, HSm.out]
    go_enter Tryz.func61, Tryz.ntmps61
    go_wp2_with (first
     | (go_at_call 113; (with_reducible refine HM.out.mono ?_); rintro e w5 ⟨rfl, hg⟩; have HG5 := hid hg; clear hg)
     | (go_at_call 116; (with_reducible refine (HT.out _ HG5.out).mono ?_); rintro e w6 ⟨rfl, hr, hg⟩; have HR6 := hid hr; have HG6 := hid hg; have y3 := HK3.out w6 hr; clear hr hg)
     | (go_at_call 117; (with_reducible refine (HOf.out _ _).mono ?_); rintro e w8 ⟨rfl, hw8⟩; have hw8' := hw8.symm; clear hw8; subst hw8'))
    go_ret
    exact ⟨rfl, REnd.of HR6.out (gtrans (gany HG5.out _) HG6.out)⟩
  ·as_aux_lemma =>
   have e1 : wK ar kp = 9223372036854775807 := by unfold wK; rw [if_neg h1]
   have e2 : wE ar = 0 := by unfold wE; rw [if_neg h1]
   rw [e1, e2, if_pos (by decide)]
   rw [decide_eq_false h1] at HT
   go_enter Tryz.func61, Tryz.ntmps61
   go_wp2_with (first
    | (go_at_call 113; (with_reducible refine HM.out.mono ?_); rintro e w5 ⟨rfl, hg⟩; have HG5 := hid hg; clear hg)
    | (go_at_call 116; (with_reducible refine (HT.out _ HG5.out).mono ?_); rintro e w6 ⟨rfl, hr, hg⟩; have HR6 := hid hr; have HG6 := hid hg; clear hr hg)
    | (go_at_call 99; (with_reducible refine (HDr.out _ HR6.out).mono ?_); rintro e w7 ⟨rfl, hr⟩; have HR7 := hid hr; clear hr)
    | (go_at_call 117; (with_reducible refine (HOf.out _ _).mono ?_); rintro e w8 ⟨rfl, hw8⟩; have hw8' := hw8.symm; clear hw8; subst hw8'))
   go_ret
   exact ⟨rfl, REnd.trans (gtrans (gany HG5.out _) HG6.out) HR7.out⟩
 ·have hE : A.remE s = A.fndE s := by unfold Ab.remE; rw [if_neg hf]
  have hA : (A.rem s).sr = A := by
   unfold Ab.rem
   rw [if_neg hf]
   exact sr_self h.srt
  rw [hE, hA]
  have HR : Hid (∀ u, w.grownBy u none → Rk u B b A sv E) := hid (fun u hu => h.keep hu)
  obtain ⟨x, hx⟩ : ∃ x, A.fndE s = x := ⟨_, rfl⟩
  rw [hx] at HM hf ⊢
  have hb : (x == 0) = false := beq_eq_false_iff_ne.2 hf
  clear hx hA hE h
  go_enter Tryz.func61, Tryz.ntmps61
  go_wp2_with (go_at_call 113; (with_reducible refine HM.out.mono ?_); rintro e w5 ⟨rfl, hg⟩; have HG5 := hid hg; clear hg)
  go_ret
  exact ⟨rfl, REnd.of (HR.out _ HG5.out) (gany HG5.out _)⟩
end Go.Proofs.YtpbiofnncdneoaaGreatDoor

namespace Go.Proofs.YtpbiofnncdneoaaGreatDoor
open Go Go.RowKit Go.MapKept Go.MuLone
open Go.RowKit (wrap32 wrap64)

variable {w w' w2 : World} {B b : Nat} {A A' : Ab} {P : Nat → Prop} {sv sv' : Value} {E E' : List Fl}
theorem ok_sr (h : A.ok) (hn : NdC A.C) : A.sr.ok := ⟨h.room, h.wr, h.ar, by show (usedC (srtC A.C) : Int) ≤ A.room; rw [used_srt hn]; exact h.used, by show (srtC A.C).length ≤ 64; rw [srtC_len]; exact h.len, fun p hp => h.nms p ((srt_perm hn).mem_iff.1 hp)⟩
theorem lay_self (h : SrtS A.C) (s : ByteArray) (l : List UInt8) : insC (delC A.C s) s l = srtC (setC A.C s l) := by
 have q := lay_srt h.nd s l
 rw [srt_self h] at q
 exact q
theorem built130 (s : ByteArray) (a : Option Addr) (n c : Nat) : Tryz.prog.built 117 [(0, .string s), (1, .slice a n c)] = some [Value.string s, .slice a n c].toArray := by kernel_rfl
/-- lay, told as what a call leaves. -/
theorem lay_end (h : Rk w' B b A sv E) (s : ByteArray) (fa : Option Addr) (fn fc : Nat) (l : List UInt8) (hf : Out B w' (.slice fa fn fc) l) (hok : (A.con (srtC (setC A.C s l))).ok) (hk : ∀ k, (Value.slice fa fn fc).ownBlock = some k → Rfp b sv E k ∨ w.heap.size ≤ k) (hg : w.grownBy w' (some b)) :
  Calls Tryz.prog 44 #[.pointer (some ⟨b, 0, none⟩), .agg [Value.string s, .slice fa fn fc].toArray] w' fun e w2 => e = .returned (.tuple #[]) ∧ REnd w w2 B b sv E (A.con (srtC (setC A.C s l))) := by
 rw [← lay_self h.srt s l] at hok ⊢
 refine (lay_any h s fa fn fc l hf hok).mono fun e w2 ⟨q1, q2, sv', E', q3, q4⟩ => ⟨q1, gtrans hg q2, sv', E', q3, fun k hk' => ?_⟩
 rcases q4 k hk' with q | q | q
 ·exact .inl q
 ·exact hk k q
 ·exact .inr (Nat.le_trans hg.size q)
theorem out_on (h : Rk w B b A sv E) {v : Value} {l : List UInt8} (ho : Out B w v l) (hg : w.grownBy w' (some b)) : Out B w' v l := ho.on hg (fun k hk e => by
 injection hk with hk
 have hk' : b = k := hk
 subst hk'
 exact out_ne ho h.blk (by decide) e)
set_option maxRecDepth 100000 in
set_option maxHeartbeats 1600000 in
theorem rcut_any (h : Rk w B b A sv E) (s : ByteArray) (z : Int) (hs : s.size ≤ 140737488355328) (hw : A.wr ≤ 4611686018427387904) : Calls Tryz.prog 56 #[.pointer (some ⟨b, 0, none⟩), .string s, .int .i64 z] w fun e w' => e = .returned (.int .i64 (A.cutE s z)) ∧ REnd w w' B b sv E (A.cut s z).sr := by
 have HM := hid (missing_any h s hs)
 have HOf := hid roff_any
 have HBy : Hid (∀ u, w.grownBy u none → Calls Tryz.prog 114 #[.pointer (some ⟨b, 0, none⟩), .string s] u fun e w' => ∃ va vc, e = .returned (.slice va (A.old s).length vc) ∧ Out B w' (.slice va (A.old s).length vc) (A.old s) ∧ u.grownBy w' none) := hid (fun u hu => (rbytes_any (h.keep hu) s).mono fun e w' ⟨v, q1, q2, q3, q4⟩ => by
  obtain ⟨va, vc, rfl⟩ := q2.len
  exact ⟨va, vc, q1, q2, q4⟩)
 by_cases hf : A.fndE s = 0
 ·obtain ⟨hoff, hsome⟩ := fnd_off hf
  rw [hf] at HM
  obtain ⟨on, Hon⟩ : ∃ x, Hid ((A.old s).length = x) := ⟨_, hid rfl⟩
  rw [Hon.out] at HBy
  have hon : on ≤ 268435456 := by
   have h1 := get_used A.C s
   have h2 := h.ok.used
   have h3 := h.ok.room.2
   have h4 := Hon.out
   unfold Ab.old at h4
   omega
  by_cases hz : 0 ≤ z ∧ z ≤ (on : Int)
  ·obtain ⟨m, rfl⟩ : ∃ m : Nat, z = (m : Int) := ⟨z.toNat, by omega⟩
   have hmo : m ≤ on := by omega
   have hE : A.cutE s (m : Int) = wE A.ar := by unfold Ab.cutE; rw [if_pos hf, if_pos (by rw [Hon.out]; exact hz)]
   have hA0 : A.cut s (m : Int) = A.did (if 0 < wK A.ar A.kp then setC A.C s ((A.old s).take m) else A.C) := by
    unfold Ab.cut Ab.cutC
    rw [if_pos ⟨hf, by rw [Hon.out]; exact hz⟩]
    rfl
   have hok0 : (A.cut s (m : Int)).ok := by
    have q := cutC_ok h.ok (s := s) (z := (m : Int)) hf
    have e : A.cut s (m : Int) = A.did (A.cutC s (m : Int)) := by unfold Ab.cut; rw [if_pos ⟨hf, by rw [Hon.out]; exact hz⟩]
    rw [e]
    exact h.ok.did q.1 q.2.1 q.2.2
   have hA : (A.cut s (m : Int)).sr = A.tore.con (if 0 < wK A.ar A.kp then srtC (setC A.C s ((A.old s).take m)) else A.C) := by
    rw [hA0, did_sr]
    split
    ·rfl
    ·rw [srt_self h.srt]; rfl
   have hokT : 0 < wK A.ar A.kp → (A.tore.con (srtC (setC A.C s ((A.old s).take m)))).ok := fun hk => by
    have q := ok_sr hok0 (by rw [hA0, if_pos hk]; exact set_nd h.srt.nd _ _)
    rw [hA, if_pos hk] at q
    exact q
   rw [hE, hA]
   have HT : Hid (∀ u, w.grownBy u none → Calls Tryz.prog 116 #[.pointer (some ⟨b, 0, none⟩)] u fun e w' => e = .returned (.bool (decide (A.ar = 1))) ∧ Rk w' B b A.tore sv E ∧ u.grownBy w' (some b)) := hid (fun u hu => torn_any (h.keep hu) hoff hw)
   have HOn : Hid (∀ u u' v l, w.grownBy u none → Out B u v l → u.grownBy u' (some b) → Out B u' v l) := hid (fun u u' v l hu ho hg => out_on (h.keep hu) ho hg)
   have HLy : Hid (0 < wK A.ar A.kp → ∀ u fa fn fc, w.grownBy u (some b) → Rk u B b A.tore sv E → Out B u (.slice fa fn fc) ((A.old s).take m) → (∀ k, (Value.slice fa fn fc).ownBlock = some k → w.heap.size ≤ k) → Calls Tryz.prog 44 #[.pointer (some ⟨b, 0, none⟩), .agg [Value.string s, .slice fa fn fc].toArray] u fun e w2 => e = .returned (.tuple #[]) ∧ REnd w w2 B b sv E (A.tore.con (srtC (setC A.C s ((A.old s).take m))))) := hid (fun hk u fa fn fc hg hr ho hb => lay_end hr s fa fn fc _ ho (hokT hk) (fun k hk => .inr (hb k hk)) hg)
   have HSm : Hid (A.tore.con A.C = A.tore) := hid rfl
   have HBw : Hid (B ≤ w.heap.size) := hid (by have := h.low; have := h.blk.lt; omega)
   obtain ⟨ar, har⟩ : ∃ x, A.ar = x := ⟨_, rfl⟩
   obtain ⟨kp, hkp⟩ : ∃ x, A.kp = x := ⟨_, rfl⟩
   have HK3 : Hid (∀ u, Rk u B b A.tore sv E → u.cell? ⟨b, 3, none⟩ = some (.int .i64 kp)) := hid (fun u hu => by rw [← hkp]; exact hu.blk.cell 3)
   rw [har] at HT HLy ⊢
   rw [hkp] at HLy ⊢
   obtain ⟨T, hT⟩ : ∃ x, A.tore = x := ⟨_, rfl⟩
   rw [hT] at HT HLy HSm HK3 ⊢
   obtain ⟨ol, Hol⟩ : ∃ x, Hid (A.old s = x) := ⟨_, hid rfl⟩
   rw [Hol.out] at HBy HLy ⊢
   have hz1 : ¬ (m : Int) < 0 := by omega
   have hz2 : ¬ (on : Int) < (m : Int) := by omega
   have HCp : Hid (∀ u va vc, Out B u (.slice va on vc) ol → Calls Tryz.prog 100 #[.slice va m vc] u fun e w' => ∃ fa fc, e = .returned (.slice fa m fc) ∧ Out u.heap.size w' (.slice fa m fc) (ol.take m) ∧ u.grownBy w' none) := hid (fun u va vc ho => by
    have hr : Rd u _ (.slice va m vc) (ol.take m) := Rd.take ho.rd hmo
    have hl : (ol.take m).length = m := by obtain ⟨_, _, _, _, e, _⟩ := hr; injection e with _ e _; exact e.symm
    refine (copyR_any u _ _ _ hr (by rw [hl]; omega)).mono fun e w' ⟨v, q1, q2, q3⟩ => ?_
    obtain ⟨fa, fc, rfl⟩ := q2.len
    rw [hl] at q1 q2
    exact ⟨fa, fc, q1, q2, q3⟩)
   have HVc : Hid (∀ u va vc, Out B u (.slice va on vc) ol → (m : Int) ≤ (vc : Int) ∧ (va = none → vc = 0 ∧ m = 0)) := hid (fun u va vc ho => by
    obtain ⟨_, _, _, c', e, ec, en, _⟩ := ho.rd
    injection e with e1 e2 e3
    subst e1
    subst e3
    exact ⟨by omega, fun q => ⟨en q, by have := en q; omega⟩⟩)
   clear hT hA hA0 hE hsome hoff har hkp h hf hs hw hok0 hokT hz
   by_cases h1 : ar = 1
   ·subst h1
    have e1 : wK 1 kp = kp := rfl
    rw [e1] at HLy ⊢
    rw [show wE 1 = 94 from rfl]
    have hd : decide ((1 : Int) = 1) = true := rfl
    rw [hd] at HT
    by_cases hk : 0 < kp
    ·as_aux_lemma =>
     rw [if_pos hk]
     have HLy := hid (HLy.out hk)
     go_enter Tryz.func56, Tryz.ntmps56
     go_upto_region 9 with (first
      | (go_at_call 113; (with_reducible refine HM.out.mono ?_); rintro e w5 ⟨rfl, hg⟩; have HG5 := hid hg; clear hg)
      | (go_at_call 114; (with_reducible refine (HBy.out _ HG5.out).mono ?_); rintro e w6 ⟨va, vc, rfl, ho, hg⟩; have HO6 := hid ho; have HG6 := hid (gtrans HG5.out hg); have hvc := (HVc.out _ _ _ ho).1; have hvn := (HVc.out _ _ _ ho).2; clear ho hg)
      | (go_at_call 116; (with_reducible refine (HT.out _ HG6.out).mono ?_); rintro e w7 ⟨rfl, hr, hg⟩; have HR7 := hid hr; have HG7 := hid hg; have y3 := HK3.out w7 hr; have HO7 := hid (HOn.out _ _ _ _ HG6.out HO6.out hg); clear hr hg))
     rcases va with _ | va
     ·obtain ⟨rfl, rfl⟩ := hvn rfl
      go_wp2_with (first
       | (go_at_call 100; (with_reducible refine (HCp.out _ _ _ HO7.out).mono ?_); rintro e w8 ⟨fa, fc, rfl, ho, hg⟩; have HO8 := hid ho; have HG8 := hid hg; have HR8 := hid (HR7.out.keep hg); clear ho hg)
       | (with_reducible refine wpList_build_of (by with_unfolding_all rfl) 117 _ (by with_unfolding_all rfl) [(0, .string s), (1, .slice fa 0 fc)] (by with_unfolding_all rfl) [Value.string s, .slice fa 0 fc] (built130 s fa 0 fc) ?_)
       | (go_at_call 44; (with_reducible refine (HLy.out _ _ _ _ (gtrans (gtrans (gany HG6.out _) HG7.out) (gany HG8.out _)) HR8.out (HO8.out.below (by have h1 := HBw.out; have h2 := HG6.out.size; have h3 := HG7.out.size; omega)) (fun k hk => by have h1 := HO8.out.block k hk; have h2 := HG6.out.size; have h3 := HG7.out.size; omega)).mono ?_); rintro e w9 ⟨rfl, hr⟩; have HR9 := hid hr; clear hr)
       | (go_at_call 117; (with_reducible refine (HOf.out _ _).mono ?_); rintro e w8 ⟨rfl, hw8⟩; have hw8' := hw8.symm; clear hw8; subst hw8'))
      go_ret
      exact ⟨rfl, HR9.out⟩
     ·clear hvn
      go_wp2_with (first
       | (go_at_call 100; (with_reducible refine (HCp.out _ _ _ HO7.out).mono ?_); rintro e w8 ⟨fa, fc, rfl, ho, hg⟩; have HO8 := hid ho; have HG8 := hid hg; have HR8 := hid (HR7.out.keep hg); clear ho hg)
       | (with_reducible refine wpList_build_of (by with_unfolding_all rfl) 117 _ (by with_unfolding_all rfl) [(0, .string s), (1, .slice fa m fc)] (by with_unfolding_all rfl) [Value.string s, .slice fa m fc] (built130 s fa m fc) ?_)
       | (go_at_call 44; (with_reducible refine (HLy.out _ _ _ _ (gtrans (gtrans (gany HG6.out _) HG7.out) (gany HG8.out _)) HR8.out (HO8.out.below (by have h1 := HBw.out; have h2 := HG6.out.size; have h3 := HG7.out.size; omega)) (fun k hk => by have h1 := HO8.out.block k hk; have h2 := HG6.out.size; have h3 := HG7.out.size; omega)).mono ?_); rintro e w9 ⟨rfl, hr⟩; have HR9 := hid hr; clear hr)
       | (go_at_call 117; (with_reducible refine (HOf.out _ _).mono ?_); rintro e w8 ⟨rfl, hw8⟩; have hw8' := hw8.symm; clear hw8; subst hw8'))
      go_ret
      exact ⟨rfl, HR9.out⟩
    ·as_aux_lemma =>
     rw [if_neg hk, HSm.out]
     go_enter Tryz.func56, Tryz.ntmps56
     go_wp2_with (first
      | (go_at_call 113; (with_reducible refine HM.out.mono ?_); rintro e w5 ⟨rfl, hg⟩; have HG5 := hid hg; clear hg)
      | (go_at_call 114; (with_reducible refine (HBy.out _ HG5.out).mono ?_); rintro e w6 ⟨va, vc, rfl, ho, hg⟩; have HO6 := hid ho; have HG6 := hid (gtrans HG5.out hg); have hvc := (HVc.out _ _ _ ho).1; have hvn := (HVc.out _ _ _ ho).2; clear ho hg)
      | (go_at_call 116; (with_reducible refine (HT.out _ HG6.out).mono ?_); rintro e w7 ⟨rfl, hr, hg⟩; have HR7 := hid hr; have HG7 := hid hg; have y3 := HK3.out w7 hr; have HO7 := hid (HOn.out _ _ _ _ HG6.out HO6.out hg); clear hr hg)
      | (go_at_call 117; (with_reducible refine (HOf.out _ _).mono ?_); rintro e w8 ⟨rfl, hw8⟩; have hw8' := hw8.symm; clear hw8; subst hw8'))
     go_ret
     exact ⟨rfl, REnd.of HR7.out (gtrans (gany HG6.out _) HG7.out)⟩
   ·as_aux_lemma =>
    have e1 : wK ar kp = 9223372036854775807 := by unfold wK; rw [if_neg h1]
    have e2 : wE ar = 0 := by unfold wE; rw [if_neg h1]
    rw [e1] at HLy ⊢
    have HLy := hid (HLy.out (by decide))
    rw [e2, if_pos (by decide)]
    rw [decide_eq_false h1] at HT
    go_enter Tryz.func56, Tryz.ntmps56
    go_upto_region 9 with (first
     | (go_at_call 113; (with_reducible refine HM.out.mono ?_); rintro e w5 ⟨rfl, hg⟩; have HG5 := hid hg; clear hg)
     | (go_at_call 114; (with_reducible refine (HBy.out _ HG5.out).mono ?_); rintro e w6 ⟨va, vc, rfl, ho, hg⟩; have HO6 := hid ho; have HG6 := hid (gtrans HG5.out hg); have hvc := (HVc.out _ _ _ ho).1; have hvn := (HVc.out _ _ _ ho).2; clear ho hg)
     | (go_at_call 116; (with_reducible refine (HT.out _ HG6.out).mono ?_); rintro e w7 ⟨rfl, hr, hg⟩; have HR7 := hid hr; have HG7 := hid hg; have y3 := HK3.out w7 hr; have HO7 := hid (HOn.out _ _ _ _ HG6.out HO6.out hg); clear hr hg))
    rcases va with _ | va
    ·obtain ⟨rfl, rfl⟩ := hvn rfl
     go_wp2_with (first
      | (go_at_call 100; (with_reducible refine (HCp.out _ _ _ HO7.out).mono ?_); rintro e w8 ⟨fa, fc, rfl, ho, hg⟩; have HO8 := hid ho; have HG8 := hid hg; have HR8 := hid (HR7.out.keep hg); clear ho hg)
      | (with_reducible refine wpList_build_of (by with_unfolding_all rfl) 117 _ (by with_unfolding_all rfl) [(0, .string s), (1, .slice fa 0 fc)] (by with_unfolding_all rfl) [Value.string s, .slice fa 0 fc] (built130 s fa 0 fc) ?_)
      | (go_at_call 44; (with_reducible refine (HLy.out _ _ _ _ (gtrans (gtrans (gany HG6.out _) HG7.out) (gany HG8.out _)) HR8.out (HO8.out.below (by have h1 := HBw.out; have h2 := HG6.out.size; have h3 := HG7.out.size; omega)) (fun k hk => by have h1 := HO8.out.block k hk; have h2 := HG6.out.size; have h3 := HG7.out.size; omega)).mono ?_); rintro e w9 ⟨rfl, hr⟩; have HR9 := hid hr; clear hr)
      | (go_at_call 117; (with_reducible refine (HOf.out _ _).mono ?_); rintro e w8 ⟨rfl, hw8⟩; have hw8' := hw8.symm; clear hw8; subst hw8'))
     go_ret
     exact ⟨rfl, HR9.out⟩
    ·clear hvn
     go_wp2_with (first
      | (go_at_call 100; (with_reducible refine (HCp.out _ _ _ HO7.out).mono ?_); rintro e w8 ⟨fa, fc, rfl, ho, hg⟩; have HO8 := hid ho; have HG8 := hid hg; have HR8 := hid (HR7.out.keep hg); clear ho hg)
      | (with_reducible refine wpList_build_of (by with_unfolding_all rfl) 117 _ (by with_unfolding_all rfl) [(0, .string s), (1, .slice fa m fc)] (by with_unfolding_all rfl) [Value.string s, .slice fa m fc] (built130 s fa m fc) ?_)
      | (go_at_call 44; (with_reducible refine (HLy.out _ _ _ _ (gtrans (gtrans (gany HG6.out _) HG7.out) (gany HG8.out _)) HR8.out (HO8.out.below (by have h1 := HBw.out; have h2 := HG6.out.size; have h3 := HG7.out.size; omega)) (fun k hk => by have h1 := HO8.out.block k hk; have h2 := HG6.out.size; have h3 := HG7.out.size; omega)).mono ?_); rintro e w9 ⟨rfl, hr⟩; have HR9 := hid hr; clear hr)
      | (go_at_call 117; (with_reducible refine (HOf.out _ _).mono ?_); rintro e w8 ⟨rfl, hw8⟩; have hw8' := hw8.symm; clear hw8; subst hw8'))
     go_ret
     exact ⟨rfl, HR9.out⟩
  ·have hE : A.cutE s z = 95 := by unfold Ab.cutE; rw [if_pos hf, if_neg (by rw [Hon.out]; exact hz)]
   have hA : (A.cut s z).sr = A := by
    unfold Ab.cut
    rw [if_neg (fun q => hz (by rw [Hon.out] at q; exact q.2))]
    exact sr_self h.srt
   rw [hE, hA]
   have HR : Hid (∀ u, w.grownBy u none → Rk u B b A sv E) := hid (fun u hu => h.keep hu)
   clear hA hE h hsome hoff hf
   by_cases hz1 : z < 0
   ·as_aux_lemma =>
    go_enter Tryz.func56, Tryz.ntmps56
    go_wp2_with (first
     | (go_at_call 113; (with_reducible refine HM.out.mono ?_); rintro e w5 ⟨rfl, hg⟩; have HG5 := hid hg; clear hg)
     | (go_at_call 114; (with_reducible refine (HBy.out _ HG5.out).mono ?_); rintro e w6 ⟨va, vc, rfl, ho, hg⟩; have HG6 := hid (gtrans HG5.out hg); clear ho hg))
    go_ret
    exact ⟨rfl, REnd.of (HR.out _ HG6.out) (gany HG6.out _)⟩
   ·as_aux_lemma =>
    have hz2 : (on : Int) < z := by omega
    go_enter Tryz.func56, Tryz.ntmps56
    go_wp2_with (first
     | (go_at_call 113; (with_reducible refine HM.out.mono ?_); rintro e w5 ⟨rfl, hg⟩; have HG5 := hid hg; clear hg)
     | (go_at_call 114; (with_reducible refine (HBy.out _ HG5.out).mono ?_); rintro e w6 ⟨va, vc, rfl, ho, hg⟩; have HG6 := hid (gtrans HG5.out hg); clear ho hg))
    go_ret
    exact ⟨rfl, REnd.of (HR.out _ HG6.out) (gany HG6.out _)⟩
 ·have hE : A.cutE s z = A.fndE s := by unfold Ab.cutE; rw [if_neg hf]
  have hA : (A.cut s z).sr = A := by
   unfold Ab.cut
   rw [if_neg (fun q => hf q.1)]
   exact sr_self h.srt
  rw [hE, hA]
  have HR : Hid (∀ u, w.grownBy u none → Rk u B b A sv E) := hid (fun u hu => h.keep hu)
  obtain ⟨x, hx⟩ : ∃ x, A.fndE s = x := ⟨_, rfl⟩
  rw [hx] at HM hf ⊢
  have hb : (x == 0) = false := beq_eq_false_iff_ne.2 hf
  clear hx hA hE h
  go_enter Tryz.func56, Tryz.ntmps56
  go_wp2_with (go_at_call 113; (with_reducible refine HM.out.mono ?_); rintro e w5 ⟨rfl, hg⟩; have HG5 := hid hg; clear hg)
  go_ret
  exact ⟨rfl, REnd.of (HR.out _ HG5.out) (gany HG5.out _)⟩
end Go.Proofs.YtpbiofnncdneoaaGreatDoor

namespace Go.Proofs.YtpbiofnncdneoaaGreatDoor
open Go Go.RowKit Go.MapKept Go.MuLone
open Go.RowKit (wrap32 wrap64)

variable {w w' w2 : World} {B b : Nat} {A A' : Ab} {P : Nat → Prop} {sv sv' : Value} {E E' : List Fl}
theorem rold_le (h : Rk w B b A sv E) (s : ByteArray) : ((getC A.C s).getD []).length ≤ 268435456 := by
 have h1 := get_used A.C s
 have h2 := h.ok.used
 have h3 := h.ok.room.2
 omega
set_option maxRecDepth 100000 in
set_option maxHeartbeats 800000 in
theorem rread_any (h : Rk w B b A sv E) (s : ByteArray) (hs : s.size ≤ 140737488355328) : Calls Tryz.prog 54 #[.pointer (some ⟨b, 0, none⟩), .string s] w fun e w' => ∃ a c, e = .returned (.tuple #[.slice a (A.fndB s).length c, .int .i64 (A.fndE s)]) ∧ Out w.heap.size w' (.slice a (A.fndB s).length c) (A.fndB s) ∧ w.grownBy w' none := by
 have HM := hid (missing_any h s hs)
 by_cases hf : A.fndE s = 0
 ·have hB : A.fndB s = (getC A.C s).getD [] := by unfold Ab.fndB; rw [if_pos hf]
  rw [hB, hf]
  rw [hf] at HM
  have hol := rold_le h s
  have HBy : Hid (∀ u, w.grownBy u none → Calls Tryz.prog 114 #[.pointer (some ⟨b, 0, none⟩), .string s] u fun e w' => ∃ v, e = .returned v ∧ Out B w' v ((getC A.C s).getD []) ∧ u.grownBy w' none) := hid (fun u hu => (rbytes_any (h.keep hu) s).mono fun e w' ⟨v, q1, q2, q3, q4⟩ => ⟨v, q1, q2, q4⟩)
  obtain ⟨ol, Hol⟩ : ∃ x, Hid ((getC A.C s).getD [] = x) := ⟨_, hid rfl⟩
  rw [Hol.out] at HBy hol ⊢
  obtain ⟨n, Hn⟩ : ∃ x, Hid (ol.length = x) := ⟨_, hid rfl⟩
  have HCp : Hid (∀ u v, w.grownBy u none → Out B u v ol → Calls Tryz.prog 100 #[v] u fun e w' => ∃ a c, e = .returned (.slice a n c) ∧ Out w.heap.size w' (.slice a n c) ol ∧ u.grownBy w' none) := hid (fun u v hu ho => (copyR_any u v _ ol ho.rd (by omega)).mono fun e w' ⟨v', q1, q2, q3⟩ => by
   obtain ⟨a, c, rfl⟩ := q2.len
   rw [Hn.out] at q1 q2
   exact ⟨a, c, q1, q2.below hu.size, q3⟩)
  rw [Hn.out]
  clear h hf hB hs hol
  go_enter Tryz.func54, Tryz.ntmps54
  go_wp2_with (first
   | (go_at_call 113; (with_reducible refine HM.out.mono ?_); rintro e w5 ⟨rfl, hg⟩; have HG5 := hid hg; clear hg)
   | (go_at_call 114; (with_reducible refine (HBy.out _ HG5.out).mono ?_); rintro e w6 ⟨v6, rfl, ho, hg⟩; have HO6 := hid ho; have HG6 := hid (gtrans HG5.out hg); clear ho hg)
   | (go_at_call 100; (with_reducible refine (HCp.out _ _ HG6.out HO6.out).mono ?_); rintro e w7 ⟨a7, c7, rfl, ho, hg⟩; have HO7 := hid ho; have HG7 := hid (gtrans HG6.out hg); clear ho hg))
  refine bodyPost_ret (results_tmp2 rfl _ _ _) rfl ?_
  exact ⟨a7, c7, rfl, HO7.out, HG7.out⟩
 ·have hB : A.fndB s = [] := by unfold Ab.fndB; rw [if_neg hf]
  rw [hB]
  obtain ⟨x, hx⟩ : ∃ x, A.fndE s = x := ⟨_, rfl⟩
  rw [hx] at HM hf ⊢
  have hb : (x == 0) = false := beq_eq_false_iff_ne.2 hf
  clear hx hB h
  go_enter Tryz.func54, Tryz.ntmps54
  go_wp2_with (go_at_call 113; (with_reducible refine HM.out.mono ?_); rintro e w5 ⟨rfl, hg⟩; have HG5 := hid hg; clear hg)
  refine bodyPost_ret (results_tmp2 rfl _ _ _) rfl ?_
  exact ⟨none, 0, rfl, Out.nil _ _, HG5.out⟩
set_option maxRecDepth 100000 in
theorem rfiles_any (h : Rk w B b A sv E) : Calls Tryz.prog 34 #[.pointer (some ⟨b, 0, none⟩)] w fun e w' => (∃ a g c, e = .returned (.slice a A.C.length c) ∧ ArF w' (fun k => w.heap.size ≤ k ∧ k < w'.heap.size) a g 0 A.C) ∧ w.grownBy w' none := by
 obtain ⟨a, g, c, hsv, hA⟩ := h.row.ar
 rw [h.con] at hsv hA
 have y1 : w.cell? ⟨b, 1, none⟩ = some sv := h.blk.cell 1
 rw [hsv] at y1
 have HC := hid (copyFiles_any w _ a g 0 c A.C hA (by have := h.ok.len; omega) (fun p hp => by
  have h1 := get_used A.C p.1
  rw [get_mem h.srt.nd hp] at h1
  have h2 := h.ok.used
  have h3 := h.ok.room.2
  simp only [Option.getD_some] at h1
  omega))
 obtain ⟨n, hn⟩ : ∃ x, A.C.length = x := ⟨_, rfl⟩
 rw [hn] at y1 HC
 have HK : Hid (∀ (w' : World) v E', OutF w.heap.size w' v E' → cont E' = A.C → ∃ a g c, v = .slice a A.C.length c ∧ ArF w' (fun k => w.heap.size ≤ k ∧ k < w'.heap.size) a g 0 A.C) := hid (fun w' v E' ho hc => by
  obtain ⟨a, g, c, q1, q2⟩ := ho.ar
  rw [hc] at q1 q2
  exact ⟨a, g, c, q1, q2⟩)
 clear h hsv hA
 go_enter Tryz.func34, Tryz.ntmps34
 go_wp2_with (go_at_call 65; (with_reducible refine HC.out.mono ?_); rintro e w5 ⟨v, E', rfl, ho, hc, -, hg⟩; have HO5 := hid ho; have HC5 := hid hc; have HG5 := hid hg; clear ho hc hg)
 go_ret
 obtain ⟨a9, g9, c9, q1, q2⟩ := HK.out _ _ _ HO5.out HC5.out
 exact ⟨⟨a9, g9, c9, by rw [← q1]; rfl, q2⟩, HG5.out⟩
set_option maxRecDepth 100000 in
theorem ron_any (h : Rk w B b A sv E) : Calls Tryz.prog 29 #[.pointer (some ⟨b, 0, none⟩)] w fun e w' => e = .returned (.tuple #[]) ∧ Rk w' B b A.on sv E ∧ w.grownBy w' (some b) := by
 have H := hid h
 have c4 := h.blk.cell 4
 have f4 := h.blk.frozen 4
 replace c4 : w.cell? ⟨b, 4, none⟩ = some (.bool A.off) := c4
 clear h
 go_enter Tryz.func29, Tryz.ntmps29
 go_wp2_with fail
 go_end0
 have hg := gset w ⟨b, 4, none⟩ (.bool false)
 exact ⟨rfl, H.out.put (H.out.blk.set 4 (.bool false)) hg rfl ⟨H.out.ok.room, H.out.ok.wr, H.out.ok.ar, H.out.ok.used, H.out.ok.len, H.out.ok.nms⟩, hg⟩
set_option maxRecDepth 100000 in
theorem rarm_any (h : Rk w B b A sv E) (n k : Int) (hn : n ≤ 9223372036854775807) : Calls Tryz.prog 28 #[.pointer (some ⟨b, 0, none⟩), .int .i64 n, .int .i64 k] w fun e w' => e = .returned (.tuple #[]) ∧ Rk w' B b (A.arm n k) sv E ∧ w.grownBy w' (some b) := by
 have H := hid h
 have c2 : w.cell? ⟨b, 2, none⟩ = some (.int .i64 A.ar) := h.blk.cell 2
 have c3 : w.cell? ⟨b, 3, none⟩ = some (.int .i64 A.kp) := h.blk.cell 3
 have f2 := h.blk.frozen 2
 have f3 := h.blk.frozen 3
 have HO : Hid ((A.arm n k).ok) := hid ⟨h.ok.room, h.ok.wr, by show 0 ≤ max n 0 ∧ max n 0 ≤ 9223372036854775807; omega, h.ok.used, h.ok.len, h.ok.nms⟩
 clear h
 by_cases h1 : 1 ≤ n
 ·have e : (A.arm n k) = { A with ar := n, kp := k } := by unfold Ab.arm; rw [Int.max_eq_left (by omega)]
  go_enter Tryz.func28, Tryz.ntmps28
  go_wp2_with fail
  go_end0
  have hg : w.grownBy (((w.setCell ⟨b, 2, none⟩ (.int .i64 0)).setCell ⟨b, 2, none⟩ (.int .i64 n)).setCell ⟨b, 3, none⟩ (.int .i64 k)) (some b) := gtrans (gtrans (gset w ⟨b, 2, none⟩ _) (gset _ ⟨b, 2, none⟩ _)) (gset _ ⟨b, 3, none⟩ _)
  refine ⟨rfl, H.out.put ?_ hg rfl HO.out, hg⟩
  have q := ((H.out.blk.set 2 (.int .i64 0)).set 2 (.int .i64 n)).set 3 (.int .i64 k)
  rw [e]
  exact q
 ·have e : (A.arm n k) = { A with ar := 0, kp := k } := by unfold Ab.arm; rw [Int.max_eq_right (by omega)]
  go_enter Tryz.func28, Tryz.ntmps28
  go_wp2_with fail
  go_end0
  have hg : w.grownBy ((w.setCell ⟨b, 2, none⟩ (.int .i64 0)).setCell ⟨b, 3, none⟩ (.int .i64 k)) (some b) := gtrans (gset w ⟨b, 2, none⟩ _) (gset _ ⟨b, 3, none⟩ _)
  have HO2 := HO.out
  rw [e] at HO2
  refine ⟨rfl, H.out.put ?_ hg rfl HO2, hg⟩
  exact (H.out.blk.set 2 (.int .i64 0)).set 3 (.int .i64 k)
end Go.Proofs.YtpbiofnncdneoaaGreatDoor
