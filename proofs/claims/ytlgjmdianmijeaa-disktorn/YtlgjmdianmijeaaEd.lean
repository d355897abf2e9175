/- goes: a disk whose power is off, and on again. -/
import Derived.Test.YtlgjmdianmijeaaEb
namespace Go.Proofs.Ytlgjmdianmijeaa
open Go Go.RowKit Go.MapKept Go.MuLone
open Go.RowKit (wrap32 wrap64)

variable {w u u' : World} {b c : Nat} {A A' B : Ab} {P P' Q : Nat → Prop} {a a' : Option Addr} {L : Cn} {o : Opv}
theorem sd_do (h : Sd w u b A P) (F : Nat → Prop) (hI : o.In w F) (hw : A.wr ≤ 4611686018427387904) :
    Calls Try.prog 15 #[.pointer (some ⟨b, 0, none⟩), .agg o.cells.toArray] u fun e u' => ∃ P', e = .returned (.tuple #[.int .i64 (A.doE o), .bool o.isDo]) ∧ Sd w u' b (A.doA o) P' ∧ (∀ a L, Fw u a L P → Fw u' a L P') :=
  (do_any h.dk h.lt o F (hI.keep h.gr) hI.bl hw).mono fun _ _ ⟨q1, q2, q3⟩ => ⟨_, q1, h.step q2 (newP_lt h.lt q3.size).1 (newP_lt h.lt q3.size).2 q3 h.ge, fun _ _ hF => hF.step q3 (fun _ hk => hk) (newP_lt h.lt q3.size).2⟩
theorem dark_fnd (h : A.off = true) (s : ByteArray) : A.fndE s = 94 ∧ A.fndB s = [] := by
  have hf : A.fndE s = 94 := by unfold Ab.fndE refE; rw [h]; rfl
  refine ⟨hf, ?_⟩
  unfold Ab.fndB
  rw [hf]
  rfl
theorem names_dark (h : DkP w c b A P) (ho : A.off = true) : Calls Try.prog 40 #[.pointer (some ⟨b, 0, none⟩)] w fun e w' => e = .returned (.tuple #[.slice none 0 0, .int .i64 94]) ∧ w.grownBy w' none := by
  obtain ⟨h1, m, F, h2, h3, h4⟩ := h
  rw [ho] at h2
  exact names_off h2
set_option maxRecDepth 100000 in
set_option maxHeartbeats 16000000 in
theorem goes_any (w u : World) (b : Nat) (A : Ab) (P : Nat → Prop) (h : Sd w u b A P) (hoff : A.off = true) (har : A.ar = 0) (hwr : 0 ≤ A.wr ∧ A.wr ≤ 100000) (F : Nat → Prop) (la : Option Addr) (lg lo ln lc : Nat) (T : Nat → Opv) (hA : ArO w F la lg lo ln T) (hn : ln ≤ 140737488355328) :
    Calls Try.prog 19 #[.pointer (some ⟨b, 0, none⟩), .int .i64 A.room, .slice la ln lc] u fun e u' => e = .returned (.bool true) ∧ w.grownBy u' none := by
  have HA : Hid (∀ v, w.grownBy v none → ArO v F la lg lo ln T) := hid (fun v hv => hA.keep hv)
  have HIw : Hid (∀ i, i < ln → (T i).In w F) := hid (fun i hi => (hA.each i hi).2)
  have HNu : Hid (∀ (E : Int) (u : World), Calls Try.prog 9 #[.int .i64 E] u fun e w' => e = .returned (.int .i64 E) ∧ w' = u) := hid num_any
  obtain ⟨L, HL⟩ : ∃ x, Hid (srtC A.C = x) := ⟨_, hid rfl⟩
  obtain ⟨wn, HWn⟩ : ∃ x, Hid (L.length = x) := ⟨_, hid rfl⟩
  obtain ⟨rm, HRm⟩ : ∃ x, Hid (A.room = x) := ⟨_, hid rfl⟩
  obtain ⟨wv, HWv⟩ : ∃ x, Hid (A.wr = x) := ⟨_, hid rfl⟩
  have HBd : Hid (L.length ≤ 64 ∧ ∀ p ∈ L, p.2.length ≤ 268435456) := hid (by rw [← HL.out]; exact sd_bnd h)
  have HSS : Hid (srtC (srtC A.C) = L) := hid (by rw [← HL.out]; exact srt_ext (srt_names A.C) (fun s => get_srt h.dk.nd s))
  have HFl : Hid (∀ v P, Sd w v b A P → Calls Try.prog 13 #[.pointer (some ⟨b, 0, none⟩)] v fun e v' => ∃ a c, e = .returned (.slice a wn c) ∧ Fw v' a L P ∧ v.grownBy v' none) := hid (fun v P hS => by
    have q := sd_files hS P hS.lt
    rw [HL.out, HWn.out] at q
    exact q)
  have HWr : Hid (∀ v P, Sd w v b A P → Calls Try.prog 14 #[.pointer (some ⟨b, 0, none⟩)] v fun e v' => e = .returned (.int .i64 wv) ∧ v.grownBy v' none) := hid (fun v P hS => by
    have q := writes_p hS.dk
    rw [HWv.out] at q
    exact q)
  have HQ : Hid (∀ v a a' c c' P P', Fw v a L P → Fw v a' L P' → Calls Try.prog 17 #[.slice a wn c, .slice a' wn c'] v fun e v' => e = .returned (.bool true) ∧ v.grownBy v' none) := hid (fun v a a' c c' P P' h1 h2 => by
    have q := fw_eq h1 h2 c c' (by have := HBd.out.1; omega) (fun p hp => by have := HBd.out.2 p hp; omega)
    rw [HWn.out] at q
    exact q)
  have HDo : Hid (∀ v P (o : Opv), Sd w v b A P → o.In w F → Calls Try.prog 15 #[.pointer (some ⟨b, 0, none⟩), .agg o.cells.toArray] v fun e v' => ∃ P', e = .returned (.tuple #[.int .i64 (if o.isDo = true then 94 else 0), .bool o.isDo]) ∧ Sd w v' b A P' ∧ (∀ a L, Fw v a L P → Fw v' a L P')) := hid (fun v P o hS hI => by
    have q := sd_do hS F hI (by omega)
    rw [(dark_do hoff).1, (dark_do hoff).2] at q
    exact q)
  have HRe : Hid (∀ v P, Sd w v b A P → Calls Try.prog 30 #[.pointer (some ⟨b, 0, none⟩), .string ⟨#[97]⟩] v fun e v' => ∃ x, e = .returned (.tuple #[x, .int .i64 94]) ∧ v.grownBy v' none) := hid (fun v P hS => by
    have q := read_p hS.dk ⟨#[97]⟩
    rw [(dark_fnd hoff _).1] at q
    exact q.mono fun e v' ⟨x, q1, _, q2⟩ => ⟨x, q1, q2⟩)
  have HSi : Hid (∀ v P, Sd w v b A P → Calls Try.prog 27 #[.pointer (some ⟨b, 0, none⟩), .string ⟨#[33]⟩] v fun e v' => e = .returned (.tuple #[.int .i64 0, .int .i64 94]) ∧ v.grownBy v' none) := hid (fun v P hS => by
    have q := size_p hS.dk ⟨#[33]⟩
    rw [(dark_fnd hoff _).1, (dark_fnd hoff _).2] at q
    exact q)
  have HNa : Hid (∀ v P, Sd w v b A P → Calls Try.prog 40 #[.pointer (some ⟨b, 0, none⟩)] v fun e v' => e = .returned (.tuple #[.slice none 0 0, .int .i64 94]) ∧ v.grownBy v' none) := hid (fun v P hS => names_dark hS.dk hoff)
  have HOn : Hid (∀ v P, Sd w v b A P → Calls Try.prog 29 #[.pointer (some ⟨b, 0, none⟩)] v fun e v' => e = .returned (.tuple #[]) ∧ Sd w v' b A.on P ∧ (∀ a L, Fw v a L P → Fw v' a L P)) := hid (fun v P hS => (sd_on hS).mono fun e v' ⟨q1, q2, q3⟩ => ⟨q1, q2, fun _ _ hF => hF.step q3 (fun _ hk => hk) (fun _ hk => .inl hk)⟩)
  have HLd : Hid (∀ v P P' a fc, Sd w v b A.on P → Fw v a L P' → Calls Try.prog 24 #[.slice a wn fc, .int .i64 rm] v fun e v' => ∃ c, e = .returned (.tuple #[.pointer (some ⟨c, 0, none⟩), .int .i64 0]) ∧ v.grownBy v' none ∧ ∃ Q, S2 w v' b c A.on ⟨A.room, false, 0, 0, 0, srtC A.C⟩ P Q) := hid (fun v P P' a fc hS hF => by
    have e1 : srtC A.on.C = L := HL.out
    have e2 : A.on.room = rm := HRm.out
    have q := sd_load hS (by rw [e1]; exact hF) fc
    rw [e1, e2, HWn.out] at q
    rw [HRm.out, HL.out]
    exact q.mono fun e v' ⟨c, q1, q2, Q, q3, _⟩ => ⟨c, q1, q2, Q, q3⟩)
  have HAl : Hid (Alike A.on ⟨A.room, false, 0, 0, 0, srtC A.C⟩) := hid ⟨⟨rfl, har⟩, ⟨rfl, rfl⟩, rfl, ⟨h.dk.nd, srt_nd h.dk.nd, (srt_names A.C).symm, fun s => (get_srt h.dk.nd s).symm⟩⟩
  have HS0 := hid h
  have HwB : Hid (0 ≤ A.wr ∧ A.wr ≤ 100000) := hid hwr
  rw [HRm.out]
  clear h hA hwr HWv
  go_enter Try.func19, Try.ntmps19
  go_upto_region 4 with (first
    | (go_at_call 13; (with_reducible refine (HFl.out _ _ HS0.out).mono ?_); rintro e u1 ⟨wa, wc, rfl, hF, hg⟩; have HF1 := hid hF; have HS1 := hid (HS0.out.keep hg); clear hF hg)
    | (go_at_call 14; (with_reducible refine (HWr.out _ _ HS1.out).mono ?_); rintro e u2 ⟨rfl, hg⟩; have HF2 := hid (HF1.out.keep hg); have HS2 := hid (HS1.out.keep hg); clear hg))
  clear HS0 HS1 HF1
  go_loopw [9] (fun iv wr => ∃ i : Nat, iv = .int .i64 i ∧ i ≤ ln ∧ i ≤ 20 ∧ Hid (∃ P', Sd w wr b A P' ∧ Fw wr wa L P')) (fun iv _ => ln - (intOf iv).toNat)
  case atStart => exact ⟨0, rfl, by omega, by omega, hid ⟨_, HS2.out, HF2.out⟩⟩
  case round =>
    obtain ⟨i, rfl, hi, hi20, HP⟩ := hrel
    obtain ⟨w0, hw0⟩ : ∃ x : World, x = wr := ⟨_, rfl⟩
    rw [← hw0] at HP ⊢
    clear hw0 HS2 HF2
    obtain ⟨P', HP'⟩ : ∃ P', Hid (Sd w w0 b A P' ∧ Fw w0 wa L P') := ⟨HP.out.choose, hid HP.out.choose_spec⟩
    clear HP
    have HG0 := hid HP'.out.1.gr
    have HEnd : Hid (∀ v, Hid (∃ P', Sd w v b A P' ∧ Fw v wa L P') → True) := hid (fun _ _ => trivial)
    by_cases hlt : i < ln
    · have hlt' : (i : Int) < (ln : Int) := by omega
      by_cases h20 : i < 20
      · as_aux_lemma =>
        have h20' : (i : Int) < 20 := by omega
        obtain ⟨rfl, hgl, -⟩ := (HA.out w0 HG0.out).at_ (by omega)
        have HI := hid (HIw.out i hlt)
        have HE : Hid (w0.rangeAt lg (lo + i * 8) (T i).cells) := hid ((HA.out w0 HG0.out).each i hlt).1
        obtain ⟨o, Ho⟩ : ∃ o, Hid (T i = o) := ⟨_, hid rfl⟩
        rw [Ho.out] at HI HE
        clear Ho
        have HD := hid (HDo.out w0 P' o HP'.out.1 HI.out)
        obtain ⟨D, hD⟩ : ∃ x, o.isDo = x := ⟨_, rfl⟩
        rw [hD] at HD
        clear hD
        cases D with
        | false =>
          as_aux_lemma =>
          rw [if_neg (by decide)] at HD
          go_wp2_with (first
            | (with_reducible refine wpList_load_part (by with_unfolding_all rfl) 36 _ (by with_unfolding_all rfl) lg (lo + i * 8) o.cells _ (by with_unfolding_all rfl) HE.out Try.underlying36 (by with_unfolding_all rfl) (by with_unfolding_all exact Try.size36) ?_)
            | (go_at_call 15; (with_reducible refine HD.out.mono ?_); rintro e w4 ⟨P4, rfl, hs, hf⟩; have HS4 := hid hs; have HF4 := hid (hf _ _ HP'.out.2); clear hs hf))
          go_roundw
          case rel => exact ⟨i + 1, by go_num, by omega, by omega, hid ⟨P4, HS4.out, HF4.out⟩⟩
          case measure => simp [intOf]; omega
        | true =>
          as_aux_lemma =>
          rw [if_pos rfl] at HD
          go_wp2_with (first
            | (with_reducible refine wpList_load_part (by with_unfolding_all rfl) 36 _ (by with_unfolding_all rfl) lg (lo + i * 8) o.cells _ (by with_unfolding_all rfl) HE.out Try.underlying36 (by with_unfolding_all rfl) (by with_unfolding_all exact Try.size36) ?_)
            | (go_at_call 15; (with_reducible refine HD.out.mono ?_); rintro e w4 ⟨P4, rfl, hs, hf⟩; have HS4 := hid hs; have HF4 := hid (hf _ _ HP'.out.2); clear hs hf)
            | (go_at_call 9; (with_reducible refine (HNu.out _ _).mono ?_); rintro e w5 ⟨rfl, hw5⟩; have hw5' := hw5.symm; clear hw5; subst hw5'))
          go_roundw
          case rel => exact ⟨i + 1, by go_num, by omega, by omega, hid ⟨P4, HS4.out, HF4.out⟩⟩
          case measure => simp [intOf]; omega
      · have h20' : ¬ (i : Int) < 20 := by omega
        as_aux_lemma =>
        have HX0 := hid HP'.out.1
        have HF0 := hid HP'.out.2
        clear HP' HDo HEnd
        have HA' := HA
        go_upto_region 12 with (first
          | (go_at_call 30; (with_reducible refine (HRe.out _ _ HX0.out).mono ?_); rintro e v1 ⟨x1, rfl, hg⟩; have HX1 := hid (HX0.out.keep hg); have HF1 := hid (HF0.out.keep hg); clear hg)
          | (go_at_call 27; (with_reducible refine (HSi.out _ _ HX1.out).mono ?_); rintro e v2 ⟨rfl, hg⟩; have HX2 := hid (HX1.out.keep hg); have HF2 := hid (HF1.out.keep hg); clear hg)
          | (go_at_call 40; (with_reducible refine (HNa.out _ _ HX2.out).mono ?_); rintro e v3 ⟨rfl, hg⟩; have HX3 := hid (HX2.out.keep hg); have HF3 := hid (HF2.out.keep hg); clear hg))
        clear HX0 HF0 HX1 HF1 HX2 HF2 HRe HSi HNa
        go_upto_region 15 with (first
          | (go_at_call 9; (with_reducible refine (HNu.out _ _).mono ?_); rintro e w5 ⟨rfl, hw5⟩; have hw5' := hw5.symm; clear hw5; subst hw5')
          | (go_at_call 14; (with_reducible refine (HWr.out _ _ HX3.out).mono ?_); rintro e v4 ⟨rfl, hg⟩; have HX4 := hid (HX3.out.keep hg); have HF4 := hid (HF3.out.keep hg); clear hg)
          | (go_at_call 13; (with_reducible refine (HFl.out _ _ HX4.out).mono ?_); rintro e v5 ⟨a5, c5, rfl, hF, hg⟩; have HY5 := hid hF; have HX5 := hid (HX4.out.keep hg); have HF5 := hid (HF4.out.keep hg); clear hF hg)
          | (go_at_call 17; (with_reducible refine (HQ.out _ _ _ _ _ _ _ HY5.out HF5.out).mono ?_); rintro e v6 ⟨rfl, hg⟩; have HX6 := hid (HX5.out.keep hg); have HF6 := hid (HF5.out.keep hg); clear hg))
        clear HX3 HF3 HX4 HF4 HX5 HF5 HY5 HWr HFl
        go_upto_region 17 with (first
          | (go_at_call 29; (with_reducible refine (HOn.out _ _ HX6.out).mono ?_); rintro e v7 ⟨rfl, hs, hf⟩; have HX7 := hid hs; have HF7 := hid (hf _ _ HF6.out); clear hs hf)
          | (go_at_call 24; (with_reducible refine (HLd.out _ _ _ _ _ HX7.out HF7.out).mono ?_); rintro e v8 ⟨c, rfl, hg, hq⟩; have HZ8 := hid hq; clear hg hq))
        clear HX6 HF6 HX7 HF7 HOn HLd
        obtain ⟨Q8, HS8⟩ : ∃ Q8, Hid (S2 w v8 b c A.on ⟨A.room, false, 0, 0, 0, srtC A.C⟩ P' Q8) := ⟨HZ8.out.choose, hid HZ8.out.choose_spec⟩
        clear HZ8
        obtain ⟨A8, HA8⟩ : ∃ x, Hid (A.on = x) := ⟨_, hid rfl⟩
        obtain ⟨B8, HB8⟩ : ∃ x, Hid (Ab.mk A.room false 0 0 0 (srtC A.C) = x) := ⟨_, hid rfl⟩
        have HCb : Hid (srtC A8.C = L ∧ A8.wr ≤ 100000) := hid ⟨by rw [← HA8.out]; exact HL.out, by rw [← HA8.out]; exact HwB.out.2⟩
        have HCc : Hid (srtC B8.C = L ∧ B8.wr ≤ 0) := hid ⟨by rw [← HB8.out]; exact HSS.out, by rw [← HB8.out]; exact Int.le_refl _⟩
        have HOf : Hid (A8.off = false) := hid (by rw [← HA8.out]; rfl)
        rw [HA8.out, HB8.out] at HS8 HAl
        have HFb : Hid (∀ v, S2 w v b c A8 B8 P' Q8 → Calls Try.prog 13 #[.pointer (some ⟨b, 0, none⟩)] v fun e v' => ∃ a c, e = .returned (.slice a wn c) ∧ Fw v' a L (Un P' Q8) ∧ v.grownBy v' none) := hid (fun v hS => by
          have q := s2_files hS
          rw [HCb.out.1, HWn.out] at q
          exact q)
        have HFc : Hid (∀ v, S2 w v b c A8 B8 P' Q8 → Calls Try.prog 13 #[.pointer (some ⟨c, 0, none⟩)] v fun e v' => ∃ a c, e = .returned (.slice a wn c) ∧ Fw v' a L (Un Q8 P') ∧ v.grownBy v' none) := hid (fun v hS => by
          have q := s2_files hS.swap
          rw [HCc.out.1, HWn.out] at q
          exact q)
        have HOb : Hid (∀ v, S2 w v b c A8 B8 P' Q8 → Calls Try.prog 16 #[.pointer (some ⟨b, 0, none⟩)] v fun e v' => e = .returned (.bool false) ∧ v.grownBy v' none) := hid (fun v hS => by
          have q := off_p hS.x.dk
          rw [HOf.out] at q
          exact q)
        clear HA8 HB8 HL HSS HRm HBd HWn HwB
        go_upto_region 19 with (first
          | (go_at_call 9; (with_reducible refine (HNu.out _ _).mono ?_); rintro e w5 ⟨rfl, hw5⟩; have hw5' := hw5.symm; clear hw5; subst hw5')
          | (go_at_call 16; (with_reducible refine (HOb.out _ HS8.out).mono ?_); rintro e v9 ⟨rfl, hg⟩; have HS9 := hid (HS8.out.keep hg); clear hg)
          | (go_at_call 13; (with_reducible refine (HFc.out _ HS9.out).mono ?_); rintro e v10 ⟨a10, c10, rfl, hF, hg⟩; have HY10 := hid hF; have HS10 := hid (HS9.out.keep hg); clear hF hg)
          | (go_at_call 13; (with_reducible refine (HFb.out _ HS10.out).mono ?_); rintro e v11 ⟨a11, c11, rfl, hF, hg⟩; have HY11 := hid hF; have HY10' := hid (HY10.out.keep hg); have HS11 := hid (HS10.out.keep hg); clear hF hg)
          | (go_at_call 17; (with_reducible refine (HQ.out _ _ _ _ _ _ _ HY10'.out HY11.out).mono ?_); rintro e v12 ⟨rfl, hg⟩; have HS12 := hid (HS11.out.keep hg); clear hg))
        clear HS8 HS9 HS10 HS11 HY10 HY10' HY11 HFb HFc HOb HQ HOf
        go_upto_region 21 with fail
        have HS0 : Hid (∃ A1 B1 P1 Q1, S2 w v12 b c A1 B1 P1 Q1 ∧ Alike A1 B1 ∧ A1.wr ≤ 100000 + ((0 : Nat) : Int) ∧ B1.wr ≤ ((0 : Nat) : Int)) := hid ⟨A8, B8, P', Q8, HS12.out, HAl.out, by have := HCb.out.2; omega, by have := HCc.out.2; omega⟩
        clear HS12 HAl HCb HCc
        go_loopw [22, 21] (fun iv sv wr => ∃ i z : Nat, iv = .int .i64 i ∧ sv = .int .i64 z ∧ i ≤ ln ∧ i ≤ 60 ∧ z ≤ 262144 ∧ Hid (∃ A1 B1 P1 Q1, S2 w wr b c A1 B1 P1 Q1 ∧ Alike A1 B1 ∧ A1.wr ≤ 100000 + (i : Int) ∧ B1.wr ≤ (i : Int))) (fun iv _ _ => ln - (intOf iv).toNat)
        case atStart => exact ⟨0, 0, rfl, rfl, by omega, by omega, by omega, HS0⟩
        case round =>
          obtain ⟨j, z, rfl, rfl, hj, hj6, hz, HP2⟩ := hrel
          obtain ⟨x0, hx0⟩ : ∃ x : World, x = wr := ⟨_, rfl⟩
          rw [← hx0] at HP2 ⊢
          clear hx0 HS0
          obtain ⟨A1, HP3⟩ : ∃ A1, Hid (∃ B1 P1 Q1, S2 w x0 b c A1 B1 P1 Q1 ∧ Alike A1 B1 ∧ A1.wr ≤ 100000 + (j : Int) ∧ B1.wr ≤ (j : Int)) := ⟨HP2.out.choose, hid HP2.out.choose_spec⟩
          obtain ⟨B1, HP4⟩ : ∃ B1, Hid (∃ P1 Q1, S2 w x0 b c A1 B1 P1 Q1 ∧ Alike A1 B1 ∧ A1.wr ≤ 100000 + (j : Int) ∧ B1.wr ≤ (j : Int)) := ⟨HP3.out.choose, hid HP3.out.choose_spec⟩
          obtain ⟨P1, HP5⟩ : ∃ P1, Hid (∃ Q1, S2 w x0 b c A1 B1 P1 Q1 ∧ Alike A1 B1 ∧ A1.wr ≤ 100000 + (j : Int) ∧ B1.wr ≤ (j : Int)) := ⟨HP4.out.choose, hid HP4.out.choose_spec⟩
          obtain ⟨Q1, HP6⟩ : ∃ Q1, Hid (S2 w x0 b c A1 B1 P1 Q1 ∧ Alike A1 B1 ∧ A1.wr ≤ 100000 + (j : Int) ∧ B1.wr ≤ (j : Int)) := ⟨HP5.out.choose, hid HP5.out.choose_spec⟩
          clear HP2 HP3 HP4 HP5
          have HG0 := hid HP6.out.1.x.gr
          by_cases hjl : j < ln
          · have hjl' : (j : Int) < (ln : Int) := by omega
            by_cases h60 : j < 60
            · as_aux_lemma =>
              have h60' : (j : Int) < 60 := by omega
              obtain ⟨rfl, hgl, -⟩ := (HA'.out x0 HG0.out).at_ (by omega)
              have HI := hid (HIw.out j hjl)
              have HE : Hid (∀ v, w.grownBy v none → v.rangeAt lg (lo + j * 8) (T j).cells) := hid (fun v hv => ((HA'.out v hv).each j hjl).1)
              obtain ⟨o, Ho⟩ : ∃ o, Hid (T j = o) := ⟨_, hid rfl⟩
              rw [Ho.out] at HI HE
              clear Ho
              have HSz := hid (opSize_any x0 o F (HI.out.keep HG0.out))
              have HE0 := hid (HE.out x0 HG0.out)
              go_upto_region 24 with (first
                | (with_reducible refine wpList_load_part (by with_unfolding_all rfl) 36 _ (by with_unfolding_all rfl) lg (lo + j * 8) o.cells _ (by with_unfolding_all rfl) HE0.out Try.underlying36 (by with_unfolding_all rfl) (by with_unfolding_all exact Try.size36) ?_)
                | (go_at_call 12; (with_reducible refine HSz.out.mono ?_); rintro e x1 ⟨⟨zz, rfl, hzb, hzl⟩, hg⟩; have HU1 := hid hg; clear hg hzb))
              obtain ⟨y, hy⟩ : ∃ y : Nat, z + zz = y := ⟨_, rfl⟩
              have hwr : (z : Int) + (zz : Int) = (y : Int) := by omega
              have hyl : y ≤ 562949953421312 := by omega
              rw [hwr]
              clear hwr hy hzl
              by_cases hbr : 262144 < y
              · as_aux_lemma =>
                have hbr' : (262144 : Int) < (y : Int) := by omega
                go_wp2_with fail
                go_ret
                exact ⟨rfl, gtrans HG0.out HU1.out⟩
              have hbr' : ¬ (262144 : Int) < (y : Int) := by omega
              have HS1 := hid (HP6.out.1.keep HU1.out)
              have HE1 := hid (HE.out x1 HS1.out.x.gr)
              have HDc := hid (s2_do HS1.out.swap F HI.out HI.out.bl (by have := HP6.out.2.2.2; omega))
              have HSt := hid (alike_step (o := o) HP6.out.2.1)
              obtain ⟨E, HEE⟩ : ∃ x, Hid (B1.doE o = x) := ⟨_, hid rfl⟩
              rw [HEE.out] at HDc HSt
              obtain ⟨D, hD⟩ : ∃ x, o.isDo = x := ⟨_, rfl⟩
              rw [hD] at HDc
              obtain ⟨A2, HA2⟩ : ∃ x, Hid (A1.doA o = x) := ⟨_, hid rfl⟩
              obtain ⟨B2, HB2⟩ : ∃ x, Hid (B1.doA o = x) := ⟨_, hid rfl⟩
              rw [HB2.out] at HDc
              rw [HA2.out, HB2.out] at HSt
              go_upto_region 26 with (first
                | (with_reducible refine wpList_load_part (by with_unfolding_all rfl) 36 _ (by with_unfolding_all rfl) lg (lo + j * 8) o.cells _ (by with_unfolding_all rfl) HE1.out Try.underlying36 (by with_unfolding_all rfl) (by with_unfolding_all exact Try.size36) ?_)
                | (go_at_call 15; (with_reducible refine HDc.out.mono ?_); rintro e x2 ⟨Q2, rfl, hs, -⟩; have HS2 := hid hs.swap; clear hs))
              have HE2 := hid (HE.out x2 HS2.out.x.gr)
              have HDb := hid (s2_do HS2.out F HI.out HI.out.bl (by have := HP6.out.2.2.1; omega))
              rw [HSt.out.1, hD, HA2.out] at HDb
              clear HDc HE1 HSz HE0
              go_upto_region 27 with (first
                | (with_reducible refine wpList_load_part (by with_unfolding_all rfl) 36 _ (by with_unfolding_all rfl) lg (lo + j * 8) o.cells _ (by with_unfolding_all rfl) HE2.out Try.underlying36 (by with_unfolding_all rfl) (by with_unfolding_all exact Try.size36) ?_)
                | (go_at_call 15; (with_reducible refine HDb.out.mono ?_); rintro e x3 ⟨P3, rfl, hs, -⟩; have HS3 := hid hs; clear hs))
              clear HDb HE2 HS2 HE
              obtain ⟨M, HM⟩ : ∃ x, Hid (srtC A2.C = x) := ⟨_, hid rfl⟩
              have HM' : Hid (srtC B2.C = M) := hid (by rw [← HM.out]; exact HSt.out.2.lk.srt.symm)
              obtain ⟨mn, HMn⟩ : ∃ x, Hid (M.length = x) := ⟨_, hid rfl⟩
              have HBd : Hid (M.length ≤ 64 ∧ ∀ p ∈ M, p.2.length ≤ 268435456) := hid (by rw [← HM.out]; exact sd_bnd HS3.out.x)
              have HFb : Hid (∀ v, S2 w v b c A2 B2 P3 Q2 → Calls Try.prog 13 #[.pointer (some ⟨b, 0, none⟩)] v fun e v' => ∃ a c, e = .returned (.slice a mn c) ∧ Fw v' a M (Un P3 Q2) ∧ v.grownBy v' none) := hid (fun v hS => by
                have q := s2_files hS
                rw [HM.out, HMn.out] at q
                exact q)
              have HFc : Hid (∀ v, S2 w v b c A2 B2 P3 Q2 → Calls Try.prog 13 #[.pointer (some ⟨c, 0, none⟩)] v fun e v' => ∃ a c, e = .returned (.slice a mn c) ∧ Fw v' a M (Un Q2 P3) ∧ v.grownBy v' none) := hid (fun v hS => by
                have q := s2_files hS.swap
                rw [HM'.out, HMn.out] at q
                exact q)
              have HQ2 : Hid (∀ v a a' c c' P P', Fw v a M P → Fw v a' M P' → Calls Try.prog 17 #[.slice a mn c, .slice a' mn c'] v fun e v' => e = .returned (.bool true) ∧ v.grownBy v' none) := hid (fun v a a' c c' P P' h1 h2 => by
                have q := fw_eq h1 h2 c c' (by have := HBd.out.1; omega) (fun p hp => by have := HBd.out.2 p hp; omega)
                rw [HMn.out] at q
                exact q)
              have HW : Hid (A2.wr ≤ 100000 + ((j + 1 : Nat) : Int) ∧ B2.wr ≤ ((j + 1 : Nat) : Int)) := hid (by
                have q1 := (HP6.out.2.1.a.doA (o := o)).2.2.1
                have q2 := (HP6.out.2.1.b.doA (o := o)).2.2.1
                rw [HA2.out] at q1
                rw [HB2.out] at q2
                have q3 := HP6.out.2.2.1
                have q4 := HP6.out.2.2.2
                omega)
              have HAk := hid HSt.out.2
              clear HM HM' HMn HBd HSt HEE HA2 HB2 hD HS1 HP6
              go_wp2_with (first
                | (go_at_call 13; (with_reducible refine (HFc.out _ HS3.out).mono ?_); rintro e x4 ⟨a4, c4, rfl, hF, hg⟩; have HY4 := hid hF; have HS4 := hid (HS3.out.keep hg); clear hF hg)
                | (go_at_call 13; (with_reducible refine (HFb.out _ HS4.out).mono ?_); rintro e x5 ⟨a5, c5, rfl, hF, hg⟩; have HY5 := hid hF; have HY4' := hid (HY4.out.keep hg); have HS5 := hid (HS4.out.keep hg); clear hF hg)
                | (go_at_call 17; (with_reducible refine (HQ2.out _ _ _ _ _ _ _ HY4'.out HY5.out).mono ?_); rintro e x6 ⟨rfl, hg⟩; have HS6 := hid (HS5.out.keep hg); clear hg))
              go_roundw
              case rel => exact ⟨j + 1, y, by go_num, rfl, by omega, by omega, by omega, hid ⟨A2, B2, P3, Q2, HS6.out, HAk.out, HW.out.1, HW.out.2⟩⟩
              case measure => simp [intOf]; omega
            · as_aux_lemma =>
              have h60' : ¬ (j : Int) < 60 := by omega
              go_wp2_with fail
              go_ret
              exact ⟨rfl, HG0.out⟩
          · as_aux_lemma =>
            have hjl' : ¬ (j : Int) < (ln : Int) := by omega
            go_wp2_with fail
            go_ret
            exact ⟨rfl, HG0.out⟩
    · have hlt' : ¬ (i : Int) < (ln : Int) := by omega
      as_aux_lemma =>
      have HX0 := hid HP'.out.1
      have HF0 := hid HP'.out.2
      clear HP' HDo HEnd
      have HA' := HA
      go_upto_region 12 with (first
        | (go_at_call 30; (with_reducible refine (HRe.out _ _ HX0.out).mono ?_); rintro e v1 ⟨x1, rfl, hg⟩; have HX1 := hid (HX0.out.keep hg); have HF1 := hid (HF0.out.keep hg); clear hg)
        | (go_at_call 27; (with_reducible refine (HSi.out _ _ HX1.out).mono ?_); rintro e v2 ⟨rfl, hg⟩; have HX2 := hid (HX1.out.keep hg); have HF2 := hid (HF1.out.keep hg); clear hg)
        | (go_at_call 40; (with_reducible refine (HNa.out _ _ HX2.out).mono ?_); rintro e v3 ⟨rfl, hg⟩; have HX3 := hid (HX2.out.keep hg); have HF3 := hid (HF2.out.keep hg); clear hg))
      clear HX0 HF0 HX1 HF1 HX2 HF2 HRe HSi HNa
      go_upto_region 15 with (first
        | (go_at_call 9; (with_reducible refine (HNu.out _ _).mono ?_); rintro e w5 ⟨rfl, hw5⟩; have hw5' := hw5.symm; clear hw5; subst hw5')
        | (go_at_call 14; (with_reducible refine (HWr.out _ _ HX3.out).mono ?_); rintro e v4 ⟨rfl, hg⟩; have HX4 := hid (HX3.out.keep hg); have HF4 := hid (HF3.out.keep hg); clear hg)
        | (go_at_call 13; (with_reducible refine (HFl.out _ _ HX4.out).mono ?_); rintro e v5 ⟨a5, c5, rfl, hF, hg⟩; have HY5 := hid hF; have HX5 := hid (HX4.out.keep hg); have HF5 := hid (HF4.out.keep hg); clear hF hg)
        | (go_at_call 17; (with_reducible refine (HQ.out _ _ _ _ _ _ _ HY5.out HF5.out).mono ?_); rintro e v6 ⟨rfl, hg⟩; have HX6 := hid (HX5.out.keep hg); have HF6 := hid (HF5.out.keep hg); clear hg))
      clear HX3 HF3 HX4 HF4 HX5 HF5 HY5 HWr HFl
      go_upto_region 17 with (first
        | (go_at_call 29; (with_reducible refine (HOn.out _ _ HX6.out).mono ?_); rintro e v7 ⟨rfl, hs, hf⟩; have HX7 := hid hs; have HF7 := hid (hf _ _ HF6.out); clear hs hf)
        | (go_at_call 24; (with_reducible refine (HLd.out _ _ _ _ _ HX7.out HF7.out).mono ?_); rintro e v8 ⟨c, rfl, hg, hq⟩; have HZ8 := hid hq; clear hg hq))
      clear HX6 HF6 HX7 HF7 HOn HLd
      obtain ⟨Q8, HS8⟩ : ∃ Q8, Hid (S2 w v8 b c A.on ⟨A.room, false, 0, 0, 0, srtC A.C⟩ P' Q8) := ⟨HZ8.out.choose, hid HZ8.out.choose_spec⟩
      clear HZ8
      obtain ⟨A8, HA8⟩ : ∃ x, Hid (A.on = x) := ⟨_, hid rfl⟩
      obtain ⟨B8, HB8⟩ : ∃ x, Hid (Ab.mk A.room false 0 0 0 (srtC A.C) = x) := ⟨_, hid rfl⟩
      have HCb : Hid (srtC A8.C = L ∧ A8.wr ≤ 100000) := hid ⟨by rw [← HA8.out]; exact HL.out, by rw [← HA8.out]; exact HwB.out.2⟩
      have HCc : Hid (srtC B8.C = L ∧ B8.wr ≤ 0) := hid ⟨by rw [← HB8.out]; exact HSS.out, by rw [← HB8.out]; exact Int.le_refl _⟩
      have HOf : Hid (A8.off = false) := hid (by rw [← HA8.out]; rfl)
      rw [HA8.out, HB8.out] at HS8 HAl
      have HFb : Hid (∀ v, S2 w v b c A8 B8 P' Q8 → Calls Try.prog 13 #[.pointer (some ⟨b, 0, none⟩)] v fun e v' => ∃ a c, e = .returned (.slice a wn c) ∧ Fw v' a L (Un P' Q8) ∧ v.grownBy v' none) := hid (fun v hS => by
        have q := s2_files hS
        rw [HCb.out.1, HWn.out] at q
        exact q)
      have HFc : Hid (∀ v, S2 w v b c A8 B8 P' Q8 → Calls Try.prog 13 #[.pointer (some ⟨c, 0, none⟩)] v fun e v' => ∃ a c, e = .returned (.slice a wn c) ∧ Fw v' a L (Un Q8 P') ∧ v.grownBy v' none) := hid (fun v hS => by
        have q := s2_files hS.swap
        rw [HCc.out.1, HWn.out] at q
        exact q)
      have HOb : Hid (∀ v, S2 w v b c A8 B8 P' Q8 → Calls Try.prog 16 #[.pointer (some ⟨b, 0, none⟩)] v fun e v' => e = .returned (.bool false) ∧ v.grownBy v' none) := hid (fun v hS => by
        have q := off_p hS.x.dk
        rw [HOf.out] at q
        exact q)
      clear HA8 HB8 HL HSS HRm HBd HWn HwB
      go_upto_region 19 with (first
        | (go_at_call 9; (with_reducible refine (HNu.out _ _).mono ?_); rintro e w5 ⟨rfl, hw5⟩; have hw5' := hw5.symm; clear hw5; subst hw5')
        | (go_at_call 16; (with_reducible refine (HOb.out _ HS8.out).mono ?_); rintro e v9 ⟨rfl, hg⟩; have HS9 := hid (HS8.out.keep hg); clear hg)
        | (go_at_call 13; (with_reducible refine (HFc.out _ HS9.out).mono ?_); rintro e v10 ⟨a10, c10, rfl, hF, hg⟩; have HY10 := hid hF; have HS10 := hid (HS9.out.keep hg); clear hF hg)
        | (go_at_call 13; (with_reducible refine (HFb.out _ HS10.out).mono ?_); rintro e v11 ⟨a11, c11, rfl, hF, hg⟩; have HY11 := hid hF; have HY10' := hid (HY10.out.keep hg); have HS11 := hid (HS10.out.keep hg); clear hF hg)
        | (go_at_call 17; (with_reducible refine (HQ.out _ _ _ _ _ _ _ HY10'.out HY11.out).mono ?_); rintro e v12 ⟨rfl, hg⟩; have HS12 := hid (HS11.out.keep hg); clear hg))
      clear HS8 HS9 HS10 HS11 HY10 HY10' HY11 HFb HFc HOb HQ HOf
      go_upto_region 21 with fail
      have HS0 : Hid (∃ A1 B1 P1 Q1, S2 w v12 b c A1 B1 P1 Q1 ∧ Alike A1 B1 ∧ A1.wr ≤ 100000 + ((0 : Nat) : Int) ∧ B1.wr ≤ ((0 : Nat) : Int)) := hid ⟨A8, B8, P', Q8, HS12.out, HAl.out, by have := HCb.out.2; omega, by have := HCc.out.2; omega⟩
      clear HS12 HAl HCb HCc
      go_loopw [22, 21] (fun iv sv wr => ∃ i z : Nat, iv = .int .i64 i ∧ sv = .int .i64 z ∧ i ≤ ln ∧ i ≤ 60 ∧ z ≤ 262144 ∧ Hid (∃ A1 B1 P1 Q1, S2 w wr b c A1 B1 P1 Q1 ∧ Alike A1 B1 ∧ A1.wr ≤ 100000 + (i : Int) ∧ B1.wr ≤ (i : Int))) (fun iv _ _ => ln - (intOf iv).toNat)
      case atStart => exact ⟨0, 0, rfl, rfl, by omega, by omega, by omega, HS0⟩
      case round =>
        obtain ⟨j, z, rfl, rfl, hj, hj6, hz, HP2⟩ := hrel
        obtain ⟨x0, hx0⟩ : ∃ x : World, x = wr := ⟨_, rfl⟩
        rw [← hx0] at HP2 ⊢
        clear hx0 HS0
        obtain ⟨A1, HP3⟩ : ∃ A1, Hid (∃ B1 P1 Q1, S2 w x0 b c A1 B1 P1 Q1 ∧ Alike A1 B1 ∧ A1.wr ≤ 100000 + (j : Int) ∧ B1.wr ≤ (j : Int)) := ⟨HP2.out.choose, hid HP2.out.choose_spec⟩
        obtain ⟨B1, HP4⟩ : ∃ B1, Hid (∃ P1 Q1, S2 w x0 b c A1 B1 P1 Q1 ∧ Alike A1 B1 ∧ A1.wr ≤ 100000 + (j : Int) ∧ B1.wr ≤ (j : Int)) := ⟨HP3.out.choose, hid HP3.out.choose_spec⟩
        obtain ⟨P1, HP5⟩ : ∃ P1, Hid (∃ Q1, S2 w x0 b c A1 B1 P1 Q1 ∧ Alike A1 B1 ∧ A1.wr ≤ 100000 + (j : Int) ∧ B1.wr ≤ (j : Int)) := ⟨HP4.out.choose, hid HP4.out.choose_spec⟩
        obtain ⟨Q1, HP6⟩ : ∃ Q1, Hid (S2 w x0 b c A1 B1 P1 Q1 ∧ Alike A1 B1 ∧ A1.wr ≤ 100000 + (j : Int) ∧ B1.wr ≤ (j : Int)) := ⟨HP5.out.choose, hid HP5.out.choose_spec⟩
        clear HP2 HP3 HP4 HP5
        have HG0 := hid HP6.out.1.x.gr
        by_cases hjl : j < ln
        · have hjl' : (j : Int) < (ln : Int) := by omega
          by_cases h60 : j < 60
          · as_aux_lemma =>
            have h60' : (j : Int) < 60 := by omega
            obtain ⟨rfl, hgl, -⟩ := (HA'.out x0 HG0.out).at_ (by omega)
            have HI := hid (HIw.out j hjl)
            have HE : Hid (∀ v, w.grownBy v none → v.rangeAt lg (lo + j * 8) (T j).cells) := hid (fun v hv => ((HA'.out v hv).each j hjl).1)
            obtain ⟨o, Ho⟩ : ∃ o, Hid (T j = o) := ⟨_, hid rfl⟩
            rw [Ho.out] at HI HE
            clear Ho
            have HSz := hid (opSize_any x0 o F (HI.out.keep HG0.out))
            have HE0 := hid (HE.out x0 HG0.out)
            go_upto_region 24 with (first
              | (with_reducible refine wpList_load_part (by with_unfolding_all rfl) 36 _ (by with_unfolding_all rfl) lg (lo + j * 8) o.cells _ (by with_unfolding_all rfl) HE0.out Try.underlying36 (by with_unfolding_all rfl) (by with_unfolding_all exact Try.size36) ?_)
              | (go_at_call 12; (with_reducible refine HSz.out.mono ?_); rintro e x1 ⟨⟨zz, rfl, hzb, hzl⟩, hg⟩; have HU1 := hid hg; clear hg hzb))
            obtain ⟨y, hy⟩ : ∃ y : Nat, z + zz = y := ⟨_, rfl⟩
            have hwr : (z : Int) + (zz : Int) = (y : Int) := by omega
            have hyl : y ≤ 562949953421312 := by omega
            rw [hwr]
            clear hwr hy hzl
            by_cases hbr : 262144 < y
            · as_aux_lemma =>
              have hbr' : (262144 : Int) < (y : Int) := by omega
              go_wp2_with fail
              go_ret
              exact ⟨rfl, gtrans HG0.out HU1.out⟩
            have hbr' : ¬ (262144 : Int) < (y : Int) := by omega
            have HS1 := hid (HP6.out.1.keep HU1.out)
            have HE1 := hid (HE.out x1 HS1.out.x.gr)
            have HDc := hid (s2_do HS1.out.swap F HI.out HI.out.bl (by have := HP6.out.2.2.2; omega))
            have HSt := hid (alike_step (o := o) HP6.out.2.1)
            obtain ⟨E, HEE⟩ : ∃ x, Hid (B1.doE o = x) := ⟨_, hid rfl⟩
            rw [HEE.out] at HDc HSt
            obtain ⟨D, hD⟩ : ∃ x, o.isDo = x := ⟨_, rfl⟩
            rw [hD] at HDc
            obtain ⟨A2, HA2⟩ : ∃ x, Hid (A1.doA o = x) := ⟨_, hid rfl⟩
            obtain ⟨B2, HB2⟩ : ∃ x, Hid (B1.doA o = x) := ⟨_, hid rfl⟩
            rw [HB2.out] at HDc
            rw [HA2.out, HB2.out] at HSt
            go_upto_region 26 with (first
              | (with_reducible refine wpList_load_part (by with_unfolding_all rfl) 36 _ (by with_unfolding_all rfl) lg (lo + j * 8) o.cells _ (by with_unfolding_all rfl) HE1.out Try.underlying36 (by with_unfolding_all rfl) (by with_unfolding_all exact Try.size36) ?_)
              | (go_at_call 15; (with_reducible refine HDc.out.mono ?_); rintro e x2 ⟨Q2, rfl, hs, -⟩; have HS2 := hid hs.swap; clear hs))
            have HE2 := hid (HE.out x2 HS2.out.x.gr)
            have HDb := hid (s2_do HS2.out F HI.out HI.out.bl (by have := HP6.out.2.2.1; omega))
            rw [HSt.out.1, hD, HA2.out] at HDb
            clear HDc HE1 HSz HE0
            go_upto_region 27 with (first
              | (with_reducible refine wpList_load_part (by with_unfolding_all rfl) 36 _ (by with_unfolding_all rfl) lg (lo + j * 8) o.cells _ (by with_unfolding_all rfl) HE2.out Try.underlying36 (by with_unfolding_all rfl) (by with_unfolding_all exact Try.size36) ?_)
              | (go_at_call 15; (with_reducible refine HDb.out.mono ?_); rintro e x3 ⟨P3, rfl, hs, -⟩; have HS3 := hid hs; clear hs))
            clear HDb HE2 HS2 HE
            obtain ⟨M, HM⟩ : ∃ x, Hid (srtC A2.C = x) := ⟨_, hid rfl⟩
            have HM' : Hid (srtC B2.C = M) := hid (by rw [← HM.out]; exact HSt.out.2.lk.srt.symm)
            obtain ⟨mn, HMn⟩ : ∃ x, Hid (M.length = x) := ⟨_, hid rfl⟩
            have HBd : Hid (M.length ≤ 64 ∧ ∀ p ∈ M, p.2.length ≤ 268435456) := hid (by rw [← HM.out]; exact sd_bnd HS3.out.x)
            have HFb : Hid (∀ v, S2 w v b c A2 B2 P3 Q2 → Calls Try.prog 13 #[.pointer (some ⟨b, 0, none⟩)] v fun e v' => ∃ a c, e = .returned (.slice a mn c) ∧ Fw v' a M (Un P3 Q2) ∧ v.grownBy v' none) := hid (fun v hS => by
              have q := s2_files hS
              rw [HM.out, HMn.out] at q
              exact q)
            have HFc : Hid (∀ v, S2 w v b c A2 B2 P3 Q2 → Calls Try.prog 13 #[.pointer (some ⟨c, 0, none⟩)] v fun e v' => ∃ a c, e = .returned (.slice a mn c) ∧ Fw v' a M (Un Q2 P3) ∧ v.grownBy v' none) := hid (fun v hS => by
              have q := s2_files hS.swap
              rw [HM'.out, HMn.out] at q
              exact q)
            have HQ2 : Hid (∀ v a a' c c' P P', Fw v a M P → Fw v a' M P' → Calls Try.prog 17 #[.slice a mn c, .slice a' mn c'] v fun e v' => e = .returned (.bool true) ∧ v.grownBy v' none) := hid (fun v a a' c c' P P' h1 h2 => by
              have q := fw_eq h1 h2 c c' (by have := HBd.out.1; omega) (fun p hp => by have := HBd.out.2 p hp; omega)
              rw [HMn.out] at q
              exact q)
            have HW : Hid (A2.wr ≤ 100000 + ((j + 1 : Nat) : Int) ∧ B2.wr ≤ ((j + 1 : Nat) : Int)) := hid (by
              have q1 := (HP6.out.2.1.a.doA (o := o)).2.2.1
              have q2 := (HP6.out.2.1.b.doA (o := o)).2.2.1
              rw [HA2.out] at q1
              rw [HB2.out] at q2
              have q3 := HP6.out.2.2.1
              have q4 := HP6.out.2.2.2
              omega)
            have HAk := hid HSt.out.2
            clear HM HM' HMn HBd HSt HEE HA2 HB2 hD HS1 HP6
            go_wp2_with (first
              | (go_at_call 13; (with_reducible refine (HFc.out _ HS3.out).mono ?_); rintro e x4 ⟨a4, c4, rfl, hF, hg⟩; have HY4 := hid hF; have HS4 := hid (HS3.out.keep hg); clear hF hg)
              | (go_at_call 13; (with_reducible refine (HFb.out _ HS4.out).mono ?_); rintro e x5 ⟨a5, c5, rfl, hF, hg⟩; have HY5 := hid hF; have HY4' := hid (HY4.out.keep hg); have HS5 := hid (HS4.out.keep hg); clear hF hg)
              | (go_at_call 17; (with_reducible refine (HQ2.out _ _ _ _ _ _ _ HY4'.out HY5.out).mono ?_); rintro e x6 ⟨rfl, hg⟩; have HS6 := hid (HS5.out.keep hg); clear hg))
            go_roundw
            case rel => exact ⟨j + 1, y, by go_num, rfl, by omega, by omega, by omega, hid ⟨A2, B2, P3, Q2, HS6.out, HAk.out, HW.out.1, HW.out.2⟩⟩
            case measure => simp [intOf]; omega
          · as_aux_lemma =>
            have h60' : ¬ (j : Int) < 60 := by omega
            go_wp2_with fail
            go_ret
            exact ⟨rfl, HG0.out⟩
        · as_aux_lemma =>
          have hjl' : ¬ (j : Int) < (ln : Int) := by omega
          go_wp2_with fail
          go_ret
          exact ⟨rfl, HG0.out⟩
end Go.Proofs.Ytlgjmdianmijeaa
