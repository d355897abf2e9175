/- DiskOrder's walk. -/
import Derived.Test.YtlgjmdianmijeabOe
import Derived.BigRegion
namespace Go.Proofs.Ytlgjmdianmijeab
open Go Go.RowKit Go.MapKept Go.MuLone
open Go.RowKit (wrap32 wrap64)

theorem built28 (a : Option Addr) (n c : Nat) : Try.prog.built 28 [(7, .slice a n c)] = some [Value.int .i64 0, .int .i64 0, .string ⟨#[]⟩, .string ⟨#[]⟩, .slice none 0 0, .int .i64 0, .int .i64 0, .slice a n c].toArray := by kernel_rfl
set_option maxRecDepth 100000 in
set_option maxHeartbeats 16000000 in
theorem order_walk (w : World) (F : Nat → Prop) (fa : Option Addr) (g off fc : Nat) (L : Cn) (tv rm : Int) (hA : ArF w F fa g off L) (hL : L.length ≤ 140737488355328) (hb : ∀ p ∈ L, p.2.length ≤ 140737488355328) :
    Calls Try.prog 3 #[.agg [Value.slice fa L.length fc, .int .i64 tv, .int .i64 rm].toArray] w fun e w' => e = .returned (.bool true) ∧ w.grownBy w' none := by
  have HA : Hid (∀ u, w.grownBy u none → ArF u F fa g off L) := hid (fun u hu => hA.keep hu)
  have HBl := hid hb
  have HWk := hid works_any
  have HNu : Hid (∀ (E : Int) (u : World), Calls Try.prog 9 #[.int .i64 E] u fun e w' => e = .returned (.int .i64 E) ∧ w' = u) := hid num_any
  have HSz : Hid (∀ u, w.grownBy u none → Calls Try.prog 4 #[.agg [Value.int .i64 0, .int .i64 0, .string ⟨#[]⟩, .string ⟨#[]⟩, .slice none 0 0, .int .i64 0, .int .i64 0, .slice fa L.length fc].toArray] u fun e w' => (∃ z : Nat, e = .returned (.int .i64 z) ∧ z ≤ 281474976710656) ∧ u.grownBy w' none) := hid (fun u hu => (opSize_any u ⟨0, 0, ⟨#[]⟩, ⟨#[]⟩, none, 0, 0, [], 0, 0, fa, L.length, fc, L⟩ F ⟨Rd.nil _ _, ⟨rfl, g, off, HA.out u hu⟩, Nat.zero_le _, hb, hL⟩).mono fun e w' ⟨⟨z, q1, _, q2⟩, q3⟩ => ⟨⟨z, q1, q2⟩, q3⟩)
  obtain ⟨n, HN⟩ : ∃ n, Hid (L.length = n) := ⟨_, hid rfl⟩
  rw [HN.out] at HSz ⊢
  clear hA hb hL
  by_cases h200 : 200 < n
  · as_aux_lemma =>
    have h200' : (200 : Int) < (n : Int) := by omega
    go_enter Try.func3, Try.ntmps3
    go_wp2_with (first
      | ((with_reducible refine wpList_box_row (by with_unfolding_all rfl) 24 _ (by with_unfolding_all rfl) [.slice fa n fc, .int .i64 tv, .int .i64 rm] (by with_unfolding_all rfl) ?_); intro w1 B1 s1 g1; have HG1 := hid g1; have c0 := B1.cell 0; clear B1 s1 g1)
      | (go_at_call 5; (with_reducible refine (HWk.out _).mono ?_); rintro e v4 ⟨rfl, hg⟩; have HG4 := hid hg; clear hg))
    go_ret
    exact ⟨rfl, gtrans HG1.out HG4.out⟩
  have h200' : ¬ (200 : Int) < (n : Int) := by omega
  go_enter Try.func3, Try.ntmps3
  go_upto_region 1 with ((with_reducible refine wpList_box_row (by with_unfolding_all rfl) 24 _ (by with_unfolding_all rfl) [.slice fa n fc, .int .i64 tv, .int .i64 rm] (by with_unfolding_all rfl) ?_); intro w1 B1 s1 g1; have HB1' := hid B1; have HG1 := hid g1; clear B1 s1 g1)
  obtain ⟨p1, hp1⟩ : ∃ x, w.heap.size = x := ⟨_, rfl⟩
  rw [hp1] at HB1' ⊢
  have HB1 : Hid (Blk w1 p1 [.slice fa n fc, .int .i64 tv, .int .i64 rm] 24) := hid HB1'.out
  clear hp1 HB1'
  have c0 := HB1.out.cell 0
  have HSz1 := hid (HSz.out w1 HG1.out)
  go_upto_region 3 with (first
    | (with_reducible refine wpList_build_of (by with_unfolding_all rfl) 28 _ (by with_unfolding_all rfl) [(7, .slice fa n fc)] (by with_unfolding_all rfl) [Value.int .i64 0, .int .i64 0, .string ⟨#[]⟩, .string ⟨#[]⟩, .slice none 0 0, .int .i64 0, .int .i64 0, .slice fa n fc] (built28 fa n fc) ?_)
    | (go_at_call 4; (with_reducible refine HSz1.out.mono ?_); rintro e v2 ⟨⟨z, rfl, hz⟩, hg⟩; have HG2 := hid hg; clear hg)
    | (go_at_call 5; (with_reducible refine (HWk.out _).mono ?_); rintro e v4 ⟨rfl, hg⟩; have HG4 := hid hg; clear hg))
  rotate_left
  · go_ret
    exact ⟨rfl, gtrans HG1.out (gtrans HG2.out HG4.out)⟩
  have HG24 : Hid (w1.grownBy v4 none) := hid (gtrans HG2.out HG4.out)
  have c0 : v4.cell? ⟨p1, 0, none⟩ = some (.slice fa n fc) := (HB1.out.keep HG24.out).cell 0
  have HCf : Hid (Calls Try.prog 6 #[.slice fa n fc] v4 fun e w' => ∃ la lc E, e = .returned (.slice la n lc) ∧ OutF v4.heap.size w' (.slice la n lc) E ∧ cont E = L ∧ ApF E ∧ v4.grownBy w' none) := hid (by
    have q := copyFiles_any v4 F fa g off fc L (HA.out v4 (gtrans HG1.out HG24.out)) (by rw [HN.out]; omega) HBl.out
    rw [HN.out] at q
    refine q.mono fun e w' ⟨v, E, q1, q2, q3, q4, q5⟩ => ?_
    obtain ⟨la, lc, rfl⟩ := q2.len
    have hE : E.length = n := by rw [← len_cont, q3]; exact HN.out
    rw [hE] at q1 q2
    exact ⟨la, lc, E, q1, q2, q3, q4, q5⟩)
  clear HG2 HG4 HSz HSz1 HA hz
  go_upto_region 4 with (go_at_call 6; (with_reducible refine HCf.out.mono ?_); rintro e v5 ⟨la, lc, E, rfl, q2, q3, q4, q5⟩; have HOl := hid q2; have HCE := hid q3; have HAp := hid q4; have HG5 := hid q5; clear q2 q3 q4 q5)
  have HEn : Hid (E.length = n) := hid (by rw [← len_cont, HCE.out]; exact HN.out)
  clear HCf c0
  go_upto_region 6 with fail
  go_loopw [5, 4] (fun iv v wr => ∃ (i : Nat) (xa : Option Addr) (xc : Nat), iv = .int .i64 i ∧ v = .slice xa i xc ∧ i ≤ n ∧ Hid (OutF v4.heap.size wr (.slice la n lc) E ∧ OutF v4.heap.size wr (.slice xa i xc) ((E.drop (wit tv n) ++ E.take (wit tv n)).take i) ∧ (∀ k, (Value.slice la n lc).ownBlock = some k → (Value.slice xa i xc).ownBlock ≠ some k) ∧ v4.grownBy wr none)) (fun iv _ _ => n - (intOf iv).toNat)
  case atStart => exact ⟨0, none, 0, rfl, rfl, Nat.zero_le _, hid ⟨HOl.out, OutF.nil (World.ownsRow_nil _ _ _ _), (fun k _ e => by cases e), HG5.out⟩⟩
  case round =>
    obtain ⟨i, xa, xc, rfl, rfl, hi, HC⟩ := hrel
    obtain ⟨w0, hw0⟩ : ∃ x : World, x = wr := ⟨_, rfl⟩
    rw [← hw0] at HC ⊢
    clear hw0 HOl HG5
    have HGw : Hid (w1.grownBy w0 none) := hid (gtrans HG24.out HC.out.2.2.2)
    have c1 : w0.cell? ⟨p1, 1, none⟩ = some (.int .i64 tv) := (HB1.out.keep HGw.out).cell 1
    have c2 : w0.cell? ⟨p1, 2, none⟩ = some (.int .i64 rm) := (HB1.out.keep HGw.out).cell 2
    by_cases hlt : i < n
    · as_aux_lemma =>
      have hlt' : (i : Int) < (n : Int) := by omega
      have hn0 : ¬ (n : Int) = 0 := by omega
      obtain ⟨t, Ht⟩ : ∃ t, Hid (wit tv n = t) := ⟨_, hid rfl⟩
      have htn : t < n := by rw [← Ht.out]; exact wit_lt tv n (by omega)
      have HWi : Hid (Calls Try.prog 7 #[.int .i64 tv, .int .i64 n] w0 fun e w' => e = .returned (.int .i64 (t : Nat)) ∧ w' = w0) := hid (by rw [← Ht.out]; exact within_det tv n (by omega) (by omega) w0)
      rw [Ht.out] at HC
      obtain ⟨q, Hq⟩ : ∃ q, Hid ((i + t) % n = q) := ⟨_, hid rfl⟩
      have hqn : q < n := by rw [← Hq.out]; exact Nat.mod_lt _ (by omega)
      have hqn' : (q : Int) < (n : Int) := by omega
      have hq1 : ((i : Int) + (t : Int)).tmod (n : Int) = (q : Int) := by
        rw [← Hq.out, Int.tmod_eq_emod_of_nonneg (by omega)]
        push_cast
        rfl
      have hq2 : ((i : Int) + (t : Int)) % (n : Int) = (q : Int) := by
        rw [← Hq.out]
        push_cast
        rfl
      have hqE : q < E.length := by rw [HEn.out]; exact hqn
      obtain ⟨fl, Hf⟩ : ∃ x, Hid (E[q] = x) := ⟨_, hid rfl⟩
      have HOb : Hid (Out v4.heap.size w0 fl.v fl.bs) := hid (HC.out.1.own fl (by rw [← Hf.out]; exact List.getElem_mem _))
      obtain ⟨ga, gc', hfv⟩ := HOb.out.len
      obtain ⟨fb, Hfb⟩ : ∃ x, Hid (fl.bs.length = x) := ⟨_, hid rfl⟩
      obtain ⟨snm, Hsn⟩ : ∃ x, Hid (fl.nm = x) := ⟨_, hid rfl⟩
      rw [Hfb.out] at hfv
      obtain ⟨gl, rfl⟩ : ∃ gl, la = some ⟨gl, 0, none⟩ := by
        rcases HC.out.1.row.2 with ⟨h1, h2⟩ | ⟨g', cap, cur, h1, _⟩
        · injection h1 with _ h1 _
          omega
        · injection h1 with h1 _ _
          exact ⟨g', h1⟩
      have HR : Hid (w0.rangeAt gl (q * 2) [.string snm, .slice ga fb gc']) := hid (by
        obtain ⟨e1, cs, b1, b2, b3, _⟩ := HC.out.1.blk
        obtain ⟨r1, r2⟩ := fcs_get E q hqE
        rw [Hf.out] at r1 r2
        have hc : ∀ j x, j < n * 2 → (fcs E)[j]? = some x → w0.cell? ⟨gl, j, none⟩ = some x := fun j x hj hx => by
          rw [← b2, List.getElem?_take, if_pos hj] at hx
          exact (b1.cell j).trans hx
        refine two_range ?_ ?_
        · rw [← Hsn.out]; exact hc _ _ (by omega) r1
        · rw [← hfv]; exact hc _ _ (by omega) r2)
      clear c2
      go_wp2_with (first
        | (go_at_call 7; (with_reducible refine HWi.out.mono ?_); rintro e w3 ⟨rfl, hw3⟩; have hw3' := hw3.symm; clear hw3; subst hw3')
        | (with_reducible refine wpList_load_part (by with_unfolding_all rfl) 32 _ (by with_unfolding_all rfl) gl (q * 2) [.string snm, .slice ga fb gc'] _ (by with_unfolding_all rfl) HR.out Try.underlying32 (by with_unfolding_all rfl) (by with_unfolding_all exact Try.size32) ?_)
        | (at_builtin; (refine wpList_append_file rfl _ _ rfl v4.heap.size w0.heap.size _ snm (.slice ga fb gc') fl.bs (HC.out.2.1.keep (galloc w0 _ none)) rfl (Blk.new w0 [.string snm, .slice ga fb gc'] 32) (by have := HOb.out.keep (galloc w0 (.cells #[.string snm, .slice ga fb gc'] 32) none); rw [hfv] at this; exact this) (by rw [List.length_take]; omega) (by have := (gtrans HC.out.2.2.2 (galloc w0 (.cells #[.string snm, .slice ga fb gc'] 32) none)).size; exact this) ?_); intro v2 w2 hF2 hg2 hb2; have HF2 := hid hF2; have HG2 := hid hg2; have HB2 := hid hb2; clear hF2 hg2 hb2))
      have HRl : Hid (∃ (i' : Nat) (xa' : Option Addr) (xc' : Nat), Value.int .i64 ((i : Int) + 1) = .int .i64 i' ∧ v2 = .slice xa' i' xc' ∧ i' ≤ n ∧ Hid (OutF v4.heap.size w2 (.slice (some ⟨gl, 0, none⟩) n lc) E ∧ OutF v4.heap.size w2 (.slice xa' i' xc') ((E.drop (wit tv n) ++ E.take (wit tv n)).take i') ∧ (∀ k, (Value.slice (some ⟨gl, 0, none⟩) n lc).ownBlock = some k → (Value.slice xa' i' xc').ownBlock ≠ some k) ∧ v4.grownBy w2 none)) := hid (by
        rw [Ht.out]
        have hRl : i < (E.drop t ++ E.take t).length := by have := HEn.out; simp; omega
        have hRi : (E.drop t ++ E.take t)[i] = fl := by
          have h1 := rot_at (E := E) (t := t) (i := i) (by rw [HEn.out]; exact htn) (by rw [HEn.out]; exact hlt)
          rw [h1, ← Hf.out]
          simp only [HEn.out, Hq.out]
        have hfe : (⟨snm, .slice ga fb gc', fl.bs⟩ : Fl) = fl := by rw [← Hsn.out, ← hfv]
        have hO := HF2.out
        rw [hfe, ← hRi, ← List.take_succ_eq_append_getElem hRl] at hO
        have hl : ((E.drop t ++ E.take t).take (i + 1)).length = i + 1 := by rw [List.length_take]; omega
        obtain ⟨xa', xc', hv2⟩ := hO.len
        rw [hl] at hv2
        have hB := HB2.out
        have hG := HG2.out
        rw [hv2] at hB hO
        refine ⟨i + 1, xa', xc', by go_num, hv2, by omega, hid ⟨?_, hO, ?_, ?_⟩⟩
        · refine (HC.out.1.keep (galloc w0 _ none)).on hG (fun k hk => ⟨fun e => HC.out.2.2.1 k e hk, HC.out.1.ne HC.out.2.1 k hk⟩)
        · intro k hk e
          rcases hB with hB | hB
          · exact HC.out.2.2.1 k hk (hB.symm.trans e)
          · rw [hB] at e
            injection e with e
            have h1 : k < w0.heap.size := by
              obtain ⟨_, cs, b1, _⟩ := HC.out.1.blk
              have h2 := b1.lt
              injection hk with hk
              have hk' : gl = k := hk
              omega
            have h3 := (galloc w0 (.cells #[.string snm, .slice ga fb gc'] 32) none).size
            have h4 : (w0.alloc (.cells #[.string snm, .slice ga fb gc'] 32)).heap.size = k := e
            omega
        · exact (gtrans HC.out.2.2.2 (galloc w0 _ none)).andThen hG (fun j hj => .inl (HC.out.2.1.low j hj)))
      go_roundw
      case rel => exact HRl.out
      case measure => simp [intOf]; omega
    · as_aux_lemma =>
      have hlt' : ¬ (i : Int) < (n : Int) := by omega
      have e : n = i := by omega
      subst e
      obtain ⟨E', HE'⟩ : ∃ E', Hid (OutF v4.heap.size w0 (.slice xa n xc) E' ∧ E'.Perm E) := ⟨_, hid ⟨HC.out.2.1, by
        rw [List.take_of_length_le (by have := HEn.out; simp; omega)]
        exact rot_perm E _⟩⟩
      have HOl := hid HC.out.1
      have HNe := hid HC.out.2.2.1
      have HGv := hid HC.out.2.2.2
      clear HC
      by_cases hodd : tv.tmod 2 = 0
      · as_aux_lemma =>
        have HOl0 := hid HOl.out
        have HOm0 := hid HE'.out.1
        have HPm := hid HE'.out.2
        have HGv0 := hid HGv.out
        clear HOl HNe HE' HGv
        obtain ⟨M, HM⟩ : ∃ x, Hid (cont E' = x) := ⟨_, hid rfl⟩
        have HLM : Hid (L.Perm M) := hid (by rw [← HM.out, ← HCE.out]; exact (cont_perm HPm.out).symm)
        have HMn : Hid (M.length = n) := hid (by rw [← HLM.out.length_eq]; exact HN.out)
        have HGw2 : Hid (w1.grownBy w0 none) := hid (gtrans HG24.out HGv0.out)
        have k2 : w0.cell? ⟨p1, 2, none⟩ = some (.int .i64 rm) := (HB1.out.keep HGw2.out).cell 2
        have HK2' : Hid (∀ u, w0.grownBy u none → u.cell? ⟨p1, 2, none⟩ = some (.int .i64 rm)) := hid (fun u hu => (HB1.out.keep (gtrans HGw2.out hu)).cell 2)
        by_cases hrm : 1 ≤ rm ∧ rm ≤ 268435456
        rotate_left
        · as_aux_lemma =>
          have HLd : Hid (∀ (u : World) (a : Option Addr) (n c : Nat), Calls Try.prog 8 #[.slice a n c, .int .i64 rm] u fun e w' => e = .returned (.tuple #[.pointer none, .int .i64 90]) ∧ w' = u) := hid (fun u a n c => load_no u a n c rm (by omega))
          go_wp2_with (first
            | (go_at_call 8; (with_reducible refine (HLd.out _ _ _ _).mono ?_); rintro e w5 ⟨rfl, hw5⟩; have hw5' := hw5.symm; clear hw5; subst hw5')
            | (go_at_call 9; (with_reducible refine (HNu.out _ _).mono ?_); rintro e w5 ⟨rfl, hw5⟩; have hw5' := hw5.symm; clear hw5; subst hw5'))
          go_ret
          exact ⟨rfl, gtrans HG1.out HGw2.out⟩
        cases hld : loadC rm [] L with
        | none =>
          as_aux_lemma =>
          have hld2 := load_none (by omega) HLM.out hld
          have HLd1 : Hid (Calls Try.prog 8 #[.slice la n lc, .int .i64 rm] w0 fun e w' => e = .returned (.tuple #[.pointer none, .int .i64 96]) ∧ w0.grownBy w' none) := hid (by
            obtain ⟨a9, g9, c9, h1, h2⟩ := HOl0.out.ar
            rw [HCE.out] at h1 h2
            rw [h1]
            exact (load_any w0 _ a9 g9 0 c9 L rm h2 (by rw [HN.out]; omega) HBl.out hrm).mono fun e w' ⟨q1, q2⟩ => by
              rcases q2 with ⟨_, q2⟩ | ⟨C, b, q3, _⟩
              · exact ⟨q2, q1⟩
              · rw [hld] at q3; cases q3)
          have HLd2 : Hid (∀ u, w0.grownBy u none → Calls Try.prog 8 #[.slice xa n xc, .int .i64 rm] u fun e w' => e = .returned (.tuple #[.pointer none, .int .i64 96]) ∧ u.grownBy w' none) := hid (fun u hu => by
            obtain ⟨a9, g9, c9, h1, h2⟩ := (HOm0.out.keep hu).ar
            rw [HM.out] at h1 h2
            rw [h1]
            exact (load_any u _ a9 g9 0 c9 M rm h2 (by rw [HMn.out]; omega) (fun p hp => HBl.out p (HLM.out.mem_iff.2 hp)) hrm).mono fun e w' ⟨q1, q2⟩ => by
              rcases q2 with ⟨_, q2⟩ | ⟨C, b, q3, _⟩
              · exact ⟨q2, q1⟩
              · rw [hld2] at q3; cases q3)
          go_upto_region 15 with (go_at_call 8; (with_reducible refine HLd1.out.mono ?_); rintro e y1 ⟨rfl, hg⟩; have HY1 := hid hg; clear hg)
          have k2' := HK2'.out y1 HY1.out
          go_wp2_with (first
            | (go_at_call 8; (with_reducible refine (HLd2.out _ HY1.out).mono ?_); rintro e y2 ⟨rfl, hg⟩; have HY2 := hid (gtrans HY1.out hg); clear hg)
            | (go_at_call 9; (with_reducible refine (HNu.out _ _).mono ?_); rintro e w5 ⟨rfl, hw5⟩; have hw5' := hw5.symm; clear hw5; subst hw5'))
          go_ret
          exact ⟨rfl, gtrans HG1.out (gtrans HGw2.out HY2.out)⟩
        | some C =>
          obtain ⟨rfl, hld2, hlk⟩ := load_perm (by omega) HLM.out C hld
          have HLk := hid hlk
          have HLd1 : Hid (Calls Try.prog 8 #[.slice la n lc, .int .i64 rm] w0 fun e w' => ∃ b, e = .returned (.tuple #[.pointer (some ⟨b, 0, none⟩), .int .i64 0]) ∧ ∃ P, Sd v4 w' b ⟨rm, false, 0, 0, 0, C⟩ P ∧ (∀ k, P k → w0.heap.size ≤ k) ∧ w0.grownBy w' none) := hid (by
            obtain ⟨a9, g9, c9, h1, h2⟩ := HOl0.out.ar
            rw [HCE.out] at h1 h2
            rw [h1]
            exact (load_any w0 _ a9 g9 0 c9 C rm h2 (by rw [HN.out]; omega) HBl.out hrm).mono fun e w' ⟨q1, q2⟩ => by
              rcases q2 with ⟨q2, _⟩ | ⟨C', b, q3, q4, q5⟩
              · rw [hld] at q2; cases q2
              · rw [hld] at q3
                injection q3 with q3
                subst q3
                exact ⟨b, q4, _, ⟨q5.low_to HGv0.out.size, fun _ hk => hk.2, fun _ hk => Nat.le_trans HGv0.out.size hk.1, gtrans HGv0.out q1⟩, fun _ hk => hk.1, q1⟩)
          have HLd2 : Hid (∀ u, w0.grownBy u none → Calls Try.prog 8 #[.slice xa n xc, .int .i64 rm] u fun e w' => ∃ b, e = .returned (.tuple #[.pointer (some ⟨b, 0, none⟩), .int .i64 0]) ∧ ∃ Q, Sd v4 w' b ⟨rm, false, 0, 0, 0, M⟩ Q ∧ (∀ k, Q k → u.heap.size ≤ k) ∧ u.grownBy w' none) := hid (fun u hu => by
            obtain ⟨a9, g9, c9, h1, h2⟩ := (HOm0.out.keep hu).ar
            rw [HM.out] at h1 h2
            rw [h1]
            exact (load_any u _ a9 g9 0 c9 M rm h2 (by rw [HMn.out]; omega) (fun p hp => HBl.out p (HLM.out.mem_iff.2 hp)) hrm).mono fun e w' ⟨q1, q2⟩ => by
              rcases q2 with ⟨q2, _⟩ | ⟨C', b, q3, q4, q5⟩
              · rw [hld2] at q2; cases q2
              · rw [hld2] at q3
                injection q3 with q3
                subst q3
                exact ⟨b, q4, _, ⟨q5.low_to (gtrans HGv0.out hu).size, fun _ hk => hk.2, fun _ hk => Nat.le_trans (gtrans HGv0.out hu).size hk.1, gtrans (gtrans HGv0.out hu) q1⟩, fun _ hk => hk.1, q1⟩)
          have HRl0 : Hid (∀ u, w0.grownBy u none → u.ownsRow v4.heap.size 32 2 (.slice la n lc) n (fcs E) ∧ (∀ j (hj : j < E.length), ∃ l', Out v4.heap.size u (E[j]).v l' ∧ l'.length ≤ 140737488355328)) := hid (fun u hu => by
            have h1 := HOl0.out.keep hu
            refine ⟨by have := h1.row; rw [HEn.out] at this; exact this, fun j hj => ⟨_, h1.own _ (List.getElem_mem hj), ?_⟩⟩
            exact HBl.out ((E[j]).nm, (E[j]).bs) (by rw [← HCE.out]; exact List.mem_map.2 ⟨E[j], List.getElem_mem hj, rfl⟩))
          have HLt : Hid (∀ j (hj : j < E.length) k, (E[j]).v.ownBlock = some k → k < w0.heap.size) := hid (fun j hj k hk => ((HOl0.out.own _ (List.getElem_mem hj)).lt k hk).2)
          go_upto_region 15 with (go_at_call 8; (with_reducible refine HLd1.out.mono ?_); rintro e y1 ⟨b, rfl, P, hs, hp, hg⟩; have HS1 := hid hs; have HP1 := hid hp; have HY1 := hid hg; clear hs hp hg)
          have k2' := HK2'.out y1 HY1.out
          go_upto_region 16 with (go_at_call 8; (with_reducible refine (HLd2.out _ HY1.out).mono ?_); rintro e y2 ⟨c, rfl, Q, hs, hp, hg⟩; have HS2 := hid hs; have HP2 := hid hp; have HY2 := hid hg; clear hs hp hg)
          have HS3 : Hid (S2 v4 y2 b c ⟨rm, false, 0, 0, 0, C⟩ ⟨rm, false, 0, 0, 0, M⟩ P Q) := hid ⟨HS1.out.keep HY2.out, HS2.out, fun k h1 h2 => by have := HS1.out.lt k h1; have := HP2.out k h2; omega⟩
          have HPQ : Hid (∀ k, Un P Q k → w0.heap.size ≤ k) := hid (fun k hk => hk.elim (HP1.out k) (fun q => Nat.le_trans HY1.out.size (HP2.out k q)))
          have HYY : Hid (w0.grownBy y2 none) := hid (gtrans HY1.out HY2.out)
          obtain ⟨Lz, HLz⟩ : ∃ x, Hid (srtC M = x) := ⟨_, hid rfl⟩
          have HLz' : Hid (srtC C = Lz) := hid (by rw [← HLz.out]; exact HLk.out.srt)
          have HLn : Hid (Lz.length = n) := hid (by rw [← HLz.out, srtC_len]; exact HMn.out)
          have HBd : Hid (Lz.length ≤ 64 ∧ ∀ p ∈ Lz, p.2.length ≤ 268435456) := hid (by rw [← HLz.out]; exact sd_bnd HS3.out.y)
          have HQ9 : Hid (∀ v a a' c c' P P', Fw v a Lz P → Fw v a' Lz P' → Calls Try.prog 11 #[.slice a n c, .slice a' n c'] v fun e v' => e = .returned (.bool true) ∧ v.grownBy v' none) := hid (fun v a a' c c' P P' h1 h2 => by
            have q := fw_eq h1 h2 c c' (by have := HBd.out.1; omega) (fun p hp => by have := HBd.out.2 p hp; omega)
            rw [HLn.out] at q
            exact q)
          have HFb1 : Hid (∀ u, S2 v4 u b c ⟨rm, false, 0, 0, 0, C⟩ ⟨rm, false, 0, 0, 0, M⟩ P Q → w0.heap.size ≤ u.heap.size → Calls Try.prog 10 #[.pointer (some ⟨c, 0, none⟩)] u fun e u' => ∃ a c, e = .returned (.slice a n c) ∧ Fw u' a Lz (fun k => Un P Q k ∨ k < w0.heap.size) ∧ u.grownBy u' none) := hid (fun u hS hu => (sd_files hS.y (fun k => Un P Q k ∨ k < w0.heap.size) (fun k hk => hk.elim (hS.lt k) (fun q => by omega))).mono fun e u' ⟨a, c, q1, q2, q3⟩ => ⟨a, c, by
              have h1 : srtC (⟨rm, false, 0, 0, 0, M⟩ : Ab).C = Lz := HLz.out
              rw [h1, HLn.out] at q1
              exact q1, by
              have h1 : srtC (⟨rm, false, 0, 0, 0, M⟩ : Ab).C = Lz := HLz.out
              rw [h1] at q2
              exact q2, q3⟩)
          clear HS1 HS2 HP1 HP2 HY1 HY2 HLd1 HLd2 hlk
          go_upto_region 21 with (first
            | (go_at_call 9; (with_reducible refine (HNu.out _ _).mono ?_); rintro e w5 ⟨rfl, hw5⟩; have hw5' := hw5.symm; clear hw5; subst hw5')
            | (go_at_call 10; (with_reducible refine (HFb1.out _ HS3.out HYY.out.size).mono ?_); rintro e y4 ⟨wa, wc, rfl, hF, hg⟩; have HFz := hid hF; have HY4 := hid (gtrans HYY.out hg); have HS4 := hid (HS3.out.keep hg); clear hF hg))
          have HFa : Hid (∀ u, y4.grownBy u none → Calls Try.prog 10 #[.pointer (some ⟨b, 0, none⟩)] u fun e v' => ∃ x, e = .returned x ∧ u.grownBy v' none ∧ ∃ ta tc, x = Value.slice ta n tc ∧ Fw v' ta Lz (Un P Q)) := hid (fun u hu => (sd_files (HS4.out.keep hu).x _ (HS4.out.keep hu).lt).mono fun e u' ⟨ta, tc, q1, q2, q3⟩ => by
            have h1 : srtC (⟨rm, false, 0, 0, 0, C⟩ : Ab).C = Lz := HLz'.out
            rw [h1, HLn.out] at q1
            rw [h1] at q2
            exact ⟨_, q1, q3, ta, tc, rfl, q2⟩)
          have HQa : Hid (∀ u ta tc, y4.grownBy u none → Fw u ta Lz (Un P Q) → Calls Try.prog 11 #[.slice ta n tc, .slice wa n wc] u fun e v' => ∃ x, e = .returned x ∧ u.grownBy v' none ∧ x = Value.bool true) := hid (fun u ta tc hu h1 => (HQ9.out u ta wa tc wc _ _ h1 (HFz.out.keep hu)).mono fun e v' ⟨q1, q2⟩ => ⟨_, q1, q2, rfl⟩)
          have HWa : Hid (∀ u, y4.grownBy u none → Calls Try.prog 12 #[.pointer (some ⟨b, 0, none⟩)] u fun e v' => ∃ x, e = .returned x ∧ u.grownBy v' none ∧ x = Value.int .i64 0) := hid (fun u hu => (writes_p (HS4.out.keep hu).x.dk).mono fun e v' ⟨q1, q2⟩ => ⟨_, q1, q2, rfl⟩)
          have HOa : Hid (∀ u, y4.grownBy u none → Calls Try.prog 13 #[.pointer (some ⟨b, 0, none⟩)] u fun e v' => ∃ x, e = .returned x ∧ u.grownBy v' none ∧ x = Value.bool false) := hid (fun u hu => (off_p (HS4.out.keep hu).x.dk).mono fun e v' ⟨q1, q2⟩ => ⟨_, q1, q2, rfl⟩)
          have HRa : Hid (∀ u, y4.grownBy u none → Calls Try.prog 14 #[.pointer (some ⟨b, 0, none⟩)] u fun e v' => ∃ x, e = .returned x ∧ u.grownBy v' none ∧ x = Value.int .i64 rm) := hid (fun u hu => (room_p (HS4.out.keep hu).x.dk).mono fun e v' ⟨q1, q2⟩ => ⟨_, q1, q2, rfl⟩)
          have HK2 : Hid (∀ u, y4.grownBy u none → u.cell? ⟨p1, 2, none⟩ = some (.int .i64 rm)) := hid (fun u hu => HK2'.out u (gtrans HY4.out hu))
          have HZn : Hid (∀ (x y : Operand) (u : World), (do eqGuard .neq 3 x y (.int .i64 (n : Nat)) (.int .i64 (n : Nat)); binOp .neq 3 (.int .i64 (n : Nat)) (.int .i64 (n : Nat)) : Sem Value).run Try.prog u = .ok (.bool false) u) := hid (fun x y u => by go_simp)
          have HZ0 : Hid (∀ (x y : Operand) (u : World), (do eqGuard .neq 3 x y (.int .i64 0) (.int .i64 0); binOp .neq 3 (.int .i64 0) (.int .i64 0) : Sem Value).run Try.prog u = .ok (.bool false) u) := hid (fun x y u => by go_simp)
          have HZr : Hid (∀ (x y : Operand) (u : World), (do eqGuard .neq 3 x y (.int .i64 rm) (.int .i64 rm); binOp .neq 3 (.int .i64 rm) (.int .i64 rm) : Sem Value).run Try.prog u = .ok (.bool false) u) := hid (fun x y u => by go_simp)
          clear HS3 HFb1 HYY k2 k2'
          refine wp_region_listX (by kernel_rfl) [fun v _ => v = (Value.pointer (some ⟨b, 0, none⟩)), fun v u => ∃ ta tc, v = Value.slice ta n tc ∧ Fw u ta Lz (Un P Q), fun v _ => v = (Value.slice wa n wc), fun v _ => v = Value.bool true, fun v _ => v = (Value.bool false), fun v _ => v = (Value.bool false), fun v _ => v = (Value.slice wa n wc), fun v _ => v = (Value.int .i64 (n : Nat)), fun v _ => v = (Value.slice la n lc), fun v _ => v = (Value.int .i64 (n : Nat)), fun v _ => v = (Value.bool false), fun v _ => v = (Value.bool false), fun v _ => v = (Value.bool false), fun v _ => v = (Value.pointer (some ⟨b, 0, none⟩)), fun v _ => v = Value.int .i64 0, fun v _ => v = (Value.bool false), fun v _ => v = (Value.bool false), fun v _ => v = (Value.bool false), fun v _ => v = (Value.pointer (some ⟨b, 0, none⟩)), fun v _ => v = Value.bool false, fun v _ => v = (Value.bool false), fun v _ => v = (Value.bool false), fun v _ => v = (Value.pointer (some ⟨b, 0, none⟩)), fun v _ => v = Value.int .i64 rm, fun v _ => v = (Value.pointer (some ⟨p1, 2, none⟩)), fun v _ => v = (Value.int .i64 rm), fun v _ => v = (Value.bool false), fun v _ => v = (Value.bool false)] (none) (fun _ => none) 28 (by kernel_rfl) (by kernel_rfl) (by kernel_rfl) (by kernel_rfl) (by decide) noRow_one (fun _ => .inl rfl) ⟨fun i v u u' hki h hg => h, fun i v u u' hki h hg => (by obtain ⟨ta, tc, e, ho⟩ := h; exact ⟨ta, tc, e, ho.keep hg⟩), fun i v u u' hki h hg => h, fun i v u u' hki h hg => h, fun i v u u' hki h hg => h, fun i v u u' hki h hg => h, fun i v u u' hki h hg => h, fun i v u u' hki h hg => h, fun i v u u' hki h hg => h, fun i v u u' hki h hg => h, fun i v u u' hki h hg => h, fun i v u u' hki h hg => h, fun i v u u' hki h hg => h, fun i v u u' hki h hg => h, fun i v u u' hki h hg => h, fun i v u u' hki h hg => h, fun i v u u' hki h hg => h, fun i v u u' hki h hg => h, fun i v u u' hki h hg => h, fun i v u u' hki h hg => h, fun i v u u' hki h hg => h, fun i v u u' hki h hg => h, fun i v u u' hki h hg => h, fun i v u u' hki h hg => h, fun i v u u' hki h hg => h, fun i v u u' hki h hg => h, fun i v u u' hki h hg => h, fun i v u u' hki h hg => h, trivial⟩ ⟨?_, ?_, ?_, ?_, ?_, ?_, ?_, ?_, ?_, ?_, ?_, ?_, ?_, ?_, ?_, ?_, ?_, ?_, ?_, ?_, ?_, ?_, ?_, ?_, ?_, ?_, ?_, ?_, trivial⟩ ?_
          · intro A u hu hpu hsz hout hdeps
            have e7 : A.eval (.tmp 7) = (.pointer (some ⟨b, 0, none⟩)) := (hout 7 (by kernel_rfl)).trans rfl
            refine ifw_none rfl ?_
            with_reducible refine shown_q (Value.pointer (some ⟨b, 0, none⟩)) ?qq_1_0 (fun _ _ => ?qr_1_0)
            case qr_1_0 => exact (rfl : (Value.pointer (some ⟨b, 0, none⟩)) = (Value.pointer (some ⟨b, 0, none⟩)))
            with_reducible refine quietAt_mv (.tmp 7) (Value.pointer (some ⟨b, 0, none⟩)) ?h0_1_0 ?h1_1_0
            case h0_1_0 => rfl
            case h1_1_0 => exact e7
          · intro A u hu hpu hsz hout hdeps
            have e123 : A.eval (.tmp 123) = (.pointer (some ⟨b, 0, none⟩)) := by have h := depL hdeps 0 (by kernel_rfl) 123 (by kernel_rfl); exact h
            refine ifw_none rfl ?_
            with_reducible refine shown_call 10 Try.f10 ?h0_1_1 ?h1_1_1 ?h2_1_1 #[.tmp 123] #[34] ?h3_1_1 #[(Value.pointer (some ⟨b, 0, none⟩))] ?h4_1_1 ?h5_1_1
            case h0_1_1 => exact Try.func10
            case h1_1_1 => kernel_rfl
            case h2_1_1 => kernel_rfl
            case h3_1_1 => rfl
            case h4_1_1 => exact map1 _ _ _ e123
            case h5_1_1 => exact HFa.out u hu
          · intro A u hu hpu hsz hout hdeps
            have e11 : A.eval (.tmp 11) = (.slice wa n wc) := (hout 11 (by kernel_rfl)).trans rfl
            refine ifw_none rfl ?_
            with_reducible refine shown_q (Value.slice wa n wc) ?qq_1_2 (fun _ _ => ?qr_1_2)
            case qr_1_2 => exact (rfl : (Value.slice wa n wc) = (Value.slice wa n wc))
            with_reducible refine quietAt_mv (.tmp 11) (Value.slice wa n wc) ?h0_1_2 ?h1_1_2
            case h0_1_2 => rfl
            case h1_1_2 => exact e11
          · intro A u hu hpu hsz hout hdeps
            have f124 : (fun v u => ∃ ta tc, v = Value.slice ta n tc ∧ Fw u ta Lz (Un P Q)) (A.eval (.tmp 124)) u := by have h := depL hdeps 1 (by kernel_rfl) 124 (by kernel_rfl); exact h
            obtain ⟨ta, tc, e124, hM⟩ := f124
            have e125 : A.eval (.tmp 125) = (.slice wa n wc) := by have h := depL hdeps 2 (by kernel_rfl) 125 (by kernel_rfl); exact h
            refine ifw_none rfl ?_
            with_reducible refine shown_call 11 Try.f11 ?h0_1_3 ?h1_1_3 ?h2_1_3 #[.tmp 124, .tmp 125] #[22, 22] ?h3_1_3 #[(Value.slice ta n tc), (Value.slice wa n wc)] ?h4_1_3 ?h5_1_3
            case h0_1_3 => exact Try.func11
            case h1_1_3 => kernel_rfl
            case h2_1_3 => kernel_rfl
            case h3_1_3 => rfl
            case h4_1_3 => exact map2 _ _ _ _ _ e124 e125
            case h5_1_3 => exact HQa.out u ta tc hu hM
          · intro A u hu hpu hsz hout hdeps
            have f126 : (fun v _ => v = Value.bool true) (A.eval (.tmp 126)) u := by have h := depL hdeps 3 (by kernel_rfl) 126 (by kernel_rfl); exact h
            have e126 := (f126 : _ = Value.bool true)
            refine ifw_none rfl ?_
            with_reducible refine shown_q (Value.bool false) ?qq_1_4 (fun _ _ => ?qr_1_4)
            case qr_1_4 => exact (rfl : (Value.bool false) = (Value.bool false))
            with_reducible refine quietAt_un .not 4 (.tmp 126) (Value.bool true) (Value.bool false) ?h0_1_4 ?h1_1_4 ?h2_1_4
            case h0_1_4 => rfl
            case h1_1_4 => exact e126
            case h2_1_4 => rfl
          · intro A u hu hpu hsz hout hdeps
            have e127 : A.eval (.tmp 127) = (.bool false) := by have h := depL hdeps 4 (by kernel_rfl) 127 (by kernel_rfl); exact h
            refine ifw_none rfl ?_
            with_reducible refine shown_q (Value.bool false) ?qq_1_5 (fun _ _ => ?qr_1_5)
            case qr_1_5 => exact (rfl : (Value.bool false) = (Value.bool false))
            with_reducible refine quietAt_mv (.tmp 127) (Value.bool false) ?h0_1_5 ?h1_1_5
            case h0_1_5 => rfl
            case h1_1_5 => exact e127
          · intro A u hu hpu hsz hout hdeps
            have e128 : A.eval (.tmp 128) = (.bool false) := by have h := depL hdeps 5 (by kernel_rfl) 128 (by kernel_rfl); exact h
            have e11 : A.eval (.tmp 11) = (.slice wa n wc) := (hout 11 (by kernel_rfl)).trans rfl
            refine ifw_want 5 false 128 rfl rfl e128 ?_
            with_reducible refine shown_q (Value.slice wa n wc) ?qq_1_6 (fun _ _ => ?qr_1_6)
            case qr_1_6 => exact (rfl : (Value.slice wa n wc) = (Value.slice wa n wc))
            with_reducible refine quietAt_mv (.tmp 11) (Value.slice wa n wc) ?h0_1_6 ?h1_1_6
            case h0_1_6 => rfl
            case h1_1_6 => exact e11
          · intro A u hu hpu hsz hout hdeps
            have e128 : A.eval (.tmp 128) = (.bool false) := by have h := depL hdeps 5 (by kernel_rfl) 128 (by kernel_rfl); exact h
            have e129 : A.eval (.tmp 129) = (.slice wa n wc) := by have h := depL hdeps 6 (by kernel_rfl) 129 (by kernel_rfl); exact h
            refine ifw_want 5 false 128 rfl rfl e128 ?_
            with_reducible refine shown_q (Value.int .i64 (n : Nat)) ?qq_1_7 (fun _ _ => ?qr_1_7)
            case qr_1_7 => exact (rfl : (Value.int .i64 (n : Nat)) = (Value.int .i64 (n : Nat)))
            with_reducible refine quietAt_len (.tmp 129) 22 ?h0_1_7 wa n wc ?h1_1_7 ?h2_1_7
            case h0_1_7 => rfl
            case h1_1_7 => exact e129
            case h2_1_7 => kernel_rfl
          · intro A u hu hpu hsz hout hdeps
            have e128 : A.eval (.tmp 128) = (.bool false) := by have h := depL hdeps 5 (by kernel_rfl) 128 (by kernel_rfl); exact h
            have e3 : A.eval (.tmp 3) = (.slice la n lc) := (hout 3 (by kernel_rfl)).trans rfl
            refine ifw_want 5 false 128 rfl rfl e128 ?_
            with_reducible refine shown_q (Value.slice la n lc) ?qq_1_8 (fun _ _ => ?qr_1_8)
            case qr_1_8 => exact (rfl : (Value.slice la n lc) = (Value.slice la n lc))
            with_reducible refine quietAt_mv (.tmp 3) (Value.slice la n lc) ?h0_1_8 ?h1_1_8
            case h0_1_8 => rfl
            case h1_1_8 => exact e3
          · intro A u hu hpu hsz hout hdeps
            have e128 : A.eval (.tmp 128) = (.bool false) := by have h := depL hdeps 5 (by kernel_rfl) 128 (by kernel_rfl); exact h
            have e131 : A.eval (.tmp 131) = (.slice la n lc) := by have h := depL hdeps 8 (by kernel_rfl) 131 (by kernel_rfl); exact h
            refine ifw_want 5 false 128 rfl rfl e128 ?_
            with_reducible refine shown_q (Value.int .i64 (n : Nat)) ?qq_1_9 (fun _ _ => ?qr_1_9)
            case qr_1_9 => exact (rfl : (Value.int .i64 (n : Nat)) = (Value.int .i64 (n : Nat)))
            with_reducible refine quietAt_len (.tmp 131) 22 ?h0_1_9 la n lc ?h1_1_9 ?h2_1_9
            case h0_1_9 => rfl
            case h1_1_9 => exact e131
            case h2_1_9 => kernel_rfl
          · intro A u hu hpu hsz hout hdeps
            have e128 : A.eval (.tmp 128) = (.bool false) := by have h := depL hdeps 5 (by kernel_rfl) 128 (by kernel_rfl); exact h
            have e130 : A.eval (.tmp 130) = (.int .i64 (n : Nat)) := by have h := depL hdeps 7 (by kernel_rfl) 130 (by kernel_rfl); exact h
            have e132 : A.eval (.tmp 132) = (.int .i64 (n : Nat)) := by have h := depL hdeps 9 (by kernel_rfl) 132 (by kernel_rfl); exact h
            refine ifw_want 5 false 128 rfl rfl e128 ?_
            with_reducible refine shown_q (Value.bool false) ?qq_1_10 (fun _ _ => ?qr_1_10)
            case qr_1_10 => exact (rfl : (Value.bool false) = (Value.bool false))
            with_reducible refine quietAt_bin .neq 3 (.tmp 130) (.tmp 132) 3 (Value.int .i64 (n : Nat)) (Value.int .i64 (n : Nat)) (Value.bool false) ?h0_1_10 ?h1_1_10 ?h2_1_10 ?h3_1_10
            case h0_1_10 => rfl
            case h1_1_10 => exact e130
            case h2_1_10 => exact e132
            case h3_1_10 => exact HZn.out _ _ u
          · intro A u hu hpu hsz hout hdeps
            have e128 : A.eval (.tmp 128) = (.bool false) := by have h := depL hdeps 5 (by kernel_rfl) 128 (by kernel_rfl); exact h
            have e133 : A.eval (.tmp 133) = (.bool false) := by have h := depL hdeps 10 (by kernel_rfl) 133 (by kernel_rfl); exact h
            refine ifw_none rfl ?_
            with_reducible refine shown_q (Value.bool false) ?qq_1_11 (fun _ _ => ?qr_1_11)
            case qr_1_11 => exact (rfl : (Value.bool false) = (Value.bool false))
            with_reducible refine quietAt_pick (.tmp 128) (.const (.bool true)) (.tmp 133) false (Value.bool false) ?h0_1_11 ?h1_1_11 ?h2_1_11
            case h0_1_11 => rfl
            case h1_1_11 => exact e128
            case h2_1_11 => rw [if_neg (by decide)]; exact e133
          · intro A u hu hpu hsz hout hdeps
            have e134 : A.eval (.tmp 134) = (.bool false) := by have h := depL hdeps 11 (by kernel_rfl) 134 (by kernel_rfl); exact h
            refine ifw_none rfl ?_
            with_reducible refine shown_q (Value.bool false) ?qq_1_12 (fun _ _ => ?qr_1_12)
            case qr_1_12 => exact (rfl : (Value.bool false) = (Value.bool false))
            with_reducible refine quietAt_mv (.tmp 134) (Value.bool false) ?h0_1_12 ?h1_1_12
            case h0_1_12 => rfl
            case h1_1_12 => exact e134
          · intro A u hu hpu hsz hout hdeps
            have e135 : A.eval (.tmp 135) = (.bool false) := by have h := depL hdeps 12 (by kernel_rfl) 135 (by kernel_rfl); exact h
            have e7 : A.eval (.tmp 7) = (.pointer (some ⟨b, 0, none⟩)) := (hout 7 (by kernel_rfl)).trans rfl
            refine ifw_want 12 false 135 rfl rfl e135 ?_
            with_reducible refine shown_q (Value.pointer (some ⟨b, 0, none⟩)) ?qq_1_13 (fun _ _ => ?qr_1_13)
            case qr_1_13 => exact (rfl : (Value.pointer (some ⟨b, 0, none⟩)) = (Value.pointer (some ⟨b, 0, none⟩)))
            with_reducible refine quietAt_mv (.tmp 7) (Value.pointer (some ⟨b, 0, none⟩)) ?h0_1_13 ?h1_1_13
            case h0_1_13 => rfl
            case h1_1_13 => exact e7
          · intro A u hu hpu hsz hout hdeps
            have e135 : A.eval (.tmp 135) = (.bool false) := by have h := depL hdeps 12 (by kernel_rfl) 135 (by kernel_rfl); exact h
            have e136 : A.eval (.tmp 136) = (.pointer (some ⟨b, 0, none⟩)) := by have h := depL hdeps 13 (by kernel_rfl) 136 (by kernel_rfl); exact h
            refine ifw_want 12 false 135 rfl rfl e135 ?_
            with_reducible refine shown_call 12 Try.f12 ?h0_1_14 ?h1_1_14 ?h2_1_14 #[.tmp 136] #[34] ?h3_1_14 #[(Value.pointer (some ⟨b, 0, none⟩))] ?h4_1_14 ?h5_1_14
            case h0_1_14 => exact Try.func12
            case h1_1_14 => kernel_rfl
            case h2_1_14 => kernel_rfl
            case h3_1_14 => rfl
            case h4_1_14 => exact map1 _ _ _ e136
            case h5_1_14 => exact HWa.out u hu
          · intro A u hu hpu hsz hout hdeps
            have e135 : A.eval (.tmp 135) = (.bool false) := by have h := depL hdeps 12 (by kernel_rfl) 135 (by kernel_rfl); exact h
            have f137 : (fun v _ => v = Value.int .i64 0) (A.eval (.tmp 137)) u := by have h := depL hdeps 14 (by kernel_rfl) 137 (by kernel_rfl); exact h
            have e137 := (f137 : _ = Value.int .i64 0)
            refine ifw_want 12 false 135 rfl rfl e135 ?_
            with_reducible refine shown_q (Value.bool false) ?qq_1_15 (fun _ _ => ?qr_1_15)
            case qr_1_15 => exact (rfl : (Value.bool false) = (Value.bool false))
            with_reducible refine quietAt_bin .neq 3 (.tmp 137) (.const (.int .i64 0)) 3 (Value.int .i64 0) (Value.int .i64 0) (Value.bool false) ?h0_1_15 ?h1_1_15 ?h2_1_15 ?h3_1_15
            case h0_1_15 => rfl
            case h1_1_15 => exact e137
            case h2_1_15 => exact rfl
            case h3_1_15 => exact HZ0.out _ _ u
          · intro A u hu hpu hsz hout hdeps
            have e135 : A.eval (.tmp 135) = (.bool false) := by have h := depL hdeps 12 (by kernel_rfl) 135 (by kernel_rfl); exact h
            have e138 : A.eval (.tmp 138) = (.bool false) := by have h := depL hdeps 15 (by kernel_rfl) 138 (by kernel_rfl); exact h
            refine ifw_none rfl ?_
            with_reducible refine shown_q (Value.bool false) ?qq_1_16 (fun _ _ => ?qr_1_16)
            case qr_1_16 => exact (rfl : (Value.bool false) = (Value.bool false))
            with_reducible refine quietAt_pick (.tmp 135) (.const (.bool true)) (.tmp 138) false (Value.bool false) ?h0_1_16 ?h1_1_16 ?h2_1_16
            case h0_1_16 => rfl
            case h1_1_16 => exact e135
            case h2_1_16 => rw [if_neg (by decide)]; exact e138
          · intro A u hu hpu hsz hout hdeps
            have e139 : A.eval (.tmp 139) = (.bool false) := by have h := depL hdeps 16 (by kernel_rfl) 139 (by kernel_rfl); exact h
            refine ifw_none rfl ?_
            with_reducible refine shown_q (Value.bool false) ?qq_1_17 (fun _ _ => ?qr_1_17)
            case qr_1_17 => exact (rfl : (Value.bool false) = (Value.bool false))
            with_reducible refine quietAt_mv (.tmp 139) (Value.bool false) ?h0_1_17 ?h1_1_17
            case h0_1_17 => rfl
            case h1_1_17 => exact e139
          · intro A u hu hpu hsz hout hdeps
            have e140 : A.eval (.tmp 140) = (.bool false) := by have h := depL hdeps 17 (by kernel_rfl) 140 (by kernel_rfl); exact h
            have e7 : A.eval (.tmp 7) = (.pointer (some ⟨b, 0, none⟩)) := (hout 7 (by kernel_rfl)).trans rfl
            refine ifw_want 17 false 140 rfl rfl e140 ?_
            with_reducible refine shown_q (Value.pointer (some ⟨b, 0, none⟩)) ?qq_1_18 (fun _ _ => ?qr_1_18)
            case qr_1_18 => exact (rfl : (Value.pointer (some ⟨b, 0, none⟩)) = (Value.pointer (some ⟨b, 0, none⟩)))
            with_reducible refine quietAt_mv (.tmp 7) (Value.pointer (some ⟨b, 0, none⟩)) ?h0_1_18 ?h1_1_18
            case h0_1_18 => rfl
            case h1_1_18 => exact e7
          · intro A u hu hpu hsz hout hdeps
            have e140 : A.eval (.tmp 140) = (.bool false) := by have h := depL hdeps 17 (by kernel_rfl) 140 (by kernel_rfl); exact h
            have e141 : A.eval (.tmp 141) = (.pointer (some ⟨b, 0, none⟩)) := by have h := depL hdeps 18 (by kernel_rfl) 141 (by kernel_rfl); exact h
            refine ifw_want 17 false 140 rfl rfl e140 ?_
            with_reducible refine shown_call 13 Try.f13 ?h0_1_19 ?h1_1_19 ?h2_1_19 #[.tmp 141] #[34] ?h3_1_19 #[(Value.pointer (some ⟨b, 0, none⟩))] ?h4_1_19 ?h5_1_19
            case h0_1_19 => exact Try.func13
            case h1_1_19 => kernel_rfl
            case h2_1_19 => kernel_rfl
            case h3_1_19 => rfl
            case h4_1_19 => exact map1 _ _ _ e141
            case h5_1_19 => exact HOa.out u hu
          · intro A u hu hpu hsz hout hdeps
            have e140 : A.eval (.tmp 140) = (.bool false) := by have h := depL hdeps 17 (by kernel_rfl) 140 (by kernel_rfl); exact h
            have f142 : (fun v _ => v = Value.bool false) (A.eval (.tmp 142)) u := by have h := depL hdeps 19 (by kernel_rfl) 142 (by kernel_rfl); exact h
            have e142 := (f142 : _ = Value.bool false)
            refine ifw_none rfl ?_
            with_reducible refine shown_q (Value.bool false) ?qq_1_20 (fun _ _ => ?qr_1_20)
            case qr_1_20 => exact (rfl : (Value.bool false) = (Value.bool false))
            with_reducible refine quietAt_pick (.tmp 140) (.const (.bool true)) (.tmp 142) false (Value.bool false) ?h0_1_20 ?h1_1_20 ?h2_1_20
            case h0_1_20 => rfl
            case h1_1_20 => exact e140
            case h2_1_20 => rw [if_neg (by decide)]; exact e142
          · intro A u hu hpu hsz hout hdeps
            have e143 : A.eval (.tmp 143) = (.bool false) := by have h := depL hdeps 20 (by kernel_rfl) 143 (by kernel_rfl); exact h
            refine ifw_none rfl ?_
            with_reducible refine shown_q (Value.bool false) ?qq_1_21 (fun _ _ => ?qr_1_21)
            case qr_1_21 => exact (rfl : (Value.bool false) = (Value.bool false))
            with_reducible refine quietAt_mv (.tmp 143) (Value.bool false) ?h0_1_21 ?h1_1_21
            case h0_1_21 => rfl
            case h1_1_21 => exact e143
          · intro A u hu hpu hsz hout hdeps
            have e144 : A.eval (.tmp 144) = (.bool false) := by have h := depL hdeps 21 (by kernel_rfl) 144 (by kernel_rfl); exact h
            have e7 : A.eval (.tmp 7) = (.pointer (some ⟨b, 0, none⟩)) := (hout 7 (by kernel_rfl)).trans rfl
            refine ifw_want 21 false 144 rfl rfl e144 ?_
            with_reducible refine shown_q (Value.pointer (some ⟨b, 0, none⟩)) ?qq_1_22 (fun _ _ => ?qr_1_22)
            case qr_1_22 => exact (rfl : (Value.pointer (some ⟨b, 0, none⟩)) = (Value.pointer (some ⟨b, 0, none⟩)))
            with_reducible refine quietAt_mv (.tmp 7) (Value.pointer (some ⟨b, 0, none⟩)) ?h0_1_22 ?h1_1_22
            case h0_1_22 => rfl
            case h1_1_22 => exact e7
          · intro A u hu hpu hsz hout hdeps
            have e144 : A.eval (.tmp 144) = (.bool false) := by have h := depL hdeps 21 (by kernel_rfl) 144 (by kernel_rfl); exact h
            have e145 : A.eval (.tmp 145) = (.pointer (some ⟨b, 0, none⟩)) := by have h := depL hdeps 22 (by kernel_rfl) 145 (by kernel_rfl); exact h
            refine ifw_want 21 false 144 rfl rfl e144 ?_
            with_reducible refine shown_call 14 Try.f14 ?h0_1_23 ?h1_1_23 ?h2_1_23 #[.tmp 145] #[34] ?h3_1_23 #[(Value.pointer (some ⟨b, 0, none⟩))] ?h4_1_23 ?h5_1_23
            case h0_1_23 => exact Try.func14
            case h1_1_23 => kernel_rfl
            case h2_1_23 => kernel_rfl
            case h3_1_23 => rfl
            case h4_1_23 => exact map1 _ _ _ e145
            case h5_1_23 => exact HRa.out u hu
          · intro A u hu hpu hsz hout hdeps
            have e144 : A.eval (.tmp 144) = (.bool false) := by have h := depL hdeps 21 (by kernel_rfl) 144 (by kernel_rfl); exact h
            have e1 : A.eval (.tmp 1) = (.pointer (some ⟨p1, 0, none⟩)) := (hout 1 (by kernel_rfl)).trans rfl
            refine ifw_want 21 false 144 rfl rfl e144 ?_
            with_reducible refine shown_q (Value.pointer (some ⟨p1, 2, none⟩)) ?qq_1_24 (fun _ _ => ?qr_1_24)
            case qr_1_24 => exact (rfl : (Value.pointer (some ⟨p1, 2, none⟩)) = (Value.pointer (some ⟨p1, 2, none⟩)))
            with_reducible refine quietAt_field 24 (.tmp 1) 2 ?h0_1_24 ⟨p1, 0, none⟩ ⟨p1, 2, none⟩ ?h1_1_24 ?h2_1_24
            case h0_1_24 => rfl
            case h1_1_24 => exact e1
            case h2_1_24 => kernel_rfl
          · intro A u hu hpu hsz hout hdeps
            have e144 : A.eval (.tmp 144) = (.bool false) := by have h := depL hdeps 21 (by kernel_rfl) 144 (by kernel_rfl); exact h
            have e147 : A.eval (.tmp 147) = (.pointer (some ⟨p1, 2, none⟩)) := by have h := depL hdeps 24 (by kernel_rfl) 147 (by kernel_rfl); exact h
            refine ifw_want 21 false 144 rfl rfl e144 ?_
            with_reducible refine shown_q (Value.int .i64 rm) ?qq_1_25 (fun _ _ => ?qr_1_25)
            case qr_1_25 => exact (rfl : (Value.int .i64 rm) = (Value.int .i64 rm))
            with_reducible refine quietAt_ld 3 (.tmp 147) (Value.pointer (some ⟨p1, 2, none⟩)) (Value.int .i64 rm) ?h0_1_25 ?h1_1_25 ?h2_1_25
            case h0_1_25 => rfl
            case h1_1_25 => exact e147
            case h2_1_25 => exact ld3 p1 2 rm u (HK2.out u hu)
          · intro A u hu hpu hsz hout hdeps
            have e144 : A.eval (.tmp 144) = (.bool false) := by have h := depL hdeps 21 (by kernel_rfl) 144 (by kernel_rfl); exact h
            have f146 : (fun v _ => v = Value.int .i64 rm) (A.eval (.tmp 146)) u := by have h := depL hdeps 23 (by kernel_rfl) 146 (by kernel_rfl); exact h
            have e146 := (f146 : _ = Value.int .i64 rm)
            have e148 : A.eval (.tmp 148) = (.int .i64 rm) := by have h := depL hdeps 25 (by kernel_rfl) 148 (by kernel_rfl); exact h
            refine ifw_want 21 false 144 rfl rfl e144 ?_
            with_reducible refine shown_q (Value.bool false) ?qq_1_26 (fun _ _ => ?qr_1_26)
            case qr_1_26 => exact (rfl : (Value.bool false) = (Value.bool false))
            with_reducible refine quietAt_bin .neq 3 (.tmp 146) (.tmp 148) 3 (Value.int .i64 rm) (Value.int .i64 rm) (Value.bool false) ?h0_1_26 ?h1_1_26 ?h2_1_26 ?h3_1_26
            case h0_1_26 => rfl
            case h1_1_26 => exact e146
            case h2_1_26 => exact e148
            case h3_1_26 => exact HZr.out _ _ u
          · intro A u hu hpu hsz hout hdeps
            have e144 : A.eval (.tmp 144) = (.bool false) := by have h := depL hdeps 21 (by kernel_rfl) 144 (by kernel_rfl); exact h
            have e149 : A.eval (.tmp 149) = (.bool false) := by have h := depL hdeps 26 (by kernel_rfl) 149 (by kernel_rfl); exact h
            refine ifw_none rfl ?_
            with_reducible refine shown_q (Value.bool false) ?qq_1_27 (fun _ _ => ?qr_1_27)
            case qr_1_27 => exact (rfl : (Value.bool false) = (Value.bool false))
            with_reducible refine quietAt_pick (.tmp 144) (.const (.bool true)) (.tmp 149) false (Value.bool false) ?h0_1_27 ?h1_1_27 ?h2_1_27
            case h0_1_27 => rfl
            case h1_1_27 => exact e144
            case h2_1_27 => rw [if_neg (by decide)]; exact e149
          · intro A u8 listed hh hall
            have hA := hh.frame
            have HU := hid hh.grown
            obtain ⟨x123, hx123⟩ : ∃ x, A.eval (.tmp 123) = x := ⟨_, rfl⟩
            have f123 : (fun v _ => v = (Value.pointer (some ⟨b, 0, none⟩))) x123 u8 := by rw [← hx123]; exact hh.got 0 _ 123 rfl rfl (hall 0 (by decide))
            obtain ⟨x124, hx124⟩ : ∃ x, A.eval (.tmp 124) = x := ⟨_, rfl⟩
            have f124 : (fun v u => ∃ ta tc, v = Value.slice ta n tc ∧ Fw u ta Lz (Un P Q)) x124 u8 := by rw [← hx124]; exact hh.got 1 _ 124 rfl rfl (hall 1 (by decide))
            obtain ⟨x125, hx125⟩ : ∃ x, A.eval (.tmp 125) = x := ⟨_, rfl⟩
            have f125 : (fun v _ => v = (Value.slice wa n wc)) x125 u8 := by rw [← hx125]; exact hh.got 2 _ 125 rfl rfl (hall 2 (by decide))
            obtain ⟨x126, hx126⟩ : ∃ x, A.eval (.tmp 126) = x := ⟨_, rfl⟩
            have f126 : (fun v _ => v = Value.bool true) x126 u8 := by rw [← hx126]; exact hh.got 3 _ 126 rfl rfl (hall 3 (by decide))
            obtain ⟨x127, hx127⟩ : ∃ x, A.eval (.tmp 127) = x := ⟨_, rfl⟩
            have f127 : (fun v _ => v = (Value.bool false)) x127 u8 := by rw [← hx127]; exact hh.got 4 _ 127 rfl rfl (hall 4 (by decide))
            obtain ⟨x128, hx128⟩ : ∃ x, A.eval (.tmp 128) = x := ⟨_, rfl⟩
            have f128 : (fun v _ => v = (Value.bool false)) x128 u8 := by rw [← hx128]; exact hh.got 5 _ 128 rfl rfl (hall 5 (by decide))
            obtain ⟨x129, hx129⟩ : ∃ x, A.eval (.tmp 129) = x := ⟨_, rfl⟩
            have f129 : (fun v _ => v = (Value.slice wa n wc)) x129 u8 := by rw [← hx129]; exact hh.got 6 _ 129 rfl rfl (hall 6 (by decide))
            obtain ⟨x130, hx130⟩ : ∃ x, A.eval (.tmp 130) = x := ⟨_, rfl⟩
            have f130 : (fun v _ => v = (Value.int .i64 (n : Nat))) x130 u8 := by rw [← hx130]; exact hh.got 7 _ 130 rfl rfl (hall 7 (by decide))
            obtain ⟨x131, hx131⟩ : ∃ x, A.eval (.tmp 131) = x := ⟨_, rfl⟩
            have f131 : (fun v _ => v = (Value.slice la n lc)) x131 u8 := by rw [← hx131]; exact hh.got 8 _ 131 rfl rfl (hall 8 (by decide))
            obtain ⟨x132, hx132⟩ : ∃ x, A.eval (.tmp 132) = x := ⟨_, rfl⟩
            have f132 : (fun v _ => v = (Value.int .i64 (n : Nat))) x132 u8 := by rw [← hx132]; exact hh.got 9 _ 132 rfl rfl (hall 9 (by decide))
            obtain ⟨x133, hx133⟩ : ∃ x, A.eval (.tmp 133) = x := ⟨_, rfl⟩
            have f133 : (fun v _ => v = (Value.bool false)) x133 u8 := by rw [← hx133]; exact hh.got 10 _ 133 rfl rfl (hall 10 (by decide))
            obtain ⟨x134, hx134⟩ : ∃ x, A.eval (.tmp 134) = x := ⟨_, rfl⟩
            have f134 : (fun v _ => v = (Value.bool false)) x134 u8 := by rw [← hx134]; exact hh.got 11 _ 134 rfl rfl (hall 11 (by decide))
            obtain ⟨x135, hx135⟩ : ∃ x, A.eval (.tmp 135) = x := ⟨_, rfl⟩
            have f135 : (fun v _ => v = (Value.bool false)) x135 u8 := by rw [← hx135]; exact hh.got 12 _ 135 rfl rfl (hall 12 (by decide))
            obtain ⟨x136, hx136⟩ : ∃ x, A.eval (.tmp 136) = x := ⟨_, rfl⟩
            have f136 : (fun v _ => v = (Value.pointer (some ⟨b, 0, none⟩))) x136 u8 := by rw [← hx136]; exact hh.got 13 _ 136 rfl rfl (hall 13 (by decide))
            obtain ⟨x137, hx137⟩ : ∃ x, A.eval (.tmp 137) = x := ⟨_, rfl⟩
            have f137 : (fun v _ => v = Value.int .i64 0) x137 u8 := by rw [← hx137]; exact hh.got 14 _ 137 rfl rfl (hall 14 (by decide))
            obtain ⟨x138, hx138⟩ : ∃ x, A.eval (.tmp 138) = x := ⟨_, rfl⟩
            have f138 : (fun v _ => v = (Value.bool false)) x138 u8 := by rw [← hx138]; exact hh.got 15 _ 138 rfl rfl (hall 15 (by decide))
            obtain ⟨x139, hx139⟩ : ∃ x, A.eval (.tmp 139) = x := ⟨_, rfl⟩
            have f139 : (fun v _ => v = (Value.bool false)) x139 u8 := by rw [← hx139]; exact hh.got 16 _ 139 rfl rfl (hall 16 (by decide))
            obtain ⟨x140, hx140⟩ : ∃ x, A.eval (.tmp 140) = x := ⟨_, rfl⟩
            have f140 : (fun v _ => v = (Value.bool false)) x140 u8 := by rw [← hx140]; exact hh.got 17 _ 140 rfl rfl (hall 17 (by decide))
            obtain ⟨x141, hx141⟩ : ∃ x, A.eval (.tmp 141) = x := ⟨_, rfl⟩
            have f141 : (fun v _ => v = (Value.pointer (some ⟨b, 0, none⟩))) x141 u8 := by rw [← hx141]; exact hh.got 18 _ 141 rfl rfl (hall 18 (by decide))
            obtain ⟨x142, hx142⟩ : ∃ x, A.eval (.tmp 142) = x := ⟨_, rfl⟩
            have f142 : (fun v _ => v = Value.bool false) x142 u8 := by rw [← hx142]; exact hh.got 19 _ 142 rfl rfl (hall 19 (by decide))
            obtain ⟨x143, hx143⟩ : ∃ x, A.eval (.tmp 143) = x := ⟨_, rfl⟩
            have f143 : (fun v _ => v = (Value.bool false)) x143 u8 := by rw [← hx143]; exact hh.got 20 _ 143 rfl rfl (hall 20 (by decide))
            obtain ⟨x144, hx144⟩ : ∃ x, A.eval (.tmp 144) = x := ⟨_, rfl⟩
            have f144 : (fun v _ => v = (Value.bool false)) x144 u8 := by rw [← hx144]; exact hh.got 21 _ 144 rfl rfl (hall 21 (by decide))
            obtain ⟨x145, hx145⟩ : ∃ x, A.eval (.tmp 145) = x := ⟨_, rfl⟩
            have f145 : (fun v _ => v = (Value.pointer (some ⟨b, 0, none⟩))) x145 u8 := by rw [← hx145]; exact hh.got 22 _ 145 rfl rfl (hall 22 (by decide))
            obtain ⟨x146, hx146⟩ : ∃ x, A.eval (.tmp 146) = x := ⟨_, rfl⟩
            have f146 : (fun v _ => v = Value.int .i64 rm) x146 u8 := by rw [← hx146]; exact hh.got 23 _ 146 rfl rfl (hall 23 (by decide))
            obtain ⟨x147, hx147⟩ : ∃ x, A.eval (.tmp 147) = x := ⟨_, rfl⟩
            have f147 : (fun v _ => v = (Value.pointer (some ⟨p1, 2, none⟩))) x147 u8 := by rw [← hx147]; exact hh.got 24 _ 147 rfl rfl (hall 24 (by decide))
            obtain ⟨x148, hx148⟩ : ∃ x, A.eval (.tmp 148) = x := ⟨_, rfl⟩
            have f148 : (fun v _ => v = (Value.int .i64 rm)) x148 u8 := by rw [← hx148]; exact hh.got 25 _ 148 rfl rfl (hall 25 (by decide))
            obtain ⟨x149, hx149⟩ : ∃ x, A.eval (.tmp 149) = x := ⟨_, rfl⟩
            have f149 : (fun v _ => v = (Value.bool false)) x149 u8 := by rw [← hx149]; exact hh.got 26 _ 149 rfl rfl (hall 26 (by decide))
            obtain ⟨x150, hx150⟩ : ∃ x, A.eval (.tmp 150) = x := ⟨_, rfl⟩
            have f150 : (fun v _ => v = (Value.bool false)) x150 u8 := by rw [← hx150]; exact hh.got 27 _ 150 rfl rfl (hall 27 (by decide))
            dsimp only [wrote, List.foldl] at hA
            rw [hx123, hx124, hx125, hx126, hx127, hx128, hx129, hx130, hx131, hx132, hx133, hx134, hx135, hx136, hx137, hx138, hx139, hx140, hx141, hx142, hx143, hx144, hx145, hx146, hx147, hx148, hx149, hx150] at hA
            clear hh hall hx123 hx124 hx125 hx126 hx127 hx128 hx129 hx130 hx131 hx132 hx133 hx134 hx135 hx136 hx137 hx138 hx139 hx140 hx141 hx142 hx143 hx144 hx145 hx146 hx147 hx148 hx149 hx150
            replace f123 := (f123 : x123 = (.pointer (some ⟨b, 0, none⟩)))
            subst f123
            obtain ⟨ta, tc, e124, hM⟩ := f124
            subst e124
            replace f125 := (f125 : x125 = (.slice wa n wc))
            subst f125
            have e126 := (f126 : _ = Value.bool true)
            subst e126
            replace f127 := (f127 : x127 = (.bool false))
            subst f127
            replace f128 := (f128 : x128 = (.bool false))
            subst f128
            replace f129 := (f129 : x129 = (.slice wa n wc))
            subst f129
            replace f130 := (f130 : x130 = (.int .i64 (n : Nat)))
            subst f130
            replace f131 := (f131 : x131 = (.slice la n lc))
            subst f131
            replace f132 := (f132 : x132 = (.int .i64 (n : Nat)))
            subst f132
            replace f133 := (f133 : x133 = (.bool false))
            subst f133
            replace f134 := (f134 : x134 = (.bool false))
            subst f134
            replace f135 := (f135 : x135 = (.bool false))
            subst f135
            replace f136 := (f136 : x136 = (.pointer (some ⟨b, 0, none⟩)))
            subst f136
            have e137 := (f137 : _ = Value.int .i64 0)
            subst e137
            replace f138 := (f138 : x138 = (.bool false))
            subst f138
            replace f139 := (f139 : x139 = (.bool false))
            subst f139
            replace f140 := (f140 : x140 = (.bool false))
            subst f140
            replace f141 := (f141 : x141 = (.pointer (some ⟨b, 0, none⟩)))
            subst f141
            have e142 := (f142 : _ = Value.bool false)
            subst e142
            replace f143 := (f143 : x143 = (.bool false))
            subst f143
            replace f144 := (f144 : x144 = (.bool false))
            subst f144
            replace f145 := (f145 : x145 = (.pointer (some ⟨b, 0, none⟩)))
            subst f145
            have e146 := (f146 : _ = Value.int .i64 rm)
            subst e146
            replace f147 := (f147 : x147 = (.pointer (some ⟨p1, 2, none⟩)))
            subst f147
            replace f148 := (f148 : x148 = (.int .i64 rm))
            subst f148
            replace f149 := (f149 : x149 = (.bool false))
            subst f149
            replace f150 := (f150 : x150 = (.bool false))
            subst f150
            subst hA
            show wpList _ _ _ [] _ _
            unfold wpList
            simp only [Act.put, List.setIfInBounds_toArray, List.set_cons_succ, List.set_cons_zero]
            have HS6 := hid (HS4.out.keep HU.out)
            obtain ⟨y6, hy6⟩ : ∃ x : World, x = u8 := ⟨_, rfl⟩
            rw [← hy6] at HU HS6 ⊢
            clear hy6
            have HRl := hid (HRl0.out y6 (gtrans HY4.out HU.out))
            have HFz' := hid (HFz.out.keep HU.out)
            clear HFz
            have HFz := HFz'
            clear HFa HQa HWa HOa HRa HK2 HZn HZ0 HZr HS4 HRl0
            go_upto_region 24 with fail
            have HS30 : Hid (∃ P Q, S2 v4 y6 b c ⟨rm, false, ((0 : Nat) : Int), 0, 0, C.drop 0⟩ ⟨rm, false, 0, 0, 0, M⟩ P Q ∧ (∀ k, Un P Q k → w0.heap.size ≤ k) ∧ Fw y6 wa Lz (fun k => Un P Q k ∨ k < w0.heap.size) ∧ y6.ownsRow v4.heap.size 32 2 (.slice la n lc) n (fcs E) ∧ (∀ j (hj : j < E.length), ∃ l', Out v4.heap.size y6 (E[j]).v l' ∧ l'.length ≤ 140737488355328)) := hid ⟨P, Q, HS6.out, HPQ.out, HFz.out, HRl.out.1, HRl.out.2⟩
            clear HS6 HPQ HFz HRl
            go_loopw [12] (fun iv wr => ∃ i : Nat, iv = .int .i64 i ∧ i ≤ n ∧ Hid (∃ P Q, S2 v4 wr b c ⟨rm, false, (i : Int), 0, 0, C.drop i⟩ ⟨rm, false, 0, 0, 0, M⟩ P Q ∧ (∀ k, Un P Q k → w0.heap.size ≤ k) ∧ Fw wr wa Lz (fun k => Un P Q k ∨ k < w0.heap.size) ∧ wr.ownsRow v4.heap.size 32 2 (.slice la n lc) n (fcs E) ∧ (∀ j (hj : j < E.length), ∃ l', Out v4.heap.size wr (E[j]).v l' ∧ l'.length ≤ 140737488355328))) (fun iv _ => n - (intOf iv).toNat)
            case atStart => exact ⟨0, rfl, Nat.zero_le _, HS30⟩
            case round =>
              obtain ⟨i, rfl, hi, HC⟩ := hrel
              obtain ⟨z0, hz0⟩ : ∃ x : World, x = wr := ⟨_, rfl⟩
              rw [← hz0] at HC ⊢
              clear hz0 HS30
              obtain ⟨P3, HC1⟩ : ∃ P, Hid (∃ Q, S2 v4 z0 b c ⟨rm, false, (i : Int), 0, 0, C.drop i⟩ ⟨rm, false, 0, 0, 0, M⟩ P Q ∧ (∀ k, Un P Q k → w0.heap.size ≤ k) ∧ Fw z0 wa Lz (fun k => Un P Q k ∨ k < w0.heap.size) ∧ z0.ownsRow v4.heap.size 32 2 (.slice la n lc) n (fcs E) ∧ (∀ j (hj : j < E.length), ∃ l', Out v4.heap.size z0 (E[j]).v l' ∧ l'.length ≤ 140737488355328)) := ⟨HC.out.choose, hid HC.out.choose_spec⟩
              obtain ⟨Q3, HS⟩ : ∃ Q, Hid (S2 v4 z0 b c ⟨rm, false, (i : Int), 0, 0, C.drop i⟩ ⟨rm, false, 0, 0, 0, M⟩ P3 Q ∧ (∀ k, Un P3 Q k → w0.heap.size ≤ k) ∧ Fw z0 wa Lz (fun k => Un P3 Q k ∨ k < w0.heap.size) ∧ z0.ownsRow v4.heap.size 32 2 (.slice la n lc) n (fcs E) ∧ (∀ j (hj : j < E.length), ∃ l', Out v4.heap.size z0 (E[j]).v l' ∧ l'.length ≤ 140737488355328)) := ⟨HC1.out.choose, hid HC1.out.choose_spec⟩
              clear HC HC1
              by_cases hlt : i < n
              · as_aux_lemma =>
                have hlt' : (i : Int) < (n : Int) := by omega
                have hiE : i < E.length := by rw [HEn.out]; exact hlt
                have hiL : i < C.length := by rw [HN.out]; exact hlt
                obtain ⟨gl, rfl⟩ : ∃ gl, la = some ⟨gl, 0, none⟩ := by
                  rcases HS.out.2.2.2.1.2 with ⟨h1, h2⟩ | ⟨g', cap, cur, h1, _⟩
                  · omega
                  · injection h1 with h1 _ _
                    exact ⟨g', h1⟩
                have HGl : Hid (gl < w0.heap.size) := hid (by
                  obtain ⟨_, cs, b1, _⟩ := HOl0.out.blk
                  exact b1.lt)
                obtain ⟨s, Hs⟩ : ∃ x, Hid ((E[i]).nm = x) := ⟨_, hid rfl⟩
                obtain ⟨l', HO⟩ : ∃ l', Hid (Out v4.heap.size z0 (E[i]).v l' ∧ l'.length ≤ 140737488355328) := ⟨(HS.out.2.2.2.2 i hiE).choose, hid (HS.out.2.2.2.2 i hiE).choose_spec⟩
                obtain ⟨xv, Hxv⟩ : ∃ x, Hid ((E[i]).v = x) := ⟨_, hid rfl⟩
                have HCl : Hid (∀ u : World, u.ownsRow v4.heap.size 32 2 (.slice (some ⟨gl, 0, none⟩) n lc) n (fcs E) → u.cell? ⟨gl, i * 2, none⟩ = some (.string s) ∧ u.cell? ⟨gl, i * 2 + 1, none⟩ = some xv) := hid (fun u hu => by
                  rcases hu.2 with ⟨h1, _⟩ | ⟨g', cap, cur, h1, hB, hg, hle, hm, hs, ht⟩
                  · cases h1
                  · injection h1 with h1 _ _
                    injection h1 with h1
                    injection h1 with h1 _ _
                    subst h1
                    obtain ⟨r1, r2⟩ := fcs_get E i hiE
                    rw [Hs.out] at r1
                    rw [Hxv.out] at r2
                    have hc : ∀ j x, j < n * 2 → (fcs E)[j]? = some x → u.cell? ⟨gl, j, none⟩ = some x := fun j x hj hx => by
                      rw [← ht, List.getElem?_take, if_pos hj] at hx
                      have hx' : cur[j]? = some x := by rw [← Array.getElem?_toList]; exact hx
                      simp [World.cell?, hg, hx']
                    exact ⟨hc _ _ (by omega) r1, hc _ _ (by omega) r2⟩)
                have hne : C.drop i = C[i] :: C.drop (i + 1) := List.drop_eq_getElem_cons hiL
                have hLE : (C[i]).1 = s := by
                  have h1 : (cont E)[i]? = some ((E[i]).nm, (E[i]).bs) := by unfold cont; rw [List.getElem?_map, List.getElem?_eq_getElem hiE]; rfl
                  rw [HCE.out, List.getElem?_eq_getElem hiL] at h1
                  injection h1 with h1
                  rw [h1]
                  exact Hs.out
                have HRm : Hid (Calls Try.prog 15 #[.pointer (some ⟨b, 0, none⟩), .string s] z0 fun e u' => (∃ x, e = .returned (.int .i64 x)) ∧ ∃ P', S2 v4 u' b c ⟨rm, false, ((i + 1 : Nat) : Int), 0, 0, C.drop (i + 1)⟩ ⟨rm, false, 0, 0, 0, M⟩ P' Q3 ∧ (∀ a L, Fw z0 a L (Un P3 Q3) → Fw u' a L (Un P' Q3)) ∧ DF z0 u' P3 ∧ (∀ k, P' k → P3 k ∨ z0.heap.size ≤ k)) := hid (by
                  have hS := HS.out.1
                  have hg : goodN (C[i]).1 = true := hS.x.dk.1.nms C[i] (by rw [hne]; exact List.mem_cons_self ..)
                  have e1 : (⟨rm, false, (i : Int), 0, 0, C.drop i⟩ : Ab).rem s = ⟨rm, false, ((i + 1 : Nat) : Int), 0, 0, C.drop (i + 1)⟩ := by
                    rw [hne, ← hLE]
                    exact rem_head hg
                  have q := s2_rem hS s (by show (i : Int) ≤ _; omega)
                  rw [e1] at q
                  exact q)
                have c0 := (HCl.out z0 HS.out.2.2.2.1).1
                go_upto_region 27 with (go_at_call 15; (with_reducible refine HRm.out.mono ?_); rintro e z1 ⟨⟨x5, rfl⟩, P4, hs, hf, hd, hp⟩; have HS4 := hid hs; have HF4 := hid hf; have HD4 := hid hd; have HP4 := hid hp; clear hs hf hd hp)
                have HPn : Hid (∀ k, k < w0.heap.size → ¬ P3 k) := hid (fun k hk hq => by have := HS.out.2.1 k (.inl hq); omega)
                have HRow : Hid (z1.ownsRow v4.heap.size 32 2 (.slice (some ⟨gl, 0, none⟩) n lc) n (fcs E)) := hid (row_df HS.out.2.2.2.1 HD4.out (fun k hk => by injection hk with hk; have hk' : gl = k := hk; exact HPn.out k (by have := HGl.out; omega)))
                have HOut : Hid (∀ j (hj : j < E.length), ∃ l', Out v4.heap.size z1 (E[j]).v l' ∧ l'.length ≤ 140737488355328) := hid (fun j hj => by
                  obtain ⟨l9, h1, h2⟩ := HS.out.2.2.2.2 j hj
                  exact ⟨l9, h1.df HD4.out (fun k hk => HPn.out k (HLt.out j hj k hk)), h2⟩)
                obtain ⟨l5, HO5⟩ : ∃ l', Hid (Out v4.heap.size z1 (E[i]).v l' ∧ l'.length ≤ 140737488355328) := ⟨(HOut.out i hiE).choose, hid (HOut.out i hiE).choose_spec⟩
                rw [Hxv.out] at HO5
                obtain ⟨ya, yc, hyv⟩ := HO5.out.1.len
                obtain ⟨yn, Hyn⟩ : ∃ x, Hid (l5.length = x) := ⟨_, hid rfl⟩
                rw [Hyn.out] at hyv
                subst hyv
                have c1 := (HCl.out z1 HRow.out).2
                have HOv1 := hid (over_any z1 v4.heap.size (.slice ya yn yc) l5 HO5.out.1 HO5.out.2)
                clear HRm c0 HO
                go_wp2_with (go_at_call 16; (with_reducible refine HOv1.out.mono ?_); rintro e z2 ⟨rfl, hg, hx⟩; have HG2 := hid hg; have HX2 := hid hx; clear hg hx)
                have HRel : Hid (∃ P Q, S2 v4 z2 b c ⟨rm, false, ((i + 1 : Nat) : Int), 0, 0, C.drop (i + 1)⟩ ⟨rm, false, 0, 0, 0, M⟩ P Q ∧ (∀ k, Un P Q k → w0.heap.size ≤ k) ∧ Fw z2 wa Lz (fun k => Un P Q k ∨ k < w0.heap.size) ∧ z2.ownsRow v4.heap.size 32 2 (.slice (some ⟨gl, 0, none⟩) n lc) n (fcs E) ∧ (∀ j (hj : j < E.length), ∃ l', Out v4.heap.size z2 (E[j]).v l' ∧ l'.length ≤ 140737488355328)) := hid (by
                  have hb : ∀ k, (Value.slice ya yn yc).ownBlock = some k → k < w0.heap.size := fun k hk => HLt.out i hiE k (by rw [Hxv.out]; exact hk)
                  have hW : w0.heap.size ≤ z0.heap.size := by
                    have h1 := HS.out.1.x.dk.lt
                    have h2 := HS.out.2.1 b (.inl h1.2.2)
                    omega
                  have hPQ : ∀ k, Un P4 Q3 k → w0.heap.size ≤ k := fun k hk => hk.elim (fun q => (HP4.out k q).elim (fun q => HS.out.2.1 k (.inl q)) (fun q => Nat.le_trans hW q)) (fun q => HS.out.2.1 k (.inr q))
                  have hD : DF z1 z2 (fun k => k < w0.heap.size ∧ v4.heap.size ≤ k) := DF.opt HG2.out (fun k hk => ⟨hb k hk, HO5.out.1.block k hk⟩)
                  have hsw : S2 v4 z2 b c ⟨rm, false, ((i + 1 : Nat) : Int), 0, 0, C.drop (i + 1)⟩ ⟨rm, false, 0, 0, 0, M⟩ P4 Q3 := ⟨HS4.out.x.df hD (fun k hk hq => by have := hPQ k (.inl hk); omega) (fun k hk => hk.2), HS4.out.y.df hD (fun k hk hq => by have := hPQ k (.inr hk); omega) (fun k hk => hk.2), HS4.out.ap⟩
                  refine ⟨P4, Q3, hsw, hPQ, ?_, ?_, fun j hj => ?_⟩
                  · have h1 : Fw z1 wa Lz (fun k => Un P4 Q3 k ∨ k < w0.heap.size) := by
                      obtain ⟨Fr, g9, r1, r2⟩ := HS.out.2.2.1
                      refine ⟨Fr, g9, r1.df HD4.out (fun k hk hq => (r2 k hk).2 (.inl (.inl hq))), fun k hk => ⟨Nat.lt_of_lt_of_le (r2 k hk).1 HD4.out.size, fun q => ?_⟩⟩
                      rcases q with (q | q) | q
                      · rcases HP4.out k q with q | q
                        · exact (r2 k hk).2 (.inl (.inl q))
                        · have := (r2 k hk).1; omega
                      · exact (r2 k hk).2 (.inl (.inr q))
                      · exact (r2 k hk).2 (.inr q)
                    obtain ⟨Fr, g9, r1, r2⟩ := h1
                    exact ⟨Fr, g9, r1.df hD (fun k hk hq => (r2 k hk).2 (.inr hq.1)), fun k hk => ⟨Nat.lt_of_lt_of_le (r2 k hk).1 hD.size, (r2 k hk).2⟩⟩
                  · exact World.ownsRow.kept HRow.out HG2.out (.inr (fun e => own_ne HRow.out HO5.out.1 (by decide) gl rfl e.symm))
                  · by_cases hji : j = i
                    · subst hji
                      obtain ⟨l9, h1, h2⟩ := HX2.out
                      rw [Hxv.out]
                      exact ⟨l9, h1, by rw [h2]; exact HO5.out.2⟩
                    · obtain ⟨l9, h1, h2⟩ := HOut.out j hj
                      refine ⟨l9, h1.on HG2.out (fun k hk e => ?_), h2⟩
                      have h3 : (E[i]).v.ownBlock = some k := by rw [Hxv.out]; exact hk
                      rcases Nat.lt_or_gt_of_ne hji with q | q
                      · rcases List.pairwise_iff_getElem.1 HAp.out j i hj hiE q with h4 | h4
                        · rw [h4] at e; cases e
                        · exact h4 (e.trans h3.symm)
                      · rcases List.pairwise_iff_getElem.1 HAp.out i j hiE hj q with h4 | h4
                        · rw [h4] at h3; cases h3
                        · exact h4 (h3.trans e.symm))
                go_roundw
                case rel => exact ⟨i + 1, by go_num, by omega, HRel⟩
                case measure => simp [intOf]; omega
              · as_aux_lemma =>
                have hlt' : ¬ (i : Int) < (n : Int) := by omega
                have e : n = i := by omega
                have hdr : C.drop i = [] := List.drop_eq_nil_of_le (by rw [HN.out]; omega)
                have HS9 := hid HS.out.1
                have HF9 := hid HS.out.2.2.1
                have HFa9 : Hid (∀ u, S2 v4 u b c ⟨rm, false, (i : Int), 0, 0, C.drop i⟩ ⟨rm, false, 0, 0, 0, M⟩ P3 Q3 → Calls Try.prog 10 #[.pointer (some ⟨b, 0, none⟩)] u fun e u' => ∃ a c, e = .returned (.slice a 0 c) ∧ u.grownBy u' none) := hid (fun u hS => (sd_files hS.x _ hS.lt).mono fun e u' ⟨a, c, q1, _, q3⟩ => ⟨a, c, by
                  have h1 : (srtC (⟨rm, false, (i : Int), 0, 0, C.drop i⟩ : Ab).C).length = 0 := by rw [srtC_len]; show (C.drop i).length = 0; rw [hdr]; rfl
                  rw [h1] at q1
                  exact q1, q3⟩)
                have HFb9 : Hid (∀ u, S2 v4 u b c ⟨rm, false, (i : Int), 0, 0, C.drop i⟩ ⟨rm, false, 0, 0, 0, M⟩ P3 Q3 → Calls Try.prog 10 #[.pointer (some ⟨c, 0, none⟩)] u fun e u' => ∃ a c, e = .returned (.slice a n c) ∧ Fw u' a Lz (Un Q3 P3) ∧ u.grownBy u' none) := hid (fun u hS => (sd_files hS.y _ hS.swap.lt).mono fun e u' ⟨a, c, q1, q2, q3⟩ => ⟨a, c, by
                  have h1 : srtC (⟨rm, false, 0, 0, 0, M⟩ : Ab).C = Lz := HLz.out
                  rw [h1, HLn.out] at q1
                  exact q1, by
                  have h1 : srtC (⟨rm, false, 0, 0, 0, M⟩ : Ab).C = Lz := HLz.out
                  rw [h1] at q2
                  exact q2, q3⟩)
                subst e
                clear HS
                go_wp2_with (first
                  | (go_at_call 10; (with_reducible refine (HFa9.out _ HS9.out).mono ?_); rintro e z1 ⟨a1, c1, rfl, hg⟩; have HS10 := hid (HS9.out.keep hg); have HF10 := hid (HF9.out.keep hg); clear hg)
                  | (go_at_call 10; (with_reducible refine (HFb9.out _ HS10.out).mono ?_); rintro e z2 ⟨a2, c2, rfl, hF, hg⟩; have HS11 := hid (HS10.out.keep hg); have HF11 := hid (HF10.out.keep hg); have HR11 := hid hF; clear hg hF)
                  | (go_at_call 11; (with_reducible refine (HQ9.out _ _ _ _ _ _ _ HR11.out HF11.out).mono ?_); rintro e z3 ⟨rfl, hg⟩; have HS12 := hid (HS11.out.keep hg); clear hg))
                go_ret
                exact ⟨rfl, gtrans HG1.out (gtrans HG24.out HS12.out.x.gr)⟩
      · as_aux_lemma =>
        go_upto_region 11 with fail
        go_loopw [6] (fun iv wr => ∃ (j : Nat), iv = .int .i64 j ∧ j ≤ n ∧ Hid (∃ E', OutF v4.heap.size wr (.slice la n lc) E ∧ OutF v4.heap.size wr (.slice xa n xc) E' ∧ E'.Perm E ∧ v4.grownBy wr none)) (fun iv _ => n - (intOf iv).toNat)
        case atStart => exact ⟨0, rfl, Nat.zero_le _, hid ⟨E', HOl.out, HE'.out.1, HE'.out.2, HGv.out⟩⟩
        case round =>
          obtain ⟨j, rfl, hj, HC⟩ := hrel
          obtain ⟨x0, hx0⟩ : ∃ x : World, x = wr := ⟨_, rfl⟩
          rw [← hx0] at HC ⊢
          clear hx0
          by_cases hjl : j < n / 2
          · have hj1 : (j : Int) < (n : Int).tdiv 2 := by rw [Int.tdiv_eq_ediv_of_nonneg (by omega)]; omega
            have hj2 : (j : Int) < (n : Int) / 2 := by omega
            obtain ⟨E2, HE2⟩ : ∃ E', Hid (OutF v4.heap.size x0 (.slice la n lc) E ∧ OutF v4.heap.size x0 (.slice xa n xc) E' ∧ E'.Perm E ∧ v4.grownBy x0 none) := ⟨HC.out.choose, hid HC.out.choose_spec⟩
            clear HC
            obtain ⟨gm, rfl⟩ : ∃ gm, xa = some ⟨gm, 0, none⟩ := by
              rcases HE2.out.2.1.row.2 with ⟨h1, h2⟩ | ⟨g', cap, cur, h1, _⟩
              · injection h1 with _ h1 _
                omega
              · injection h1 with h1 _ _
                exact ⟨g', h1⟩
            obtain ⟨k, hk⟩ : ∃ k : Nat, n = k + 1 + j := ⟨n - 1 - j, by omega⟩
            have hjk : j < k := by omega
            obtain ⟨cs, HCs⟩ : ∃ cs, Hid (Blk x0 gm cs 32 ∧ cs.take (n * 2) = fcs E2 ∧ n * 2 ≤ cs.length) := by
              obtain ⟨_, cs, b1, b2, b3, _⟩ := HE2.out.2.1.blk
              exact ⟨cs, hid ⟨b1, b2, b3⟩⟩
            have hE2 : E2.length = n := HE2.out.2.1.blk.1.symm
            obtain ⟨fj, Hfj⟩ : ∃ x, Hid (E2[j]'(by omega) = x) := ⟨_, hid rfl⟩
            obtain ⟨fk, Hfk⟩ : ∃ x, Hid (E2[k]'(by omega) = x) := ⟨_, hid rfl⟩
            have hcc : ∀ i x, i < n * 2 → (fcs E2)[i]? = some x → x0.cell? ⟨gm, i, none⟩ = some x := fun i x hi hx => by
              rw [← HCs.out.2.1, List.getElem?_take, if_pos hi] at hx
              exact (HCs.out.1.cell i).trans hx
            have fj1 := hcc _ _ (by omega) (fcs_get E2 j (by omega)).1
            have fj2 := hcc _ _ (by omega) (fcs_get E2 j (by omega)).2
            have fk1 := hcc _ _ (by omega) (fcs_get E2 k (by omega)).1
            have fk2 := hcc _ _ (by omega) (fcs_get E2 k (by omega)).2
            rw [Hfj.out] at fj1 fj2
            rw [Hfk.out] at fk1 fk2
            have z1 := HCs.out.1.frozen (j * 2)
            have z2 := HCs.out.1.frozen (j * 2 + 1)
            have z3 := HCs.out.1.frozen (k * 2)
            have z4 := HCs.out.1.frozen (k * 2 + 1)
            obtain ⟨ja, jc, hjv⟩ := (HE2.out.2.1.own fj (by rw [← Hfj.out]; exact List.getElem_mem _)).len
            obtain ⟨ka, kc, hkv⟩ := (HE2.out.2.1.own fk (by rw [← Hfk.out]; exact List.getElem_mem _)).len
            obtain ⟨jn, Hjn⟩ : ∃ x, Hid (fj.nm = x) := ⟨_, hid rfl⟩
            obtain ⟨kn, Hkn⟩ : ∃ x, Hid (fk.nm = x) := ⟨_, hid rfl⟩
            obtain ⟨jl, Hjl⟩ : ∃ x, Hid (fj.bs.length = x) := ⟨_, hid rfl⟩
            obtain ⟨kl, Hkl⟩ : ∃ x, Hid (fk.bs.length = x) := ⟨_, hid rfl⟩
            rw [Hjn.out] at fj1
            rw [Hkn.out] at fk1
            rw [hjv, Hjl.out] at fj2
            rw [hkv, Hkl.out] at fk2
            have hki : (n : Int) - 1 - (j : Int) = (k : Int) := by omega
            have hkn : (k : Int) < (n : Int) := by omega
            have hjn : (j : Int) < (n : Int) := by omega
            clear hcc
            go_upto_region 13 with fail
            go_region
            obtain ⟨E3, h31, h32, h33⟩ := swap_row (j := j) (k := k) HE2.out.2.1 (by omega) (by omega) jn kn (.slice ja jl jc) (.slice ka kl kc) ⟨by rw [Hfj.out]; exact Hjn.out, by rw [Hfj.out, hjv, Hjl.out]⟩ ⟨by rw [Hfk.out]; exact Hkn.out, by rw [Hfk.out, hkv, Hkl.out]⟩
            obtain ⟨x1, hx1⟩ : ∃ x, ((((x0.setCell ⟨gm, j * 2, none⟩ (.string kn)).setCell ⟨gm, j * 2 + 1, none⟩ (.slice ka kl kc)).setCell ⟨gm, k * 2, none⟩ (.string jn)).setCell ⟨gm, k * 2 + 1, none⟩ (.slice ja jl jc)).drew = x := ⟨_, rfl⟩
            rw [hx1] at h31 h33 ⊢
            have HN1 : Hid (∃ E', OutF v4.heap.size x1 (.slice la n lc) E ∧ OutF v4.heap.size x1 (.slice (some ⟨gm, 0, none⟩) n xc) E' ∧ E'.Perm E ∧ v4.grownBy x1 none) := hid ⟨E3, HE2.out.1.on h33 (fun q hq => ⟨fun e => HNe.out q e hq.symm.symm, HE2.out.1.ne HE2.out.2.1 q hq⟩), h31, h32.trans HE2.out.2.2.1, HE2.out.2.2.2.andThen h33 (fun q hq => .inl (HE2.out.2.1.low q hq))⟩
            clear h31 h32 h33 hx1 HE2 HCs fj1 fj2 fk1 fk2 z1 z2 z3 z4
            go_wp2_with fail
            go_roundw
            case rel => exact ⟨j + 1, by go_num, by omega, HN1⟩
            case measure => simp [intOf]; omega
          · have hj1 : ¬ (j : Int) < (n : Int).tdiv 2 := by rw [Int.tdiv_eq_ediv_of_nonneg (by omega)]; omega
            have hj2 : ¬ (j : Int) < (n : Int) / 2 := by omega
            obtain ⟨E2, HE2⟩ : ∃ E', Hid (OutF v4.heap.size x0 (.slice la n lc) E ∧ OutF v4.heap.size x0 (.slice xa n xc) E' ∧ E'.Perm E ∧ v4.grownBy x0 none) := ⟨HC.out.choose, hid HC.out.choose_spec⟩
            have HOl0 := hid HE2.out.1
            have HOm0 := hid HE2.out.2.1
            have HPm := hid HE2.out.2.2.1
            have HGv0 := hid HE2.out.2.2.2
            clear HC HE2 HOl HNe HE' HGv
            obtain ⟨M, HM⟩ : ∃ x, Hid (cont E2 = x) := ⟨_, hid rfl⟩
            have HLM : Hid (L.Perm M) := hid (by rw [← HM.out, ← HCE.out]; exact (cont_perm HPm.out).symm)
            have HMn : Hid (M.length = n) := hid (by rw [← HLM.out.length_eq]; exact HN.out)
            have HGw2 : Hid (w1.grownBy x0 none) := hid (gtrans HG24.out HGv0.out)
            have k2 : x0.cell? ⟨p1, 2, none⟩ = some (.int .i64 rm) := (HB1.out.keep HGw2.out).cell 2
            have HK2' : Hid (∀ u, x0.grownBy u none → u.cell? ⟨p1, 2, none⟩ = some (.int .i64 rm)) := hid (fun u hu => (HB1.out.keep (gtrans HGw2.out hu)).cell 2)
            by_cases hrm : 1 ≤ rm ∧ rm ≤ 268435456
            rotate_left
            · as_aux_lemma =>
              have HLd : Hid (∀ (u : World) (a : Option Addr) (n c : Nat), Calls Try.prog 8 #[.slice a n c, .int .i64 rm] u fun e w' => e = .returned (.tuple #[.pointer none, .int .i64 90]) ∧ w' = u) := hid (fun u a n c => load_no u a n c rm (by omega))
              go_wp2_with (first
                | (go_at_call 8; (with_reducible refine (HLd.out _ _ _ _).mono ?_); rintro e w5 ⟨rfl, hw5⟩; have hw5' := hw5.symm; clear hw5; subst hw5')
                | (go_at_call 9; (with_reducible refine (HNu.out _ _).mono ?_); rintro e w5 ⟨rfl, hw5⟩; have hw5' := hw5.symm; clear hw5; subst hw5'))
              go_ret
              exact ⟨rfl, gtrans HG1.out HGw2.out⟩
            cases hld : loadC rm [] L with
            | none =>
              as_aux_lemma =>
              have hld2 := load_none (by omega) HLM.out hld
              have HLd1 : Hid (Calls Try.prog 8 #[.slice la n lc, .int .i64 rm] x0 fun e w' => e = .returned (.tuple #[.pointer none, .int .i64 96]) ∧ x0.grownBy w' none) := hid (by
                obtain ⟨a9, g9, c9, h1, h2⟩ := HOl0.out.ar
                rw [HCE.out] at h1 h2
                rw [h1]
                exact (load_any x0 _ a9 g9 0 c9 L rm h2 (by rw [HN.out]; omega) HBl.out hrm).mono fun e w' ⟨q1, q2⟩ => by
                  rcases q2 with ⟨_, q2⟩ | ⟨C, b, q3, _⟩
                  · exact ⟨q2, q1⟩
                  · rw [hld] at q3; cases q3)
              have HLd2 : Hid (∀ u, x0.grownBy u none → Calls Try.prog 8 #[.slice xa n xc, .int .i64 rm] u fun e w' => e = .returned (.tuple #[.pointer none, .int .i64 96]) ∧ u.grownBy w' none) := hid (fun u hu => by
                obtain ⟨a9, g9, c9, h1, h2⟩ := (HOm0.out.keep hu).ar
                rw [HM.out] at h1 h2
                rw [h1]
                exact (load_any u _ a9 g9 0 c9 M rm h2 (by rw [HMn.out]; omega) (fun p hp => HBl.out p (HLM.out.mem_iff.2 hp)) hrm).mono fun e w' ⟨q1, q2⟩ => by
                  rcases q2 with ⟨_, q2⟩ | ⟨C, b, q3, _⟩
                  · exact ⟨q2, q1⟩
                  · rw [hld2] at q3; cases q3)
              go_upto_region 15 with (go_at_call 8; (with_reducible refine HLd1.out.mono ?_); rintro e y1 ⟨rfl, hg⟩; have HY1 := hid hg; clear hg)
              have k2' := HK2'.out y1 HY1.out
              go_wp2_with (first
                | (go_at_call 8; (with_reducible refine (HLd2.out _ HY1.out).mono ?_); rintro e y2 ⟨rfl, hg⟩; have HY2 := hid (gtrans HY1.out hg); clear hg)
                | (go_at_call 9; (with_reducible refine (HNu.out _ _).mono ?_); rintro e w5 ⟨rfl, hw5⟩; have hw5' := hw5.symm; clear hw5; subst hw5'))
              go_ret
              exact ⟨rfl, gtrans HG1.out (gtrans HGw2.out HY2.out)⟩
            | some C =>
              obtain ⟨rfl, hld2, hlk⟩ := load_perm (by omega) HLM.out C hld
              have HLk := hid hlk
              have HLd1 : Hid (Calls Try.prog 8 #[.slice la n lc, .int .i64 rm] x0 fun e w' => ∃ b, e = .returned (.tuple #[.pointer (some ⟨b, 0, none⟩), .int .i64 0]) ∧ ∃ P, Sd v4 w' b ⟨rm, false, 0, 0, 0, C⟩ P ∧ (∀ k, P k → x0.heap.size ≤ k) ∧ x0.grownBy w' none) := hid (by
                obtain ⟨a9, g9, c9, h1, h2⟩ := HOl0.out.ar
                rw [HCE.out] at h1 h2
                rw [h1]
                exact (load_any x0 _ a9 g9 0 c9 C rm h2 (by rw [HN.out]; omega) HBl.out hrm).mono fun e w' ⟨q1, q2⟩ => by
                  rcases q2 with ⟨q2, _⟩ | ⟨C', b, q3, q4, q5⟩
                  · rw [hld] at q2; cases q2
                  · rw [hld] at q3
                    injection q3 with q3
                    subst q3
                    exact ⟨b, q4, _, ⟨q5.low_to HGv0.out.size, fun _ hk => hk.2, fun _ hk => Nat.le_trans HGv0.out.size hk.1, gtrans HGv0.out q1⟩, fun _ hk => hk.1, q1⟩)
              have HLd2 : Hid (∀ u, x0.grownBy u none → Calls Try.prog 8 #[.slice xa n xc, .int .i64 rm] u fun e w' => ∃ b, e = .returned (.tuple #[.pointer (some ⟨b, 0, none⟩), .int .i64 0]) ∧ ∃ Q, Sd v4 w' b ⟨rm, false, 0, 0, 0, M⟩ Q ∧ (∀ k, Q k → u.heap.size ≤ k) ∧ u.grownBy w' none) := hid (fun u hu => by
                obtain ⟨a9, g9, c9, h1, h2⟩ := (HOm0.out.keep hu).ar
                rw [HM.out] at h1 h2
                rw [h1]
                exact (load_any u _ a9 g9 0 c9 M rm h2 (by rw [HMn.out]; omega) (fun p hp => HBl.out p (HLM.out.mem_iff.2 hp)) hrm).mono fun e w' ⟨q1, q2⟩ => by
                  rcases q2 with ⟨q2, _⟩ | ⟨C', b, q3, q4, q5⟩
                  · rw [hld2] at q2; cases q2
                  · rw [hld2] at q3
                    injection q3 with q3
                    subst q3
                    exact ⟨b, q4, _, ⟨q5.low_to (gtrans HGv0.out hu).size, fun _ hk => hk.2, fun _ hk => Nat.le_trans (gtrans HGv0.out hu).size hk.1, gtrans (gtrans HGv0.out hu) q1⟩, fun _ hk => hk.1, q1⟩)
              have HRl0 : Hid (∀ u, x0.grownBy u none → u.ownsRow v4.heap.size 32 2 (.slice la n lc) n (fcs E) ∧ (∀ j (hj : j < E.length), ∃ l', Out v4.heap.size u (E[j]).v l' ∧ l'.length ≤ 140737488355328)) := hid (fun u hu => by
                have h1 := HOl0.out.keep hu
                refine ⟨by have := h1.row; rw [HEn.out] at this; exact this, fun j hj => ⟨_, h1.own _ (List.getElem_mem hj), ?_⟩⟩
                exact HBl.out ((E[j]).nm, (E[j]).bs) (by rw [← HCE.out]; exact List.mem_map.2 ⟨E[j], List.getElem_mem hj, rfl⟩))
              have HLt : Hid (∀ j (hj : j < E.length) k, (E[j]).v.ownBlock = some k → k < x0.heap.size) := hid (fun j hj k hk => ((HOl0.out.own _ (List.getElem_mem hj)).lt k hk).2)
              go_upto_region 15 with (go_at_call 8; (with_reducible refine HLd1.out.mono ?_); rintro e y1 ⟨b, rfl, P, hs, hp, hg⟩; have HS1 := hid hs; have HP1 := hid hp; have HY1 := hid hg; clear hs hp hg)
              have k2' := HK2'.out y1 HY1.out
              go_upto_region 16 with (go_at_call 8; (with_reducible refine (HLd2.out _ HY1.out).mono ?_); rintro e y2 ⟨c, rfl, Q, hs, hp, hg⟩; have HS2 := hid hs; have HP2 := hid hp; have HY2 := hid hg; clear hs hp hg)
              have HS3 : Hid (S2 v4 y2 b c ⟨rm, false, 0, 0, 0, C⟩ ⟨rm, false, 0, 0, 0, M⟩ P Q) := hid ⟨HS1.out.keep HY2.out, HS2.out, fun k h1 h2 => by have := HS1.out.lt k h1; have := HP2.out k h2; omega⟩
              have HPQ : Hid (∀ k, Un P Q k → x0.heap.size ≤ k) := hid (fun k hk => hk.elim (HP1.out k) (fun q => Nat.le_trans HY1.out.size (HP2.out k q)))
              have HYY : Hid (x0.grownBy y2 none) := hid (gtrans HY1.out HY2.out)
              obtain ⟨Lz, HLz⟩ : ∃ x, Hid (srtC M = x) := ⟨_, hid rfl⟩
              have HLz' : Hid (srtC C = Lz) := hid (by rw [← HLz.out]; exact HLk.out.srt)
              have HLn : Hid (Lz.length = n) := hid (by rw [← HLz.out, srtC_len]; exact HMn.out)
              have HBd : Hid (Lz.length ≤ 64 ∧ ∀ p ∈ Lz, p.2.length ≤ 268435456) := hid (by rw [← HLz.out]; exact sd_bnd HS3.out.y)
              have HQ9 : Hid (∀ v a a' c c' P P', Fw v a Lz P → Fw v a' Lz P' → Calls Try.prog 11 #[.slice a n c, .slice a' n c'] v fun e v' => e = .returned (.bool true) ∧ v.grownBy v' none) := hid (fun v a a' c c' P P' h1 h2 => by
                have q := fw_eq h1 h2 c c' (by have := HBd.out.1; omega) (fun p hp => by have := HBd.out.2 p hp; omega)
                rw [HLn.out] at q
                exact q)
              have HFb1 : Hid (∀ u, S2 v4 u b c ⟨rm, false, 0, 0, 0, C⟩ ⟨rm, false, 0, 0, 0, M⟩ P Q → x0.heap.size ≤ u.heap.size → Calls Try.prog 10 #[.pointer (some ⟨c, 0, none⟩)] u fun e u' => ∃ a c, e = .returned (.slice a n c) ∧ Fw u' a Lz (fun k => Un P Q k ∨ k < x0.heap.size) ∧ u.grownBy u' none) := hid (fun u hS hu => (sd_files hS.y (fun k => Un P Q k ∨ k < x0.heap.size) (fun k hk => hk.elim (hS.lt k) (fun q => by omega))).mono fun e u' ⟨a, c, q1, q2, q3⟩ => ⟨a, c, by
                  have h1 : srtC (⟨rm, false, 0, 0, 0, M⟩ : Ab).C = Lz := HLz.out
                  rw [h1, HLn.out] at q1
                  exact q1, by
                  have h1 : srtC (⟨rm, false, 0, 0, 0, M⟩ : Ab).C = Lz := HLz.out
                  rw [h1] at q2
                  exact q2, q3⟩)
              clear HS1 HS2 HP1 HP2 HY1 HY2 HLd1 HLd2 hlk
              go_upto_region 21 with (first
                | (go_at_call 9; (with_reducible refine (HNu.out _ _).mono ?_); rintro e w5 ⟨rfl, hw5⟩; have hw5' := hw5.symm; clear hw5; subst hw5')
                | (go_at_call 10; (with_reducible refine (HFb1.out _ HS3.out HYY.out.size).mono ?_); rintro e y4 ⟨wa, wc, rfl, hF, hg⟩; have HFz := hid hF; have HY4 := hid (gtrans HYY.out hg); have HS4 := hid (HS3.out.keep hg); clear hF hg))
              have HFa : Hid (∀ u, y4.grownBy u none → Calls Try.prog 10 #[.pointer (some ⟨b, 0, none⟩)] u fun e v' => ∃ x, e = .returned x ∧ u.grownBy v' none ∧ ∃ ta tc, x = Value.slice ta n tc ∧ Fw v' ta Lz (Un P Q)) := hid (fun u hu => (sd_files (HS4.out.keep hu).x _ (HS4.out.keep hu).lt).mono fun e u' ⟨ta, tc, q1, q2, q3⟩ => by
                have h1 : srtC (⟨rm, false, 0, 0, 0, C⟩ : Ab).C = Lz := HLz'.out
                rw [h1, HLn.out] at q1
                rw [h1] at q2
                exact ⟨_, q1, q3, ta, tc, rfl, q2⟩)
              have HQa : Hid (∀ u ta tc, y4.grownBy u none → Fw u ta Lz (Un P Q) → Calls Try.prog 11 #[.slice ta n tc, .slice wa n wc] u fun e v' => ∃ x, e = .returned x ∧ u.grownBy v' none ∧ x = Value.bool true) := hid (fun u ta tc hu h1 => (HQ9.out u ta wa tc wc _ _ h1 (HFz.out.keep hu)).mono fun e v' ⟨q1, q2⟩ => ⟨_, q1, q2, rfl⟩)
              have HWa : Hid (∀ u, y4.grownBy u none → Calls Try.prog 12 #[.pointer (some ⟨b, 0, none⟩)] u fun e v' => ∃ x, e = .returned x ∧ u.grownBy v' none ∧ x = Value.int .i64 0) := hid (fun u hu => (writes_p (HS4.out.keep hu).x.dk).mono fun e v' ⟨q1, q2⟩ => ⟨_, q1, q2, rfl⟩)
              have HOa : Hid (∀ u, y4.grownBy u none → Calls Try.prog 13 #[.pointer (some ⟨b, 0, none⟩)] u fun e v' => ∃ x, e = .returned x ∧ u.grownBy v' none ∧ x = Value.bool false) := hid (fun u hu => (off_p (HS4.out.keep hu).x.dk).mono fun e v' ⟨q1, q2⟩ => ⟨_, q1, q2, rfl⟩)
              have HRa : Hid (∀ u, y4.grownBy u none → Calls Try.prog 14 #[.pointer (some ⟨b, 0, none⟩)] u fun e v' => ∃ x, e = .returned x ∧ u.grownBy v' none ∧ x = Value.int .i64 rm) := hid (fun u hu => (room_p (HS4.out.keep hu).x.dk).mono fun e v' ⟨q1, q2⟩ => ⟨_, q1, q2, rfl⟩)
              have HK2 : Hid (∀ u, y4.grownBy u none → u.cell? ⟨p1, 2, none⟩ = some (.int .i64 rm)) := hid (fun u hu => HK2'.out u (gtrans HY4.out hu))
              have HZn : Hid (∀ (x y : Operand) (u : World), (do eqGuard .neq 3 x y (.int .i64 (n : Nat)) (.int .i64 (n : Nat)); binOp .neq 3 (.int .i64 (n : Nat)) (.int .i64 (n : Nat)) : Sem Value).run Try.prog u = .ok (.bool false) u) := hid (fun x y u => by go_simp)
              have HZ0 : Hid (∀ (x y : Operand) (u : World), (do eqGuard .neq 3 x y (.int .i64 0) (.int .i64 0); binOp .neq 3 (.int .i64 0) (.int .i64 0) : Sem Value).run Try.prog u = .ok (.bool false) u) := hid (fun x y u => by go_simp)
              have HZr : Hid (∀ (x y : Operand) (u : World), (do eqGuard .neq 3 x y (.int .i64 rm) (.int .i64 rm); binOp .neq 3 (.int .i64 rm) (.int .i64 rm) : Sem Value).run Try.prog u = .ok (.bool false) u) := hid (fun x y u => by go_simp)
              clear HS3 HFb1 HYY k2 k2'
              refine wp_region_listX (by kernel_rfl) [fun v _ => v = (Value.pointer (some ⟨b, 0, none⟩)), fun v u => ∃ ta tc, v = Value.slice ta n tc ∧ Fw u ta Lz (Un P Q), fun v _ => v = (Value.slice wa n wc), fun v _ => v = Value.bool true, fun v _ => v = (Value.bool false), fun v _ => v = (Value.bool false), fun v _ => v = (Value.slice wa n wc), fun v _ => v = (Value.int .i64 (n : Nat)), fun v _ => v = (Value.slice la n lc), fun v _ => v = (Value.int .i64 (n : Nat)), fun v _ => v = (Value.bool false), fun v _ => v = (Value.bool false), fun v _ => v = (Value.bool false), fun v _ => v = (Value.pointer (some ⟨b, 0, none⟩)), fun v _ => v = Value.int .i64 0, fun v _ => v = (Value.bool false), fun v _ => v = (Value.bool false), fun v _ => v = (Value.bool false), fun v _ => v = (Value.pointer (some ⟨b, 0, none⟩)), fun v _ => v = Value.bool false, fun v _ => v = (Value.bool false), fun v _ => v = (Value.bool false), fun v _ => v = (Value.pointer (some ⟨b, 0, none⟩)), fun v _ => v = Value.int .i64 rm, fun v _ => v = (Value.pointer (some ⟨p1, 2, none⟩)), fun v _ => v = (Value.int .i64 rm), fun v _ => v = (Value.bool false), fun v _ => v = (Value.bool false)] (none) (fun _ => none) 28 (by kernel_rfl) (by kernel_rfl) (by kernel_rfl) (by kernel_rfl) (by decide) noRow_one (fun _ => .inl rfl) ⟨fun i v u u' hki h hg => h, fun i v u u' hki h hg => (by obtain ⟨ta, tc, e, ho⟩ := h; exact ⟨ta, tc, e, ho.keep hg⟩), fun i v u u' hki h hg => h, fun i v u u' hki h hg => h, fun i v u u' hki h hg => h, fun i v u u' hki h hg => h, fun i v u u' hki h hg => h, fun i v u u' hki h hg => h, fun i v u u' hki h hg => h, fun i v u u' hki h hg => h, fun i v u u' hki h hg => h, fun i v u u' hki h hg => h, fun i v u u' hki h hg => h, fun i v u u' hki h hg => h, fun i v u u' hki h hg => h, fun i v u u' hki h hg => h, fun i v u u' hki h hg => h, fun i v u u' hki h hg => h, fun i v u u' hki h hg => h, fun i v u u' hki h hg => h, fun i v u u' hki h hg => h, fun i v u u' hki h hg => h, fun i v u u' hki h hg => h, fun i v u u' hki h hg => h, fun i v u u' hki h hg => h, fun i v u u' hki h hg => h, fun i v u u' hki h hg => h, fun i v u u' hki h hg => h, trivial⟩ ⟨?_, ?_, ?_, ?_, ?_, ?_, ?_, ?_, ?_, ?_, ?_, ?_, ?_, ?_, ?_, ?_, ?_, ?_, ?_, ?_, ?_, ?_, ?_, ?_, ?_, ?_, ?_, ?_, trivial⟩ ?_
              · intro A u hu hpu hsz hout hdeps
                have e7 : A.eval (.tmp 7) = (.pointer (some ⟨b, 0, none⟩)) := (hout 7 (by kernel_rfl)).trans rfl
                refine ifw_none rfl ?_
                with_reducible refine shown_q (Value.pointer (some ⟨b, 0, none⟩)) ?qq_2_0 (fun _ _ => ?qr_2_0)
                case qr_2_0 => exact (rfl : (Value.pointer (some ⟨b, 0, none⟩)) = (Value.pointer (some ⟨b, 0, none⟩)))
                with_reducible refine quietAt_mv (.tmp 7) (Value.pointer (some ⟨b, 0, none⟩)) ?h0_2_0 ?h1_2_0
                case h0_2_0 => rfl
                case h1_2_0 => exact e7
              · intro A u hu hpu hsz hout hdeps
                have e123 : A.eval (.tmp 123) = (.pointer (some ⟨b, 0, none⟩)) := by have h := depL hdeps 0 (by kernel_rfl) 123 (by kernel_rfl); exact h
                refine ifw_none rfl ?_
                with_reducible refine shown_call 10 Try.f10 ?h0_2_1 ?h1_2_1 ?h2_2_1 #[.tmp 123] #[34] ?h3_2_1 #[(Value.pointer (some ⟨b, 0, none⟩))] ?h4_2_1 ?h5_2_1
                case h0_2_1 => exact Try.func10
                case h1_2_1 => kernel_rfl
                case h2_2_1 => kernel_rfl
                case h3_2_1 => rfl
                case h4_2_1 => exact map1 _ _ _ e123
                case h5_2_1 => exact HFa.out u hu
              · intro A u hu hpu hsz hout hdeps
                have e11 : A.eval (.tmp 11) = (.slice wa n wc) := (hout 11 (by kernel_rfl)).trans rfl
                refine ifw_none rfl ?_
                with_reducible refine shown_q (Value.slice wa n wc) ?qq_2_2 (fun _ _ => ?qr_2_2)
                case qr_2_2 => exact (rfl : (Value.slice wa n wc) = (Value.slice wa n wc))
                with_reducible refine quietAt_mv (.tmp 11) (Value.slice wa n wc) ?h0_2_2 ?h1_2_2
                case h0_2_2 => rfl
                case h1_2_2 => exact e11
              · intro A u hu hpu hsz hout hdeps
                have f124 : (fun v u => ∃ ta tc, v = Value.slice ta n tc ∧ Fw u ta Lz (Un P Q)) (A.eval (.tmp 124)) u := by have h := depL hdeps 1 (by kernel_rfl) 124 (by kernel_rfl); exact h
                obtain ⟨ta, tc, e124, hM⟩ := f124
                have e125 : A.eval (.tmp 125) = (.slice wa n wc) := by have h := depL hdeps 2 (by kernel_rfl) 125 (by kernel_rfl); exact h
                refine ifw_none rfl ?_
                with_reducible refine shown_call 11 Try.f11 ?h0_2_3 ?h1_2_3 ?h2_2_3 #[.tmp 124, .tmp 125] #[22, 22] ?h3_2_3 #[(Value.slice ta n tc), (Value.slice wa n wc)] ?h4_2_3 ?h5_2_3
                case h0_2_3 => exact Try.func11
                case h1_2_3 => kernel_rfl
                case h2_2_3 => kernel_rfl
                case h3_2_3 => rfl
                case h4_2_3 => exact map2 _ _ _ _ _ e124 e125
                case h5_2_3 => exact HQa.out u ta tc hu hM
              · intro A u hu hpu hsz hout hdeps
                have f126 : (fun v _ => v = Value.bool true) (A.eval (.tmp 126)) u := by have h := depL hdeps 3 (by kernel_rfl) 126 (by kernel_rfl); exact h
                have e126 := (f126 : _ = Value.bool true)
                refine ifw_none rfl ?_
                with_reducible refine shown_q (Value.bool false) ?qq_2_4 (fun _ _ => ?qr_2_4)
                case qr_2_4 => exact (rfl : (Value.bool false) = (Value.bool false))
                with_reducible refine quietAt_un .not 4 (.tmp 126) (Value.bool true) (Value.bool false) ?h0_2_4 ?h1_2_4 ?h2_2_4
                case h0_2_4 => rfl
                case h1_2_4 => exact e126
                case h2_2_4 => rfl
              · intro A u hu hpu hsz hout hdeps
                have e127 : A.eval (.tmp 127) = (.bool false) := by have h := depL hdeps 4 (by kernel_rfl) 127 (by kernel_rfl); exact h
                refine ifw_none rfl ?_
                with_reducible refine shown_q (Value.bool false) ?qq_2_5 (fun _ _ => ?qr_2_5)
                case qr_2_5 => exact (rfl : (Value.bool false) = (Value.bool false))
                with_reducible refine quietAt_mv (.tmp 127) (Value.bool false) ?h0_2_5 ?h1_2_5
                case h0_2_5 => rfl
                case h1_2_5 => exact e127
              · intro A u hu hpu hsz hout hdeps
                have e128 : A.eval (.tmp 128) = (.bool false) := by have h := depL hdeps 5 (by kernel_rfl) 128 (by kernel_rfl); exact h
                have e11 : A.eval (.tmp 11) = (.slice wa n wc) := (hout 11 (by kernel_rfl)).trans rfl
                refine ifw_want 5 false 128 rfl rfl e128 ?_
                with_reducible refine shown_q (Value.slice wa n wc) ?qq_2_6 (fun _ _ => ?qr_2_6)
                case qr_2_6 => exact (rfl : (Value.slice wa n wc) = (Value.slice wa n wc))
                with_reducible refine quietAt_mv (.tmp 11) (Value.slice wa n wc) ?h0_2_6 ?h1_2_6
                case h0_2_6 => rfl
                case h1_2_6 => exact e11
              · intro A u hu hpu hsz hout hdeps
                have e128 : A.eval (.tmp 128) = (.bool false) := by have h := depL hdeps 5 (by kernel_rfl) 128 (by kernel_rfl); exact h
                have e129 : A.eval (.tmp 129) = (.slice wa n wc) := by have h := depL hdeps 6 (by kernel_rfl) 129 (by kernel_rfl); exact h
                refine ifw_want 5 false 128 rfl rfl e128 ?_
                with_reducible refine shown_q (Value.int .i64 (n : Nat)) ?qq_2_7 (fun _ _ => ?qr_2_7)
                case qr_2_7 => exact (rfl : (Value.int .i64 (n : Nat)) = (Value.int .i64 (n : Nat)))
                with_reducible refine quietAt_len (.tmp 129) 22 ?h0_2_7 wa n wc ?h1_2_7 ?h2_2_7
                case h0_2_7 => rfl
                case h1_2_7 => exact e129
                case h2_2_7 => kernel_rfl
              · intro A u hu hpu hsz hout hdeps
                have e128 : A.eval (.tmp 128) = (.bool false) := by have h := depL hdeps 5 (by kernel_rfl) 128 (by kernel_rfl); exact h
                have e3 : A.eval (.tmp 3) = (.slice la n lc) := (hout 3 (by kernel_rfl)).trans rfl
                refine ifw_want 5 false 128 rfl rfl e128 ?_
                with_reducible refine shown_q (Value.slice la n lc) ?qq_2_8 (fun _ _ => ?qr_2_8)
                case qr_2_8 => exact (rfl : (Value.slice la n lc) = (Value.slice la n lc))
                with_reducible refine quietAt_mv (.tmp 3) (Value.slice la n lc) ?h0_2_8 ?h1_2_8
                case h0_2_8 => rfl
                case h1_2_8 => exact e3
              · intro A u hu hpu hsz hout hdeps
                have e128 : A.eval (.tmp 128) = (.bool false) := by have h := depL hdeps 5 (by kernel_rfl) 128 (by kernel_rfl); exact h
                have e131 : A.eval (.tmp 131) = (.slice la n lc) := by have h := depL hdeps 8 (by kernel_rfl) 131 (by kernel_rfl); exact h
                refine ifw_want 5 false 128 rfl rfl e128 ?_
                with_reducible refine shown_q (Value.int .i64 (n : Nat)) ?qq_2_9 (fun _ _ => ?qr_2_9)
                case qr_2_9 => exact (rfl : (Value.int .i64 (n : Nat)) = (Value.int .i64 (n : Nat)))
                with_reducible refine quietAt_len (.tmp 131) 22 ?h0_2_9 la n lc ?h1_2_9 ?h2_2_9
                case h0_2_9 => rfl
                case h1_2_9 => exact e131
                case h2_2_9 => kernel_rfl
              · intro A u hu hpu hsz hout hdeps
                have e128 : A.eval (.tmp 128) = (.bool false) := by have h := depL hdeps 5 (by kernel_rfl) 128 (by kernel_rfl); exact h
                have e130 : A.eval (.tmp 130) = (.int .i64 (n : Nat)) := by have h := depL hdeps 7 (by kernel_rfl) 130 (by kernel_rfl); exact h
                have e132 : A.eval (.tmp 132) = (.int .i64 (n : Nat)) := by have h := depL hdeps 9 (by kernel_rfl) 132 (by kernel_rfl); exact h
                refine ifw_want 5 false 128 rfl rfl e128 ?_
                with_reducible refine shown_q (Value.bool false) ?qq_2_10 (fun _ _ => ?qr_2_10)
                case qr_2_10 => exact (rfl : (Value.bool false) = (Value.bool false))
                with_reducible refine quietAt_bin .neq 3 (.tmp 130) (.tmp 132) 3 (Value.int .i64 (n : Nat)) (Value.int .i64 (n : Nat)) (Value.bool false) ?h0_2_10 ?h1_2_10 ?h2_2_10 ?h3_2_10
                case h0_2_10 => rfl
                case h1_2_10 => exact e130
                case h2_2_10 => exact e132
                case h3_2_10 => exact HZn.out _ _ u
              · intro A u hu hpu hsz hout hdeps
                have e128 : A.eval (.tmp 128) = (.bool false) := by have h := depL hdeps 5 (by kernel_rfl) 128 (by kernel_rfl); exact h
                have e133 : A.eval (.tmp 133) = (.bool false) := by have h := depL hdeps 10 (by kernel_rfl) 133 (by kernel_rfl); exact h
                refine ifw_none rfl ?_
                with_reducible refine shown_q (Value.bool false) ?qq_2_11 (fun _ _ => ?qr_2_11)
                case qr_2_11 => exact (rfl : (Value.bool false) = (Value.bool false))
                with_reducible refine quietAt_pick (.tmp 128) (.const (.bool true)) (.tmp 133) false (Value.bool false) ?h0_2_11 ?h1_2_11 ?h2_2_11
                case h0_2_11 => rfl
                case h1_2_11 => exact e128
                case h2_2_11 => rw [if_neg (by decide)]; exact e133
              · intro A u hu hpu hsz hout hdeps
                have e134 : A.eval (.tmp 134) = (.bool false) := by have h := depL hdeps 11 (by kernel_rfl) 134 (by kernel_rfl); exact h
                refine ifw_none rfl ?_
                with_reducible refine shown_q (Value.bool false) ?qq_2_12 (fun _ _ => ?qr_2_12)
                case qr_2_12 => exact (rfl : (Value.bool false) = (Value.bool false))
                with_reducible refine quietAt_mv (.tmp 134) (Value.bool false) ?h0_2_12 ?h1_2_12
                case h0_2_12 => rfl
                case h1_2_12 => exact e134
              · intro A u hu hpu hsz hout hdeps
                have e135 : A.eval (.tmp 135) = (.bool false) := by have h := depL hdeps 12 (by kernel_rfl) 135 (by kernel_rfl); exact h
                have e7 : A.eval (.tmp 7) = (.pointer (some ⟨b, 0, none⟩)) := (hout 7 (by kernel_rfl)).trans rfl
                refine ifw_want 12 false 135 rfl rfl e135 ?_
                with_reducible refine shown_q (Value.pointer (some ⟨b, 0, none⟩)) ?qq_2_13 (fun _ _ => ?qr_2_13)
                case qr_2_13 => exact (rfl : (Value.pointer (some ⟨b, 0, none⟩)) = (Value.pointer (some ⟨b, 0, none⟩)))
                with_reducible refine quietAt_mv (.tmp 7) (Value.pointer (some ⟨b, 0, none⟩)) ?h0_2_13 ?h1_2_13
                case h0_2_13 => rfl
                case h1_2_13 => exact e7
              · intro A u hu hpu hsz hout hdeps
                have e135 : A.eval (.tmp 135) = (.bool false) := by have h := depL hdeps 12 (by kernel_rfl) 135 (by kernel_rfl); exact h
                have e136 : A.eval (.tmp 136) = (.pointer (some ⟨b, 0, none⟩)) := by have h := depL hdeps 13 (by kernel_rfl) 136 (by kernel_rfl); exact h
                refine ifw_want 12 false 135 rfl rfl e135 ?_
                with_reducible refine shown_call 12 Try.f12 ?h0_2_14 ?h1_2_14 ?h2_2_14 #[.tmp 136] #[34] ?h3_2_14 #[(Value.pointer (some ⟨b, 0, none⟩))] ?h4_2_14 ?h5_2_14
                case h0_2_14 => exact Try.func12
                case h1_2_14 => kernel_rfl
                case h2_2_14 => kernel_rfl
                case h3_2_14 => rfl
                case h4_2_14 => exact map1 _ _ _ e136
                case h5_2_14 => exact HWa.out u hu
              · intro A u hu hpu hsz hout hdeps
                have e135 : A.eval (.tmp 135) = (.bool false) := by have h := depL hdeps 12 (by kernel_rfl) 135 (by kernel_rfl); exact h
                have f137 : (fun v _ => v = Value.int .i64 0) (A.eval (.tmp 137)) u := by have h := depL hdeps 14 (by kernel_rfl) 137 (by kernel_rfl); exact h
                have e137 := (f137 : _ = Value.int .i64 0)
                refine ifw_want 12 false 135 rfl rfl e135 ?_
                with_reducible refine shown_q (Value.bool false) ?qq_2_15 (fun _ _ => ?qr_2_15)
                case qr_2_15 => exact (rfl : (Value.bool false) = (Value.bool false))
                with_reducible refine quietAt_bin .neq 3 (.tmp 137) (.const (.int .i64 0)) 3 (Value.int .i64 0) (Value.int .i64 0) (Value.bool false) ?h0_2_15 ?h1_2_15 ?h2_2_15 ?h3_2_15
                case h0_2_15 => rfl
                case h1_2_15 => exact e137
                case h2_2_15 => exact rfl
                case h3_2_15 => exact HZ0.out _ _ u
              · intro A u hu hpu hsz hout hdeps
                have e135 : A.eval (.tmp 135) = (.bool false) := by have h := depL hdeps 12 (by kernel_rfl) 135 (by kernel_rfl); exact h
                have e138 : A.eval (.tmp 138) = (.bool false) := by have h := depL hdeps 15 (by kernel_rfl) 138 (by kernel_rfl); exact h
                refine ifw_none rfl ?_
                with_reducible refine shown_q (Value.bool false) ?qq_2_16 (fun _ _ => ?qr_2_16)
                case qr_2_16 => exact (rfl : (Value.bool false) = (Value.bool false))
                with_reducible refine quietAt_pick (.tmp 135) (.const (.bool true)) (.tmp 138) false (Value.bool false) ?h0_2_16 ?h1_2_16 ?h2_2_16
                case h0_2_16 => rfl
                case h1_2_16 => exact e135
                case h2_2_16 => rw [if_neg (by decide)]; exact e138
              · intro A u hu hpu hsz hout hdeps
                have e139 : A.eval (.tmp 139) = (.bool false) := by have h := depL hdeps 16 (by kernel_rfl) 139 (by kernel_rfl); exact h
                refine ifw_none rfl ?_
                with_reducible refine shown_q (Value.bool false) ?qq_2_17 (fun _ _ => ?qr_2_17)
                case qr_2_17 => exact (rfl : (Value.bool false) = (Value.bool false))
                with_reducible refine quietAt_mv (.tmp 139) (Value.bool false) ?h0_2_17 ?h1_2_17
                case h0_2_17 => rfl
                case h1_2_17 => exact e139
              · intro A u hu hpu hsz hout hdeps
                have e140 : A.eval (.tmp 140) = (.bool false) := by have h := depL hdeps 17 (by kernel_rfl) 140 (by kernel_rfl); exact h
                have e7 : A.eval (.tmp 7) = (.pointer (some ⟨b, 0, none⟩)) := (hout 7 (by kernel_rfl)).trans rfl
                refine ifw_want 17 false 140 rfl rfl e140 ?_
                with_reducible refine shown_q (Value.pointer (some ⟨b, 0, none⟩)) ?qq_2_18 (fun _ _ => ?qr_2_18)
                case qr_2_18 => exact (rfl : (Value.pointer (some ⟨b, 0, none⟩)) = (Value.pointer (some ⟨b, 0, none⟩)))
                with_reducible refine quietAt_mv (.tmp 7) (Value.pointer (some ⟨b, 0, none⟩)) ?h0_2_18 ?h1_2_18
                case h0_2_18 => rfl
                case h1_2_18 => exact e7
              · intro A u hu hpu hsz hout hdeps
                have e140 : A.eval (.tmp 140) = (.bool false) := by have h := depL hdeps 17 (by kernel_rfl) 140 (by kernel_rfl); exact h
                have e141 : A.eval (.tmp 141) = (.pointer (some ⟨b, 0, none⟩)) := by have h := depL hdeps 18 (by kernel_rfl) 141 (by kernel_rfl); exact h
                refine ifw_want 17 false 140 rfl rfl e140 ?_
                with_reducible refine shown_call 13 Try.f13 ?h0_2_19 ?h1_2_19 ?h2_2_19 #[.tmp 141] #[34] ?h3_2_19 #[(Value.pointer (some ⟨b, 0, none⟩))] ?h4_2_19 ?h5_2_19
                case h0_2_19 => exact Try.func13
                case h1_2_19 => kernel_rfl
                case h2_2_19 => kernel_rfl
                case h3_2_19 => rfl
                case h4_2_19 => exact map1 _ _ _ e141
                case h5_2_19 => exact HOa.out u hu
              · intro A u hu hpu hsz hout hdeps
                have e140 : A.eval (.tmp 140) = (.bool false) := by have h := depL hdeps 17 (by kernel_rfl) 140 (by kernel_rfl); exact h
                have f142 : (fun v _ => v = Value.bool false) (A.eval (.tmp 142)) u := by have h := depL hdeps 19 (by kernel_rfl) 142 (by kernel_rfl); exact h
                have e142 := (f142 : _ = Value.bool false)
                refine ifw_none rfl ?_
                with_reducible refine shown_q (Value.bool false) ?qq_2_20 (fun _ _ => ?qr_2_20)
                case qr_2_20 => exact (rfl : (Value.bool false) = (Value.bool false))
                with_reducible refine quietAt_pick (.tmp 140) (.const (.bool true)) (.tmp 142) false (Value.bool false) ?h0_2_20 ?h1_2_20 ?h2_2_20
                case h0_2_20 => rfl
                case h1_2_20 => exact e140
                case h2_2_20 => rw [if_neg (by decide)]; exact e142
              · intro A u hu hpu hsz hout hdeps
                have e143 : A.eval (.tmp 143) = (.bool false) := by have h := depL hdeps 20 (by kernel_rfl) 143 (by kernel_rfl); exact h
                refine ifw_none rfl ?_
                with_reducible refine shown_q (Value.bool false) ?qq_2_21 (fun _ _ => ?qr_2_21)
                case qr_2_21 => exact (rfl : (Value.bool false) = (Value.bool false))
                with_reducible refine quietAt_mv (.tmp 143) (Value.bool false) ?h0_2_21 ?h1_2_21
                case h0_2_21 => rfl
                case h1_2_21 => exact e143
              · intro A u hu hpu hsz hout hdeps
                have e144 : A.eval (.tmp 144) = (.bool false) := by have h := depL hdeps 21 (by kernel_rfl) 144 (by kernel_rfl); exact h
                have e7 : A.eval (.tmp 7) = (.pointer (some ⟨b, 0, none⟩)) := (hout 7 (by kernel_rfl)).trans rfl
                refine ifw_want 21 false 144 rfl rfl e144 ?_
                with_reducible refine shown_q (Value.pointer (some ⟨b, 0, none⟩)) ?qq_2_22 (fun _ _ => ?qr_2_22)
                case qr_2_22 => exact (rfl : (Value.pointer (some ⟨b, 0, none⟩)) = (Value.pointer (some ⟨b, 0, none⟩)))
                with_reducible refine quietAt_mv (.tmp 7) (Value.pointer (some ⟨b, 0, none⟩)) ?h0_2_22 ?h1_2_22
                case h0_2_22 => rfl
                case h1_2_22 => exact e7
              · intro A u hu hpu hsz hout hdeps
                have e144 : A.eval (.tmp 144) = (.bool false) := by have h := depL hdeps 21 (by kernel_rfl) 144 (by kernel_rfl); exact h
                have e145 : A.eval (.tmp 145) = (.pointer (some ⟨b, 0, none⟩)) := by have h := depL hdeps 22 (by kernel_rfl) 145 (by kernel_rfl); exact h
                refine ifw_want 21 false 144 rfl rfl e144 ?_
                with_reducible refine shown_call 14 Try.f14 ?h0_2_23 ?h1_2_23 ?h2_2_23 #[.tmp 145] #[34] ?h3_2_23 #[(Value.pointer (some ⟨b, 0, none⟩))] ?h4_2_23 ?h5_2_23
                case h0_2_23 => exact Try.func14
                case h1_2_23 => kernel_rfl
                case h2_2_23 => kernel_rfl
                case h3_2_23 => rfl
                case h4_2_23 => exact map1 _ _ _ e145
                case h5_2_23 => exact HRa.out u hu
              · intro A u hu hpu hsz hout hdeps
                have e144 : A.eval (.tmp 144) = (.bool false) := by have h := depL hdeps 21 (by kernel_rfl) 144 (by kernel_rfl); exact h
                have e1 : A.eval (.tmp 1) = (.pointer (some ⟨p1, 0, none⟩)) := (hout 1 (by kernel_rfl)).trans rfl
                refine ifw_want 21 false 144 rfl rfl e144 ?_
                with_reducible refine shown_q (Value.pointer (some ⟨p1, 2, none⟩)) ?qq_2_24 (fun _ _ => ?qr_2_24)
                case qr_2_24 => exact (rfl : (Value.pointer (some ⟨p1, 2, none⟩)) = (Value.pointer (some ⟨p1, 2, none⟩)))
                with_reducible refine quietAt_field 24 (.tmp 1) 2 ?h0_2_24 ⟨p1, 0, none⟩ ⟨p1, 2, none⟩ ?h1_2_24 ?h2_2_24
                case h0_2_24 => rfl
                case h1_2_24 => exact e1
                case h2_2_24 => kernel_rfl
              · intro A u hu hpu hsz hout hdeps
                have e144 : A.eval (.tmp 144) = (.bool false) := by have h := depL hdeps 21 (by kernel_rfl) 144 (by kernel_rfl); exact h
                have e147 : A.eval (.tmp 147) = (.pointer (some ⟨p1, 2, none⟩)) := by have h := depL hdeps 24 (by kernel_rfl) 147 (by kernel_rfl); exact h
                refine ifw_want 21 false 144 rfl rfl e144 ?_
                with_reducible refine shown_q (Value.int .i64 rm) ?qq_2_25 (fun _ _ => ?qr_2_25)
                case qr_2_25 => exact (rfl : (Value.int .i64 rm) = (Value.int .i64 rm))
                with_reducible refine quietAt_ld 3 (.tmp 147) (Value.pointer (some ⟨p1, 2, none⟩)) (Value.int .i64 rm) ?h0_2_25 ?h1_2_25 ?h2_2_25
                case h0_2_25 => rfl
                case h1_2_25 => exact e147
                case h2_2_25 => exact ld3 p1 2 rm u (HK2.out u hu)
              · intro A u hu hpu hsz hout hdeps
                have e144 : A.eval (.tmp 144) = (.bool false) := by have h := depL hdeps 21 (by kernel_rfl) 144 (by kernel_rfl); exact h
                have f146 : (fun v _ => v = Value.int .i64 rm) (A.eval (.tmp 146)) u := by have h := depL hdeps 23 (by kernel_rfl) 146 (by kernel_rfl); exact h
                have e146 := (f146 : _ = Value.int .i64 rm)
                have e148 : A.eval (.tmp 148) = (.int .i64 rm) := by have h := depL hdeps 25 (by kernel_rfl) 148 (by kernel_rfl); exact h
                refine ifw_want 21 false 144 rfl rfl e144 ?_
                with_reducible refine shown_q (Value.bool false) ?qq_2_26 (fun _ _ => ?qr_2_26)
                case qr_2_26 => exact (rfl : (Value.bool false) = (Value.bool false))
                with_reducible refine quietAt_bin .neq 3 (.tmp 146) (.tmp 148) 3 (Value.int .i64 rm) (Value.int .i64 rm) (Value.bool false) ?h0_2_26 ?h1_2_26 ?h2_2_26 ?h3_2_26
                case h0_2_26 => rfl
                case h1_2_26 => exact e146
                case h2_2_26 => exact e148
                case h3_2_26 => exact HZr.out _ _ u
              · intro A u hu hpu hsz hout hdeps
                have e144 : A.eval (.tmp 144) = (.bool false) := by have h := depL hdeps 21 (by kernel_rfl) 144 (by kernel_rfl); exact h
                have e149 : A.eval (.tmp 149) = (.bool false) := by have h := depL hdeps 26 (by kernel_rfl) 149 (by kernel_rfl); exact h
                refine ifw_none rfl ?_
                with_reducible refine shown_q (Value.bool false) ?qq_2_27 (fun _ _ => ?qr_2_27)
                case qr_2_27 => exact (rfl : (Value.bool false) = (Value.bool false))
                with_reducible refine quietAt_pick (.tmp 144) (.const (.bool true)) (.tmp 149) false (Value.bool false) ?h0_2_27 ?h1_2_27 ?h2_2_27
                case h0_2_27 => rfl
                case h1_2_27 => exact e144
                case h2_2_27 => rw [if_neg (by decide)]; exact e149
              · intro A u8 listed hh hall
                have hA := hh.frame
                have HU := hid hh.grown
                obtain ⟨x123, hx123⟩ : ∃ x, A.eval (.tmp 123) = x := ⟨_, rfl⟩
                have f123 : (fun v _ => v = (Value.pointer (some ⟨b, 0, none⟩))) x123 u8 := by rw [← hx123]; exact hh.got 0 _ 123 rfl rfl (hall 0 (by decide))
                obtain ⟨x124, hx124⟩ : ∃ x, A.eval (.tmp 124) = x := ⟨_, rfl⟩
                have f124 : (fun v u => ∃ ta tc, v = Value.slice ta n tc ∧ Fw u ta Lz (Un P Q)) x124 u8 := by rw [← hx124]; exact hh.got 1 _ 124 rfl rfl (hall 1 (by decide))
                obtain ⟨x125, hx125⟩ : ∃ x, A.eval (.tmp 125) = x := ⟨_, rfl⟩
                have f125 : (fun v _ => v = (Value.slice wa n wc)) x125 u8 := by rw [← hx125]; exact hh.got 2 _ 125 rfl rfl (hall 2 (by decide))
                obtain ⟨x126, hx126⟩ : ∃ x, A.eval (.tmp 126) = x := ⟨_, rfl⟩
                have f126 : (fun v _ => v = Value.bool true) x126 u8 := by rw [← hx126]; exact hh.got 3 _ 126 rfl rfl (hall 3 (by decide))
                obtain ⟨x127, hx127⟩ : ∃ x, A.eval (.tmp 127) = x := ⟨_, rfl⟩
                have f127 : (fun v _ => v = (Value.bool false)) x127 u8 := by rw [← hx127]; exact hh.got 4 _ 127 rfl rfl (hall 4 (by decide))
                obtain ⟨x128, hx128⟩ : ∃ x, A.eval (.tmp 128) = x := ⟨_, rfl⟩
                have f128 : (fun v _ => v = (Value.bool false)) x128 u8 := by rw [← hx128]; exact hh.got 5 _ 128 rfl rfl (hall 5 (by decide))
                obtain ⟨x129, hx129⟩ : ∃ x, A.eval (.tmp 129) = x := ⟨_, rfl⟩
                have f129 : (fun v _ => v = (Value.slice wa n wc)) x129 u8 := by rw [← hx129]; exact hh.got 6 _ 129 rfl rfl (hall 6 (by decide))
                obtain ⟨x130, hx130⟩ : ∃ x, A.eval (.tmp 130) = x := ⟨_, rfl⟩
                have f130 : (fun v _ => v = (Value.int .i64 (n : Nat))) x130 u8 := by rw [← hx130]; exact hh.got 7 _ 130 rfl rfl (hall 7 (by decide))
                obtain ⟨x131, hx131⟩ : ∃ x, A.eval (.tmp 131) = x := ⟨_, rfl⟩
                have f131 : (fun v _ => v = (Value.slice la n lc)) x131 u8 := by rw [← hx131]; exact hh.got 8 _ 131 rfl rfl (hall 8 (by decide))
                obtain ⟨x132, hx132⟩ : ∃ x, A.eval (.tmp 132) = x := ⟨_, rfl⟩
                have f132 : (fun v _ => v = (Value.int .i64 (n : Nat))) x132 u8 := by rw [← hx132]; exact hh.got 9 _ 132 rfl rfl (hall 9 (by decide))
                obtain ⟨x133, hx133⟩ : ∃ x, A.eval (.tmp 133) = x := ⟨_, rfl⟩
                have f133 : (fun v _ => v = (Value.bool false)) x133 u8 := by rw [← hx133]; exact hh.got 10 _ 133 rfl rfl (hall 10 (by decide))
                obtain ⟨x134, hx134⟩ : ∃ x, A.eval (.tmp 134) = x := ⟨_, rfl⟩
                have f134 : (fun v _ => v = (Value.bool false)) x134 u8 := by rw [← hx134]; exact hh.got 11 _ 134 rfl rfl (hall 11 (by decide))
                obtain ⟨x135, hx135⟩ : ∃ x, A.eval (.tmp 135) = x := ⟨_, rfl⟩
                have f135 : (fun v _ => v = (Value.bool false)) x135 u8 := by rw [← hx135]; exact hh.got 12 _ 135 rfl rfl (hall 12 (by decide))
                obtain ⟨x136, hx136⟩ : ∃ x, A.eval (.tmp 136) = x := ⟨_, rfl⟩
                have f136 : (fun v _ => v = (Value.pointer (some ⟨b, 0, none⟩))) x136 u8 := by rw [← hx136]; exact hh.got 13 _ 136 rfl rfl (hall 13 (by decide))
                obtain ⟨x137, hx137⟩ : ∃ x, A.eval (.tmp 137) = x := ⟨_, rfl⟩
                have f137 : (fun v _ => v = Value.int .i64 0) x137 u8 := by rw [← hx137]; exact hh.got 14 _ 137 rfl rfl (hall 14 (by decide))
                obtain ⟨x138, hx138⟩ : ∃ x, A.eval (.tmp 138) = x := ⟨_, rfl⟩
                have f138 : (fun v _ => v = (Value.bool false)) x138 u8 := by rw [← hx138]; exact hh.got 15 _ 138 rfl rfl (hall 15 (by decide))
                obtain ⟨x139, hx139⟩ : ∃ x, A.eval (.tmp 139) = x := ⟨_, rfl⟩
                have f139 : (fun v _ => v = (Value.bool false)) x139 u8 := by rw [← hx139]; exact hh.got 16 _ 139 rfl rfl (hall 16 (by decide))
                obtain ⟨x140, hx140⟩ : ∃ x, A.eval (.tmp 140) = x := ⟨_, rfl⟩
                have f140 : (fun v _ => v = (Value.bool false)) x140 u8 := by rw [← hx140]; exact hh.got 17 _ 140 rfl rfl (hall 17 (by decide))
                obtain ⟨x141, hx141⟩ : ∃ x, A.eval (.tmp 141) = x := ⟨_, rfl⟩
                have f141 : (fun v _ => v = (Value.pointer (some ⟨b, 0, none⟩))) x141 u8 := by rw [← hx141]; exact hh.got 18 _ 141 rfl rfl (hall 18 (by decide))
                obtain ⟨x142, hx142⟩ : ∃ x, A.eval (.tmp 142) = x := ⟨_, rfl⟩
                have f142 : (fun v _ => v = Value.bool false) x142 u8 := by rw [← hx142]; exact hh.got 19 _ 142 rfl rfl (hall 19 (by decide))
                obtain ⟨x143, hx143⟩ : ∃ x, A.eval (.tmp 143) = x := ⟨_, rfl⟩
                have f143 : (fun v _ => v = (Value.bool false)) x143 u8 := by rw [← hx143]; exact hh.got 20 _ 143 rfl rfl (hall 20 (by decide))
                obtain ⟨x144, hx144⟩ : ∃ x, A.eval (.tmp 144) = x := ⟨_, rfl⟩
                have f144 : (fun v _ => v = (Value.bool false)) x144 u8 := by rw [← hx144]; exact hh.got 21 _ 144 rfl rfl (hall 21 (by decide))
                obtain ⟨x145, hx145⟩ : ∃ x, A.eval (.tmp 145) = x := ⟨_, rfl⟩
                have f145 : (fun v _ => v = (Value.pointer (some ⟨b, 0, none⟩))) x145 u8 := by rw [← hx145]; exact hh.got 22 _ 145 rfl rfl (hall 22 (by decide))
                obtain ⟨x146, hx146⟩ : ∃ x, A.eval (.tmp 146) = x := ⟨_, rfl⟩
                have f146 : (fun v _ => v = Value.int .i64 rm) x146 u8 := by rw [← hx146]; exact hh.got 23 _ 146 rfl rfl (hall 23 (by decide))
                obtain ⟨x147, hx147⟩ : ∃ x, A.eval (.tmp 147) = x := ⟨_, rfl⟩
                have f147 : (fun v _ => v = (Value.pointer (some ⟨p1, 2, none⟩))) x147 u8 := by rw [← hx147]; exact hh.got 24 _ 147 rfl rfl (hall 24 (by decide))
                obtain ⟨x148, hx148⟩ : ∃ x, A.eval (.tmp 148) = x := ⟨_, rfl⟩
                have f148 : (fun v _ => v = (Value.int .i64 rm)) x148 u8 := by rw [← hx148]; exact hh.got 25 _ 148 rfl rfl (hall 25 (by decide))
                obtain ⟨x149, hx149⟩ : ∃ x, A.eval (.tmp 149) = x := ⟨_, rfl⟩
                have f149 : (fun v _ => v = (Value.bool false)) x149 u8 := by rw [← hx149]; exact hh.got 26 _ 149 rfl rfl (hall 26 (by decide))
                obtain ⟨x150, hx150⟩ : ∃ x, A.eval (.tmp 150) = x := ⟨_, rfl⟩
                have f150 : (fun v _ => v = (Value.bool false)) x150 u8 := by rw [← hx150]; exact hh.got 27 _ 150 rfl rfl (hall 27 (by decide))
                dsimp only [wrote, List.foldl] at hA
                rw [hx123, hx124, hx125, hx126, hx127, hx128, hx129, hx130, hx131, hx132, hx133, hx134, hx135, hx136, hx137, hx138, hx139, hx140, hx141, hx142, hx143, hx144, hx145, hx146, hx147, hx148, hx149, hx150] at hA
                clear hh hall hx123 hx124 hx125 hx126 hx127 hx128 hx129 hx130 hx131 hx132 hx133 hx134 hx135 hx136 hx137 hx138 hx139 hx140 hx141 hx142 hx143 hx144 hx145 hx146 hx147 hx148 hx149 hx150
                replace f123 := (f123 : x123 = (.pointer (some ⟨b, 0, none⟩)))
                subst f123
                obtain ⟨ta, tc, e124, hM⟩ := f124
                subst e124
                replace f125 := (f125 : x125 = (.slice wa n wc))
                subst f125
                have e126 := (f126 : _ = Value.bool true)
                subst e126
                replace f127 := (f127 : x127 = (.bool false))
                subst f127
                replace f128 := (f128 : x128 = (.bool false))
                subst f128
                replace f129 := (f129 : x129 = (.slice wa n wc))
                subst f129
                replace f130 := (f130 : x130 = (.int .i64 (n : Nat)))
                subst f130
                replace f131 := (f131 : x131 = (.slice la n lc))
                subst f131
                replace f132 := (f132 : x132 = (.int .i64 (n : Nat)))
                subst f132
                replace f133 := (f133 : x133 = (.bool false))
                subst f133
                replace f134 := (f134 : x134 = (.bool false))
                subst f134
                replace f135 := (f135 : x135 = (.bool false))
                subst f135
                replace f136 := (f136 : x136 = (.pointer (some ⟨b, 0, none⟩)))
                subst f136
                have e137 := (f137 : _ = Value.int .i64 0)
                subst e137
                replace f138 := (f138 : x138 = (.bool false))
                subst f138
                replace f139 := (f139 : x139 = (.bool false))
                subst f139
                replace f140 := (f140 : x140 = (.bool false))
                subst f140
                replace f141 := (f141 : x141 = (.pointer (some ⟨b, 0, none⟩)))
                subst f141
                have e142 := (f142 : _ = Value.bool false)
                subst e142
                replace f143 := (f143 : x143 = (.bool false))
                subst f143
                replace f144 := (f144 : x144 = (.bool false))
                subst f144
                replace f145 := (f145 : x145 = (.pointer (some ⟨b, 0, none⟩)))
                subst f145
                have e146 := (f146 : _ = Value.int .i64 rm)
                subst e146
                replace f147 := (f147 : x147 = (.pointer (some ⟨p1, 2, none⟩)))
                subst f147
                replace f148 := (f148 : x148 = (.int .i64 rm))
                subst f148
                replace f149 := (f149 : x149 = (.bool false))
                subst f149
                replace f150 := (f150 : x150 = (.bool false))
                subst f150
                subst hA
                show wpList _ _ _ [] _ _
                unfold wpList
                simp only [Act.put, List.setIfInBounds_toArray, List.set_cons_succ, List.set_cons_zero]
                have HS6 := hid (HS4.out.keep HU.out)
                obtain ⟨y6, hy6⟩ : ∃ x : World, x = u8 := ⟨_, rfl⟩
                rw [← hy6] at HU HS6 ⊢
                clear hy6
                have HRl := hid (HRl0.out y6 (gtrans HY4.out HU.out))
                have HFz' := hid (HFz.out.keep HU.out)
                clear HFz
                have HFz := HFz'
                clear HFa HQa HWa HOa HRa HK2 HZn HZ0 HZr HS4 HRl0
                go_upto_region 24 with fail
                have HS30 : Hid (∃ P Q, S2 v4 y6 b c ⟨rm, false, ((0 : Nat) : Int), 0, 0, C.drop 0⟩ ⟨rm, false, 0, 0, 0, M⟩ P Q ∧ (∀ k, Un P Q k → x0.heap.size ≤ k) ∧ Fw y6 wa Lz (fun k => Un P Q k ∨ k < x0.heap.size) ∧ y6.ownsRow v4.heap.size 32 2 (.slice la n lc) n (fcs E) ∧ (∀ j (hj : j < E.length), ∃ l', Out v4.heap.size y6 (E[j]).v l' ∧ l'.length ≤ 140737488355328)) := hid ⟨P, Q, HS6.out, HPQ.out, HFz.out, HRl.out.1, HRl.out.2⟩
                clear HS6 HPQ HFz HRl
                go_loopw [12] (fun iv wr => ∃ i : Nat, iv = .int .i64 i ∧ i ≤ n ∧ Hid (∃ P Q, S2 v4 wr b c ⟨rm, false, (i : Int), 0, 0, C.drop i⟩ ⟨rm, false, 0, 0, 0, M⟩ P Q ∧ (∀ k, Un P Q k → x0.heap.size ≤ k) ∧ Fw wr wa Lz (fun k => Un P Q k ∨ k < x0.heap.size) ∧ wr.ownsRow v4.heap.size 32 2 (.slice la n lc) n (fcs E) ∧ (∀ j (hj : j < E.length), ∃ l', Out v4.heap.size wr (E[j]).v l' ∧ l'.length ≤ 140737488355328))) (fun iv _ => n - (intOf iv).toNat)
                case atStart => exact ⟨0, rfl, Nat.zero_le _, HS30⟩
                case round =>
                  obtain ⟨i, rfl, hi, HC⟩ := hrel
                  obtain ⟨z0, hz0⟩ : ∃ x : World, x = wr := ⟨_, rfl⟩
                  rw [← hz0] at HC ⊢
                  clear hz0 HS30
                  obtain ⟨P3, HC1⟩ : ∃ P, Hid (∃ Q, S2 v4 z0 b c ⟨rm, false, (i : Int), 0, 0, C.drop i⟩ ⟨rm, false, 0, 0, 0, M⟩ P Q ∧ (∀ k, Un P Q k → x0.heap.size ≤ k) ∧ Fw z0 wa Lz (fun k => Un P Q k ∨ k < x0.heap.size) ∧ z0.ownsRow v4.heap.size 32 2 (.slice la n lc) n (fcs E) ∧ (∀ j (hj : j < E.length), ∃ l', Out v4.heap.size z0 (E[j]).v l' ∧ l'.length ≤ 140737488355328)) := ⟨HC.out.choose, hid HC.out.choose_spec⟩
                  obtain ⟨Q3, HS⟩ : ∃ Q, Hid (S2 v4 z0 b c ⟨rm, false, (i : Int), 0, 0, C.drop i⟩ ⟨rm, false, 0, 0, 0, M⟩ P3 Q ∧ (∀ k, Un P3 Q k → x0.heap.size ≤ k) ∧ Fw z0 wa Lz (fun k => Un P3 Q k ∨ k < x0.heap.size) ∧ z0.ownsRow v4.heap.size 32 2 (.slice la n lc) n (fcs E) ∧ (∀ j (hj : j < E.length), ∃ l', Out v4.heap.size z0 (E[j]).v l' ∧ l'.length ≤ 140737488355328)) := ⟨HC1.out.choose, hid HC1.out.choose_spec⟩
                  clear HC HC1
                  by_cases hlt : i < n
                  · as_aux_lemma =>
                    have hlt' : (i : Int) < (n : Int) := by omega
                    have hiE : i < E.length := by rw [HEn.out]; exact hlt
                    have hiL : i < C.length := by rw [HN.out]; exact hlt
                    obtain ⟨gl, rfl⟩ : ∃ gl, la = some ⟨gl, 0, none⟩ := by
                      rcases HS.out.2.2.2.1.2 with ⟨h1, h2⟩ | ⟨g', cap, cur, h1, _⟩
                      · omega
                      · injection h1 with h1 _ _
                        exact ⟨g', h1⟩
                    have HGl : Hid (gl < x0.heap.size) := hid (by
                      obtain ⟨_, cs, b1, _⟩ := HOl0.out.blk
                      exact b1.lt)
                    obtain ⟨s, Hs⟩ : ∃ x, Hid ((E[i]).nm = x) := ⟨_, hid rfl⟩
                    obtain ⟨l', HO⟩ : ∃ l', Hid (Out v4.heap.size z0 (E[i]).v l' ∧ l'.length ≤ 140737488355328) := ⟨(HS.out.2.2.2.2 i hiE).choose, hid (HS.out.2.2.2.2 i hiE).choose_spec⟩
                    obtain ⟨xv, Hxv⟩ : ∃ x, Hid ((E[i]).v = x) := ⟨_, hid rfl⟩
                    have HCl : Hid (∀ u : World, u.ownsRow v4.heap.size 32 2 (.slice (some ⟨gl, 0, none⟩) n lc) n (fcs E) → u.cell? ⟨gl, i * 2, none⟩ = some (.string s) ∧ u.cell? ⟨gl, i * 2 + 1, none⟩ = some xv) := hid (fun u hu => by
                      rcases hu.2 with ⟨h1, _⟩ | ⟨g', cap, cur, h1, hB, hg, hle, hm, hs, ht⟩
                      · cases h1
                      · injection h1 with h1 _ _
                        injection h1 with h1
                        injection h1 with h1 _ _
                        subst h1
                        obtain ⟨r1, r2⟩ := fcs_get E i hiE
                        rw [Hs.out] at r1
                        rw [Hxv.out] at r2
                        have hc : ∀ j x, j < n * 2 → (fcs E)[j]? = some x → u.cell? ⟨gl, j, none⟩ = some x := fun j x hj hx => by
                          rw [← ht, List.getElem?_take, if_pos hj] at hx
                          have hx' : cur[j]? = some x := by rw [← Array.getElem?_toList]; exact hx
                          simp [World.cell?, hg, hx']
                        exact ⟨hc _ _ (by omega) r1, hc _ _ (by omega) r2⟩)
                    have hne : C.drop i = C[i] :: C.drop (i + 1) := List.drop_eq_getElem_cons hiL
                    have hLE : (C[i]).1 = s := by
                      have h1 : (cont E)[i]? = some ((E[i]).nm, (E[i]).bs) := by unfold cont; rw [List.getElem?_map, List.getElem?_eq_getElem hiE]; rfl
                      rw [HCE.out, List.getElem?_eq_getElem hiL] at h1
                      injection h1 with h1
                      rw [h1]
                      exact Hs.out
                    have HRm : Hid (Calls Try.prog 15 #[.pointer (some ⟨b, 0, none⟩), .string s] z0 fun e u' => (∃ x, e = .returned (.int .i64 x)) ∧ ∃ P', S2 v4 u' b c ⟨rm, false, ((i + 1 : Nat) : Int), 0, 0, C.drop (i + 1)⟩ ⟨rm, false, 0, 0, 0, M⟩ P' Q3 ∧ (∀ a L, Fw z0 a L (Un P3 Q3) → Fw u' a L (Un P' Q3)) ∧ DF z0 u' P3 ∧ (∀ k, P' k → P3 k ∨ z0.heap.size ≤ k)) := hid (by
                      have hS := HS.out.1
                      have hg : goodN (C[i]).1 = true := hS.x.dk.1.nms C[i] (by rw [hne]; exact List.mem_cons_self ..)
                      have e1 : (⟨rm, false, (i : Int), 0, 0, C.drop i⟩ : Ab).rem s = ⟨rm, false, ((i + 1 : Nat) : Int), 0, 0, C.drop (i + 1)⟩ := by
                        rw [hne, ← hLE]
                        exact rem_head hg
                      have q := s2_rem hS s (by show (i : Int) ≤ _; omega)
                      rw [e1] at q
                      exact q)
                    have c0 := (HCl.out z0 HS.out.2.2.2.1).1
                    go_upto_region 27 with (go_at_call 15; (with_reducible refine HRm.out.mono ?_); rintro e z1 ⟨⟨x5, rfl⟩, P4, hs, hf, hd, hp⟩; have HS4 := hid hs; have HF4 := hid hf; have HD4 := hid hd; have HP4 := hid hp; clear hs hf hd hp)
                    have HPn : Hid (∀ k, k < x0.heap.size → ¬ P3 k) := hid (fun k hk hq => by have := HS.out.2.1 k (.inl hq); omega)
                    have HRow : Hid (z1.ownsRow v4.heap.size 32 2 (.slice (some ⟨gl, 0, none⟩) n lc) n (fcs E)) := hid (row_df HS.out.2.2.2.1 HD4.out (fun k hk => by injection hk with hk; have hk' : gl = k := hk; exact HPn.out k (by have := HGl.out; omega)))
                    have HOut : Hid (∀ j (hj : j < E.length), ∃ l', Out v4.heap.size z1 (E[j]).v l' ∧ l'.length ≤ 140737488355328) := hid (fun j hj => by
                      obtain ⟨l9, h1, h2⟩ := HS.out.2.2.2.2 j hj
                      exact ⟨l9, h1.df HD4.out (fun k hk => HPn.out k (HLt.out j hj k hk)), h2⟩)
                    obtain ⟨l5, HO5⟩ : ∃ l', Hid (Out v4.heap.size z1 (E[i]).v l' ∧ l'.length ≤ 140737488355328) := ⟨(HOut.out i hiE).choose, hid (HOut.out i hiE).choose_spec⟩
                    rw [Hxv.out] at HO5
                    obtain ⟨ya, yc, hyv⟩ := HO5.out.1.len
                    obtain ⟨yn, Hyn⟩ : ∃ x, Hid (l5.length = x) := ⟨_, hid rfl⟩
                    rw [Hyn.out] at hyv
                    subst hyv
                    have c1 := (HCl.out z1 HRow.out).2
                    have HOv1 := hid (over_any z1 v4.heap.size (.slice ya yn yc) l5 HO5.out.1 HO5.out.2)
                    clear HRm c0 HO
                    go_wp2_with (go_at_call 16; (with_reducible refine HOv1.out.mono ?_); rintro e z2 ⟨rfl, hg, hx⟩; have HG2 := hid hg; have HX2 := hid hx; clear hg hx)
                    have HRel : Hid (∃ P Q, S2 v4 z2 b c ⟨rm, false, ((i + 1 : Nat) : Int), 0, 0, C.drop (i + 1)⟩ ⟨rm, false, 0, 0, 0, M⟩ P Q ∧ (∀ k, Un P Q k → x0.heap.size ≤ k) ∧ Fw z2 wa Lz (fun k => Un P Q k ∨ k < x0.heap.size) ∧ z2.ownsRow v4.heap.size 32 2 (.slice (some ⟨gl, 0, none⟩) n lc) n (fcs E) ∧ (∀ j (hj : j < E.length), ∃ l', Out v4.heap.size z2 (E[j]).v l' ∧ l'.length ≤ 140737488355328)) := hid (by
                      have hb : ∀ k, (Value.slice ya yn yc).ownBlock = some k → k < x0.heap.size := fun k hk => HLt.out i hiE k (by rw [Hxv.out]; exact hk)
                      have hW : x0.heap.size ≤ z0.heap.size := by
                        have h1 := HS.out.1.x.dk.lt
                        have h2 := HS.out.2.1 b (.inl h1.2.2)
                        omega
                      have hPQ : ∀ k, Un P4 Q3 k → x0.heap.size ≤ k := fun k hk => hk.elim (fun q => (HP4.out k q).elim (fun q => HS.out.2.1 k (.inl q)) (fun q => Nat.le_trans hW q)) (fun q => HS.out.2.1 k (.inr q))
                      have hD : DF z1 z2 (fun k => k < x0.heap.size ∧ v4.heap.size ≤ k) := DF.opt HG2.out (fun k hk => ⟨hb k hk, HO5.out.1.block k hk⟩)
                      have hsw : S2 v4 z2 b c ⟨rm, false, ((i + 1 : Nat) : Int), 0, 0, C.drop (i + 1)⟩ ⟨rm, false, 0, 0, 0, M⟩ P4 Q3 := ⟨HS4.out.x.df hD (fun k hk hq => by have := hPQ k (.inl hk); omega) (fun k hk => hk.2), HS4.out.y.df hD (fun k hk hq => by have := hPQ k (.inr hk); omega) (fun k hk => hk.2), HS4.out.ap⟩
                      refine ⟨P4, Q3, hsw, hPQ, ?_, ?_, fun j hj => ?_⟩
                      · have h1 : Fw z1 wa Lz (fun k => Un P4 Q3 k ∨ k < x0.heap.size) := by
                          obtain ⟨Fr, g9, r1, r2⟩ := HS.out.2.2.1
                          refine ⟨Fr, g9, r1.df HD4.out (fun k hk hq => (r2 k hk).2 (.inl (.inl hq))), fun k hk => ⟨Nat.lt_of_lt_of_le (r2 k hk).1 HD4.out.size, fun q => ?_⟩⟩
                          rcases q with (q | q) | q
                          · rcases HP4.out k q with q | q
                            · exact (r2 k hk).2 (.inl (.inl q))
                            · have := (r2 k hk).1; omega
                          · exact (r2 k hk).2 (.inl (.inr q))
                          · exact (r2 k hk).2 (.inr q)
                        obtain ⟨Fr, g9, r1, r2⟩ := h1
                        exact ⟨Fr, g9, r1.df hD (fun k hk hq => (r2 k hk).2 (.inr hq.1)), fun k hk => ⟨Nat.lt_of_lt_of_le (r2 k hk).1 hD.size, (r2 k hk).2⟩⟩
                      · exact World.ownsRow.kept HRow.out HG2.out (.inr (fun e => own_ne HRow.out HO5.out.1 (by decide) gl rfl e.symm))
                      · by_cases hji : j = i
                        · subst hji
                          obtain ⟨l9, h1, h2⟩ := HX2.out
                          rw [Hxv.out]
                          exact ⟨l9, h1, by rw [h2]; exact HO5.out.2⟩
                        · obtain ⟨l9, h1, h2⟩ := HOut.out j hj
                          refine ⟨l9, h1.on HG2.out (fun k hk e => ?_), h2⟩
                          have h3 : (E[i]).v.ownBlock = some k := by rw [Hxv.out]; exact hk
                          rcases Nat.lt_or_gt_of_ne hji with q | q
                          · rcases List.pairwise_iff_getElem.1 HAp.out j i hj hiE q with h4 | h4
                            · rw [h4] at e; cases e
                            · exact h4 (e.trans h3.symm)
                          · rcases List.pairwise_iff_getElem.1 HAp.out i j hiE hj q with h4 | h4
                            · rw [h4] at h3; cases h3
                            · exact h4 (h3.trans e.symm))
                    go_roundw
                    case rel => exact ⟨i + 1, by go_num, by omega, HRel⟩
                    case measure => simp [intOf]; omega
                  · as_aux_lemma =>
                    have hlt' : ¬ (i : Int) < (n : Int) := by omega
                    have e : n = i := by omega
                    have hdr : C.drop i = [] := List.drop_eq_nil_of_le (by rw [HN.out]; omega)
                    have HS9 := hid HS.out.1
                    have HF9 := hid HS.out.2.2.1
                    have HFa9 : Hid (∀ u, S2 v4 u b c ⟨rm, false, (i : Int), 0, 0, C.drop i⟩ ⟨rm, false, 0, 0, 0, M⟩ P3 Q3 → Calls Try.prog 10 #[.pointer (some ⟨b, 0, none⟩)] u fun e u' => ∃ a c, e = .returned (.slice a 0 c) ∧ u.grownBy u' none) := hid (fun u hS => (sd_files hS.x _ hS.lt).mono fun e u' ⟨a, c, q1, _, q3⟩ => ⟨a, c, by
                      have h1 : (srtC (⟨rm, false, (i : Int), 0, 0, C.drop i⟩ : Ab).C).length = 0 := by rw [srtC_len]; show (C.drop i).length = 0; rw [hdr]; rfl
                      rw [h1] at q1
                      exact q1, q3⟩)
                    have HFb9 : Hid (∀ u, S2 v4 u b c ⟨rm, false, (i : Int), 0, 0, C.drop i⟩ ⟨rm, false, 0, 0, 0, M⟩ P3 Q3 → Calls Try.prog 10 #[.pointer (some ⟨c, 0, none⟩)] u fun e u' => ∃ a c, e = .returned (.slice a n c) ∧ Fw u' a Lz (Un Q3 P3) ∧ u.grownBy u' none) := hid (fun u hS => (sd_files hS.y _ hS.swap.lt).mono fun e u' ⟨a, c, q1, q2, q3⟩ => ⟨a, c, by
                      have h1 : srtC (⟨rm, false, 0, 0, 0, M⟩ : Ab).C = Lz := HLz.out
                      rw [h1, HLn.out] at q1
                      exact q1, by
                      have h1 : srtC (⟨rm, false, 0, 0, 0, M⟩ : Ab).C = Lz := HLz.out
                      rw [h1] at q2
                      exact q2, q3⟩)
                    subst e
                    clear HS
                    go_wp2_with (first
                      | (go_at_call 10; (with_reducible refine (HFa9.out _ HS9.out).mono ?_); rintro e z1 ⟨a1, c1, rfl, hg⟩; have HS10 := hid (HS9.out.keep hg); have HF10 := hid (HF9.out.keep hg); clear hg)
                      | (go_at_call 10; (with_reducible refine (HFb9.out _ HS10.out).mono ?_); rintro e z2 ⟨a2, c2, rfl, hF, hg⟩; have HS11 := hid (HS10.out.keep hg); have HF11 := hid (HF10.out.keep hg); have HR11 := hid hF; clear hg hF)
                      | (go_at_call 11; (with_reducible refine (HQ9.out _ _ _ _ _ _ _ HR11.out HF11.out).mono ?_); rintro e z3 ⟨rfl, hg⟩; have HS12 := hid (HS11.out.keep hg); clear hg))
                    go_ret
                    exact ⟨rfl, gtrans HG1.out (gtrans HG24.out HS12.out.x.gr)⟩
end Go.Proofs.Ytlgjmdianmijeab
