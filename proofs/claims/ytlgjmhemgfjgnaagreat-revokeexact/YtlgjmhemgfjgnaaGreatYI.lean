/- RevokeExact's walk. -/
import Derived.Test.YtlgjmhemgfjgnaaGreatYG
import Derived.Test.YtlgjmhemgfjgnaaGreatVQ
namespace Go.Proofs.YtlgjmhemgfjgnaaGreat.Bk
open Go Go.RowKit
open Go.RowKit (wrap32 wrap64)

def zseat : List Value := List.replicate 14 (Value.slice none 0 0)
theorem out_cap {B n : Nat} {w : World} {v : Value} {l : List Ky} (h : OutK B w v l) (hn : l.length = n) : ∃ a c, v = .slice a n c ∧ n ≤ c := by
  subst hn
  rcases h.open with ⟨rfl, rfl⟩ | ⟨g, cap, rest, rfl, _, h2, _⟩
  · exact ⟨_, _, rfl, Nat.le_refl _⟩
  · exact ⟨_, _, rfl, h2⟩
theorem stepL_len (l : List Ky) (o : St) : (stepL l o).length ≤ l.length + 1 := by
  unfold stepL
  split
  · exact len_add l o.g o.id o.ex
  · split
    · exact len_kill l o.g o.ex
    · exact Nat.le_trans (len_prn l o.ex) (Nat.le_succ _)
set_option maxRecDepth 100000 in
set_option maxHeartbeats 12800000 in
theorem exact_walk (w : World) (a : Option Addr) (b off n c : Nat) (T : Nat → St) (RW : Nat → List Ky) (hs : ArgS w a b off n T) (hr : ∀ i, i < n → RdK w (fun _ => True) (T i).raw (RW i) ∧ (RW i).length ≤ 3518437208883) (hn : n ≤ 140737488355328) :
    Calls Tryz.prog 3 #[.slice a n c] w fun e w' => e = .returned (.bool true) ∧ w.grownBy w' none := by
  have HA := hid hs
  have HR := hid hr
  clear hs hr
  go_enter Tryz.func3, Tryz.ntmps3
  go_upto_region 3 with (first
    | (with_reducible refine wpList_build_row (by with_unfolding_all rfl) 50 (by with_unfolding_all rfl) zbk built50 ?_)
    | (with_reducible refine wpList_build_row (by with_unfolding_all rfl) 66 (by with_unfolding_all rfl) zseat built66 ?_)
    | ((with_reducible refine wpList_box_row (by with_unfolding_all rfl) 50 _ (by with_unfolding_all rfl) zbk (by with_unfolding_all rfl) ?_); intro w1 B1 s1 g1; have HB1 := hid B1; have HG1 := hid g1; have HS1 := hid s1; clear B1 g1 s1)
    | ((with_reducible refine wpList_box_row (by with_unfolding_all rfl) 66 _ (by with_unfolding_all rfl) zseat (by with_unfolding_all rfl) ?_); intro w2 B2 s2 g2; have HB2 := hid B2; have HG2 := hid g2; clear B2 g2 s2))
  obtain ⟨bk, hbk⟩ : ∃ z, w.heap.size = z := ⟨_, rfl⟩
  obtain ⟨sb, hsb⟩ : ∃ z, w1.heap.size = z := ⟨_, rfl⟩
  have HI : Hid (SR w w2 bk sb 0 none 0 0 [] none 0 0 [] zseat) := hid ⟨gtrans HG1.out HG2.out, (BkS.new (by rw [← hbk]; exact HB1.out) (Nat.le_of_eq hbk)).grown HG2.out, by rw [← hsb]; exact HB2.out, rfl, OutK.nil _ _, RK.nil _ _, by rw [← hsb]; exact HG1.out.size, fun k hk => by cases hk⟩
  rw [hbk, hsb]
  clear hbk hsb HB1 HB2 HG1 HG2 HS1
  go_wp2_with fail
  go_loopw [5, 6] (fun lv iv wr => ∃ (i : Nat) (la : Option Addr) (ln lc : Nat) (l : List Ky) (va : Option Addr) (vn vc : Nat) (lk : List Ky) (cs : List Value) (TT : Nat), lv = .slice la ln lc ∧ iv = .int .i64 i ∧ i ≤ n ∧ i ≤ 150 ∧ Hid (SR w wr bk sb TT la ln lc l va vn vc lk cs) ∧ Hid (TT ≤ 2 * i ∧ l.length ≤ 300 + i)) (fun _ iv _ => n - (intOf iv).toNat)
  case atStart => exact ⟨0, none, 0, 0, [], none, 0, 0, [], _, 0, rfl, rfl, Nat.zero_le _, Nat.zero_le _, HI, hid ⟨Nat.le_refl _, Nat.zero_le _⟩⟩
  case round =>
    clear HI
    obtain ⟨i, la, ln, lc, l, va, vn, vc, lk, cs, TT, rfl, rfl, hi, hi150, HS, HB⟩ := hrel
    obtain ⟨w0, hw0⟩ : ∃ x, x = wr := ⟨_, rfl⟩
    subst hw0
    by_cases hlt : i < n ∧ i < 150
    · have hlt' : (i : Int) < (n : Int) := by omega
      have hlt150 : (i : Int) < 150 := by omega
      obtain rfl : a = some ⟨b, off, none⟩ := (HA.out.1 (by omega)).1
      have HOr : Hid (w0.rangeAt b (off + i * 20) (T i).cells) := hid ((HA.out.keep HS.out.grown).2 i hlt.1).1
      have HOk : Hid (T i).ok := hid (HA.out.2 i hlt.1).2
      have HRw : Hid (∀ u, w.grownBy u none → RdK u (fun _ => True) (T i).raw (RW i)) := hid (fun u hu => (HR.out i hlt.1).1.keep hu)
      have HRn := hid (HR.out i hlt.1).2
      have HIn := hid (And.intro hlt.1 (show i + 1 ≤ 150 by omega))
      obtain ⟨O, hO⟩ : ∃ x, T i = x := ⟨_, rfl⟩
      rw [hO] at HOr HOk HRw
      obtain ⟨RL, hRL⟩ : ∃ x, RW i = x := ⟨_, rfl⟩
      rw [hRL] at HRw HRn
      obtain ⟨ra, rn, rc, hraw⟩ := HOk.out.2.2.2
      have HX : Hid (O.cells[0]? = some (.int .i64 O.dO) ∧ O.cells[19]? = some O.raw) := hid ⟨rfl, by
        have : O.cells = .int .i64 O.dO :: .int .u64 O.g :: (Lib.byteCells O.id ++ [.int .i64 O.ex, O.raw]) := rfl
        rw [this]
        have h16 : (Lib.byteCells O.id).length = 16 := by rw [byteCells_length]; exact HOk.out.2.1
        show (Lib.byteCells O.id ++ [.int .i64 O.ex, O.raw])[17]? = _
        rw [List.getElem?_append_right (by omega), h16]
        rfl⟩
      rw [hraw] at HX HRw
      have HRl : Hid (RL.length = rn) := hid (by obtain ⟨_, a9, b9, o9, c9, e9, _⟩ := (HRw.out w (grefl _ _)).open; injection e9 with _ q _; exact q.symm)
      have HCp : Hid (∀ u, w.grownBy u none → Calls Tryz.prog 4 #[.slice ra rn rc] u fun e w' => ∃ v', e = .returned v' ∧ OutK u.heap.size w' v' RL ∧ u.grownBy w' none) := hid (fun u hu => copyKeysW u _ _ RL (HRw.out u hu) HRn.out)
      have HOL : Hid ((Tryz.prog.info? 71).map (·.size) = some O.cells.length) := hid (by rw [St.cells_length HOk.out.2.1]; exact Tryz.size71)
      have HO1 : Hid (∀ v ∈ O.cells, v.oneCell' = true) := hid (St.one HOk.out)
      have HOz : Hid (O.cells.length = zst.cells.length) := hid (by rw [St.cells_length HOk.out.2.1, St.cells_length zst_ok.2.1])
      have HAs : Hid (∀ (u : World) (v : Value) (F : Nat → Prop) (m : List Ky), RdK u F v m → m.length ≤ 1000 → Calls Tryz.prog 5 #[v, .agg O.cells.toArray] u fun e w' => e = .returned (.bool true) ∧ u.grownBy w' none) := hid (fun u v F m h q => asks_any u v F m O h q HOk.out)
      have HDu : Hid (∀ (u : World) (v : Value) (F : Nat → Prop) (m : List Ky), RdK u F v m → m.length ≤ 1000 → Calls Tryz.prog 6 #[v, .agg O.cells.toArray] u fun e w' => ∃ v', e = .returned v' ∧ OutK u.heap.size w' v' (stepL m O) ∧ u.grownBy w' none) := hid (fun u v F m h q => due_any u v F m O h (by omega) HOk.out)
      have HSp : Hid (∀ (u : World) (v : Value) (F : Nat → Prop) (m : List Ky), RdK u F v m → m.length ≤ 1000 → Calls Tryz.prog 8 #[v, .agg O.cells.toArray] u fun e w' => ∃ v', e = .returned v' ∧ OutK u.heap.size w' v' (stepL m O) ∧ u.grownBy w' none) := hid (fun u v F m h q => step_any u v F m O h (by omega) HOk.out)
      have HSl : Hid (∀ m : List Ky, (stepL m O).length ≤ m.length + 1) := hid (fun m => stepL_len m O)
      obtain ⟨D, hD⟩ : ∃ x, O.dO = x := ⟨_, rfl⟩
      rw [hD] at HX
      obtain ⟨stp, hstp⟩ : ∃ f : List Ky → List Ky, (fun m => stepL m O) = f := ⟨_, rfl⟩
      have HSe : Hid (∀ m, stepL m O = stp m) := hid (fun m => by rw [← hstp])
      simp only [HSe.out] at HDu HSp HSl
      obtain ⟨OC, HOC⟩ : ∃ x, Hid (O.cells = x) := ⟨_, hid rfl⟩
      rw [HOC.out] at HOr HX HOL HO1 HOz HAs HDu HSp
      clear hO hRL hraw hD hstp HSe HOC HOk hlt hi hi150 HRw HRn
      go_upto_region 8 with (first
        | ((with_reducible refine wpList_store_all (by with_unfolding_all rfl) 71 _ _ (by with_unfolding_all rfl) w0.heap.size zst.cells OC 71 (by with_unfolding_all rfl) (by with_unfolding_all rfl) HB3.out HOz.out HOL.out HO1.out ?_); intro w4 BB gg ss; have HS7 := hid BB; have HG4 := hid (HG3.out.andThen gg (fun j hj => .inl (by injection hj with hj; omega))); clear BB gg ss)
        | ((with_reducible refine wpList_alloc_row (by with_unfolding_all rfl) 71 (by with_unfolding_all rfl) zst.cells Tryz.zero71 ?_); intro w3 BB ss gg; have HB3 := hid BB; have HG3 := hid gg; clear BB ss gg)
        | (with_reducible refine wpList_load_part (by with_unfolding_all rfl) 71 _ (by with_unfolding_all rfl) b (off + i * 20) OC _ (by with_unfolding_all rfl) HOr.out Tryz.underlying71 (by with_unfolding_all rfl) HOL.out ?_))
      obtain ⟨p7, hp7⟩ : ∃ z, w0.heap.size = z := ⟨_, rfl⟩
      have HPn : Hid (w.heap.size ≤ p7) := hid (by rw [← hp7]; exact HS.out.grown.size)
      rw [hp7] at HS7 ⊢
      have HS4 := hid (HS.out.keep HG4.out)
      clear hp7 HB3 HG3 HG4 HS HOr HO1 HOz
      have x0 : w4.cell? ⟨p7, 0, none⟩ = some (.int .i64 D) := (HS7.out.cell 0).trans HX.out.1
      have x19 : w4.cell? ⟨p7, 19, none⟩ = some (.slice ra rn rc) := (HS7.out.cell 19).trans HX.out.2
      by_cases h4 : D = 4
      · subst h4
        by_cases hm : 300 < rn
        · have hm' : (300 : Int) < (rn : Int) := by omega
          as_aux_lemma =>
          go_upto_region 12 with (go_at_call 4; (with_reducible refine (HCp.out _ HS4.out.grown).mono ?_); rintro e w5 ⟨v5, rfl, ho5, hg5⟩; have HO5 := hid ho5; have HG5 := hid hg5; obtain ⟨a5, c5, e5, hc5⟩ := out_cap ho5 HRl.out; subst e5; have hc5' : (300 : Int) ≤ (c5 : Int) := (by omega); clear ho5 hg5)
          have HS5 : Hid (SR w w5 bk sb TT a5 300 c5 (RL.take 300) va vn vc lk cs) := hid (HS4.out.list HG5.out ((RK.of HO5.out).cut (by omega)))
          have HL5 : Hid ((RL.take 300).length ≤ 300) := hid (by rw [List.length_take]; omega)
          have HP5 := hid (HS7.out.keep HG5.out)
          go_wp2_with (first
            | (with_reducible refine wpList_load_part (by with_unfolding_all rfl) 71 _ (by with_unfolding_all rfl) p7 0 OC _ (by with_unfolding_all rfl) HP5.out.whole Tryz.underlying71 (by with_unfolding_all rfl) HOL.out ?_)
            | (go_at_call 5; (with_reducible refine (HAs.out _ _ _ _ HS5.out.keys.rd (Nat.le_trans HL5.out (by decide))).mono ?_); rintro e w6 ⟨rfl, gg⟩; have HG6 := hid gg; have z0 : w6.cell? ⟨p7, 0, none⟩ = some (.int .i64 4) := ((HP5.out.keep gg).cell 0).trans HX.out.1; clear gg))
          go_roundw
          case rel => exact ⟨i + 1, _, _, _, _, va, vn, vc, lk, cs, TT, rfl, by go_num, by have := HIn.out; omega, by have := HIn.out; omega, hid (HS5.out.keep HG6.out), hid (by have := HB.out; have := HL5.out; omega)⟩
          case measure => have := HIn.out; simp [intOf]; omega
        · have hm' : ¬ (300 : Int) < (rn : Int) := by omega
          as_aux_lemma =>
          go_upto_region 12 with (go_at_call 4; (with_reducible refine (HCp.out _ HS4.out.grown).mono ?_); rintro e w5 ⟨v5, rfl, ho5, hg5⟩; have HO5 := hid ho5; have HG5 := hid hg5; obtain ⟨a5, c5, e5, hc5⟩ := out_cap ho5 HRl.out; subst e5; clear ho5 hg5)
          have HS5 : Hid (SR w w5 bk sb TT a5 rn c5 (RL) va vn vc lk cs) := hid (HS4.out.list HG5.out (RK.of HO5.out))
          have HL5 : Hid ((RL).length ≤ 300) := hid (by rw [HRl.out]; omega)
          have HP5 := hid (HS7.out.keep HG5.out)
          go_wp2_with (first
            | (with_reducible refine wpList_load_part (by with_unfolding_all rfl) 71 _ (by with_unfolding_all rfl) p7 0 OC _ (by with_unfolding_all rfl) HP5.out.whole Tryz.underlying71 (by with_unfolding_all rfl) HOL.out ?_)
            | (go_at_call 5; (with_reducible refine (HAs.out _ _ _ _ HS5.out.keys.rd (Nat.le_trans HL5.out (by decide))).mono ?_); rintro e w6 ⟨rfl, gg⟩; have HG6 := hid gg; have z0 : w6.cell? ⟨p7, 0, none⟩ = some (.int .i64 4) := ((HP5.out.keep gg).cell 0).trans HX.out.1; clear gg))
          go_roundw
          case rel => exact ⟨i + 1, _, _, _, _, va, vn, vc, lk, cs, TT, rfl, by go_num, by have := HIn.out; omega, by have := HIn.out; omega, hid (HS5.out.keep HG6.out), hid (by have := HB.out; have := HL5.out; omega)⟩
          case measure => have := HIn.out; simp [intOf]; omega
      · have h4' : (D == 4) = false := beq_eq_false_iff_ne.2 h4
        clear HCp HRl
        have HW4 : Hid (l.length ≤ 1000) := hid (by have := HB.out; have := HIn.out; omega)
        have HSt5 := hid HS7.out
        by_cases hd : 1 ≤ D ∧ D ≤ 3
        · have hd1 : ¬ D < 1 := by omega
          have hd3 : ¬ 3 < D := by omega
          clear hd
          go_upto_region 15 with (first
            | (with_reducible refine wpList_load_part (by with_unfolding_all rfl) 71 _ (by with_unfolding_all rfl) p7 0 OC _ (by with_unfolding_all rfl) HS7.out.whole Tryz.underlying71 (by with_unfolding_all rfl) HOL.out ?_)
            | (go_at_call 5; (with_reducible refine (HAs.out _ _ _ _ HS4.out.keys.rd HW4.out).mono ?_); rintro e w6 ⟨rfl, gg⟩; have HG6 := hid gg; have HP6 := hid (HS7.out.keep gg); have z0 : w6.cell? ⟨p7, 0, none⟩ = some (.int .i64 D) := ((HS7.out.keep gg).cell 0).trans HX.out.1; clear gg))
          have HS6 := hid (HS4.out.keep HG6.out)
          clear x0 x19 z0 HS4 HG6 HS7 HSt5
          obtain ⟨lw, HLw⟩ : ∃ x, Hid (stp l = x) := ⟨_, hid rfl⟩
          have HLb : Hid (lw.length ≤ l.length + 1) := hid (by have := HSl.out l; rw [HLw.out] at this; exact this)
          have HDl := hid (HDu.out w6 _ _ l HS6.out.keys.rd HW4.out)
          have HSq : Hid (∀ (u : World) (v : Value) (F : Nat → Prop), RdK u F v l → Calls Tryz.prog 8 #[v, .agg OC.toArray] u fun e w' => ∃ v', e = .returned v' ∧ OutK u.heap.size w' v' lw ∧ u.grownBy w' none) := hid (fun u v F h => by have := HSp.out u v F l h HW4.out; rw [HLw.out] at this; exact this)
          rw [HLw.out] at HDl
          clear HSp HDu HAs HSl HLw
          have HLn : Hid (l.length = ln) := hid HS6.out.keys.len
          have HZ6 := hid HS6.out.grown.size
          have HRl : Hid (∀ k, (Value.slice va vn vc).ownBlock = some k → k < w6.heap.size) := hid (fun k hk => (own_block HS6.out.row.2 hk).2.1)
          have HLl : Hid (∀ k, (Value.slice la ln lc).ownBlock = some k → k < w6.heap.size) := hid (fun k hk => (HS6.out.keys.low hk).2.1)
          go_upto_region 16 with (first
            | (with_reducible refine wpList_load_part (by with_unfolding_all rfl) 71 _ (by with_unfolding_all rfl) p7 0 OC _ (by with_unfolding_all rfl) HP6.out.whole Tryz.underlying71 (by with_unfolding_all rfl) HOL.out ?_)
            | (go_at_call 6; (with_reducible refine HDl.out.mono ?_); rintro e w7 ⟨v7, rfl, ho, hg⟩; obtain ⟨wa, wc, e7, -⟩ := out_cap ho rfl; subst e7; have HQ7 := hid (HS6.out.qr hg (HP6.out.keep hg) HPn.out (RK.of ho)); have HZ7 := hid hg.size; have HWl : Hid (∀ k, (Value.slice wa lw.length wc).ownBlock = some k → k < w7.heap.size) := hid (fun k hk => (ho.2.lt k hk).2); clear ho hg))
          have HLd : Hid (Calls Tryz.prog 7 #[.slice la ln lc] w7 fun e w' => ∃ g c', e = .returned (.slice (some ⟨g, 0, none⟩) ln c') ∧ LentK w7.heap.size w' g c' l ∧ w7.grownBy w' none) := hid (by
            have := lendK_any w7 _ _ l HQ7.out.keys.rd (by have := HW4.out; omega)
            rw [HLn.out] at this
            exact this)
          clear HDl HS6 HP6
          go_upto_region 17 with (go_at_call 7; (with_reducible refine HLd.out.mono ?_); rintro e w8 ⟨gx, cx, rfl, hl8, hg8⟩; have HL8 := hid hl8; have HG8 := hid hg8; have HQ8 := hid (HQ7.out.keep hg8); clear hl8 hg8)
          have HXr : Hid (∀ u, w8.grownBy u none → RdK u (fun k => w7.heap.size ≤ k) (.slice (some ⟨gx, 0, none⟩) ln cx) l) := hid (fun u hu => by have := (HL8.out.keep hu).rd; rw [HLn.out] at this; exact this)
          clear HLd HQ7
          go_upto_region 18 with (first
            | (with_reducible refine wpList_load_part (by with_unfolding_all rfl) 71 _ (by with_unfolding_all rfl) p7 0 OC _ (by with_unfolding_all rfl) HQ8.out.s.whole Tryz.underlying71 (by with_unfolding_all rfl) HOL.out ?_)
            | (go_at_call 8; (with_reducible refine (HSq.out _ _ _ (HXr.out w8 (grefl _ _))).mono ?_); rintro e w9 ⟨v9, rfl, ho, hg⟩; obtain ⟨ga, gc, e9, -⟩ := out_cap ho rfl; subst e9; have HO9 := hid ho; have HG9 := hid hg; have HQ9 := hid (HQ8.out.keep hg); clear ho hg))
          clear HQ8
          go_upto_region 19 with (first
            | (with_reducible refine wpList_load_part (by with_unfolding_all rfl) 71 _ (by with_unfolding_all rfl) p7 0 OC _ (by with_unfolding_all rfl) HQ9.out.s.whole Tryz.underlying71 (by with_unfolding_all rfl) HOL.out ?_)
            | (go_at_call 8; (with_reducible refine (HSq.out _ _ _ (HXr.out w9 HG9.out)).mono ?_); rintro e w10 ⟨v10, rfl, ho, hg⟩; obtain ⟨ta, tc, e10, -⟩ := out_cap ho rfl; subst e10; have HO10 := hid ho; have HG10 := hid hg; have HQ10 := hid (HQ9.out.keep hg); clear ho hg))
          have HO9a := hid (HO9.out.keep HG10.out)
          clear HQ9
          have HEq1 : Hid (Calls Tryz.prog 9 #[.slice ga lw.length gc, .slice wa lw.length wc] w10 fun e w' => e = .returned (.bool true) ∧ w10.grownBy w' none) := hid (by
            have := eqKeys_any w10 _ _ _ _ lw lw HO9a.out.rd HQ10.out.wk.rd (by have := HLb.out; have := HW4.out; omega)
            rw [decide_eq_true rfl] at this
            exact this)
          have HBk : Hid (∀ u, w10.grownBy u none → Calls Tryz.prog 10 #[.slice (some ⟨gx, 0, none⟩) ln cx, .slice la ln lc] u fun e w' => e = .returned (.bool true) ∧ u.grownBy w' none) := hid (fun u hu => by
            have := backK_any u _ _ _ gx cx l ((HL8.out.keep (gtrans HG9.out HG10.out)).keep hu) ((HQ10.out.keep hu).keys.rd) (by have := HW4.out; omega)
            rw [HLn.out] at this
            exact this)
          go_upto_region 21 with (first
            | (go_at_call 9; (with_reducible refine HEq1.out.mono ?_); rintro e w11 ⟨rfl, hg⟩; have HG11 := hid hg; clear hg)
            | (go_at_call 10; (with_reducible refine (HBk.out w11 HG11.out).mono ?_); rintro e w12 ⟨rfl, hg⟩; have HG12 := hid (gtrans HG11.out hg); clear hg))
          clear HEq1 HBk HG11
          have HQ12 := hid (HQ10.out.keep HG12.out)
          have HL12 := hid (HL8.out.keep (gtrans (gtrans HG9.out HG10.out) HG12.out))
          have HO9b := hid (HO9a.out.keep HG12.out)
          have HO10b := hid (HO10.out.keep HG12.out)
          have HOv : Hid (Calls Tryz.prog 11 #[.slice (some ⟨gx, 0, none⟩) ln cx] w12 fun e w' => e = .returned (.tuple #[]) ∧ w12.grownBy w' (some gx)) := hid (by
            have := overK_any w12 _ gx cx l HL12.out (by have := HW4.out; omega)
            rw [HLn.out] at this
            exact this)
          go_upto_region 22 with (go_at_call 11; (with_reducible refine HOv.out.mono ?_); rintro e w13 ⟨rfl, hg⟩; have HG13 := hid hg; clear hg)
          obtain ⟨cb, hcb, hgx⟩ : ∃ cb, Blk w12 gx cb 85 ∧ w7.heap.size ≤ gx := HL12.out.1.blkB rfl
          have HGx : Hid (w7.heap.size ≤ gx ∧ gx < w8.heap.size) := hid ⟨hgx, HL8.out.lt.2⟩
          have HZ : Hid (w6.heap.size ≤ w7.heap.size ∧ w7.heap.size ≤ w8.heap.size ∧ w8.heap.size ≤ w9.heap.size ∧ w9.heap.size ≤ w10.heap.size ∧ w10.heap.size ≤ w12.heap.size ∧ w.heap.size ≤ w6.heap.size) := hid ⟨HZ7.out, HG8.out.size, HG9.out.size, HG10.out.size, HG12.out.size, HZ6.out⟩
          have HU13 : Hid (w12.heap.size ≤ w13.heap.size) := hid HG13.out.size
          have HrowL : Hid (∀ k, (Value.slice va vn vc).ownBlock = some k → k < w6.heap.size) := hid HRl.out
          have HlL : Hid (∀ k, (Value.slice la ln lc).ownBlock = some k → k < w6.heap.size) := hid HLl.out
          have HwL : Hid (∀ k, (Value.slice wa lw.length wc).ownBlock = some k → k < w7.heap.size) := hid HWl.out
          have HgL : Hid (∀ k, (Value.slice ga lw.length gc).ownBlock = some k → w8.heap.size ≤ k ∧ k < w9.heap.size) := hid (fun k hk => by have := HO9.out.2.lt k hk; exact this)
          have HtL : Hid (∀ k, (Value.slice ta lw.length tc).ownBlock = some k → w9.heap.size ≤ k ∧ k < w10.heap.size) := hid (fun k hk => by have := HO10.out.2.lt k hk; exact this)
          have HQ13 := hid (HQ12.out.over hcb HG13.out (by have := HZ.out; omega) (.inl (by have := HZ.out; omega)) (fun e => by have := HrowL.out _ e; have := HZ.out; omega) (fun e => by have := HlL.out _ e; have := HZ.out; omega) (fun e => by have := HwL.out _ e; omega))
          have HO9c : Hid (OutK w.heap.size w13 (.slice ga lw.length gc) lw) := hid ((HO9b.out.on HG13.out (fun k hk e => by injection hk with hk; subst hk; have := HgL.out _ e; have := HGx.out; omega)).below (by have := HZ.out; omega))
          have HO10c : Hid (OutK w.heap.size w13 (.slice ta lw.length tc) lw) := hid ((HO10b.out.on HG13.out (fun k hk e => by injection hk with hk; subst hk; have := HtL.out _ e; have := HGx.out; have := HZ.out; omega)).below (by have := HZ.out; omega))
          have HK1 := hid ((HQ13.out.book.other (X' := fun k => (Value.slice va vn vc).ownBlock = some k ∨ (Value.slice ta lw.length tc).ownBlock = some k) (fun q h1 h2 => by
            rcases h2 with h2 | h2
            · exact h2
            · have := HtL.out _ h2; have := HZ.out; omega)).keysX (X' := fun k => (Value.slice va vn vc).ownBlock = some k ∨ (Value.slice ta lw.length tc).ownBlock = some k) (M := w9.heap.size) HO9c.out (by have := HLb.out; have := HW4.out; omega) (by have := HB.out; have := HIn.out; omega) (fun q h1 => ⟨.inl (by have := HgL.out _ h1; have := HZ.out; omega), fun h2 => by
            have h3 := HgL.out _ h1
            have h4 := HZ.out
            rcases h2 with h2 | h2
            · have := HrowL.out _ h2; omega
            · have := HtL.out _ h2; omega⟩) (fun _ h => h) (fun q h1 => (HgL.out _ h1).2))
          clear hcb hgx HOv HQ12 HO9a HO9b HO10b HO9 HO10 HL12
          go_upto_region 23 with (go_at_call 12; (with_reducible refine HK1.out.mono ?_); rintro e w14 ⟨rfl, hb14, hk14⟩; have HB14 := hid hb14; have HU14 : Hid (w13.heap.size ≤ w14.heap.size) := hid hk14.1.size; have HK14 := hid hk14; clear hb14 hk14)
          have HQ14 := hid (HQ13.out.kk HK14.out HB14.out HO9c.out (fun k hk => by
            have h3 := HgL.out _ hk
            have h4 := HZ.out
            exact ⟨fun e => by have := HrowL.out _ e; omega, fun e => by have := HlL.out _ e; omega, fun e => by have := HwL.out _ e; omega⟩))
          have HO10d := hid (OutK.kk HO10c.out HK14.out (fun k hk e => by have h3 := HgL.out _ e; have h4 := HtL.out _ hk; omega))
          have HEq2 : Hid (Calls Tryz.prog 9 #[.slice ta lw.length tc, .slice wa lw.length wc] w14 fun e w' => e = .returned (.bool true) ∧ w14.grownBy w' none) := hid (by
            have := eqKeys_any w14 _ _ _ _ lw lw HO10d.out.rd HQ14.out.wk.rd (by have := HLb.out; have := HW4.out; omega)
            rw [decide_eq_true rfl] at this
            exact this)
          clear HK1 HQ13 HO9c HO10c HB14 HK14
          go_upto_region 25 with (go_at_call 9; (with_reducible refine HEq2.out.mono ?_); rintro e w15 ⟨rfl, hg⟩; have HG15 := hid hg; clear hg)
          have HQ15 := hid (HQ14.out.keep HG15.out)
          have HU15 : Hid (w14.heap.size ≤ w15.heap.size) := hid HG15.out.size
          have HO10e := hid (HO10d.out.keep HG15.out)
          have HK2 := hid (HQ15.out.book.keysX (X' := fun k => (Value.slice va vn vc).ownBlock = some k) (M := w10.heap.size) HO10e.out (by have := HLb.out; have := HW4.out; omega) (by have := HB.out; have := HIn.out; omega) (fun q h1 => ⟨.inr (.inr h1), fun h2 => by have := HrowL.out _ h2; have := HtL.out _ h1; have := HZ.out; omega⟩) (fun _ h => .inl h) (fun q h1 => (HtL.out _ h1).2))
          clear HEq2 HQ14 HO10d
          go_upto_region 26 with (go_at_call 12; (with_reducible refine HK2.out.mono ?_); rintro e w16 ⟨rfl, hb16, hk16⟩; have HB16 := hid hb16; have HU16 : Hid (w15.heap.size ≤ w16.heap.size) := hid hk16.1.size; have HK16 := hid hk16; clear hb16 hk16)
          have HQ16 := hid (HQ15.out.kk HK16.out HB16.out HO10e.out (fun k hk => by
            have h3 := HtL.out _ hk
            have h4 := HZ.out
            exact ⟨fun e => by have := HrowL.out _ e; omega, fun e => by have := HlL.out _ e; omega, fun e => by have := HwL.out _ e; omega⟩))
          have HUp : Hid (w10.heap.size ≤ w16.heap.size) := hid (by have h1 := HU13.out; have h2 := HU14.out; have h3 := HU15.out; have h4 := HU16.out; have h5 := HZ.out; omega)
          have HSt : Hid (∀ u, w16.grownBy u none → Calls Tryz.prog 13 #[.pointer (some ⟨sb, 0, none⟩), .slice la ln lc] u fun e w' => ∃ na nn nc, e = .returned (.slice na nn nc) ∧ OutK w.heap.size w' (.slice na nn nc) l ∧ (SR w w' bk sb (TT + 1 + 1) wa lw.length wc lw na nn nc l (cs.set 6 (.slice na nn nc)) ∧ Blk w' p7 OC 71)) := hid (fun u hu => by
            have hq := HQ16.out.keep hu
            refine (seatRv_any u w.heap.size sb _ cs va vn vc lk l la ln lc hq.seat hq.c6 hq.row hq.grown.size hq.keys.rd (by have := HW4.out; omega)).mono ?_
            rintro e w' ⟨na, nn, nc, rfl, ho, hset, hat, hks⟩
            refine ⟨na, nn, nc, rfl, ho, hq.done ?_ hks hset ho hat⟩
            have h1 := HZ.out
            have h2 := HUp.out
            have h3 := hu.size
            omega)
          have HP16 := hid HQ16.out.s
          clear HQ15 HQ16 HK2 HB16 HK16 HO10e
          refine wp_region_held_drew (S := fun v => Blk v p7 OC 71) (by kernel_rfl) (HP16.out.keep (gdrew _ _ _)) (fun hHeld => ?_)
          refine wpAnyH_take (i := 0) (oi := { dst := some 86, op := Op.move (Operand.tmp 4), type := 51, pos := "law.go:108", after := #[], guard := none }) (v := (.pointer (some ⟨sb, 0, none⟩))) rfl (by kernel_rfl) (by kernel_rfl) (by kernel_rfl) (fun _ _ _ h => h) (yieldsIf_mv rfl (.tmp 4) rfl _ rfl) (by assumption) ?_
          (try simp only [Act.put, List.setIfInBounds_toArray, List.set_cons_zero, List.set_cons_succ])
          refine wpAnyH_take (i := 1) (oi := { dst := some 87, op := Op.move (Operand.tmp 5), type := 57, pos := "law.go:108", after := #[], guard := none }) (v := (.slice la ln lc)) rfl (by kernel_rfl) (by kernel_rfl) (by kernel_rfl) (fun _ _ _ h => h) (yieldsIf_mv rfl (.tmp 5) rfl _ rfl) (by assumption) ?_
          (try simp only [Act.put, List.setIfInBounds_toArray, List.set_cons_zero, List.set_cons_succ])
          refine wpAnyH_take (i := 3) (oi := { dst := some 89, op := Op.load 71 (Operand.tmp 7), type := 71, pos := "law.go:108", after := #[], guard := none }) (v := (.agg OC.toArray)) rfl (by kernel_rfl) (by kernel_rfl) (by kernel_rfl) (fun _ _ _ h => h) (yieldsIf_load_mid rfl 71 (.tmp 7) rfl p7 0 rfl OC _ (fun u hu => hu.whole) Tryz.underlying71 rfl HOL.out) (by assumption) ?_
          (try simp only [Act.put, List.setIfInBounds_toArray, List.set_cons_zero, List.set_cons_succ])
          refine wpAnyH_take (i := 5) (oi := { dst := some 91, op := Op.move (Operand.tmp 8), type := 57, pos := "law.go:108", after := #[], guard := none }) (v := (.slice wa lw.length wc)) rfl (by kernel_rfl) (by kernel_rfl) (by kernel_rfl) (fun _ _ _ h => h) (yieldsIf_mv rfl (.tmp 8) rfl _ rfl) (by assumption) ?_
          (try simp only [Act.put, List.setIfInBounds_toArray, List.set_cons_zero, List.set_cons_succ])
          refine wpAnyH_ready (rs := [2]) (by kernel_rfl) (by simp) ?_
          refine AllReadyH.cons rfl (fun K hK => ?_) AllReadyH.nil
          go_simp
          refine (HSt.out _ (gdrew _ _ _)).mono ?_
          rintro e w17 ⟨na, nn, nc, rfl, ho17, hs17, hp17⟩
          have HO17 := hid ho17
          have HS17 := hid hs17
          have HP17 := hid hp17
          clear ho17 hs17 hp17
          refine hK.out _ _ ?_ (fun hHeld => ?_)
          · exact HP17.out
          clear hK K
          (try simp only [Act.put, List.setIfInBounds_toArray, List.set_cons_zero, List.set_cons_succ])
          refine wpAnyH_ready (rs := [4]) (by kernel_rfl) (by simp) ?_
          refine AllReadyH.cons rfl (fun K hK => ?_) AllReadyH.nil
          go_simp
          refine (HSq.out _ _ _ HO17.out.rd).mono ?_
          rintro e w18 ⟨v18, rfl, ho18, hg18⟩
          have HG18 := hid hg18
          have HE18 : Hid (Calls Tryz.prog 9 #[v18, .slice wa lw.length wc] w18 fun e w' => e = .returned (.bool true) ∧ w18.grownBy w' none) := hid (by
            have := eqKeys_any w18 _ _ _ _ lw lw ho18.rd (HS17.out.keys.keep hg18).rd (by have := HLb.out; have := HW4.out; omega)
            rw [decide_eq_true rfl] at this
            exact this)
          clear ho18 hg18
          refine hK.out _ _ ?_ (fun hHeld => ?_)
          · exact HP17.out.keep HG18.out
          clear hK K
          (try simp only [Act.put, List.setIfInBounds_toArray, List.set_cons_zero, List.set_cons_succ])
          refine wpAnyH_ready (rs := [6]) (by kernel_rfl) (by simp) ?_
          refine AllReadyH.cons rfl (fun K hK => ?_) AllReadyH.nil
          go_simp
          refine HE18.out.mono ?_
          rintro e w19 ⟨rfl, hg19⟩
          have HG19 := hid (gtrans HG18.out hg19)
          clear hg19
          refine hK.out _ _ ?_ (fun hHeld => ?_)
          · exact HP17.out.keep HG19.out
          clear hK K
          (try simp only [Act.put, List.setIfInBounds_toArray, List.set_cons_zero, List.set_cons_succ])
          refine wpAnyH_take (i := 7) (oi := { dst := some 93, op := Op.unOp UnOp.not 4 (Operand.tmp 92), type := 4, pos := "law.go:108", after := #[{ on := 6, ground := Ground.data }], guard := none }) (v := (.bool false)) rfl (by kernel_rfl) (by kernel_rfl) (by kernel_rfl) (fun _ _ _ h => h) (Or.inl ⟨by rfl, by intro u hSu; go_simp⟩) (by assumption) ?_
          (try simp only [Act.put, List.setIfInBounds_toArray, List.set_cons_zero, List.set_cons_succ])
          refine wpAnyH_done (by kernel_rfl) ?_ _
          go_wp2_with fail
          go_roundw
          case rel => exact ⟨i + 1, _, _, _, _, na, nn, nc, l, _, TT + 1 + 1, rfl, by go_num, by have := HIn.out; omega, by have := HIn.out; omega, hid (HS17.out.keep HG19.out), hid (by have := HB.out; have := HLb.out; omega)⟩
          case measure => have := HIn.out; simp [intOf]; omega
        · as_aux_lemma =>
          by_cases hd1 : D < 1
          · go_wp2_with (first
              | (with_reducible refine wpList_load_part (by with_unfolding_all rfl) 71 _ (by with_unfolding_all rfl) p7 0 OC _ (by with_unfolding_all rfl) HS7.out.whole Tryz.underlying71 (by with_unfolding_all rfl) HOL.out ?_)
              | (go_at_call 5; (with_reducible refine (HAs.out _ _ _ _ HS4.out.keys.rd HW4.out).mono ?_); rintro e w6 ⟨rfl, gg⟩; have HG6 := hid gg; have z0 : w6.cell? ⟨p7, 0, none⟩ = some (.int .i64 D) := ((HS7.out.keep gg).cell 0).trans HX.out.1; clear gg))
            go_roundw
            case rel => exact ⟨i + 1, _, _, _, _, va, vn, vc, lk, cs, TT, rfl, by go_num, by have := HIn.out; omega, by have := HIn.out; omega, hid (HS4.out.keep HG6.out), hid (by have := HB.out; omega)⟩
            case measure => have := HIn.out; simp [intOf]; omega
          · have hd3 : 3 < D := by omega
            go_wp2_with (first
              | (with_reducible refine wpList_load_part (by with_unfolding_all rfl) 71 _ (by with_unfolding_all rfl) p7 0 OC _ (by with_unfolding_all rfl) HS7.out.whole Tryz.underlying71 (by with_unfolding_all rfl) HOL.out ?_)
              | (go_at_call 5; (with_reducible refine (HAs.out _ _ _ _ HS4.out.keys.rd HW4.out).mono ?_); rintro e w6 ⟨rfl, gg⟩; have HG6 := hid gg; have z0 : w6.cell? ⟨p7, 0, none⟩ = some (.int .i64 D) := ((HS7.out.keep gg).cell 0).trans HX.out.1; clear gg))
            go_roundw
            case rel => exact ⟨i + 1, _, _, _, _, va, vn, vc, lk, cs, TT, rfl, by go_num, by have := HIn.out; omega, by have := HIn.out; omega, hid (HS4.out.keep HG6.out), hid (by have := HB.out; omega)⟩
            case measure => have := HIn.out; simp [intOf]; omega
    · by_cases h1 : i < n
      · as_aux_lemma =>
        have hlt' : (i : Int) < (n : Int) := by omega
        have hlt150 : ¬ (i : Int) < 150 := by omega
        go_wp2_with (first
          | (go_at_call 14; (with_reducible refine (HS.out.book.look).mono ?_); rintro e w9 ⟨rfl, gg⟩; have HG9 : Hid (w.grownBy w9 none) := hid (gof ((gbelow HS.out.grown).trans gg) none); clear gg)
          | (go_at_call 15; (with_reducible refine (wakes_any _).mono ?_); rintro e w10 ⟨rfl, gg⟩; have HG10 := hid (gtrans HG9.out gg); clear gg))
        go_ret
        exact ⟨rfl, HG10.out⟩
      · as_aux_lemma =>
        have hlt' : ¬ (i : Int) < (n : Int) := by omega
        go_wp2_with (first
          | (go_at_call 14; (with_reducible refine (HS.out.book.look).mono ?_); rintro e w9 ⟨rfl, gg⟩; have HG9 : Hid (w.grownBy w9 none) := hid (gof ((gbelow HS.out.grown).trans gg) none); clear gg)
          | (go_at_call 15; (with_reducible refine (wakes_any _).mono ?_); rintro e w10 ⟨rfl, gg⟩; have HG10 := hid (gtrans HG9.out gg); clear gg))
        go_ret
        exact ⟨rfl, HG10.out⟩
end Go.Proofs.YtlgjmhemgfjgnaaGreat.Bk
