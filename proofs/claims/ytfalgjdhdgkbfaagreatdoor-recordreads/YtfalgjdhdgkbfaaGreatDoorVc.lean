/- The reference's Reader: ID. -/
import Derived.Test.YtfalgjdhdgkbfaaGreatDoorVb
import Derived.Test.YtfalgjdhdgkbfaaGreatDoorAgg3
import Derived.Deep.Cut
namespace Go.Proofs.YtfalgjdhdgkbfaaGreatDoor
open Go Go.RowKit
open Go.RowKit (wrap32 wrap64)

theorem zero65 : (Tryz.prog.info? 65).map (fun i => i.zero) = some (some (.agg (Lib.byteCells (List.replicate 16 0)).toArray)) := by kernel_rfl
theorem size65 : (Tryz.prog.info? 65).map (·.size) = some 16 := by kernel_rfl
theorem idx65 (p i : Nat) (h : i < 16) (u : World) : (Instr.indexAt 65 (.pointer (some ⟨p, 0, none⟩)) (.int .i64 (i : Nat))).run Tryz.prog u = .ok (.pointer (some ⟨p, i, none⟩)) u := by
  have h' : (i : Int) < 16 := by omega
  go_simp
def idP (x : List UInt8) (i : Nat) : List UInt8 := x.take i ++ List.replicate (16 - i) 0
theorem idP_set (x : List UInt8) (i : Nat) (hi : i < 16) (hx : x.length = 16) : (idP x i).set i (x[i]'(by omega)) = idP x (i + 1) := by
  unfold idP
  obtain ⟨k, hk⟩ : ∃ k, 16 - i = k + 1 := ⟨15 - i, by omega⟩
  rw [hk, show 16 - (i + 1) = k by omega, List.replicate_succ, List.set_append_right _ _ (by rw [List.length_take]; omega), show i - (List.take i x).length = 0 by rw [List.length_take]; omega, List.set_cons_zero, List.take_succ_eq_append_getElem (by omega), List.append_assoc]
  rfl
theorem idP_len (x : List UInt8) (i : Nat) (hi : i ≤ 16) (hx : x.length = 16) : (idP x i).length = 16 := by unfold idP; rw [List.length_append, List.length_take, List.length_replicate]; omega
theorem bcs_one (l : List UInt8) : ∀ v ∈ Lib.byteCells l, v.oneCell' = true := by
  intro v hv
  unfold Lib.byteCells at hv
  obtain ⟨_, _, rfl⟩ := List.mem_map.1 hv
  rfl
theorem bc_set (l : List UInt8) (i : Nat) (x : UInt8) : (Lib.byteCells l).set i (.int .u8 x.toNat) = Lib.byteCells (l.set i x) := by simp [Lib.byteCells, List.map_set]
set_option maxRecDepth 100000 in
set_option maxHeartbeats 2000000 in
theorem rvid_any (w : World) (d : Nat) (F : Nat → Prop) (l : List UInt8) (bad : Nat) (h0 : Rv w d F l bad) :
    Calls Tryz.prog 61 #[.pointer (some ⟨d, 0, none⟩)] w fun r w' => r = .returned (.agg (Lib.byteCells (idL (rt l bad 16))).toArray) ∧ Rv w' d F (rl l bad 16) (rb l bad 16) ∧ w.grownBy w' (some d) := by
  have hdl := h0.lt
  have HFd : Hid (¬ F d) := hid (by obtain ⟨v, _, _, h3, _⟩ := h0; exact h3)
  have h : Rv w d (fun k => k < w.heap.size ∧ F k) l bad := h0.mono (fun k hk hF => ⟨hk, hF⟩) (fun hx => HFd.out hx.2)
  have HR := hid h
  have HZ : Hid ((Lib.byteCells (List.replicate 16 0)).length = 16) := hid (by rw [byteCells_length, List.length_replicate])
  clear h0
  by_cases hok : bad = 0 ∧ 16 ≤ l.length
  · obtain ⟨rfl, h16⟩ := hok
    obtain ⟨e1, e2, e3⟩ := rb_good (l := l) (n := 16) h16
    have e4 : idL (l.take 16) = l.take 16 := by unfold idL; rw [List.length_take, Nat.min_eq_left h16, Nat.sub_self]; simp
    rw [e1, e2, e3, e4]
    have HT : Hid (∀ u, Rv u d (fun k => k < w.heap.size ∧ F k) l 0 → Calls Tryz.prog 115 #[.pointer (some ⟨d, 0, none⟩), .int .i64 16] u fun r w' => ∃ v, r = .returned v ∧ Rd w' (fun k => k < w.heap.size ∧ F k) v (l.take 16) ∧ Rv w' d (fun k => k < w.heap.size ∧ F k) (l.drop 16) 0 ∧ u.grownBy w' (some d)) := hid (fun u hu => rvtake_any u d _ l 0 16 hu h16)
    have HX : Hid ((l.take 16).length = 16) := hid (by rw [List.length_take]; omega)
    have h16' : ¬ (l.length : Int) < 16 := by omega
    obtain ⟨x, hx⟩ : ∃ x, l.take 16 = x := ⟨_, rfl⟩
    rw [hx] at HT HX ⊢
    clear e1 e2 e3 e4 hx h
    go_enter Tryz.func61, Tryz.ntmps61
    go_upto_region 2 with (first
      | (have := HG1; clear this; (with_reducible refine wpList_alloc_row (by with_unfolding_all rfl) 65 (by with_unfolding_all rfl) (Lib.byteCells (List.replicate 16 0)) zero65 ?_); intro w2 B2 s2 g2; have HD2 := hid B2; have HA2 := hid (HA1.out.keep g2); have HR2 := hid (HR1.out.keep g2); have HG2 := hid (gtrans HG1.out g2); clear B2 s2 g2)
      | ((with_reducible refine wpList_alloc_row (by with_unfolding_all rfl) 65 (by with_unfolding_all rfl) (Lib.byteCells (List.replicate 16 0)) zero65 ?_); intro w1 B1 s1 g1; have HA1 := hid B1; have HR1 := hid (HR.out.keep g1); have HG1 := hid g1; clear B1 s1 g1))
    obtain ⟨p2, hp2⟩ : ∃ q, w.heap.size = q := ⟨_, rfl⟩
    obtain ⟨p3, hp3⟩ : ∃ q, w1.heap.size = q := ⟨_, rfl⟩
    rw [hp2] at HA2
    rw [hp3] at HD2
    simp only [hp2, hp3]
    have HPn : Hid (w.heap.size ≤ p2 ∧ w.heap.size ≤ p3 ∧ p2 ≠ p3 ∧ d ≠ p2 ∧ d ≠ p3) := hid (by have h1 := HG1.out.size; have h2 := HA1.out.lt; omega)
    clear hp2 hp3 HA1 HR1 HG1
    obtain ⟨a, c, c0, c1, fz⟩ := HR2.out.open
    go_wp2_with fail
    refine (HT.out _ HR2.out).mono ?_
    rintro e w3 ⟨v3, rfl, hv3, hR3, hg3⟩
    have HR3 := hid hR3
    have HA3 := hid (HA2.out.on hg3 (by have := HPn.out; simp; omega))
    have HD3 := hid (HD2.out.on hg3 (by have := HPn.out; simp; omega))
    have HG3 := hid (gtrans (gsome HG2.out (some d)) hg3)
    clear hR3 hg3 c0 c1 fz HR2 HA2 HD2 HG2
    obtain ⟨xa, xb, xo, xc, rfl, hxc, hxn, hxa, hxcell⟩ := hv3
    obtain ⟨rfl, hxb, hxF⟩ := hxa (by rw [HX.out]; omega)
    have HXC : Hid (∀ u, w3.grownBy u (some p3) → ∀ i (h : i < x.length), u.cell? ⟨xb, xo + i, none⟩ = some (.int .u8 x[i].toNat)) := hid (fun u hu i hi => by
      rw [cell_at hu hxb (by have := HPn.out; simp; omega)]; exact hxcell i hi)
    rw [HX.out] at hxc ⊢
    clear hxcell hxa hxn hxF hxb
    go_wp2_with fail
    go_loopw [5] (fun iv wr => ∃ i : Nat, iv = .int .i64 i ∧ i ≤ 16 ∧ Hid (Blk wr p3 (Lib.byteCells (idP x i)) 65) ∧ Hid (Blk wr p2 (Lib.byteCells (List.replicate 16 0)) 65) ∧ Hid (Rv wr d (fun k => k < w.heap.size ∧ F k) (l.drop 16) 0) ∧ Hid (w3.grownBy wr (some p3)) ∧ Hid (w.grownBy wr (some d))) (fun iv _ => 16 - (intOf iv).toNat)
    case atStart => exact ⟨0, rfl, by omega, hid (by have := HD3.out; unfold idP; simpa using this), HA3, HR3, hid (grefl _ _), HG3⟩
    case round =>
      obtain ⟨i, rfl, hi, HDx, HAx, HRx, HGp, HGx⟩ := hrel
      clear HD3 HA3 HR3 HG3
      by_cases hlt : i < 16
      · have hlt' : (i : Int) < 16 := by omega
        have hix : i < x.length := by rw [HX.out]; exact hlt
        have cx := HXC.out wr HGp.out i hix
        have hcell := HDx.out.cell i
        have hfz := HDx.out.frozen i
        have hpl : (Lib.byteCells (idP x i)).length = 16 := by rw [byteCells_length]; exact idP_len x i hi HX.out
        rw [List.getElem?_eq_getElem (by omega)] at hcell
        have HST : Hid ((idP x i).set i x[i] = idP x (i + 1)) := hid (idP_set x i hlt HX.out)
        generalize x[i] = y at cx HST
        go_upto_region 8 with fail
        obtain ⟨w7, hw7⟩ : ∃ q, wr.setCell ⟨p3, i, none⟩ (.int .u8 (y.toNat : Int)) = q := ⟨_, rfl⟩
        rw [hw7]
        have HD7 : Hid (Blk w7 p3 (Lib.byteCells (idP x (i + 1))) 65) := hid (by rw [← hw7, ← HST.out, ← bc_set]; exact HDx.out.set i _)
        have HG7 : Hid (wr.grownBy w7 (some p3)) := hid (by rw [← hw7]; exact gset _ _ _)
        have HA7 := hid (HAx.out.on HG7.out (by have := HPn.out; simp; omega))
        have HR7 := hid (HRx.out.on HG7.out (by have := HPn.out; simp; omega) (fun k hk => by injection hk with hk; intro h; have := HPn.out; omega))
        have HGq := hid (gtrans HGp.out HG7.out)
        have HGw := hid (HGx.out.andThen HG7.out (fun j hj => .inl (by injection hj with hj; have := HPn.out; omega)))
        clear hw7 hcell hfz cx
        go_wp2_with fail
        go_roundw
        case rel => exact ⟨i + 1, by go_num, by omega, HD7, HA7, HR7, HGq, HGw⟩
        case measure => simp [intOf]; omega
      · have hi16 : i = 16 := by omega
        subst hi16
        have e5 : idP x 16 = x := by unfold idP; rw [List.take_of_length_le (by rw [HX.out]; omega)]; simp
        rw [e5] at HDx
        have HLn : Hid ((Lib.byteCells x).length = 16) := hid (by rw [byteCells_length]; exact HX.out)
        clear e5 hlt
        go_wp2_with (first
          | ((with_reducible refine wpList_load_part (by with_unfolding_all rfl) 65 _ (by with_unfolding_all rfl) p3 0 (Lib.byteCells x) _ (by with_unfolding_all rfl) HDx.out.whole Tryz.underlying65 (by with_unfolding_all rfl) (by rw [HLn.out]; exact size65) ?_))
          | ((with_reducible refine wpList_store_all (by with_unfolding_all rfl) 65 _ _ (by with_unfolding_all rfl) p2 (Lib.byteCells (List.replicate 16 0)) (Lib.byteCells x) 65 (by with_unfolding_all rfl) (by with_unfolding_all rfl) HAx.out (by rw [HLn.out, HZ.out]) (by rw [HLn.out]; exact size65) (bcs_one _) ?_); intro w9 B9 g9 s9; have HA9 := hid B9; have HR9 := hid (HRx.out.on g9 (by have := HPn.out; simp; omega) (fun k hk => by injection hk with hk; intro h; have := HPn.out; omega)); have HG9 := hid (HGx.out.andThen g9 (fun j hj => .inl (by injection hj with hj; have := HPn.out; omega))); clear B9 g9 s9))
        refine bodyPost_ret (results_blk rfl _ p2 65 (Lib.byteCells x) _ rfl HA9.out Tryz.underlying65 rfl (by rw [HLn.out]; exact size65)) rfl ?_
        exact ⟨rfl, HR9.out.mono (fun k _ hk => hk.2) HFd.out, HG9.out⟩
  · have HX : rt l bad 16 = [] ∧ rl l bad 16 = l ∧ ((bad = 0 ∧ l.length < 16 ∧ rb l bad 16 = 30) ∨ (bad ≠ 0 ∧ rb l bad 16 = bad)) := by
      by_cases hb : bad = 0
      · subst hb
        have hs : l.length < 16 := by omega
        obtain ⟨e1, e2, e3⟩ := rb_short hs
        exact ⟨e2, e3, .inl ⟨rfl, hs, e1⟩⟩
      · obtain ⟨e1, e2, e3⟩ := rb_bad (l := l) (n := 16) hb
        exact ⟨e2, e3, .inr ⟨hb, e1⟩⟩
    obtain ⟨e1, e2, hcs⟩ := HX
    have e4 : idL [] = List.replicate 16 0 := rfl
    rw [e1, e2, e4]
    have HLn : Hid ((Lib.byteCells (List.replicate 16 0)).length = 16) := HZ
    clear e1 e2 e4 hok h
    rcases hcs with ⟨rfl, hs, e3⟩ | ⟨hb, e3⟩
    · rw [e3]
      have hs' : (l.length : Int) < 16 := by omega
      clear e3
      go_enter Tryz.func61, Tryz.ntmps61
      go_upto_region 2 with (first
        | (have := HG1; clear this; (with_reducible refine wpList_alloc_row (by with_unfolding_all rfl) 65 (by with_unfolding_all rfl) (Lib.byteCells (List.replicate 16 0)) zero65 ?_); intro w2 B2 s2 g2; have HD2 := hid B2; have HA2 := hid (HA1.out.keep g2); have HR2 := hid (HR1.out.keep g2); have HG2 := hid (gtrans HG1.out g2); clear B2 s2 g2)
        | ((with_reducible refine wpList_alloc_row (by with_unfolding_all rfl) 65 (by with_unfolding_all rfl) (Lib.byteCells (List.replicate 16 0)) zero65 ?_); intro w1 B1 s1 g1; have HA1 := hid B1; have HR1 := hid (HR.out.keep g1); have HG1 := hid g1; clear B1 s1 g1))
      obtain ⟨p2, hp2⟩ : ∃ q, w.heap.size = q := ⟨_, rfl⟩
      obtain ⟨p3, hp3⟩ : ∃ q, w1.heap.size = q := ⟨_, rfl⟩
      rw [hp2] at HA2
      rw [hp3] at HD2
      simp only [hp2, hp3]
      have HPn : Hid (w.heap.size ≤ p2 ∧ w.heap.size ≤ p3 ∧ p2 ≠ p3 ∧ d ≠ p2 ∧ d ≠ p3) := hid (by have h1 := HG1.out.size; have h2 := HA1.out.lt; omega)
      clear hp2 hp3 HA1 HR1 HG1
      obtain ⟨a, c, c0, c1, fz⟩ := HR2.out.open
      go_upto_region 4 with fail
      obtain ⟨w7, hw7⟩ : ∃ q, w2.setCell ⟨d, 1, none⟩ (.int .i64 30) = q := ⟨_, rfl⟩
      rw [hw7]
      have HRx : Hid (Rv w7 d (fun k => k < w.heap.size ∧ F k) l 30) := hid (by rw [← hw7]; exact HR2.out.setBad)
      have HG7 : Hid (w2.grownBy w7 (some d)) := hid (by rw [← hw7]; exact gset _ _ _)
      have HAx := hid (HA2.out.on HG7.out (by have := HPn.out; simp; omega))
      have HDx := hid (HD2.out.on HG7.out (by have := HPn.out; simp; omega))
      have HGx := hid (gtrans (gsome HG2.out (some d)) HG7.out)
      obtain ⟨a7, q7, d0, d1, dz⟩ := HRx.out.open
      clear hw7 c0 c1 fz HR2 HA2 HD2 HG2
      go_wp2_with (first
        | ((with_reducible refine wpList_load_part (by with_unfolding_all rfl) 65 _ (by with_unfolding_all rfl) p3 0 (Lib.byteCells (List.replicate 16 0)) _ (by with_unfolding_all rfl) HDx.out.whole Tryz.underlying65 (by with_unfolding_all rfl) (by rw [HLn.out]; exact size65) ?_))
        | ((with_reducible refine wpList_store_all (by with_unfolding_all rfl) 65 _ _ (by with_unfolding_all rfl) p2 (Lib.byteCells (List.replicate 16 0)) (Lib.byteCells (List.replicate 16 0)) 65 (by with_unfolding_all rfl) (by with_unfolding_all rfl) HAx.out rfl (by rw [HLn.out]; exact size65) (bcs_one _) ?_); intro w9 B9 g9 s9; have HA9 := hid B9; have HR9 := hid (HRx.out.on g9 (by have := HPn.out; simp; omega) (fun k hk => by injection hk with hk; intro h; have := HPn.out; omega)); have HG9 := hid (HGx.out.andThen g9 (fun j hj => .inl (by injection hj with hj; have := HPn.out; omega))); clear B9 g9 s9))
      refine bodyPost_ret (results_blk rfl _ p2 65 (Lib.byteCells (List.replicate 16 0)) _ rfl HA9.out Tryz.underlying65 rfl (by rw [HLn.out]; exact size65)) rfl ?_
      exact ⟨rfl, HR9.out.mono (fun k _ hk => hk.2) HFd.out, HG9.out⟩
    · rw [e3]
      have hb' : ¬ (bad : Int) = 0 := by omega
      clear e3
      go_enter Tryz.func61, Tryz.ntmps61
      go_upto_region 2 with (first
        | (have := HG1; clear this; (with_reducible refine wpList_alloc_row (by with_unfolding_all rfl) 65 (by with_unfolding_all rfl) (Lib.byteCells (List.replicate 16 0)) zero65 ?_); intro w2 B2 s2 g2; have HD2 := hid B2; have HA2 := hid (HA1.out.keep g2); have HR2 := hid (HR1.out.keep g2); have HG2 := hid (gtrans HG1.out g2); clear B2 s2 g2)
        | ((with_reducible refine wpList_alloc_row (by with_unfolding_all rfl) 65 (by with_unfolding_all rfl) (Lib.byteCells (List.replicate 16 0)) zero65 ?_); intro w1 B1 s1 g1; have HA1 := hid B1; have HR1 := hid (HR.out.keep g1); have HG1 := hid g1; clear B1 s1 g1))
      obtain ⟨p2, hp2⟩ : ∃ q, w.heap.size = q := ⟨_, rfl⟩
      obtain ⟨p3, hp3⟩ : ∃ q, w1.heap.size = q := ⟨_, rfl⟩
      rw [hp2] at HA2
      rw [hp3] at HD2
      simp only [hp2, hp3]
      have HPn : Hid (w.heap.size ≤ p2 ∧ w.heap.size ≤ p3 ∧ p2 ≠ p3 ∧ d ≠ p2 ∧ d ≠ p3) := hid (by have h1 := HG1.out.size; have h2 := HA1.out.lt; omega)
      clear hp2 hp3 HA1 HR1 HG1
      obtain ⟨a, c, c0, c1, fz⟩ := HR2.out.open
      have HRx := HR2
      have HAx := HA2
      have HDx := HD2
      have HGx := hid (gsome HG2.out (some d))
      go_wp2_with (first
        | ((with_reducible refine wpList_load_part (by with_unfolding_all rfl) 65 _ (by with_unfolding_all rfl) p3 0 (Lib.byteCells (List.replicate 16 0)) _ (by with_unfolding_all rfl) HDx.out.whole Tryz.underlying65 (by with_unfolding_all rfl) (by rw [HLn.out]; exact size65) ?_))
        | ((with_reducible refine wpList_store_all (by with_unfolding_all rfl) 65 _ _ (by with_unfolding_all rfl) p2 (Lib.byteCells (List.replicate 16 0)) (Lib.byteCells (List.replicate 16 0)) 65 (by with_unfolding_all rfl) (by with_unfolding_all rfl) HAx.out rfl (by rw [HLn.out]; exact size65) (bcs_one _) ?_); intro w9 B9 g9 s9; have HA9 := hid B9; have HR9 := hid (HRx.out.on g9 (by have := HPn.out; simp; omega) (fun k hk => by injection hk with hk; intro h; have := HPn.out; omega)); have HG9 := hid (HGx.out.andThen g9 (fun j hj => .inl (by injection hj with hj; have := HPn.out; omega))); clear B9 g9 s9))
      refine bodyPost_ret (results_blk rfl _ p2 65 (Lib.byteCells (List.replicate 16 0)) _ rfl HA9.out Tryz.underlying65 rfl (by rw [HLn.out]; exact size65)) rfl ?_
      exact ⟨rfl, HR9.out.mono (fun k _ hk => hk.2) HFd.out, HG9.out⟩
end Go.Proofs.YtfalgjdhdgkbfaaGreatDoor
