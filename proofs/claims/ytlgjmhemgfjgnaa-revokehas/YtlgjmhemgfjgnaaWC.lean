/- killed. -/
import Derived.Test.YtlgjmhemgfjgnaaWB
namespace Go.Proofs.Ytlgjmhemgfjgnaa
open Go Go.RowKit
open Go.RowKit (wrap32 wrap64)

def lft (g : Nat) (l : List Ky) : List Ky := l.filter (fun r => !(r.g == g))
theorem lft_at (g : Nat) (l : List Ky) (k : Nat) (hk : k < l.length) : lft g (l.take (k + 1)) = if l[k].g = g then lft g (l.take k) else lft g (l.take k) ++ [l[k]] := by
  unfold lft
  rw [List.take_succ_eq_append_getElem hk, List.filter_append]
  by_cases h : l[k].g = g
  · rw [if_pos h, List.filter_cons_of_neg (by rw [h]; simp), List.filter_nil, List.append_nil]
  · rw [if_neg h, List.filter_cons_of_pos (by simpa using h), List.filter_nil]
theorem kE_at (g : Nat) (l : List Ky) (k : Nat) (hk : k < l.length) (e E : Int) (h : E = killE g e (l.drop k)) : E = killE g (if l[k].g = g ∧ l[k].wh = true ∧ l[k].ex > e then l[k].ex else e) (l.drop (k + 1)) := by
  rw [List.drop_eq_getElem_cons hk, killE_cons] at h
  exact h
theorem kset (g : Nat) (e x : Int) : (Ky.mk true g z16 e).cells.set 18 (.int .i64 x) = (Ky.mk true g z16 x).cells := Ky.set18 (k := ⟨true, g, z16, e⟩) rfl x
set_option maxRecDepth 100000 in
set_option maxHeartbeats 3200000 in
theorem killed_any (w : World) (B : Nat) (v : Value) (l : List Ky) (s : St) (hv : OutN B w v l) (hl : l.length ≤ 1000000) (hs : s.ok) :
    Calls Try.prog 9 #[v, .agg s.cells.toArray] w fun e w' => ∃ v', e = .returned v' ∧ OutN w.heap.size w' v' (killK s.g s.ex l) ∧ w.grownBy w' none := by
  obtain ⟨hg64, hid16, hexr, hraw⟩ := hs
  have HV := hid hv
  obtain ⟨a, n, cap, ga, rest, rfl, hn, hA⟩ : ∃ a n cap ga rest, v = .slice a n cap ∧ l.length = n ∧ (0 < n → a = some ⟨ga, 0, none⟩ ∧ Blk w ga (kcs l ++ rest) 35) := by
    rcases hv.open with ⟨rfl, rfl⟩ | ⟨g, cap, rest, rfl, h1, h2, h3, h4, h5⟩
    · exact ⟨none, 0, 0, 0, [], rfl, rfl, fun h => absurd h (Nat.lt_irrefl _)⟩
    · exact ⟨_, _, _, g, rest, rfl, rfl, fun _ => ⟨rfl, h4⟩⟩
  have HN := hid hn
  have HA := hid hA
  have HO := hid hv.1
  have HC : Hid (∀ (u : World) (b : Nat), Blk u b s.cells 29 → u.cell? ⟨b, 1, none⟩ = some (.int .u64 s.g) ∧ u.cell? ⟨b, 18, none⟩ = some (.int .i64 s.ex)) := hid (fun u b h => ⟨by rw [h.cell]; exact St.c1 _, by rw [h.cell]; exact St.c18 hid16⟩)
  have HG64 := hid hg64
  have HEr := hid hexr
  have HLl := hid hl
  obtain ⟨E0, HE0⟩ : ∃ x, Hid (killE s.g s.ex l = x) := ⟨_, hid rfl⟩
  have HEs : Hid (E0 = killE s.g s.ex (l.drop 0)) := hid HE0.out.symm
  have HRk : Hid (killK s.g s.ex l = lft s.g l ++ [⟨true, s.g, z16, E0⟩]) := hid (by unfold killK lft; rw [HE0.out])
  obtain ⟨SK, HSK⟩ : ∃ x, Hid (s.cells = x) := ⟨_, hid rfl⟩
  obtain ⟨g, hg⟩ : ∃ x, s.g = x := ⟨_, rfl⟩
  obtain ⟨ex, hex⟩ : ∃ x, s.ex = x := ⟨_, rfl⟩
  rw [hg, hex] at HRk
  rw [HSK.out, hg, hex, HRk.out]
  rw [HSK.out, hg, hex] at HC
  rw [hg, hex] at HEs
  rw [hg] at HG64
  rw [hex] at HEr
  have hln : (n : Int) ≤ 1000000 := by omega
  have HBk := hid (built_knownk g)
  have HBz : Hid (Try.prog.built 27 [] = some (Lib.byteCells z16).toArray) := hid (by kernel_rfl)
  have HK1 : Hid (∀ v ∈ (Ky.mk true g z16 ex).cells, v.oneCell' = true) := hid (Ky.one _)
  clear hv hn hA hg64 hid16 hexr hraw hg hex HE0 hl HSK
  go_enter Try.func9, Try.ntmps9
  go_upto_region 1 with ((with_reducible refine wpList_box_row (by with_unfolding_all rfl) 29 _ (by with_unfolding_all rfl) SK (by with_unfolding_all rfl) ?_); intro w1 B1 s1 g1; have HB1 := hid B1; have HG1 := hid g1; clear B1 g1 s1)
  obtain ⟨y1, y18⟩ := HC.out _ _ HB1.out
  obtain ⟨p3, hp3⟩ : ∃ x, w.heap.size = x := ⟨_, rfl⟩
  have HP3 : Hid (w.heap.size = p3) := hid hp3
  rw [hp3] at HB1 y1 y18
  simp only [hp3]
  clear hp3
  go_upto_region 4 with (first
    | (with_reducible refine wpList_build_of (by with_unfolding_all rfl) 27 _ (by with_unfolding_all rfl) [] (by with_unfolding_all rfl) (Lib.byteCells z16) HBz.out ?_)
    | (with_reducible refine wpList_build_of (by with_unfolding_all rfl) 35 _ (by with_unfolding_all rfl) [(0, .bool true), (1, .int .u64 (g : Int)), (2, .agg (Lib.byteCells z16).toArray), (3, .int .i64 ex)] (by with_unfolding_all rfl) (Ky.mk true g z16 ex).cells (HBk.out ex) ?_)
    | ((with_reducible refine wpList_alloc_row (by with_unfolding_all rfl) 35 (by with_unfolding_all rfl) zky.cells Try.zero35 ?_); intro w2 BB ss gg; have HZ2 := hid BB; have HQ2 := hid (HB1.out.keep gg); have HG2 := hid (gtrans HG1.out gg); have HSz := hid gg; have HSs := hid ss; clear BB ss gg)
    | ((with_reducible refine wpList_store_all (by with_unfolding_all rfl) 35 _ _ (by with_unfolding_all rfl) _ zky.cells (Ky.mk true g z16 ex).cells 35 (by with_unfolding_all rfl) (by with_unfolding_all rfl) HZ2.out (by with_unfolding_all rfl) (by with_unfolding_all exact Try.size35) HK1.out ?_); intro w3 BB gg ss; have HX3 := hid BB; have HP4 := hid (HQ2.out.on gg (by have := HQ2.out.lt; have := HB1.out.lt; simp; omega)); have HG3 := hid (HG2.out.andThen gg (fun j hj => .inl (by injection hj with hj; have := HG1.out.size; omega))); have HS3 := hid ss; clear BB gg ss))
  obtain ⟨xb, hxb⟩ : ∃ x, w1.heap.size = x := ⟨_, rfl⟩
  rw [hxb] at HX3
  simp only [hxb]
  have HXB : Hid (w.heap.size ≤ xb) := hid (by rw [← hxb]; exact HG1.out.size)
  have HXL : Hid (xb < w3.heap.size) := hid HX3.out.lt
  have HPX : Hid (p3 ≠ xb) := hid (by have := HB1.out.lt; omega)
  clear hxb y1 y18 HZ2 HQ2 HSz HSs HS3
  go_wp2_with fail
  go_loopw [6, 7] (fun lv kv wr => ∃ (k : Nat) (x : Value) (e : Int), x = lv ∧ kv = .int .i64 k ∧ k ≤ n ∧ Hid (OutN w3.heap.size wr x (lft g (l.take k))) ∧ Hid (Blk wr xb (Ky.mk true g z16 e).cells 35) ∧ Hid (Blk wr p3 SK 29) ∧ Hid (E0 = killE g e (l.drop k)) ∧ Hid (-9223372036854775808 ≤ e ∧ e ≤ 9223372036854775807) ∧ Hid (w.grownBy wr none) ∧ Hid (w3.heap.size ≤ wr.heap.size)) (fun _ kv _ => n - (intOf kv).toNat)
  case atStart => exact ⟨0, _, ex, rfl, rfl, Nat.zero_le _, hid (by show OutN _ _ _ (lft g (l.take 0)); rw [List.take_zero]; exact OutN.nil _ _), HX3, HP4, HEs, HEr, HG3, hid (Nat.le_refl _)⟩
  case round =>
    clear HEs HX3 HP4 HG2 HB1
    obtain ⟨k, lv, e, rfl, rfl, hk, HL, HX, HP, HE, HEe, HG, HWs⟩ := hrel
    by_cases hlt : k < n
    · have hkl : k < l.length := by rw [HN.out]; exact hlt
      have hlt' : (k : Int) < (n : Int) := by omega
      obtain ⟨rfl, hblk⟩ := HA.out (by omega)
      have HBq := hid (hblk.keep HG.out)
      have hok := HO.out _ (List.getElem_mem hkl)
      have HEl := hid (HBq.out.elemT HO.out k hkl)
      have hrg := HEl.out
      have HLf := hid (lft_at g l k hkl)
      have HKe := hid (kE_at g l k hkl e E0 HE.out)
      have HFl : Hid ((lft g (l.take k)).length ≤ 1000000) := hid (by
        have h1 := List.length_filter_le (fun r : Ky => !(r.g == g)) (l.take k)
        have h2 := HLl.out
        have h3 : (l.take k).length ≤ l.length := by rw [List.length_take]; omega
        unfold lft
        omega)
      have HKs : Hid ((Try.prog.info? 35).map (·.size) = some l[k].cells.length) := hid (by rw [Ky.cells_length hok.2.1]; exact Try.size35)
      have yw : ∀ m, (wr.drewN m).cell? ⟨ga, k * 19, none⟩ = some (.bool l[k].wh) := fun m => by have := hrg 0 _ (Ky.c0 _); rw [Nat.add_zero] at this; exact this
      have yg : ∀ m, (wr.drewN m).cell? ⟨ga, k * 19 + 1, none⟩ = some (.int .u64 l[k].g) := fun m => hrg 1 _ (Ky.c1 _)
      have ye : ∀ m, (wr.drewN m).cell? ⟨ga, k * 19 + 18, none⟩ = some (.int .i64 l[k].ex) := fun m => hrg 18 _ (Ky.c18 hok.2.1)
      have yo : ∀ m, (wr.drewN m).cell? ⟨p3, 1, none⟩ = some (.int .u64 g) := fun m => (HC.out _ p3 (HP.out.keep (gdrew wr m none))).1
      have yx : ∀ m, (wr.drewN m).cell? ⟨xb, 18, none⟩ = some (.int .i64 e) := fun m => by rw [(HX.out.keep (gdrew wr m none)).cell]; exact Ky.c18 (k := ⟨true, g, z16, e⟩) rfl
      have yf : ∀ m, (wr.drewN m).frozen? ⟨xb, 18, none⟩ = false := fun m => (HX.out.keep (gdrew wr m none)).frozen _
      have HQo := hid hok
      obtain ⟨q, hq⟩ : ∃ q, l[k] = q := ⟨_, rfl⟩
      rw [hq] at HEl HLf HKe HKs yw yg ye HQo
      obtain ⟨qw, hqw⟩ : ∃ x, q.wh = x := ⟨_, rfl⟩
      obtain ⟨qg, hqg⟩ : ∃ x, q.g = x := ⟨_, rfl⟩
      obtain ⟨qe, hqe⟩ : ∃ x, q.ex = x := ⟨_, rfl⟩
      have HQe : Hid (-9223372036854775808 ≤ qe ∧ qe ≤ 9223372036854775807) := hid (by rw [← hqe]; exact ⟨HQo.out.2.2.1, HQo.out.2.2.2⟩)
      rw [hqw] at HKe yw
      rw [hqg] at HKe HLf yg
      rw [hqe] at HKe ye
      have HKn := hid (show k < n from hlt)
      clear hblk hok hrg hq hqw hqg hqe hkl hk hlt HBq HE
      by_cases hgg : qg = g
      · have hgg' : ((qg : Int) == (g : Int)) = true := by rw [beq_iff_eq]; omega
        have HL2 : Hid (lft g (l.take (k + 1)) = lft g (l.take k)) := hid (by rw [HLf.out, if_pos hgg])
        subst hgg
        cases qw with
        | true =>
          by_cases hx : e < qe
          · as_aux_lemma =>
            have HE2 : Hid (E0 = killE qg qe (l.drop (k + 1))) := hid (by rw [HKe.out, if_pos ⟨rfl, rfl, hx⟩])
            clear HKe HLf
            have HXs : Hid (∀ m, Blk ((wr.drewN m).setCell ⟨xb, 18, none⟩ (.int .i64 qe)) xb (Ky.mk true qg z16 qe).cells 35) := hid (fun m => by have := (HX.out.keep (gdrew wr m none)).set 18 (.int .i64 qe); rw [kset] at this; exact this)
            have HPs : Hid (∀ m, Blk ((wr.drewN m).setCell ⟨xb, 18, none⟩ (.int .i64 qe)) p3 SK 29) := hid (fun m => (HP.out.keep (gdrew wr m none)).on (gset _ ⟨xb, 18, none⟩ _) (by have := HPX.out; simp; omega))
            have HLs : Hid (∀ m, OutN w3.heap.size ((wr.drewN m).setCell ⟨xb, 18, none⟩ (.int .i64 qe)) lv (lft qg (l.take k))) := hid (fun m => (HL.out.keep (gdrew wr m none)).on (gset _ ⟨xb, 18, none⟩ _) (fun j hj hv => by injection hj with hj; have hj' : xb = j := hj; have := HL.out.block j hv; have := HXL.out; omega))
            have HGs : Hid (∀ m, w.grownBy ((wr.drewN m).setCell ⟨xb, 18, none⟩ (.int .i64 qe)) none) := hid (fun m => (gtrans HG.out (gdrew wr m none)).andThen (gset _ ⟨xb, 18, none⟩ _) (fun j hj => .inl (by injection hj with hj; have hj' : xb = j := hj; have := HXB.out; omega)))
            have HZs : Hid (∀ m, w3.heap.size ≤ ((wr.drewN m).setCell ⟨xb, 18, none⟩ (.int .i64 qe)).heap.size) := hid (fun m => Nat.le_trans HWs.out (gset (wr.drewN m) ⟨xb, 18, none⟩ _).size)
            go_wp2_with fail
            go_quiet (fail)
            go_wp2_with fail
            go_quiet (fail)
            go_wp2_with fail
            go_roundw
            case rel => exact ⟨k + 1, lv, qe, rfl, by go_num, by have := HKn.out; omega, by rw [HL2.out]; exact hid (HLs.out _), hid (HXs.out _), hid (HPs.out _), HE2, HQe, hid (HGs.out _), hid (HZs.out _)⟩
            case measure => have := HKn.out; simp [intOf]; omega
          · as_aux_lemma =>
            have HE2 : Hid (E0 = killE qg e (l.drop (k + 1))) := hid (by rw [HKe.out, if_neg (fun h => hx h.2.2)])
            clear HKe HLf
            go_wp2_with fail
            go_quiet (fail)
            go_wp2_with fail
            go_quiet (fail)
            go_wp2_with fail
            go_roundw
            case rel => exact ⟨k + 1, lv, e, rfl, by go_num, by have := HKn.out; omega, by rw [HL2.out]; exact hid (HL.out.keep (gdrew _ _ _)), hid (HX.out.keep (gdrew _ _ _)), hid (HP.out.keep (gdrew _ _ _)), HE2, HEe, hid (gtrans HG.out (gdrew _ _ _)), hid (Nat.le_trans HWs.out (gdrew _ _ none).size)⟩
            case measure => have := HKn.out; simp [intOf]; omega
        | false =>
          as_aux_lemma =>
          have HE2 : Hid (E0 = killE qg e (l.drop (k + 1))) := hid (by rw [HKe.out, if_neg (fun h => by cases h.2.1)])
          clear HKe HLf
          go_wp2_with fail
          go_quiet (fail)
          go_wp2_with fail
          go_quiet (fail)
          go_wp2_with fail
          go_roundw
          case rel => exact ⟨k + 1, lv, e, rfl, by go_num, by have := HKn.out; omega, by rw [HL2.out]; exact hid (HL.out.keep (gdrew _ _ _)), hid (HX.out.keep (gdrew _ _ _)), hid (HP.out.keep (gdrew _ _ _)), HE2, HEe, hid (gtrans HG.out (gdrew _ _ _)), hid (Nat.le_trans HWs.out (gdrew _ _ none).size)⟩
          case measure => have := HKn.out; simp [intOf]; omega
      · as_aux_lemma =>
        have hgg' : ((qg : Int) == (g : Int)) = false := beq_eq_false_iff_ne.2 (by omega)
        have hgg2 : ¬ (qg : Int) = (g : Int) := by omega
        have HL2 : Hid (lft g (l.take (k + 1)) = lft g (l.take k) ++ [q]) := hid (by rw [HLf.out, if_neg hgg])
        have HE2 : Hid (E0 = killE g e (l.drop (k + 1))) := hid (by rw [HKe.out, if_neg (fun h => hgg h.1)])
        have HQ16 := hid HQo.out.2.1
        have HEm : Hid (∀ m, (wr.drewN m).rangeAt ga (k * 19) q.cells) := hid (fun m => HEl.out)
        obtain ⟨FL, HFL⟩ : ∃ x, Hid (lft g (l.take k) = x) := ⟨_, hid rfl⟩
        rw [HFL.out] at HL HL2 HFl
        clear HKe HLf hgg HFL
        go_wp2_with fail
        go_quiet (fail)
        go_wp2_with (first
          | (with_reducible refine wpList_load_part (by with_unfolding_all rfl) 35 _ (by with_unfolding_all rfl) ga (k * 19) q.cells _ (by with_unfolding_all rfl) (HEm.out _) Try.under35 (by with_unfolding_all rfl) HKs.out ?_)
          | ((with_reducible refine wpList_slice1N (by with_unfolding_all rfl) _ (by with_unfolding_all rfl) q HQ16.out (by with_unfolding_all rfl) ?_); intro z1 BB ss gg; have HZB := hid (one_rdN HQo.out BB (fun x => x = wr.heap.size) rfl); have HZ1 := hid (gtrans (gdrew _ _ none) gg); have HVz := hid (HL.out.keep HZ1.out); clear BB ss gg)
          | (at_builtin; refine wpList_append_knowns rfl _ _ rfl w3.heap.size (fun x => x = wr.heap.size) FL [q] HVz.out HZB.out (by have := HFl.out; show FL.length + 1 ≤ _; omega) (Nat.le_trans HWs.out HZ1.out.size) ?_; intro v4 z4 hO4 hg4; have HO4 := hid hO4; have HXz := hid ((HX.out.keep HZ1.out).on hg4 (fun h => by have := HVz.out.block _ h; have := HXL.out; omega)); have HPz := hid ((HP.out.keep HZ1.out).on hg4 (fun h => by have := HVz.out.block _ h; have := HXL.out; have := HP3.out; have := HXB.out; omega)); have HG4 := hid ((gtrans HG.out HZ1.out).andThen hg4 (fun j hj => .inl (by have := HVz.out.block j hj; have := HXL.out; have := HXB.out; omega))); have HW4 := hid (Nat.le_trans (Nat.le_trans HWs.out HZ1.out.size) hg4.size); clear hO4 hg4))
        go_roundw
        case rel => exact ⟨k + 1, v4, e, rfl, by go_num, by have := HKn.out; omega, by rw [HL2.out]; exact HO4, HXz, HPz, HE2, HEe, HG4, HW4⟩
        case measure => have := HKn.out; simp [intOf]; omega
    · as_aux_lemma =>
      have hlt' : ¬ (k : Int) < (n : Int) := by omega
      have hkn : k = n := by omega
      have HE2 : Hid (E0 = e) := hid (by rw [HE.out, List.drop_of_length_le (by rw [HN.out]; omega)]; rfl)
      have HL2 : Hid (lft g (l.take k) = lft g l) := hid (by rw [List.take_of_length_le (by rw [HN.out]; omega)])
      rw [HL2.out] at HL
      have HNo : Hid ((Ky.mk true g z16 e).ok) := hid ⟨HG64.out, rfl, HEe.out.1, HEe.out.2⟩
      have HFl : Hid ((lft g l).length + 1 ≤ 1099511627776) := hid (by
        have h1 := List.length_filter_le (fun r : Ky => !(r.g == g)) l
        have h2 := HLl.out
        unfold lft
        omega)
      obtain ⟨NK, HNK⟩ : ∃ x, Hid (Ky.mk true g z16 e = x) := ⟨_, hid rfl⟩
      have HR2 : Hid (lft g l ++ [⟨true, g, z16, E0⟩] = lft g l ++ [NK]) := hid (by rw [HE2.out, HNK.out])
      rw [HNK.out] at HX HNo
      have HKs : Hid ((Try.prog.info? 35).map (·.size) = some NK.cells.length) := hid (by rw [Ky.cells_length HNo.out.2.1]; exact Try.size35)
      have HN16 := hid HNo.out.2.1
      clear HE hkn hk hlt HL2 HE2
      go_wp2_with (first
        | (with_reducible refine wpList_load_part (by with_unfolding_all rfl) 35 _ (by with_unfolding_all rfl) xb 0 NK.cells _ (by with_unfolding_all rfl) HX.out.whole Try.under35 (by with_unfolding_all rfl) HKs.out ?_)
        | ((with_reducible refine wpList_slice1N (by with_unfolding_all rfl) _ (by with_unfolding_all rfl) NK HN16.out (by with_unfolding_all rfl) ?_); intro z1 BB ss gg; have HZB := hid (one_rdN HNo.out BB (fun x => x = wr.heap.size) rfl); have HZ1 := hid gg; have HVz := hid (HL.out.keep gg); clear BB ss gg)
        | (at_builtin; refine wpList_append_knowns rfl _ _ rfl w3.heap.size (fun x => x = wr.heap.size) (lft g l) [NK] HVz.out HZB.out HFl.out (Nat.le_trans HWs.out HZ1.out.size) ?_; intro v4 z4 hO4 hg4; have HO4 := hid hO4; have HG4 := hid ((gtrans HG.out HZ1.out).andThen hg4 (fun j hj => .inl (by have := HVz.out.block j hj; have := HXL.out; have := HXB.out; omega))); clear hO4 hg4))
      go_ret
      exact ⟨v4, rfl, by rw [HR2.out]; exact HO4.out.below (by have := HXL.out; have := HXB.out; omega), HG4.out⟩
end Go.Proofs.Ytlgjmhemgfjgnaa
