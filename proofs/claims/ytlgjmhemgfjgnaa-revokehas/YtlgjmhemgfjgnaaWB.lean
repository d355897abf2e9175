/- added. -/
import Derived.Test.YtlgjmhemgfjgnaaWA
namespace Go.Proofs.Ytlgjmhemgfjgnaa
open Go Go.RowKit
open Go.RowKit (wrap32 wrap64)

theorem ld25 (b i : Nat) (n : Int) (u : World) (h : u.cell? ⟨b, i, none⟩ = some (.int .u64 n)) : (Instr.loadAt 25 (.pointer (some ⟨b, i, none⟩))).run Try.prog u = .ok (.int .u64 n) u := by go_simp
theorem idx24 (b n c i : Nat) (h : i < n) (u : World) : (Instr.indexAt 24 (.slice (some ⟨b, 0, none⟩) n c) (.int .i64 (i : Nat))).run Try.prog u = .ok (.pointer (some ⟨b, i * 19, none⟩)) u := by
  have h0 : ¬ ((i : Int) < 0) := by omega
  have h1 : (i : Int) < (n : Int) := by omega
  have hs : (sizeOf (Try.prog.elem 24)).run Try.prog u = .ok 19 u := by kernel_rfl
  go_simp
theorem Blk.elemT {t : TypeId} {w : World} {b : Nat} {m : List Ky} {rest : List Value} (h : Blk w b (kcs m ++ rest) t) (hm : okL m) (i : Nat) (hi : i < m.length) : w.rangeAt b (i * 19) m[i].cells :=
  h.range _ _ _ _ (kcs_mid m hm i hi rest).1 (kcs_mid m hm i hi rest).2
theorem set_ex (m : List Ky) (hm : okL m) (i : Nat) (hi : i < m.length) (rest : List Value) (x : Int) : (kcs m ++ rest).set (i * 19 + 18) (.int .i64 x) = kcs (m.set i ⟨m[i].wh, m[i].g, m[i].id, x⟩) ++ rest := by
  obtain ⟨e, hl⟩ := kcs_mid m hm i hi rest
  have h16 := hm.len _ (List.getElem_mem hi)
  rw [e, ← hl, List.set_append_right _ _ (by omega), Nat.add_sub_cancel_left, List.set_append_left _ _ (by rw [Ky.cells_length h16]; omega), Ky.set18 h16]
  have e2 : m.set i ⟨m[i].wh, m[i].g, m[i].id, x⟩ = m.take i ++ (⟨m[i].wh, m[i].g, m[i].id, x⟩ :: m.drop (i + 1)) := by rw [List.set_eq_take_append_cons_drop, if_pos hi]
  rw [e2, kcs_append, kcs_cons]
  simp [List.append_assoc]
theorem addK_cons (g : Nat) (id : List UInt8) (ex : Int) (r : Ky) (t : List Ky) : addK g id ex (r :: t) = if r.g = g ∧ r.wh = true then r :: t else if r.g = g ∧ r.id = id then ⟨r.wh, r.g, r.id, mx ex r.ex⟩ :: t else r :: addK g id ex t := rfl
theorem addK_at (g : Nat) (id : List UInt8) (ex : Int) (l : List Ky) (k : Nat) (hk : k < l.length) (R : List Ky) (h : R = l.take k ++ addK g id ex (l.drop k)) :
    (l[k].g = g → l[k].wh = true → R = l) ∧ (l[k].g = g → l[k].wh = false → l[k].id = id → R = l.set k ⟨l[k].wh, l[k].g, l[k].id, mx ex l[k].ex⟩) ∧ (¬ (l[k].g = g ∧ (l[k].wh = true ∨ l[k].id = id)) → R = l.take (k + 1) ++ addK g id ex (l.drop (k + 1))) := by
  rw [List.drop_eq_getElem_cons hk, addK_cons] at h
  refine ⟨fun h1 h2 => ?_, fun h1 h2 h3 => ?_, fun hn => ?_⟩
  · rw [if_pos ⟨h1, h2⟩, ← List.drop_eq_getElem_cons hk, List.take_append_drop] at h; exact h
  · rw [if_neg (fun e => by rw [h2] at e; cases e.2), if_pos ⟨h1, h3⟩] at h
    rw [h, List.set_eq_take_append_cons_drop, if_pos hk]
  · rw [if_neg (fun e => hn ⟨e.1, .inl e.2⟩), if_neg (fun e => hn ⟨e.1, .inr e.2⟩)] at h
    rw [h, List.take_succ_eq_append_getElem hk, List.append_assoc]
    rfl
theorem okL_setx {m : List Ky} (hm : okL m) (i : Nat) (hi : i < m.length) {x : Int} (hx : -9223372036854775808 ≤ x ∧ x ≤ 9223372036854775807) : okL (m.set i ⟨m[i].wh, m[i].g, m[i].id, x⟩) :=
  okL_set hm i ⟨(hm _ (List.getElem_mem hi)).1, (hm _ (List.getElem_mem hi)).2.1, hx.1, hx.2⟩
theorem OutN.ofB {B : Nat} {w : World} {g n cap : Nat} {l : List Ky} {rest : List Value} (ho : okL l) (hb : B ≤ g) (hn : l.length = n) (hle : n ≤ cap) (hm : cap ≤ maxLen) (hB : Blk w g (kcs l ++ rest) 35) (hs : (kcs l ++ rest).length = cap * 19) : OutN B w (.slice (some ⟨g, 0, none⟩) n cap) l := OutN.of ho hb hn hle hm hB hs
set_option maxRecDepth 100000 in
set_option maxHeartbeats 3200000 in
theorem added_any (w : World) (B : Nat) (v : Value) (l : List Ky) (s : St) (hv : OutN B w v l) (hl : l.length ≤ 1000000) (hs : s.ok) (hB : B ≤ w.heap.size) :
    Calls Try.prog 7 #[v, .agg s.cells.toArray] w fun e w' => ∃ v', e = .returned v' ∧ OutN B w' v' (addK s.g s.id s.ex l) ∧ w.grownBy w' v.ownBlock := by
  obtain ⟨hg64, hid16, hexr, hraw⟩ := hs
  have HV := hid hv
  obtain ⟨a, n, cap, ga, rest, rfl, hn, hA⟩ : ∃ a n cap ga rest, v = .slice a n cap ∧ l.length = n ∧ (0 < n → a = some ⟨ga, 0, none⟩ ∧ Blk w ga (kcs l ++ rest) 35 ∧ B ≤ ga ∧ n ≤ cap ∧ cap ≤ maxLen ∧ (kcs l ++ rest).length = cap * 19) := by
    rcases hv.open with ⟨rfl, rfl⟩ | ⟨g, cap, rest, rfl, h1, h2, h3, h4, h5⟩
    · exact ⟨none, 0, 0, 0, [], rfl, rfl, fun h => absurd h (Nat.lt_irrefl _)⟩
    · exact ⟨_, _, _, g, rest, rfl, rfl, fun _ => ⟨rfl, h4, h1, h2, h3, h5⟩⟩
  have HN := hid hn
  have HA := hid hA
  have HO := hid hv.1
  have HC : Hid (∀ (u : World) (b : Nat), Blk u b s.cells 29 → u.cell? ⟨b, 1, none⟩ = some (.int .u64 s.g) ∧ u.cell? ⟨b, 18, none⟩ = some (.int .i64 s.ex)) := hid (fun u b h => ⟨by rw [h.cell]; exact St.c1 _, by rw [h.cell]; exact St.c18 hid16⟩)
  have HIr : Hid (∀ (u : World) (b : Nat), Blk u b s.cells 29 → u.rangeAt b 2 (Lib.byteCells s.id)) := hid (fun u b h => by have := St.rid h.whole; rw [Nat.zero_add] at this; exact this)
  have HJL : Hid ((Try.prog.info? 27).map (·.size) = some (Lib.byteCells s.id).length) := hid (by rw [byteCells_length, hid16]; exact Try.size27)
  have HCo0 : Hid (∀ (r : Ky), r.id.length = 16 → ∀ u : World, Calls Try.prog 13 #[.agg r.cells.toArray, .int .u64 s.g, .agg (Lib.byteCells s.id).toArray] u fun e w' => e = .returned (.bool (cov r s.g s.id)) ∧ u.grownBy w' none) := hid (fun r hr u => covers_any u r s.g s.id hr hid16)
  have HBu : Hid (Try.prog.built 35 [(0, .bool false), (1, .int .u64 (s.g : Int)), (2, .agg (Lib.byteCells s.id).toArray), (3, .int .i64 s.ex)] = some (Ky.mk false s.g s.id s.ex).cells.toArray) := hid (built_known s.g s.id s.ex hid16)
  have HNo : Hid ((Ky.mk false s.g s.id s.ex).ok) := hid ⟨hg64, hid16, hexr.1, hexr.2⟩
  have HEr := hid hexr
  have HBw := hid hB
  have HLl := hid hl
  obtain ⟨R0, HR0⟩ : ∃ x, Hid (addK s.g s.id s.ex l = x) := ⟨_, hid rfl⟩
  have HRs : Hid (R0 = l.take 0 ++ addK s.g s.id s.ex (l.drop 0)) := hid (by rw [← HR0.out]; rfl)
  have HAk : Hid (∀ k (hk : k < l.length), R0 = l.take k ++ addK s.g s.id s.ex (l.drop k) → (l[k].g = s.g → l[k].wh = true → R0 = l) ∧ (l[k].g = s.g → l[k].wh = false → l[k].id = s.id → R0 = l.set k ⟨l[k].wh, l[k].g, l[k].id, mx s.ex l[k].ex⟩) ∧ (¬ (l[k].g = s.g ∧ (l[k].wh = true ∨ l[k].id = s.id)) → R0 = l.take (k + 1) ++ addK s.g s.id s.ex (l.drop (k + 1)))) := hid (fun k hk h => addK_at s.g s.id s.ex l k hk R0 h)
  have HAe : Hid (addK s.g s.id s.ex [] = [Ky.mk false s.g s.id s.ex]) := hid rfl
  obtain ⟨SK, HSK⟩ : ∃ x, Hid (s.cells = x) := ⟨_, hid rfl⟩
  obtain ⟨J, HJ⟩ : ∃ x, Hid (Lib.byteCells s.id = x) := ⟨_, hid rfl⟩
  obtain ⟨g, hg⟩ : ∃ x, s.g = x := ⟨_, rfl⟩
  obtain ⟨ID, hID⟩ : ∃ x, s.id = x := ⟨_, rfl⟩
  obtain ⟨ex, hex⟩ : ∃ x, s.ex = x := ⟨_, rfl⟩
  rw [HR0.out, HSK.out]
  rw [HSK.out, hg, hex] at HC
  rw [HSK.out, HJ.out] at HIr
  rw [HJ.out] at HJL
  rw [HJ.out, hg, hID] at HCo0
  rw [hg, HJ.out, hex, hID] at HBu
  rw [hg, hID, hex] at HNo HRs HAk HAe
  rw [hex] at HEr
  have hln : (n : Int) ≤ 1000000 := by omega
  clear hv hn hA hg64 hid16 hexr hraw hg hID hex HR0 hl HSK HJ hB
  show Calls Try.prog 7 #[.slice a n cap, .agg SK.toArray] w fun e w' => ∃ v', e = .returned v' ∧ OutN B w' v' R0 ∧ w.grownBy w' (Value.slice a n cap).ownBlock
  go_enter Try.func7, Try.ntmps7
  go_upto_region 1 with ((with_reducible refine wpList_box_row (by with_unfolding_all rfl) 29 _ (by with_unfolding_all rfl) SK (by with_unfolding_all rfl) ?_); intro w1 B1 s1 g1; have HB1 := hid B1; have HG1 := hid g1; clear B1 g1 s1)
  obtain ⟨p3, hp3⟩ : ∃ x, w.heap.size = x := ⟨_, rfl⟩
  rw [hp3] at HB1
  simp only [hp3]
  have HP3 : Hid (w.heap.size = p3) := hid hp3
  clear hp3
  go_wp2_with fail
  go_loopw [5] (fun kv wr => ∃ k : Nat, kv = .int .i64 k ∧ k ≤ n ∧ Hid (R0 = l.take k ++ addK g ID ex (l.drop k)) ∧ Hid (w1.grownBy wr none)) (fun kv _ => n - (intOf kv).toNat)
  case atStart => exact ⟨0, rfl, Nat.zero_le _, HRs, hid (grefl _ _)⟩
  case round =>
    clear HRs
    obtain ⟨k, rfl, hk, HR, HX⟩ := hrel
    have HB3 := hid (HB1.out.keep HX.out)
    have HGw := hid (gtrans HG1.out HX.out)
    by_cases hlt : k < n
    · have hkl : k < l.length := by rw [HN.out]; exact hlt
      have hlt' : (k : Int) < (n : Int) := by omega
      obtain ⟨rfl, hblk, hBg, hnc, hmax, hlen⟩ := HA.out (by omega)
      have HBk := hid (hblk.keep HGw.out)
      have hok := HO.out _ (List.getElem_mem hkl)
      have HEl : Hid (∀ u, wr.grownBy u none → u.rangeAt ga (k * 19) l[k].cells) := hid (fun u hu => (HBk.out.keep hu).elemT HO.out k hkl)
      have HO1 : Hid (∀ u, wr.grownBy u none → u.cell? ⟨p3, 1, none⟩ = some (.int .u64 g)) := hid (fun u hu => (HC.out u p3 (HB3.out.keep hu)).1)
      have HO18 : Hid (∀ u, wr.grownBy u none → u.cell? ⟨p3, 18, none⟩ = some (.int .i64 ex)) := hid (fun u hu => (HC.out u p3 (HB3.out.keep hu)).2)
      have HOi : Hid (∀ u, wr.grownBy u none → u.rangeAt p3 2 J) := hid (fun u hu => HIr.out u p3 (HB3.out.keep hu))
      have HKs : Hid ((Try.prog.info? 35).map (·.size) = some l[k].cells.length) := hid (by rw [Ky.cells_length hok.2.1]; exact Try.size35)
      have HYw : Hid (∀ u, wr.grownBy u none → u.cell? ⟨ga, k * 19, none⟩ = some (.bool l[k].wh)) := hid (fun u hu => by have := HEl.out u hu 0 _ (Ky.c0 _); rw [Nat.add_zero] at this; exact this)
      have HYg : Hid (∀ u, wr.grownBy u none → u.cell? ⟨ga, k * 19 + 1, none⟩ = some (.int .u64 l[k].g)) := hid (fun u hu => HEl.out u hu 1 _ (Ky.c1 _))
      have HYe : Hid (∀ u, wr.grownBy u none → u.cell? ⟨ga, k * 19 + 18, none⟩ = some (.int .i64 l[k].ex)) := hid (fun u hu => HEl.out u hu 18 _ (Ky.c18 hok.2.1))
      have HCo1 := hid (HCo0.out l[k] hok.2.1)
      have HAt := hid (HAk.out k hkl HR.out)
      have HFz : Hid (∀ u, wr.grownBy u none → u.frozen? ⟨ga, k * 19 + 18, none⟩ = false) := hid (fun u hu => (HBk.out.keep hu).frozen _)
      have HSx : Hid (∀ (u : World) (x : Int), wr.grownBy u none → -9223372036854775808 ≤ x ∧ x ≤ 9223372036854775807 → OutN B (u.setCell ⟨ga, k * 19 + 18, none⟩ (.int .i64 x)) (.slice (some ⟨ga, 0, none⟩) n cap) (l.set k ⟨l[k].wh, l[k].g, l[k].id, x⟩)) := hid (fun u x hu hx => by
        have hb := (HBk.out.keep hu).set (k * 19 + 18) (.int .i64 x)
        rw [set_ex l HO.out k hkl rest x] at hb
        refine OutN.of (okL_setx HO.out k hkl hx) hBg (by rw [List.length_set]; exact HN.out) hnc hmax hb ?_
        have h1 := hlen
        rw [List.length_append, kcs_length l HO.out.len] at h1
        rw [List.length_append, kcs_length _ (okL_setx HO.out k hkl hx).len, List.length_set]
        exact h1)
      have HVk : Hid (∀ u, wr.grownBy u none → OutN B u (.slice (some ⟨ga, 0, none⟩) n cap) l) := hid (fun u hu => HV.out.keep (gtrans HGw.out hu))
      have HSe : Hid (l.set k l[k] = l) := hid (List.set_getElem_self hkl)
      have HCv : Hid (cov l[k] g ID = (l[k].g == g && (l[k].wh || l[k].id == ID))) := hid rfl
      obtain ⟨q, hq⟩ : ∃ q, l[k] = q := ⟨_, rfl⟩
      rw [hq] at HEl HKs HYw HYg HYe HCo1 HAt HSx HSe HCv
      obtain ⟨K, HKe⟩ : ∃ x, Hid (q.cells = x) := ⟨_, hid rfl⟩
      rw [HKe.out] at HEl HKs HCo1
      obtain ⟨qw, hqw⟩ : ∃ x, q.wh = x := ⟨_, rfl⟩
      obtain ⟨qg, hqg⟩ : ∃ x, q.g = x := ⟨_, rfl⟩
      obtain ⟨qe, hqe⟩ : ∃ x, q.ex = x := ⟨_, rfl⟩
      have HQs : Hid (q = ⟨qw, qg, q.id, qe⟩) := hid (by rw [← hqw, ← hqg, ← hqe])
      rw [hqw] at HYw HAt HSx HCv
      rw [hqg] at HYg HAt HSx HCv
      rw [hqe] at HYe HAt
      have HKn := hid (show k < n from hlt)
      clear hblk hBg hnc hmax hlen hok hq HKe hqw hqg hqe hkl HAk HCo0 hk hlt HBk HR HA
      have yw := fun m => HYw.out _ (gdrew wr m none)
      have yg := fun m => HYg.out _ (gdrew wr m none)
      have yo := fun m => HO1.out _ (gdrew wr m none)
      by_cases hgg : qg = g
      · have hgg' : ((qg : Int) == (g : Int)) = true := by rw [beq_iff_eq]; omega
        subst hgg
        cases qw with
        | true =>
          as_aux_lemma =>
          have HRr : Hid (R0 = l) := hid (HAt.out.1 rfl rfl)
          clear HAt HCv HSx
          go_wp2_with fail
          go_quiet (fail)
          go_wp2_with fail
          go_ret
          exact ⟨.slice (some ⟨ga, 0, none⟩) n cap, rfl, by rw [HRr.out]; exact HVk.out _ (gdrew _ _ _), gsome (gtrans HGw.out (gdrew _ _ _)) _⟩
        | false =>
          by_cases hid2 : q.id = ID
          · have HCC : Hid (cov q qg ID = true) := hid (by rw [HCv.out, hid2]; simp)
            have HCo := HCo1
            rw [HCC.out] at HCo
            have HRr := hid (HAt.out.2.1 rfl rfl hid2)
            clear HAt HCv HCo1 HCC
            by_cases hx : qe < ex
            · as_aux_lemma =>
              have HM : Hid (mx ex qe = ex) := hid (by unfold mx; rw [if_pos hx])
              have HRr2 := HRr
              rw [HM.out] at HRr2
              clear HM HRr
              go_wp2_with fail
              go_quiet (fail)
              go_upto_region 6 with fail
              refine wp_region_listX (by kernel_rfl) [fun v _ => v = (Value.slice (some ⟨ga, 0, none⟩) n cap), fun v _ => v = (Value.int .i64 (k : Nat)), fun v _ => v = (Value.pointer (some ⟨ga, k * 19, none⟩)), fun v _ => v = (Value.agg K.toArray), fun v _ => v = (Value.pointer (some ⟨p3, 1, none⟩)), fun v _ => v = (Value.int .u64 (qg : Nat)), fun v _ => v = (Value.pointer (some ⟨p3, 2, none⟩)), fun v _ => v = (Value.agg J.toArray), fun v _ => v = (Value.bool true)] (none) (fun _ => none) 9 (by kernel_rfl) (by kernel_rfl) (by kernel_rfl) (by kernel_rfl) (by decide) noRow_one (fun _ => .inl rfl) ⟨fun i v u u' hki h hg => h, fun i v u u' hki h hg => h, fun i v u u' hki h hg => h, fun i v u u' hki h hg => h, fun i v u u' hki h hg => h, fun i v u u' hki h hg => h, fun i v u u' hki h hg => h, fun i v u u' hki h hg => h, fun i v u u' hki h hg => h, trivial⟩ ⟨?_, ?_, ?_, ?_, ?_, ?_, ?_, ?_, ?_, trivial⟩ ?_
              · intro A u hu hpu hsz hout hdeps
                have e0 : A.eval (.tmp 0) = (.slice (some ⟨ga, 0, none⟩) n cap) := (hout 0 (by kernel_rfl)).trans rfl
                refine ifw_none rfl ?_
                with_reducible refine shown_q (Value.slice (some ⟨ga, 0, none⟩) n cap) ?qq_1wt_0 (fun _ _ => ?qr_1wt_0)
                case qr_1wt_0 => exact (rfl : (Value.slice (some ⟨ga, 0, none⟩) n cap) = (Value.slice (some ⟨ga, 0, none⟩) n cap))
                with_reducible refine quietAt_mv (.tmp 0) (Value.slice (some ⟨ga, 0, none⟩) n cap) ?h0_1wt_0 ?h1_1wt_0
                case h0_1wt_0 => rfl
                case h1_1wt_0 => exact e0
              · intro A u hu hpu hsz hout hdeps
                have e5 : A.eval (.tmp 5) = (.int .i64 (k : Nat)) := (hout 5 (by kernel_rfl)).trans rfl
                refine ifw_none rfl ?_
                with_reducible refine shown_q (Value.int .i64 (k : Nat)) ?qq_1wt_1 (fun _ _ => ?qr_1wt_1)
                case qr_1wt_1 => exact (rfl : (Value.int .i64 (k : Nat)) = (Value.int .i64 (k : Nat)))
                with_reducible refine quietAt_mv (.tmp 5) (Value.int .i64 (k : Nat)) ?h0_1wt_1 ?h1_1wt_1
                case h0_1wt_1 => rfl
                case h1_1wt_1 => exact e5
              · intro A u hu hpu hsz hout hdeps
                have e28 : A.eval (.tmp 28) = (.slice (some ⟨ga, 0, none⟩) n cap) := by have h := depL hdeps 0 (by kernel_rfl) 28 (by kernel_rfl); exact h
                have e29 : A.eval (.tmp 29) = (.int .i64 (k : Nat)) := by have h := depL hdeps 1 (by kernel_rfl) 29 (by kernel_rfl); exact h
                refine ifw_none rfl ?_
                with_reducible refine shown_q (Value.pointer (some ⟨ga, k * 19, none⟩)) ?qq_1wt_2 (fun _ _ => ?qr_1wt_2)
                case qr_1wt_2 => exact (rfl : (Value.pointer (some ⟨ga, k * 19, none⟩)) = (Value.pointer (some ⟨ga, k * 19, none⟩)))
                with_reducible refine quietAt_idx 24 (.tmp 28) (.tmp 29) (Value.slice (some ⟨ga, 0, none⟩) n cap) (Value.int .i64 (k : Nat)) (Value.pointer (some ⟨ga, k * 19, none⟩)) ?h0_1wt_2 ?h1_1wt_2 ?h2_1wt_2 ?h3_1wt_2
                case h0_1wt_2 => rfl
                case h1_1wt_2 => exact e28
                case h2_1wt_2 => exact e29
                case h3_1wt_2 => exact (idx24 ga n cap k HKn.out u)
              · intro A u hu hpu hsz hout hdeps
                have e30 : A.eval (.tmp 30) = (.pointer (some ⟨ga, k * 19, none⟩)) := by have h := depL hdeps 2 (by kernel_rfl) 30 (by kernel_rfl); exact h
                refine ifw_none rfl ?_
                with_reducible refine shown_q (Value.agg K.toArray) ?qq_1wt_3 (fun _ _ => ?qr_1wt_3)
                case qr_1wt_3 => exact (rfl : (Value.agg K.toArray) = (Value.agg K.toArray))
                with_reducible refine quietAt_load 35 (.tmp 30) ?h0_1wt_3 ga (k * 19) K (.struct (Try.prog.fieldsOf 35)) ?h1_1wt_3 ?h2_1wt_3 ?h3_1wt_3 ?h4_1wt_3 ?h5_1wt_3
                case h0_1wt_3 => rfl
                case h1_1wt_3 => exact e30
                case h2_1wt_3 => exact (HEl.out u (gtrans (gdrew _ _ _) hu))
                case h3_1wt_3 => exact Try.under35
                case h4_1wt_3 => rfl
                case h5_1wt_3 => exact HKs.out
              · intro A u hu hpu hsz hout hdeps
                have e3 : A.eval (.tmp 3) = (.pointer (some ⟨p3, 0, none⟩)) := (hout 3 (by kernel_rfl)).trans rfl
                refine ifw_none rfl ?_
                with_reducible refine shown_q (Value.pointer (some ⟨p3, 1, none⟩)) ?qq_1wt_4 (fun _ _ => ?qr_1wt_4)
                case qr_1wt_4 => exact (rfl : (Value.pointer (some ⟨p3, 1, none⟩)) = (Value.pointer (some ⟨p3, 1, none⟩)))
                with_reducible refine quietAt_field 29 (.tmp 3) 1 ?h0_1wt_4 ⟨p3, 0, none⟩ ⟨p3, 1, none⟩ ?h1_1wt_4 ?h2_1wt_4
                case h0_1wt_4 => rfl
                case h1_1wt_4 => exact e3
                case h2_1wt_4 => kernel_rfl
              · intro A u hu hpu hsz hout hdeps
                have e32 : A.eval (.tmp 32) = (.pointer (some ⟨p3, 1, none⟩)) := by have h := depL hdeps 4 (by kernel_rfl) 32 (by kernel_rfl); exact h
                refine ifw_none rfl ?_
                with_reducible refine shown_q (Value.int .u64 (qg : Nat)) ?qq_1wt_5 (fun _ _ => ?qr_1wt_5)
                case qr_1wt_5 => exact (rfl : (Value.int .u64 (qg : Nat)) = (Value.int .u64 (qg : Nat)))
                with_reducible refine quietAt_ld 25 (.tmp 32) (Value.pointer (some ⟨p3, 1, none⟩)) (Value.int .u64 (qg : Nat)) ?h0_1wt_5 ?h1_1wt_5 ?h2_1wt_5
                case h0_1wt_5 => rfl
                case h1_1wt_5 => exact e32
                case h2_1wt_5 => exact ld25 p3 1 qg u (HO1.out u (gtrans (gdrew _ _ _) hu))
              · intro A u hu hpu hsz hout hdeps
                have e3 : A.eval (.tmp 3) = (.pointer (some ⟨p3, 0, none⟩)) := (hout 3 (by kernel_rfl)).trans rfl
                refine ifw_none rfl ?_
                with_reducible refine shown_q (Value.pointer (some ⟨p3, 2, none⟩)) ?qq_1wt_6 (fun _ _ => ?qr_1wt_6)
                case qr_1wt_6 => exact (rfl : (Value.pointer (some ⟨p3, 2, none⟩)) = (Value.pointer (some ⟨p3, 2, none⟩)))
                with_reducible refine quietAt_field 29 (.tmp 3) 2 ?h0_1wt_6 ⟨p3, 0, none⟩ ⟨p3, 2, none⟩ ?h1_1wt_6 ?h2_1wt_6
                case h0_1wt_6 => rfl
                case h1_1wt_6 => exact e3
                case h2_1wt_6 => kernel_rfl
              · intro A u hu hpu hsz hout hdeps
                have e34 : A.eval (.tmp 34) = (.pointer (some ⟨p3, 2, none⟩)) := by have h := depL hdeps 6 (by kernel_rfl) 34 (by kernel_rfl); exact h
                refine ifw_none rfl ?_
                with_reducible refine shown_q (Value.agg J.toArray) ?qq_1wt_7 (fun _ _ => ?qr_1wt_7)
                case qr_1wt_7 => exact (rfl : (Value.agg J.toArray) = (Value.agg J.toArray))
                with_reducible refine quietAt_load 27 (.tmp 34) ?h0_1wt_7 p3 2 J (.array 16 5) ?h1_1wt_7 ?h2_1wt_7 ?h3_1wt_7 ?h4_1wt_7 ?h5_1wt_7
                case h0_1wt_7 => rfl
                case h1_1wt_7 => exact e34
                case h2_1wt_7 => exact (HOi.out u (gtrans (gdrew _ _ _) hu))
                case h3_1wt_7 => exact Try.underlying27
                case h4_1wt_7 => rfl
                case h5_1wt_7 => exact HJL.out
              · intro A u hu hpu hsz hout hdeps
                have e31 : A.eval (.tmp 31) = (.agg K.toArray) := by have h := depL hdeps 3 (by kernel_rfl) 31 (by kernel_rfl); exact h
                have e33 : A.eval (.tmp 33) = (.int .u64 (qg : Nat)) := by have h := depL hdeps 5 (by kernel_rfl) 33 (by kernel_rfl); exact h
                have e35 : A.eval (.tmp 35) = (.agg J.toArray) := by have h := depL hdeps 7 (by kernel_rfl) 35 (by kernel_rfl); exact h
                refine ifw_none rfl ?_
                with_reducible refine shown_q (Value.bool true) ?qq_1wt_8 (fun _ _ => ?qr_1wt_8)
                case qr_1wt_8 => exact (rfl : (Value.bool true) = (Value.bool true))
                with_reducible refine quietAt_call 13 Try.f13 ?h0_1wt_8 ?h1_1wt_8 ?h2_1wt_8 #[.tmp 31, .tmp 33, .tmp 35] #[35, 25, 27] ?h3_1wt_8 (Value.bool true) #[(Value.agg K.toArray), (Value.int .u64 (qg : Nat)), (Value.agg J.toArray)] ?h4_1wt_8 ?h5_1wt_8
                case h0_1wt_8 => exact Try.func13
                case h1_1wt_8 => kernel_rfl
                case h2_1wt_8 => kernel_rfl
                case h3_1wt_8 => rfl
                case h4_1wt_8 => exact map3 _ _ _ _ _ _ _ e31 e33 e35
                case h5_1wt_8 => exact HCo.out u
              · intro A u8 listed hh hall
                have hA := hh.frame
                have HU := hid hh.grown
                obtain ⟨x28, hx28⟩ : ∃ x, A.eval (.tmp 28) = x := ⟨_, rfl⟩
                have f28 : (fun v _ => v = (Value.slice (some ⟨ga, 0, none⟩) n cap)) x28 u8 := by rw [← hx28]; exact hh.got 0 _ 28 rfl rfl (hall 0 (by decide))
                obtain ⟨x29, hx29⟩ : ∃ x, A.eval (.tmp 29) = x := ⟨_, rfl⟩
                have f29 : (fun v _ => v = (Value.int .i64 (k : Nat))) x29 u8 := by rw [← hx29]; exact hh.got 1 _ 29 rfl rfl (hall 1 (by decide))
                obtain ⟨x30, hx30⟩ : ∃ x, A.eval (.tmp 30) = x := ⟨_, rfl⟩
                have f30 : (fun v _ => v = (Value.pointer (some ⟨ga, k * 19, none⟩))) x30 u8 := by rw [← hx30]; exact hh.got 2 _ 30 rfl rfl (hall 2 (by decide))
                obtain ⟨x31, hx31⟩ : ∃ x, A.eval (.tmp 31) = x := ⟨_, rfl⟩
                have f31 : (fun v _ => v = (Value.agg K.toArray)) x31 u8 := by rw [← hx31]; exact hh.got 3 _ 31 rfl rfl (hall 3 (by decide))
                obtain ⟨x32, hx32⟩ : ∃ x, A.eval (.tmp 32) = x := ⟨_, rfl⟩
                have f32 : (fun v _ => v = (Value.pointer (some ⟨p3, 1, none⟩))) x32 u8 := by rw [← hx32]; exact hh.got 4 _ 32 rfl rfl (hall 4 (by decide))
                obtain ⟨x33, hx33⟩ : ∃ x, A.eval (.tmp 33) = x := ⟨_, rfl⟩
                have f33 : (fun v _ => v = (Value.int .u64 (qg : Nat))) x33 u8 := by rw [← hx33]; exact hh.got 5 _ 33 rfl rfl (hall 5 (by decide))
                obtain ⟨x34, hx34⟩ : ∃ x, A.eval (.tmp 34) = x := ⟨_, rfl⟩
                have f34 : (fun v _ => v = (Value.pointer (some ⟨p3, 2, none⟩))) x34 u8 := by rw [← hx34]; exact hh.got 6 _ 34 rfl rfl (hall 6 (by decide))
                obtain ⟨x35, hx35⟩ : ∃ x, A.eval (.tmp 35) = x := ⟨_, rfl⟩
                have f35 : (fun v _ => v = (Value.agg J.toArray)) x35 u8 := by rw [← hx35]; exact hh.got 7 _ 35 rfl rfl (hall 7 (by decide))
                obtain ⟨x36, hx36⟩ : ∃ x, A.eval (.tmp 36) = x := ⟨_, rfl⟩
                have f36 : (fun v _ => v = (Value.bool true)) x36 u8 := by rw [← hx36]; exact hh.got 8 _ 36 rfl rfl (hall 8 (by decide))
                dsimp only [wrote, List.foldl] at hA
                rw [hx28, hx29, hx30, hx31, hx32, hx33, hx34, hx35, hx36] at hA
                clear hh hall hx28 hx29 hx30 hx31 hx32 hx33 hx34 hx35 hx36
                replace f28 := (f28 : x28 = (.slice (some ⟨ga, 0, none⟩) n cap))
                subst f28
                replace f29 := (f29 : x29 = (.int .i64 (k : Nat)))
                subst f29
                replace f30 := (f30 : x30 = (.pointer (some ⟨ga, k * 19, none⟩)))
                subst f30
                replace f31 := (f31 : x31 = (.agg K.toArray))
                subst f31
                replace f32 := (f32 : x32 = (.pointer (some ⟨p3, 1, none⟩)))
                subst f32
                replace f33 := (f33 : x33 = (.int .u64 (qg : Nat)))
                subst f33
                replace f34 := (f34 : x34 = (.pointer (some ⟨p3, 2, none⟩)))
                subst f34
                replace f35 := (f35 : x35 = (.agg J.toArray))
                subst f35
                replace f36 := (f36 : x36 = (.bool true))
                subst f36
                subst hA
                show wpList _ _ _ [] _ _
                unfold wpList
                simp only [Act.put, List.setIfInBounds_toArray, List.set_cons_succ, List.set_cons_zero]
                obtain ⟨uz, huz⟩ : ∃ x, x = u8 := ⟨_, rfl⟩
                have HUz : Hid (wr.grownBy uz none) := hid (by rw [huz]; exact gtrans (gdrew _ _ _) HU.out)
                rw [← huz]
                clear huz HU
                have ze := fun m => HO18.out _ (gtrans HUz.out (gdrew uz m none))
                have zq := fun m => HYe.out _ (gtrans HUz.out (gdrew uz m none))
                have zf := fun m => HFz.out _ (gtrans HUz.out (gdrew uz m none))
                have HSz : Hid (∀ m, OutN B ((uz.drewN m).setCell ⟨ga, k * 19 + 18, none⟩ (.int .i64 ex)) (.slice (some ⟨ga, 0, none⟩) n cap) (l.set k ⟨false, qg, q.id, ex⟩)) := hid (fun m => HSx.out _ ex (gtrans HUz.out (gdrew uz m none)) HEr.out)
                go_wp2_with fail
                go_quiet (fail)
                go_wp2_with fail
                go_ret
                exact ⟨.slice (some ⟨ga, 0, none⟩) n cap, rfl, by rw [HRr2.out]; exact HSz.out _, gtrans (gsome (gtrans HGw.out (gtrans HUz.out (gdrew _ _ _))) _) (gset _ ⟨ga, k * 19 + 18, none⟩ _)⟩
            · as_aux_lemma =>
              have HM : Hid (mx ex qe = qe) := hid (by unfold mx; rw [if_neg hx])
              have HRr2 : Hid (R0 = l) := hid (by rw [HRr.out, HM.out, ← HQs.out, HSe.out])
              clear HM HRr
              go_wp2_with fail
              go_quiet (fail)
              go_upto_region 6 with fail
              refine wp_region_listX (by kernel_rfl) [fun v _ => v = (Value.slice (some ⟨ga, 0, none⟩) n cap), fun v _ => v = (Value.int .i64 (k : Nat)), fun v _ => v = (Value.pointer (some ⟨ga, k * 19, none⟩)), fun v _ => v = (Value.agg K.toArray), fun v _ => v = (Value.pointer (some ⟨p3, 1, none⟩)), fun v _ => v = (Value.int .u64 (qg : Nat)), fun v _ => v = (Value.pointer (some ⟨p3, 2, none⟩)), fun v _ => v = (Value.agg J.toArray), fun v _ => v = (Value.bool true)] (none) (fun _ => none) 9 (by kernel_rfl) (by kernel_rfl) (by kernel_rfl) (by kernel_rfl) (by decide) noRow_one (fun _ => .inl rfl) ⟨fun i v u u' hki h hg => h, fun i v u u' hki h hg => h, fun i v u u' hki h hg => h, fun i v u u' hki h hg => h, fun i v u u' hki h hg => h, fun i v u u' hki h hg => h, fun i v u u' hki h hg => h, fun i v u u' hki h hg => h, fun i v u u' hki h hg => h, trivial⟩ ⟨?_, ?_, ?_, ?_, ?_, ?_, ?_, ?_, ?_, trivial⟩ ?_
              · intro A u hu hpu hsz hout hdeps
                have e0 : A.eval (.tmp 0) = (.slice (some ⟨ga, 0, none⟩) n cap) := (hout 0 (by kernel_rfl)).trans rfl
                refine ifw_none rfl ?_
                with_reducible refine shown_q (Value.slice (some ⟨ga, 0, none⟩) n cap) ?qq_2wt_0 (fun _ _ => ?qr_2wt_0)
                case qr_2wt_0 => exact (rfl : (Value.slice (some ⟨ga, 0, none⟩) n cap) = (Value.slice (some ⟨ga, 0, none⟩) n cap))
                with_reducible refine quietAt_mv (.tmp 0) (Value.slice (some ⟨ga, 0, none⟩) n cap) ?h0_2wt_0 ?h1_2wt_0
                case h0_2wt_0 => rfl
                case h1_2wt_0 => exact e0
              · intro A u hu hpu hsz hout hdeps
                have e5 : A.eval (.tmp 5) = (.int .i64 (k : Nat)) := (hout 5 (by kernel_rfl)).trans rfl
                refine ifw_none rfl ?_
                with_reducible refine shown_q (Value.int .i64 (k : Nat)) ?qq_2wt_1 (fun _ _ => ?qr_2wt_1)
                case qr_2wt_1 => exact (rfl : (Value.int .i64 (k : Nat)) = (Value.int .i64 (k : Nat)))
                with_reducible refine quietAt_mv (.tmp 5) (Value.int .i64 (k : Nat)) ?h0_2wt_1 ?h1_2wt_1
                case h0_2wt_1 => rfl
                case h1_2wt_1 => exact e5
              · intro A u hu hpu hsz hout hdeps
                have e28 : A.eval (.tmp 28) = (.slice (some ⟨ga, 0, none⟩) n cap) := by have h := depL hdeps 0 (by kernel_rfl) 28 (by kernel_rfl); exact h
                have e29 : A.eval (.tmp 29) = (.int .i64 (k : Nat)) := by have h := depL hdeps 1 (by kernel_rfl) 29 (by kernel_rfl); exact h
                refine ifw_none rfl ?_
                with_reducible refine shown_q (Value.pointer (some ⟨ga, k * 19, none⟩)) ?qq_2wt_2 (fun _ _ => ?qr_2wt_2)
                case qr_2wt_2 => exact (rfl : (Value.pointer (some ⟨ga, k * 19, none⟩)) = (Value.pointer (some ⟨ga, k * 19, none⟩)))
                with_reducible refine quietAt_idx 24 (.tmp 28) (.tmp 29) (Value.slice (some ⟨ga, 0, none⟩) n cap) (Value.int .i64 (k : Nat)) (Value.pointer (some ⟨ga, k * 19, none⟩)) ?h0_2wt_2 ?h1_2wt_2 ?h2_2wt_2 ?h3_2wt_2
                case h0_2wt_2 => rfl
                case h1_2wt_2 => exact e28
                case h2_2wt_2 => exact e29
                case h3_2wt_2 => exact (idx24 ga n cap k HKn.out u)
              · intro A u hu hpu hsz hout hdeps
                have e30 : A.eval (.tmp 30) = (.pointer (some ⟨ga, k * 19, none⟩)) := by have h := depL hdeps 2 (by kernel_rfl) 30 (by kernel_rfl); exact h
                refine ifw_none rfl ?_
                with_reducible refine shown_q (Value.agg K.toArray) ?qq_2wt_3 (fun _ _ => ?qr_2wt_3)
                case qr_2wt_3 => exact (rfl : (Value.agg K.toArray) = (Value.agg K.toArray))
                with_reducible refine quietAt_load 35 (.tmp 30) ?h0_2wt_3 ga (k * 19) K (.struct (Try.prog.fieldsOf 35)) ?h1_2wt_3 ?h2_2wt_3 ?h3_2wt_3 ?h4_2wt_3 ?h5_2wt_3
                case h0_2wt_3 => rfl
                case h1_2wt_3 => exact e30
                case h2_2wt_3 => exact (HEl.out u (gtrans (gdrew _ _ _) hu))
                case h3_2wt_3 => exact Try.under35
                case h4_2wt_3 => rfl
                case h5_2wt_3 => exact HKs.out
              · intro A u hu hpu hsz hout hdeps
                have e3 : A.eval (.tmp 3) = (.pointer (some ⟨p3, 0, none⟩)) := (hout 3 (by kernel_rfl)).trans rfl
                refine ifw_none rfl ?_
                with_reducible refine shown_q (Value.pointer (some ⟨p3, 1, none⟩)) ?qq_2wt_4 (fun _ _ => ?qr_2wt_4)
                case qr_2wt_4 => exact (rfl : (Value.pointer (some ⟨p3, 1, none⟩)) = (Value.pointer (some ⟨p3, 1, none⟩)))
                with_reducible refine quietAt_field 29 (.tmp 3) 1 ?h0_2wt_4 ⟨p3, 0, none⟩ ⟨p3, 1, none⟩ ?h1_2wt_4 ?h2_2wt_4
                case h0_2wt_4 => rfl
                case h1_2wt_4 => exact e3
                case h2_2wt_4 => kernel_rfl
              · intro A u hu hpu hsz hout hdeps
                have e32 : A.eval (.tmp 32) = (.pointer (some ⟨p3, 1, none⟩)) := by have h := depL hdeps 4 (by kernel_rfl) 32 (by kernel_rfl); exact h
                refine ifw_none rfl ?_
                with_reducible refine shown_q (Value.int .u64 (qg : Nat)) ?qq_2wt_5 (fun _ _ => ?qr_2wt_5)
                case qr_2wt_5 => exact (rfl : (Value.int .u64 (qg : Nat)) = (Value.int .u64 (qg : Nat)))
                with_reducible refine quietAt_ld 25 (.tmp 32) (Value.pointer (some ⟨p3, 1, none⟩)) (Value.int .u64 (qg : Nat)) ?h0_2wt_5 ?h1_2wt_5 ?h2_2wt_5
                case h0_2wt_5 => rfl
                case h1_2wt_5 => exact e32
                case h2_2wt_5 => exact ld25 p3 1 qg u (HO1.out u (gtrans (gdrew _ _ _) hu))
              · intro A u hu hpu hsz hout hdeps
                have e3 : A.eval (.tmp 3) = (.pointer (some ⟨p3, 0, none⟩)) := (hout 3 (by kernel_rfl)).trans rfl
                refine ifw_none rfl ?_
                with_reducible refine shown_q (Value.pointer (some ⟨p3, 2, none⟩)) ?qq_2wt_6 (fun _ _ => ?qr_2wt_6)
                case qr_2wt_6 => exact (rfl : (Value.pointer (some ⟨p3, 2, none⟩)) = (Value.pointer (some ⟨p3, 2, none⟩)))
                with_reducible refine quietAt_field 29 (.tmp 3) 2 ?h0_2wt_6 ⟨p3, 0, none⟩ ⟨p3, 2, none⟩ ?h1_2wt_6 ?h2_2wt_6
                case h0_2wt_6 => rfl
                case h1_2wt_6 => exact e3
                case h2_2wt_6 => kernel_rfl
              · intro A u hu hpu hsz hout hdeps
                have e34 : A.eval (.tmp 34) = (.pointer (some ⟨p3, 2, none⟩)) := by have h := depL hdeps 6 (by kernel_rfl) 34 (by kernel_rfl); exact h
                refine ifw_none rfl ?_
                with_reducible refine shown_q (Value.agg J.toArray) ?qq_2wt_7 (fun _ _ => ?qr_2wt_7)
                case qr_2wt_7 => exact (rfl : (Value.agg J.toArray) = (Value.agg J.toArray))
                with_reducible refine quietAt_load 27 (.tmp 34) ?h0_2wt_7 p3 2 J (.array 16 5) ?h1_2wt_7 ?h2_2wt_7 ?h3_2wt_7 ?h4_2wt_7 ?h5_2wt_7
                case h0_2wt_7 => rfl
                case h1_2wt_7 => exact e34
                case h2_2wt_7 => exact (HOi.out u (gtrans (gdrew _ _ _) hu))
                case h3_2wt_7 => exact Try.underlying27
                case h4_2wt_7 => rfl
                case h5_2wt_7 => exact HJL.out
              · intro A u hu hpu hsz hout hdeps
                have e31 : A.eval (.tmp 31) = (.agg K.toArray) := by have h := depL hdeps 3 (by kernel_rfl) 31 (by kernel_rfl); exact h
                have e33 : A.eval (.tmp 33) = (.int .u64 (qg : Nat)) := by have h := depL hdeps 5 (by kernel_rfl) 33 (by kernel_rfl); exact h
                have e35 : A.eval (.tmp 35) = (.agg J.toArray) := by have h := depL hdeps 7 (by kernel_rfl) 35 (by kernel_rfl); exact h
                refine ifw_none rfl ?_
                with_reducible refine shown_q (Value.bool true) ?qq_2wt_8 (fun _ _ => ?qr_2wt_8)
                case qr_2wt_8 => exact (rfl : (Value.bool true) = (Value.bool true))
                with_reducible refine quietAt_call 13 Try.f13 ?h0_2wt_8 ?h1_2wt_8 ?h2_2wt_8 #[.tmp 31, .tmp 33, .tmp 35] #[35, 25, 27] ?h3_2wt_8 (Value.bool true) #[(Value.agg K.toArray), (Value.int .u64 (qg : Nat)), (Value.agg J.toArray)] ?h4_2wt_8 ?h5_2wt_8
                case h0_2wt_8 => exact Try.func13
                case h1_2wt_8 => kernel_rfl
                case h2_2wt_8 => kernel_rfl
                case h3_2wt_8 => rfl
                case h4_2wt_8 => exact map3 _ _ _ _ _ _ _ e31 e33 e35
                case h5_2wt_8 => exact HCo.out u
              · intro A u8 listed hh hall
                have hA := hh.frame
                have HU := hid hh.grown
                obtain ⟨x28, hx28⟩ : ∃ x, A.eval (.tmp 28) = x := ⟨_, rfl⟩
                have f28 : (fun v _ => v = (Value.slice (some ⟨ga, 0, none⟩) n cap)) x28 u8 := by rw [← hx28]; exact hh.got 0 _ 28 rfl rfl (hall 0 (by decide))
                obtain ⟨x29, hx29⟩ : ∃ x, A.eval (.tmp 29) = x := ⟨_, rfl⟩
                have f29 : (fun v _ => v = (Value.int .i64 (k : Nat))) x29 u8 := by rw [← hx29]; exact hh.got 1 _ 29 rfl rfl (hall 1 (by decide))
                obtain ⟨x30, hx30⟩ : ∃ x, A.eval (.tmp 30) = x := ⟨_, rfl⟩
                have f30 : (fun v _ => v = (Value.pointer (some ⟨ga, k * 19, none⟩))) x30 u8 := by rw [← hx30]; exact hh.got 2 _ 30 rfl rfl (hall 2 (by decide))
                obtain ⟨x31, hx31⟩ : ∃ x, A.eval (.tmp 31) = x := ⟨_, rfl⟩
                have f31 : (fun v _ => v = (Value.agg K.toArray)) x31 u8 := by rw [← hx31]; exact hh.got 3 _ 31 rfl rfl (hall 3 (by decide))
                obtain ⟨x32, hx32⟩ : ∃ x, A.eval (.tmp 32) = x := ⟨_, rfl⟩
                have f32 : (fun v _ => v = (Value.pointer (some ⟨p3, 1, none⟩))) x32 u8 := by rw [← hx32]; exact hh.got 4 _ 32 rfl rfl (hall 4 (by decide))
                obtain ⟨x33, hx33⟩ : ∃ x, A.eval (.tmp 33) = x := ⟨_, rfl⟩
                have f33 : (fun v _ => v = (Value.int .u64 (qg : Nat))) x33 u8 := by rw [← hx33]; exact hh.got 5 _ 33 rfl rfl (hall 5 (by decide))
                obtain ⟨x34, hx34⟩ : ∃ x, A.eval (.tmp 34) = x := ⟨_, rfl⟩
                have f34 : (fun v _ => v = (Value.pointer (some ⟨p3, 2, none⟩))) x34 u8 := by rw [← hx34]; exact hh.got 6 _ 34 rfl rfl (hall 6 (by decide))
                obtain ⟨x35, hx35⟩ : ∃ x, A.eval (.tmp 35) = x := ⟨_, rfl⟩
                have f35 : (fun v _ => v = (Value.agg J.toArray)) x35 u8 := by rw [← hx35]; exact hh.got 7 _ 35 rfl rfl (hall 7 (by decide))
                obtain ⟨x36, hx36⟩ : ∃ x, A.eval (.tmp 36) = x := ⟨_, rfl⟩
                have f36 : (fun v _ => v = (Value.bool true)) x36 u8 := by rw [← hx36]; exact hh.got 8 _ 36 rfl rfl (hall 8 (by decide))
                dsimp only [wrote, List.foldl] at hA
                rw [hx28, hx29, hx30, hx31, hx32, hx33, hx34, hx35, hx36] at hA
                clear hh hall hx28 hx29 hx30 hx31 hx32 hx33 hx34 hx35 hx36
                replace f28 := (f28 : x28 = (.slice (some ⟨ga, 0, none⟩) n cap))
                subst f28
                replace f29 := (f29 : x29 = (.int .i64 (k : Nat)))
                subst f29
                replace f30 := (f30 : x30 = (.pointer (some ⟨ga, k * 19, none⟩)))
                subst f30
                replace f31 := (f31 : x31 = (.agg K.toArray))
                subst f31
                replace f32 := (f32 : x32 = (.pointer (some ⟨p3, 1, none⟩)))
                subst f32
                replace f33 := (f33 : x33 = (.int .u64 (qg : Nat)))
                subst f33
                replace f34 := (f34 : x34 = (.pointer (some ⟨p3, 2, none⟩)))
                subst f34
                replace f35 := (f35 : x35 = (.agg J.toArray))
                subst f35
                replace f36 := (f36 : x36 = (.bool true))
                subst f36
                subst hA
                show wpList _ _ _ [] _ _
                unfold wpList
                simp only [Act.put, List.setIfInBounds_toArray, List.set_cons_succ, List.set_cons_zero]
                obtain ⟨uz, huz⟩ : ∃ x, x = u8 := ⟨_, rfl⟩
                have HUz : Hid (wr.grownBy uz none) := hid (by rw [huz]; exact gtrans (gdrew _ _ _) HU.out)
                rw [← huz]
                clear huz HU
                have ze := fun m => HO18.out _ (gtrans HUz.out (gdrew uz m none))
                have zq := fun m => HYe.out _ (gtrans HUz.out (gdrew uz m none))
                go_wp2_with fail
                go_quiet (fail)
                go_wp2_with fail
                go_ret
                exact ⟨.slice (some ⟨ga, 0, none⟩) n cap, rfl, by rw [HRr2.out]; exact HVk.out _ (gtrans HUz.out (gdrew _ _ _)), gsome (gtrans HGw.out (gtrans HUz.out (gdrew _ _ _))) _⟩
          · as_aux_lemma =>
            have HCC : Hid (cov q qg ID = false) := hid (by rw [HCv.out, beq_eq_false_iff_ne.2 hid2]; simp)
            have HCo := HCo1
            rw [HCC.out] at HCo
            have HRn := hid (HAt.out.2.2 (fun h => by rcases h.2 with h | h; · cases h
                                                      · exact hid2 h))
            clear HAt HCv HCo1 HCC
            go_wp2_with fail
            go_quiet (fail)
            go_upto_region 6 with fail
            refine wp_region_listX (by kernel_rfl) [fun v _ => v = (Value.slice (some ⟨ga, 0, none⟩) n cap), fun v _ => v = (Value.int .i64 (k : Nat)), fun v _ => v = (Value.pointer (some ⟨ga, k * 19, none⟩)), fun v _ => v = (Value.agg K.toArray), fun v _ => v = (Value.pointer (some ⟨p3, 1, none⟩)), fun v _ => v = (Value.int .u64 (qg : Nat)), fun v _ => v = (Value.pointer (some ⟨p3, 2, none⟩)), fun v _ => v = (Value.agg J.toArray), fun v _ => v = (Value.bool false)] (none) (fun _ => none) 9 (by kernel_rfl) (by kernel_rfl) (by kernel_rfl) (by kernel_rfl) (by decide) noRow_one (fun _ => .inl rfl) ⟨fun i v u u' hki h hg => h, fun i v u u' hki h hg => h, fun i v u u' hki h hg => h, fun i v u u' hki h hg => h, fun i v u u' hki h hg => h, fun i v u u' hki h hg => h, fun i v u u' hki h hg => h, fun i v u u' hki h hg => h, fun i v u u' hki h hg => h, trivial⟩ ⟨?_, ?_, ?_, ?_, ?_, ?_, ?_, ?_, ?_, trivial⟩ ?_
            · intro A u hu hpu hsz hout hdeps
              have e0 : A.eval (.tmp 0) = (.slice (some ⟨ga, 0, none⟩) n cap) := (hout 0 (by kernel_rfl)).trans rfl
              refine ifw_none rfl ?_
              with_reducible refine shown_q (Value.slice (some ⟨ga, 0, none⟩) n cap) ?qq_3wf_0 (fun _ _ => ?qr_3wf_0)
              case qr_3wf_0 => exact (rfl : (Value.slice (some ⟨ga, 0, none⟩) n cap) = (Value.slice (some ⟨ga, 0, none⟩) n cap))
              with_reducible refine quietAt_mv (.tmp 0) (Value.slice (some ⟨ga, 0, none⟩) n cap) ?h0_3wf_0 ?h1_3wf_0
              case h0_3wf_0 => rfl
              case h1_3wf_0 => exact e0
            · intro A u hu hpu hsz hout hdeps
              have e5 : A.eval (.tmp 5) = (.int .i64 (k : Nat)) := (hout 5 (by kernel_rfl)).trans rfl
              refine ifw_none rfl ?_
              with_reducible refine shown_q (Value.int .i64 (k : Nat)) ?qq_3wf_1 (fun _ _ => ?qr_3wf_1)
              case qr_3wf_1 => exact (rfl : (Value.int .i64 (k : Nat)) = (Value.int .i64 (k : Nat)))
              with_reducible refine quietAt_mv (.tmp 5) (Value.int .i64 (k : Nat)) ?h0_3wf_1 ?h1_3wf_1
              case h0_3wf_1 => rfl
              case h1_3wf_1 => exact e5
            · intro A u hu hpu hsz hout hdeps
              have e28 : A.eval (.tmp 28) = (.slice (some ⟨ga, 0, none⟩) n cap) := by have h := depL hdeps 0 (by kernel_rfl) 28 (by kernel_rfl); exact h
              have e29 : A.eval (.tmp 29) = (.int .i64 (k : Nat)) := by have h := depL hdeps 1 (by kernel_rfl) 29 (by kernel_rfl); exact h
              refine ifw_none rfl ?_
              with_reducible refine shown_q (Value.pointer (some ⟨ga, k * 19, none⟩)) ?qq_3wf_2 (fun _ _ => ?qr_3wf_2)
              case qr_3wf_2 => exact (rfl : (Value.pointer (some ⟨ga, k * 19, none⟩)) = (Value.pointer (some ⟨ga, k * 19, none⟩)))
              with_reducible refine quietAt_idx 24 (.tmp 28) (.tmp 29) (Value.slice (some ⟨ga, 0, none⟩) n cap) (Value.int .i64 (k : Nat)) (Value.pointer (some ⟨ga, k * 19, none⟩)) ?h0_3wf_2 ?h1_3wf_2 ?h2_3wf_2 ?h3_3wf_2
              case h0_3wf_2 => rfl
              case h1_3wf_2 => exact e28
              case h2_3wf_2 => exact e29
              case h3_3wf_2 => exact (idx24 ga n cap k HKn.out u)
            · intro A u hu hpu hsz hout hdeps
              have e30 : A.eval (.tmp 30) = (.pointer (some ⟨ga, k * 19, none⟩)) := by have h := depL hdeps 2 (by kernel_rfl) 30 (by kernel_rfl); exact h
              refine ifw_none rfl ?_
              with_reducible refine shown_q (Value.agg K.toArray) ?qq_3wf_3 (fun _ _ => ?qr_3wf_3)
              case qr_3wf_3 => exact (rfl : (Value.agg K.toArray) = (Value.agg K.toArray))
              with_reducible refine quietAt_load 35 (.tmp 30) ?h0_3wf_3 ga (k * 19) K (.struct (Try.prog.fieldsOf 35)) ?h1_3wf_3 ?h2_3wf_3 ?h3_3wf_3 ?h4_3wf_3 ?h5_3wf_3
              case h0_3wf_3 => rfl
              case h1_3wf_3 => exact e30
              case h2_3wf_3 => exact (HEl.out u (gtrans (gdrew _ _ _) hu))
              case h3_3wf_3 => exact Try.under35
              case h4_3wf_3 => rfl
              case h5_3wf_3 => exact HKs.out
            · intro A u hu hpu hsz hout hdeps
              have e3 : A.eval (.tmp 3) = (.pointer (some ⟨p3, 0, none⟩)) := (hout 3 (by kernel_rfl)).trans rfl
              refine ifw_none rfl ?_
              with_reducible refine shown_q (Value.pointer (some ⟨p3, 1, none⟩)) ?qq_3wf_4 (fun _ _ => ?qr_3wf_4)
              case qr_3wf_4 => exact (rfl : (Value.pointer (some ⟨p3, 1, none⟩)) = (Value.pointer (some ⟨p3, 1, none⟩)))
              with_reducible refine quietAt_field 29 (.tmp 3) 1 ?h0_3wf_4 ⟨p3, 0, none⟩ ⟨p3, 1, none⟩ ?h1_3wf_4 ?h2_3wf_4
              case h0_3wf_4 => rfl
              case h1_3wf_4 => exact e3
              case h2_3wf_4 => kernel_rfl
            · intro A u hu hpu hsz hout hdeps
              have e32 : A.eval (.tmp 32) = (.pointer (some ⟨p3, 1, none⟩)) := by have h := depL hdeps 4 (by kernel_rfl) 32 (by kernel_rfl); exact h
              refine ifw_none rfl ?_
              with_reducible refine shown_q (Value.int .u64 (qg : Nat)) ?qq_3wf_5 (fun _ _ => ?qr_3wf_5)
              case qr_3wf_5 => exact (rfl : (Value.int .u64 (qg : Nat)) = (Value.int .u64 (qg : Nat)))
              with_reducible refine quietAt_ld 25 (.tmp 32) (Value.pointer (some ⟨p3, 1, none⟩)) (Value.int .u64 (qg : Nat)) ?h0_3wf_5 ?h1_3wf_5 ?h2_3wf_5
              case h0_3wf_5 => rfl
              case h1_3wf_5 => exact e32
              case h2_3wf_5 => exact ld25 p3 1 qg u (HO1.out u (gtrans (gdrew _ _ _) hu))
            · intro A u hu hpu hsz hout hdeps
              have e3 : A.eval (.tmp 3) = (.pointer (some ⟨p3, 0, none⟩)) := (hout 3 (by kernel_rfl)).trans rfl
              refine ifw_none rfl ?_
              with_reducible refine shown_q (Value.pointer (some ⟨p3, 2, none⟩)) ?qq_3wf_6 (fun _ _ => ?qr_3wf_6)
              case qr_3wf_6 => exact (rfl : (Value.pointer (some ⟨p3, 2, none⟩)) = (Value.pointer (some ⟨p3, 2, none⟩)))
              with_reducible refine quietAt_field 29 (.tmp 3) 2 ?h0_3wf_6 ⟨p3, 0, none⟩ ⟨p3, 2, none⟩ ?h1_3wf_6 ?h2_3wf_6
              case h0_3wf_6 => rfl
              case h1_3wf_6 => exact e3
              case h2_3wf_6 => kernel_rfl
            · intro A u hu hpu hsz hout hdeps
              have e34 : A.eval (.tmp 34) = (.pointer (some ⟨p3, 2, none⟩)) := by have h := depL hdeps 6 (by kernel_rfl) 34 (by kernel_rfl); exact h
              refine ifw_none rfl ?_
              with_reducible refine shown_q (Value.agg J.toArray) ?qq_3wf_7 (fun _ _ => ?qr_3wf_7)
              case qr_3wf_7 => exact (rfl : (Value.agg J.toArray) = (Value.agg J.toArray))
              with_reducible refine quietAt_load 27 (.tmp 34) ?h0_3wf_7 p3 2 J (.array 16 5) ?h1_3wf_7 ?h2_3wf_7 ?h3_3wf_7 ?h4_3wf_7 ?h5_3wf_7
              case h0_3wf_7 => rfl
              case h1_3wf_7 => exact e34
              case h2_3wf_7 => exact (HOi.out u (gtrans (gdrew _ _ _) hu))
              case h3_3wf_7 => exact Try.underlying27
              case h4_3wf_7 => rfl
              case h5_3wf_7 => exact HJL.out
            · intro A u hu hpu hsz hout hdeps
              have e31 : A.eval (.tmp 31) = (.agg K.toArray) := by have h := depL hdeps 3 (by kernel_rfl) 31 (by kernel_rfl); exact h
              have e33 : A.eval (.tmp 33) = (.int .u64 (qg : Nat)) := by have h := depL hdeps 5 (by kernel_rfl) 33 (by kernel_rfl); exact h
              have e35 : A.eval (.tmp 35) = (.agg J.toArray) := by have h := depL hdeps 7 (by kernel_rfl) 35 (by kernel_rfl); exact h
              refine ifw_none rfl ?_
              with_reducible refine shown_q (Value.bool false) ?qq_3wf_8 (fun _ _ => ?qr_3wf_8)
              case qr_3wf_8 => exact (rfl : (Value.bool false) = (Value.bool false))
              with_reducible refine quietAt_call 13 Try.f13 ?h0_3wf_8 ?h1_3wf_8 ?h2_3wf_8 #[.tmp 31, .tmp 33, .tmp 35] #[35, 25, 27] ?h3_3wf_8 (Value.bool false) #[(Value.agg K.toArray), (Value.int .u64 (qg : Nat)), (Value.agg J.toArray)] ?h4_3wf_8 ?h5_3wf_8
              case h0_3wf_8 => exact Try.func13
              case h1_3wf_8 => kernel_rfl
              case h2_3wf_8 => kernel_rfl
              case h3_3wf_8 => rfl
              case h4_3wf_8 => exact map3 _ _ _ _ _ _ _ e31 e33 e35
              case h5_3wf_8 => exact HCo.out u
            · intro A u8 listed hh hall
              have hA := hh.frame
              have HU := hid hh.grown
              obtain ⟨x28, hx28⟩ : ∃ x, A.eval (.tmp 28) = x := ⟨_, rfl⟩
              have f28 : (fun v _ => v = (Value.slice (some ⟨ga, 0, none⟩) n cap)) x28 u8 := by rw [← hx28]; exact hh.got 0 _ 28 rfl rfl (hall 0 (by decide))
              obtain ⟨x29, hx29⟩ : ∃ x, A.eval (.tmp 29) = x := ⟨_, rfl⟩
              have f29 : (fun v _ => v = (Value.int .i64 (k : Nat))) x29 u8 := by rw [← hx29]; exact hh.got 1 _ 29 rfl rfl (hall 1 (by decide))
              obtain ⟨x30, hx30⟩ : ∃ x, A.eval (.tmp 30) = x := ⟨_, rfl⟩
              have f30 : (fun v _ => v = (Value.pointer (some ⟨ga, k * 19, none⟩))) x30 u8 := by rw [← hx30]; exact hh.got 2 _ 30 rfl rfl (hall 2 (by decide))
              obtain ⟨x31, hx31⟩ : ∃ x, A.eval (.tmp 31) = x := ⟨_, rfl⟩
              have f31 : (fun v _ => v = (Value.agg K.toArray)) x31 u8 := by rw [← hx31]; exact hh.got 3 _ 31 rfl rfl (hall 3 (by decide))
              obtain ⟨x32, hx32⟩ : ∃ x, A.eval (.tmp 32) = x := ⟨_, rfl⟩
              have f32 : (fun v _ => v = (Value.pointer (some ⟨p3, 1, none⟩))) x32 u8 := by rw [← hx32]; exact hh.got 4 _ 32 rfl rfl (hall 4 (by decide))
              obtain ⟨x33, hx33⟩ : ∃ x, A.eval (.tmp 33) = x := ⟨_, rfl⟩
              have f33 : (fun v _ => v = (Value.int .u64 (qg : Nat))) x33 u8 := by rw [← hx33]; exact hh.got 5 _ 33 rfl rfl (hall 5 (by decide))
              obtain ⟨x34, hx34⟩ : ∃ x, A.eval (.tmp 34) = x := ⟨_, rfl⟩
              have f34 : (fun v _ => v = (Value.pointer (some ⟨p3, 2, none⟩))) x34 u8 := by rw [← hx34]; exact hh.got 6 _ 34 rfl rfl (hall 6 (by decide))
              obtain ⟨x35, hx35⟩ : ∃ x, A.eval (.tmp 35) = x := ⟨_, rfl⟩
              have f35 : (fun v _ => v = (Value.agg J.toArray)) x35 u8 := by rw [← hx35]; exact hh.got 7 _ 35 rfl rfl (hall 7 (by decide))
              obtain ⟨x36, hx36⟩ : ∃ x, A.eval (.tmp 36) = x := ⟨_, rfl⟩
              have f36 : (fun v _ => v = (Value.bool false)) x36 u8 := by rw [← hx36]; exact hh.got 8 _ 36 rfl rfl (hall 8 (by decide))
              dsimp only [wrote, List.foldl] at hA
              rw [hx28, hx29, hx30, hx31, hx32, hx33, hx34, hx35, hx36] at hA
              clear hh hall hx28 hx29 hx30 hx31 hx32 hx33 hx34 hx35 hx36
              replace f28 := (f28 : x28 = (.slice (some ⟨ga, 0, none⟩) n cap))
              subst f28
              replace f29 := (f29 : x29 = (.int .i64 (k : Nat)))
              subst f29
              replace f30 := (f30 : x30 = (.pointer (some ⟨ga, k * 19, none⟩)))
              subst f30
              replace f31 := (f31 : x31 = (.agg K.toArray))
              subst f31
              replace f32 := (f32 : x32 = (.pointer (some ⟨p3, 1, none⟩)))
              subst f32
              replace f33 := (f33 : x33 = (.int .u64 (qg : Nat)))
              subst f33
              replace f34 := (f34 : x34 = (.pointer (some ⟨p3, 2, none⟩)))
              subst f34
              replace f35 := (f35 : x35 = (.agg J.toArray))
              subst f35
              replace f36 := (f36 : x36 = (.bool false))
              subst f36
              subst hA
              show wpList _ _ _ [] _ _
              unfold wpList
              simp only [Act.put, List.setIfInBounds_toArray, List.set_cons_succ, List.set_cons_zero]
              have HUz := hid (gtrans (gdrew _ _ _) HU.out)
              go_wp2_with fail
              go_roundw
              case rel => exact ⟨k + 1, by go_num, by have := HKn.out; omega, HRn, hid (gtrans HX.out HUz.out)⟩
              case measure => have := HKn.out; simp [intOf]; omega
      · as_aux_lemma =>
        have hgg' : ((qg : Int) == (g : Int)) = false := beq_eq_false_iff_ne.2 (by omega)
        have hgg2 : ¬ (qg : Int) = (g : Int) := by omega
        have HCC : Hid (cov q g ID = false) := hid (by rw [HCv.out, beq_eq_false_iff_ne.2 hgg, Bool.false_and])
        have HCo := HCo1
        rw [HCC.out] at HCo
        have HRn := hid (HAt.out.2.2 (fun h => hgg h.1))
        clear HAt HCv HCo1 HCC hgg
        go_wp2_with fail
        go_quiet (fail)
        go_upto_region 6 with fail
        refine wp_region_listX (by kernel_rfl) [fun v _ => v = (Value.slice (some ⟨ga, 0, none⟩) n cap), fun v _ => v = (Value.int .i64 (k : Nat)), fun v _ => v = (Value.pointer (some ⟨ga, k * 19, none⟩)), fun v _ => v = (Value.agg K.toArray), fun v _ => v = (Value.pointer (some ⟨p3, 1, none⟩)), fun v _ => v = (Value.int .u64 (g : Nat)), fun v _ => v = (Value.pointer (some ⟨p3, 2, none⟩)), fun v _ => v = (Value.agg J.toArray), fun v _ => v = (Value.bool false)] (none) (fun _ => none) 9 (by kernel_rfl) (by kernel_rfl) (by kernel_rfl) (by kernel_rfl) (by decide) noRow_one (fun _ => .inl rfl) ⟨fun i v u u' hki h hg => h, fun i v u u' hki h hg => h, fun i v u u' hki h hg => h, fun i v u u' hki h hg => h, fun i v u u' hki h hg => h, fun i v u u' hki h hg => h, fun i v u u' hki h hg => h, fun i v u u' hki h hg => h, fun i v u u' hki h hg => h, trivial⟩ ⟨?_, ?_, ?_, ?_, ?_, ?_, ?_, ?_, ?_, trivial⟩ ?_
        · intro A u hu hpu hsz hout hdeps
          have e0 : A.eval (.tmp 0) = (.slice (some ⟨ga, 0, none⟩) n cap) := (hout 0 (by kernel_rfl)).trans rfl
          refine ifw_none rfl ?_
          with_reducible refine shown_q (Value.slice (some ⟨ga, 0, none⟩) n cap) ?qq_4wf_0 (fun _ _ => ?qr_4wf_0)
          case qr_4wf_0 => exact (rfl : (Value.slice (some ⟨ga, 0, none⟩) n cap) = (Value.slice (some ⟨ga, 0, none⟩) n cap))
          with_reducible refine quietAt_mv (.tmp 0) (Value.slice (some ⟨ga, 0, none⟩) n cap) ?h0_4wf_0 ?h1_4wf_0
          case h0_4wf_0 => rfl
          case h1_4wf_0 => exact e0
        · intro A u hu hpu hsz hout hdeps
          have e5 : A.eval (.tmp 5) = (.int .i64 (k : Nat)) := (hout 5 (by kernel_rfl)).trans rfl
          refine ifw_none rfl ?_
          with_reducible refine shown_q (Value.int .i64 (k : Nat)) ?qq_4wf_1 (fun _ _ => ?qr_4wf_1)
          case qr_4wf_1 => exact (rfl : (Value.int .i64 (k : Nat)) = (Value.int .i64 (k : Nat)))
          with_reducible refine quietAt_mv (.tmp 5) (Value.int .i64 (k : Nat)) ?h0_4wf_1 ?h1_4wf_1
          case h0_4wf_1 => rfl
          case h1_4wf_1 => exact e5
        · intro A u hu hpu hsz hout hdeps
          have e28 : A.eval (.tmp 28) = (.slice (some ⟨ga, 0, none⟩) n cap) := by have h := depL hdeps 0 (by kernel_rfl) 28 (by kernel_rfl); exact h
          have e29 : A.eval (.tmp 29) = (.int .i64 (k : Nat)) := by have h := depL hdeps 1 (by kernel_rfl) 29 (by kernel_rfl); exact h
          refine ifw_none rfl ?_
          with_reducible refine shown_q (Value.pointer (some ⟨ga, k * 19, none⟩)) ?qq_4wf_2 (fun _ _ => ?qr_4wf_2)
          case qr_4wf_2 => exact (rfl : (Value.pointer (some ⟨ga, k * 19, none⟩)) = (Value.pointer (some ⟨ga, k * 19, none⟩)))
          with_reducible refine quietAt_idx 24 (.tmp 28) (.tmp 29) (Value.slice (some ⟨ga, 0, none⟩) n cap) (Value.int .i64 (k : Nat)) (Value.pointer (some ⟨ga, k * 19, none⟩)) ?h0_4wf_2 ?h1_4wf_2 ?h2_4wf_2 ?h3_4wf_2
          case h0_4wf_2 => rfl
          case h1_4wf_2 => exact e28
          case h2_4wf_2 => exact e29
          case h3_4wf_2 => exact (idx24 ga n cap k HKn.out u)
        · intro A u hu hpu hsz hout hdeps
          have e30 : A.eval (.tmp 30) = (.pointer (some ⟨ga, k * 19, none⟩)) := by have h := depL hdeps 2 (by kernel_rfl) 30 (by kernel_rfl); exact h
          refine ifw_none rfl ?_
          with_reducible refine shown_q (Value.agg K.toArray) ?qq_4wf_3 (fun _ _ => ?qr_4wf_3)
          case qr_4wf_3 => exact (rfl : (Value.agg K.toArray) = (Value.agg K.toArray))
          with_reducible refine quietAt_load 35 (.tmp 30) ?h0_4wf_3 ga (k * 19) K (.struct (Try.prog.fieldsOf 35)) ?h1_4wf_3 ?h2_4wf_3 ?h3_4wf_3 ?h4_4wf_3 ?h5_4wf_3
          case h0_4wf_3 => rfl
          case h1_4wf_3 => exact e30
          case h2_4wf_3 => exact (HEl.out u (gtrans (gdrew _ _ _) hu))
          case h3_4wf_3 => exact Try.under35
          case h4_4wf_3 => rfl
          case h5_4wf_3 => exact HKs.out
        · intro A u hu hpu hsz hout hdeps
          have e3 : A.eval (.tmp 3) = (.pointer (some ⟨p3, 0, none⟩)) := (hout 3 (by kernel_rfl)).trans rfl
          refine ifw_none rfl ?_
          with_reducible refine shown_q (Value.pointer (some ⟨p3, 1, none⟩)) ?qq_4wf_4 (fun _ _ => ?qr_4wf_4)
          case qr_4wf_4 => exact (rfl : (Value.pointer (some ⟨p3, 1, none⟩)) = (Value.pointer (some ⟨p3, 1, none⟩)))
          with_reducible refine quietAt_field 29 (.tmp 3) 1 ?h0_4wf_4 ⟨p3, 0, none⟩ ⟨p3, 1, none⟩ ?h1_4wf_4 ?h2_4wf_4
          case h0_4wf_4 => rfl
          case h1_4wf_4 => exact e3
          case h2_4wf_4 => kernel_rfl
        · intro A u hu hpu hsz hout hdeps
          have e32 : A.eval (.tmp 32) = (.pointer (some ⟨p3, 1, none⟩)) := by have h := depL hdeps 4 (by kernel_rfl) 32 (by kernel_rfl); exact h
          refine ifw_none rfl ?_
          with_reducible refine shown_q (Value.int .u64 (g : Nat)) ?qq_4wf_5 (fun _ _ => ?qr_4wf_5)
          case qr_4wf_5 => exact (rfl : (Value.int .u64 (g : Nat)) = (Value.int .u64 (g : Nat)))
          with_reducible refine quietAt_ld 25 (.tmp 32) (Value.pointer (some ⟨p3, 1, none⟩)) (Value.int .u64 (g : Nat)) ?h0_4wf_5 ?h1_4wf_5 ?h2_4wf_5
          case h0_4wf_5 => rfl
          case h1_4wf_5 => exact e32
          case h2_4wf_5 => exact ld25 p3 1 g u (HO1.out u (gtrans (gdrew _ _ _) hu))
        · intro A u hu hpu hsz hout hdeps
          have e3 : A.eval (.tmp 3) = (.pointer (some ⟨p3, 0, none⟩)) := (hout 3 (by kernel_rfl)).trans rfl
          refine ifw_none rfl ?_
          with_reducible refine shown_q (Value.pointer (some ⟨p3, 2, none⟩)) ?qq_4wf_6 (fun _ _ => ?qr_4wf_6)
          case qr_4wf_6 => exact (rfl : (Value.pointer (some ⟨p3, 2, none⟩)) = (Value.pointer (some ⟨p3, 2, none⟩)))
          with_reducible refine quietAt_field 29 (.tmp 3) 2 ?h0_4wf_6 ⟨p3, 0, none⟩ ⟨p3, 2, none⟩ ?h1_4wf_6 ?h2_4wf_6
          case h0_4wf_6 => rfl
          case h1_4wf_6 => exact e3
          case h2_4wf_6 => kernel_rfl
        · intro A u hu hpu hsz hout hdeps
          have e34 : A.eval (.tmp 34) = (.pointer (some ⟨p3, 2, none⟩)) := by have h := depL hdeps 6 (by kernel_rfl) 34 (by kernel_rfl); exact h
          refine ifw_none rfl ?_
          with_reducible refine shown_q (Value.agg J.toArray) ?qq_4wf_7 (fun _ _ => ?qr_4wf_7)
          case qr_4wf_7 => exact (rfl : (Value.agg J.toArray) = (Value.agg J.toArray))
          with_reducible refine quietAt_load 27 (.tmp 34) ?h0_4wf_7 p3 2 J (.array 16 5) ?h1_4wf_7 ?h2_4wf_7 ?h3_4wf_7 ?h4_4wf_7 ?h5_4wf_7
          case h0_4wf_7 => rfl
          case h1_4wf_7 => exact e34
          case h2_4wf_7 => exact (HOi.out u (gtrans (gdrew _ _ _) hu))
          case h3_4wf_7 => exact Try.underlying27
          case h4_4wf_7 => rfl
          case h5_4wf_7 => exact HJL.out
        · intro A u hu hpu hsz hout hdeps
          have e31 : A.eval (.tmp 31) = (.agg K.toArray) := by have h := depL hdeps 3 (by kernel_rfl) 31 (by kernel_rfl); exact h
          have e33 : A.eval (.tmp 33) = (.int .u64 (g : Nat)) := by have h := depL hdeps 5 (by kernel_rfl) 33 (by kernel_rfl); exact h
          have e35 : A.eval (.tmp 35) = (.agg J.toArray) := by have h := depL hdeps 7 (by kernel_rfl) 35 (by kernel_rfl); exact h
          refine ifw_none rfl ?_
          with_reducible refine shown_q (Value.bool false) ?qq_4wf_8 (fun _ _ => ?qr_4wf_8)
          case qr_4wf_8 => exact (rfl : (Value.bool false) = (Value.bool false))
          with_reducible refine quietAt_call 13 Try.f13 ?h0_4wf_8 ?h1_4wf_8 ?h2_4wf_8 #[.tmp 31, .tmp 33, .tmp 35] #[35, 25, 27] ?h3_4wf_8 (Value.bool false) #[(Value.agg K.toArray), (Value.int .u64 (g : Nat)), (Value.agg J.toArray)] ?h4_4wf_8 ?h5_4wf_8
          case h0_4wf_8 => exact Try.func13
          case h1_4wf_8 => kernel_rfl
          case h2_4wf_8 => kernel_rfl
          case h3_4wf_8 => rfl
          case h4_4wf_8 => exact map3 _ _ _ _ _ _ _ e31 e33 e35
          case h5_4wf_8 => exact HCo.out u
        · intro A u8 listed hh hall
          have hA := hh.frame
          have HU := hid hh.grown
          obtain ⟨x28, hx28⟩ : ∃ x, A.eval (.tmp 28) = x := ⟨_, rfl⟩
          have f28 : (fun v _ => v = (Value.slice (some ⟨ga, 0, none⟩) n cap)) x28 u8 := by rw [← hx28]; exact hh.got 0 _ 28 rfl rfl (hall 0 (by decide))
          obtain ⟨x29, hx29⟩ : ∃ x, A.eval (.tmp 29) = x := ⟨_, rfl⟩
          have f29 : (fun v _ => v = (Value.int .i64 (k : Nat))) x29 u8 := by rw [← hx29]; exact hh.got 1 _ 29 rfl rfl (hall 1 (by decide))
          obtain ⟨x30, hx30⟩ : ∃ x, A.eval (.tmp 30) = x := ⟨_, rfl⟩
          have f30 : (fun v _ => v = (Value.pointer (some ⟨ga, k * 19, none⟩))) x30 u8 := by rw [← hx30]; exact hh.got 2 _ 30 rfl rfl (hall 2 (by decide))
          obtain ⟨x31, hx31⟩ : ∃ x, A.eval (.tmp 31) = x := ⟨_, rfl⟩
          have f31 : (fun v _ => v = (Value.agg K.toArray)) x31 u8 := by rw [← hx31]; exact hh.got 3 _ 31 rfl rfl (hall 3 (by decide))
          obtain ⟨x32, hx32⟩ : ∃ x, A.eval (.tmp 32) = x := ⟨_, rfl⟩
          have f32 : (fun v _ => v = (Value.pointer (some ⟨p3, 1, none⟩))) x32 u8 := by rw [← hx32]; exact hh.got 4 _ 32 rfl rfl (hall 4 (by decide))
          obtain ⟨x33, hx33⟩ : ∃ x, A.eval (.tmp 33) = x := ⟨_, rfl⟩
          have f33 : (fun v _ => v = (Value.int .u64 (g : Nat))) x33 u8 := by rw [← hx33]; exact hh.got 5 _ 33 rfl rfl (hall 5 (by decide))
          obtain ⟨x34, hx34⟩ : ∃ x, A.eval (.tmp 34) = x := ⟨_, rfl⟩
          have f34 : (fun v _ => v = (Value.pointer (some ⟨p3, 2, none⟩))) x34 u8 := by rw [← hx34]; exact hh.got 6 _ 34 rfl rfl (hall 6 (by decide))
          obtain ⟨x35, hx35⟩ : ∃ x, A.eval (.tmp 35) = x := ⟨_, rfl⟩
          have f35 : (fun v _ => v = (Value.agg J.toArray)) x35 u8 := by rw [← hx35]; exact hh.got 7 _ 35 rfl rfl (hall 7 (by decide))
          obtain ⟨x36, hx36⟩ : ∃ x, A.eval (.tmp 36) = x := ⟨_, rfl⟩
          have f36 : (fun v _ => v = (Value.bool false)) x36 u8 := by rw [← hx36]; exact hh.got 8 _ 36 rfl rfl (hall 8 (by decide))
          dsimp only [wrote, List.foldl] at hA
          rw [hx28, hx29, hx30, hx31, hx32, hx33, hx34, hx35, hx36] at hA
          clear hh hall hx28 hx29 hx30 hx31 hx32 hx33 hx34 hx35 hx36
          replace f28 := (f28 : x28 = (.slice (some ⟨ga, 0, none⟩) n cap))
          subst f28
          replace f29 := (f29 : x29 = (.int .i64 (k : Nat)))
          subst f29
          replace f30 := (f30 : x30 = (.pointer (some ⟨ga, k * 19, none⟩)))
          subst f30
          replace f31 := (f31 : x31 = (.agg K.toArray))
          subst f31
          replace f32 := (f32 : x32 = (.pointer (some ⟨p3, 1, none⟩)))
          subst f32
          replace f33 := (f33 : x33 = (.int .u64 (g : Nat)))
          subst f33
          replace f34 := (f34 : x34 = (.pointer (some ⟨p3, 2, none⟩)))
          subst f34
          replace f35 := (f35 : x35 = (.agg J.toArray))
          subst f35
          replace f36 := (f36 : x36 = (.bool false))
          subst f36
          subst hA
          show wpList _ _ _ [] _ _
          unfold wpList
          simp only [Act.put, List.setIfInBounds_toArray, List.set_cons_succ, List.set_cons_zero]
          have HUz := hid (gtrans (gdrew _ _ _) HU.out)
          go_wp2_with fail
          go_roundw
          case rel => exact ⟨k + 1, by go_num, by have := HKn.out; omega, HRn, hid (gtrans HX.out HUz.out)⟩
          case measure => have := HKn.out; simp [intOf]; omega
    · as_aux_lemma =>
      have hlt' : ¬ (k : Int) < (n : Int) := by omega
      have HRr : Hid (R0 = l ++ [Ky.mk false g ID ex]) := hid (by rw [HR.out, List.take_of_length_le (by rw [HN.out]; omega), List.drop_of_length_le (by rw [HN.out]; omega), HAe.out])
      have HVr := hid (HV.out.keep HGw.out)
      obtain ⟨y1, y18⟩ := HC.out wr p3 HB3.out
      have HIx := hid (HIr.out wr p3 HB3.out)
      obtain ⟨NK, HNK⟩ : ∃ x, Hid (Ky.mk false g ID ex = x) := ⟨_, hid rfl⟩
      rw [HNK.out] at HBu HNo HRr
      have HN16 := hid HNo.out.2.1
      have HLb : Hid (l.length + 1 ≤ 1099511627776) := hid (by have := HLl.out; omega)
      clear HR HAk HCo0 HC HIr HA hk hlt
      go_wp2_with (first
        | (with_reducible refine wpList_load_part (by with_unfolding_all rfl) 27 _ (by with_unfolding_all rfl) p3 2 J _ (by with_unfolding_all rfl) HIx.out Try.underlying27 (by with_unfolding_all rfl) HJL.out ?_)
        | (with_reducible refine wpList_build_of (by with_unfolding_all rfl) 35 _ (by with_unfolding_all rfl) [(0, .bool false), (1, .int .u64 (g : Int)), (2, .agg J.toArray), (3, .int .i64 ex)] (by with_unfolding_all rfl) NK.cells HBu.out ?_)
        | ((with_reducible refine wpList_slice1N (by with_unfolding_all rfl) _ (by with_unfolding_all rfl) NK HN16.out (by with_unfolding_all rfl) ?_); intro z1 BB ss gg; have HZB := hid (one_rdN HNo.out BB (fun x => x = wr.heap.size) rfl); have HZ1 := hid gg; have HVz := hid (HVr.out.keep gg); clear BB ss gg)
        | (at_builtin; refine wpList_append_knowns rfl _ _ rfl B (fun x => x = wr.heap.size) l [NK] HVz.out HZB.out HLb.out (Nat.le_trans HBw.out (Nat.le_trans HGw.out.size HZ1.out.size)) ?_; intro v4 z4 hO4 hg4; have HO4 := hid hO4; have HG4 : Hid (z1.grownBy z4 (Value.slice a n cap).ownBlock) := hid hg4; clear hO4 hg4))
      go_ret
      exact ⟨v4, rfl, by rw [HRr.out]; exact HO4.out, gtrans (gsome (gtrans HGw.out HZ1.out) _) HG4.out⟩
end Go.Proofs.Ytlgjmhemgfjgnaa
