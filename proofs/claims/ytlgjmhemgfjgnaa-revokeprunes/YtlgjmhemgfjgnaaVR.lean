/- RevokePrunes' walk. -/
import Derived.Test.YtlgjmhemgfjgnaaVQ
import Derived.Test.YtlgjmhemgfjgnaaRvQ
import Derived.Deep.CutRange
import Derived.Deep.CutBlock
namespace Go.Proofs.Ytlgjmhemgfjgnaa
open Go Go.RowKit
open Go.RowKit (wrap32 wrap64)

/-- the list behind so many Adds and Kills. -/
def ltS (T : Nat → St) : Nat → List Ky
  | 0 => []
  | i + 1 => if (T i).dO = 1 then stepL (ltS T i) (T i) else if (T i).dO = 2 then stepL (ltS T i) (T i) else ltS T i
theorem ltS_ok (T : Nat → St) : ∀ i, chk (ltS T i) = true ∧ (ltS T i).length ≤ i
  | 0 => ⟨rfl, Nat.le_refl _⟩
  | i + 1 => by
    obtain ⟨h1, h2⟩ := ltS_ok T i
    unfold ltS
    split
    · rename_i h
      unfold stepL
      rw [if_pos h]
      exact ⟨chk_add h1 _ _ _, Nat.le_trans (len_add _ _ _ _) (by omega)⟩
    · split
      · rename_i h h'
        unfold stepL
        rw [if_neg h, if_pos h']
        exact ⟨chk_kill h1 _ _, Nat.le_trans (len_kill _ _ _) (by omega)⟩
      · exact ⟨h1, by omega⟩
theorem idx22 (b o n c i : Nat) (h : i < n) (u : World) : (Instr.indexAt 22 (.slice (some ⟨b, o, none⟩) n c) (.int .i64 (i : Nat))).run Try.prog u = .ok (.pointer (some ⟨b, o + i * 20, none⟩)) u := by
  have h0 : ¬ ((i : Int) < 0) := by omega
  have h1 : (i : Int) < (n : Int) := by omega
  have hs : (sizeOf (Try.prog.elem 22)).run Try.prog u = .ok 20 u := by kernel_rfl
  go_simp
theorem neq4 (p : Bool) {x y : Operand} (u : World) : (do eqGuard .neq 4 x y (.bool p) (.bool p); binOp .neq 4 (.bool p) (.bool p) : Sem Value).run Try.prog u = .ok (.bool false) u := by
  cases p <;> kernel_rfl
set_option maxRecDepth 100000 in
set_option maxHeartbeats 6400000 in
theorem prunes_walk (w : World) (a : Option Addr) (b o n c : Nat) (T : Nat → St) (hs : ArgS w a b o n T) (hn : n ≤ 140737488355328) :
    Calls Try.prog 5 #[.slice a n c] w fun e w' => e = .returned (.bool true) ∧ w.grownBy w' none := by
  have HS := hid hs
  have HA : Hid (0 < n → a = some ⟨b, o, none⟩) := hid (fun h => (hs.1 h).1)
  have HSt : Hid (∀ (u : World) (v : Value) (B i : Nat), OutK B u v (ltS T i) → i < n → i ≤ 40 → Calls Try.prog 16 #[v, .agg (T i).cells.toArray] u fun e w' => ∃ a' c', e = .returned (.slice a' (stepL (ltS T i) (T i)).length c') ∧ OutK u.heap.size w' (.slice a' (stepL (ltS T i) (T i)).length c') (stepL (ltS T i) (T i)) ∧ u.grownBy w' none) := hid (fun u v B i h hi h40 => by
    have := step_any u v _ (ltS T i) (T i) h.rd (by have := (ltS_ok T i).2; omega) (hs.2 i hi).2
    refine this.mono ?_
    rintro e w' ⟨v', he, ho, hg⟩
    obtain ⟨a, c, rfl⟩ := ho.form rfl
    exact ⟨a, c, he, ho, hg⟩)
  have HCp : Hid (∀ (u : World) (B : Nat) (v : Value) (m : List Ky), OutK B u v m → m.length ≤ 40 → Calls Try.prog 19 #[v] u fun e w' => ∃ v', e = .returned v' ∧ OutK 0 w' v' m ∧ u.grownBy w' none) := hid (fun u B v m h hm => (copyKeys_any u v _ m h.rd (by omega)).mono fun e w' ⟨v', he, ho, hg⟩ => ⟨v', he, ho.below (Nat.zero_le _), hg⟩)
  have HPr : Hid (∀ (u : World) (B : Nat) (v : Value) (m : List Ky) (t : Int), OutK B u v m → m.length ≤ 41 → Calls Try.prog 10 #[v, .int .i64 t] u fun e w' => ∃ v', e = .returned v' ∧ OutK 0 w' v' (prnL m t) ∧ u.grownBy w' none) := hid (fun u B v m t h hm => (prune_any u v _ m t h.rd (by omega)).mono fun e w' ⟨v', he, ho, hg⟩ => ⟨v', he, ho.below (Nat.zero_le _), hg⟩)
  have HEq : Hid (∀ (u : World) (B C : Nat) (v1 v2 : Value) (m : List Ky), OutK B u v1 m → OutK C u v2 m → m.length ≤ 40 → Calls Try.prog 18 #[v1, v2] u fun e w' => e = .returned (.bool true) ∧ u.grownBy w' none) := hid (fun u B C v1 v2 m h1 h2 hm => by
    have := eqKeys_any u v1 v2 _ _ m m h1.rd h2.rd (by omega)
    rw [decide_eq_true rfl] at this
    exact this)
  have HKl : Hid (∀ (u : World) (B : Nat) (v : Value) (m : List Ky) (g : Nat) (t : Int), OutK B u v m → m.length ≤ 40 → g < 18446744073709551616 → -9223372036854775808 ≤ t ∧ t ≤ 9223372036854775807 → Calls Try.prog 8 #[v, .int .u64 g, .int .i64 t] u fun e w' => ∃ v', e = .returned v' ∧ OutK 0 w' v' (killL m g t) ∧ u.grownBy w' none) := hid (fun u B v m g t h hm hg ht => (kill_any u v _ m g t h.rd (by omega) hg ht).mono fun e w' ⟨v', he, ho, hg⟩ => ⟨v', he, ho.below (Nat.zero_le _), hg⟩)
  have HHs : Hid (∀ (u : World) (B : Nat) (v : Value) (m : List Ky) (g : Nat) (id : List UInt8), OutK B u v m → m.length ≤ 41 → id.length = 16 → Calls Try.prog 14 #[v, .int .u64 g, .agg (Lib.byteCells id).toArray] u fun e w' => e = .returned (.bool (hasL m g id)) ∧ u.grownBy w' none) := hid (fun u B v m g id h hm hi => has_any u v _ m g id h.rd (by omega) hi)
  have HWl : Hid (∀ (u : World) (B : Nat) (v : Value) (m : List Ky) (g : Nat), OutK B u v m → m.length ≤ 40 → Calls Try.prog 20 #[v, .int .u64 g] u fun e w' => e = .returned (.bool (wholeIn m g)) ∧ u.grownBy w' none) := hid (fun u B v m g h hm => whole_any u v _ m g h.rd (by omega))
  have HWk : Hid (∀ u : World, Calls Try.prog 15 #[] u fun e w' => e = .returned (.bool true) ∧ u.grownBy w' none) := hid (fun u => wakes_any u)
  clear hs
  go_enter Try.func5, Try.ntmps5
  go_upto_block 0 with fail
  go_cut [3, 4] from 15 to 44 (fun lv s4 wc => ∃ (i : Nat) (la : Option Addr) (lc : Nat), i ≤ 40 ∧ lv = .slice la (ltS T i).length lc ∧ Hid (OutK 0 wc (.slice la (ltS T i).length lc) (ltS T i)) ∧ Hid (w.grownBy wc none))
  case first =>
    clear HCp HPr HEq HKl HHs HWl HWk
    go_wp2_with fail
    go_loopw [3, 4] (fun lv iv wr => ∃ (i : Nat) (la : Option Addr) (lc : Nat), iv = .int .i64 i ∧ i ≤ 40 ∧ i ≤ n ∧ lv = .slice la (ltS T i).length lc ∧ Hid (OutK 0 wr (.slice la (ltS T i).length lc) (ltS T i)) ∧ Hid (w.grownBy wr none)) (fun _ iv _ => 40 - (intOf iv).toNat)
    case atStart => exact ⟨0, none, 0, rfl, by decide, Nat.zero_le _, rfl, hid (OutK.nil _ _), hid (grefl _ _)⟩
    case round =>
      obtain ⟨i, la, lc, rfl, hi40, hin, rfl, HO, HG⟩ := hrel
      by_cases hlt : i < n
      · have hlt' : (i : Int) < (n : Int) := by omega
        by_cases h40 : i < 40
        · have h40' : (i : Int) < 40 := by omega
          obtain rfl : a = some ⟨b, o, none⟩ := HA.out (by omega)
          have y0 := ((HS.out.keep HG.out).at_ i hlt).1
          obtain ⟨hrr, hok⟩ := (HS.out.keep HG.out).2 i hlt
          have HRr := hid hrr
          have HKs : Hid ((Try.prog.info? 29).map (·.size) = some (T i).cells.length) := hid (by rw [St.cells_length hok.2.1]; exact Try.size29)
          have HSi := hid (HSt.out wr _ _ i HO.out hlt hi40)
          have HLt : Hid (ltS T (i + 1) = if (T i).dO = 1 then stepL (ltS T i) (T i) else if (T i).dO = 2 then stepL (ltS T i) (T i) else ltS T i) := hid rfl
          obtain ⟨D, hD⟩ : ∃ x, (T i).dO = x := ⟨_, rfl⟩
          obtain ⟨K, HK⟩ : ∃ x, Hid ((T i).cells = x) := ⟨_, hid rfl⟩
          obtain ⟨SL, HSL⟩ : ∃ x, Hid (stepL (ltS T i) (T i) = x) := ⟨_, hid rfl⟩
          obtain ⟨L, HL⟩ : ∃ x, Hid (ltS T i = x) := ⟨_, hid rfl⟩
          rw [hD, HSL.out, HL.out] at HLt
          rw [hD] at y0
          rw [HK.out] at HRr HKs HSi
          rw [HSL.out, HL.out] at HSi
          rw [HL.out] at HO ⊢
          have HIj := hid (show i + 1 ≤ 40 ∧ i + 1 ≤ n by omega)
          clear hrr hok hD HK HSL HL hi40 hin hlt h40
          by_cases h1 : D = 1
          · as_aux_lemma =>
            subst h1
            have HN : Hid (ltS T (i + 1) = SL) := hid (by rw [HLt.out, if_pos rfl])
            clear HLt
            go_wp2_with (first
              | (with_reducible refine wpList_load_part (by with_unfolding_all rfl) 29 _ (by with_unfolding_all rfl) b (o + i * 20) K _ (by with_unfolding_all rfl) HRr.out Try.underlying29 (by with_unfolding_all rfl) HKs.out ?_)
              | (go_at_call 16; (with_reducible refine HSi.out.mono ?_); rintro e w4 ⟨a4, c4, rfl, ho4, hg4⟩; have HO4 := hid (ho4.below (Nat.zero_le _)); have HG4 := hid (gtrans HG.out hg4); clear ho4 hg4))
            go_roundw
            case rel => exact ⟨i + 1, a4, c4, by go_num, HIj.out.1, HIj.out.2, by rw [HN.out], by rw [HN.out]; exact HO4, HG4⟩
            case measure => have := HIj.out; simp [intOf]; omega
          · have h1' : (D == 1) = false := beq_eq_false_iff_ne.2 h1
            by_cases h2 : D = 2
            · as_aux_lemma =>
              subst h2
              have HN : Hid (ltS T (i + 1) = SL) := hid (by rw [HLt.out, if_neg (by decide), if_pos rfl])
              clear HLt
              go_wp2_with (first
                | (with_reducible refine wpList_load_part (by with_unfolding_all rfl) 29 _ (by with_unfolding_all rfl) b (o + i * 20) K _ (by with_unfolding_all rfl) HRr.out Try.underlying29 (by with_unfolding_all rfl) HKs.out ?_)
                | (go_at_call 16; (with_reducible refine HSi.out.mono ?_); rintro e w4 ⟨a4, c4, rfl, ho4, hg4⟩; have HO4 := hid (ho4.below (Nat.zero_le _)); have HG4 := hid (gtrans HG.out hg4); clear ho4 hg4))
              go_roundw
              case rel => exact ⟨i + 1, a4, c4, by go_num, HIj.out.1, HIj.out.2, by rw [HN.out], by rw [HN.out]; exact HO4, HG4⟩
              case measure => have := HIj.out; simp [intOf]; omega
            · as_aux_lemma =>
              have h2' : (D == 2) = false := beq_eq_false_iff_ne.2 h2
              have HN : Hid (ltS T (i + 1) = L) := hid (by rw [HLt.out, if_neg h1, if_neg h2])
              clear HLt
              go_wp2_with fail
              go_roundw
              case rel => exact ⟨i + 1, la, lc, by go_num, HIj.out.1, HIj.out.2, by rw [HN.out], by rw [HN.out]; exact HO, HG⟩
              case measure => have := HIj.out; simp [intOf]; omega
        · have h40' : ¬ (i : Int) < 40 := by omega
          have HM : Hid (∃ (j : Nat) (la' : Option Addr) (lc' : Nat), j ≤ 40 ∧ Value.slice la (ltS T i).length lc = .slice la' (ltS T j).length lc' ∧ Hid (OutK 0 wr (.slice la' (ltS T j).length lc') (ltS T j)) ∧ Hid (w.grownBy wr none)) := hid ⟨i, la, lc, hi40, rfl, HO, HG⟩
          clear hi40 hin hlt h40
          go_wp2_with fail
          go_meet
          case rel => first | exact HM.out | (obtain ⟨E, e1, e2, e3, _⟩ := HM.out; exact ⟨E, e1, e2, e3, rfl⟩)
      · have hlt' : ¬ (i : Int) < (n : Int) := by omega
        have HM : Hid (∃ (j : Nat) (la' : Option Addr) (lc' : Nat), j ≤ 40 ∧ Value.slice la (ltS T i).length lc = .slice la' (ltS T j).length lc' ∧ Hid (OutK 0 wr (.slice la' (ltS T j).length lc') (ltS T j)) ∧ Hid (w.grownBy wr none)) := hid ⟨i, la, lc, hi40, rfl, HO, HG⟩
        clear hi40 hin hlt
        go_wp2_with fail
        go_meet
        case rel => first | exact HM.out | (obtain ⟨E, e1, e2, e3, _⟩ := HM.out; exact ⟨E, e1, e2, e3, rfl⟩)
  case rest =>
    obtain ⟨i, la, lc, hi40, rfl, HO, HG⟩ := hcut
    obtain ⟨wr, hwr⟩ : ∃ x, x = wc := ⟨_, rfl⟩
    subst hwr
    have HI40 : Hid ((ltS T i).length ≤ 40) := hid (by have := (ltS_ok T i).2; omega)
    clear hi40
    obtain ⟨L, HL⟩ : ∃ x, Hid (ltS T i = x) := ⟨_, hid rfl⟩
    have HLk : Hid (chk L = true ∧ L.length ≤ 40) := hid (by rw [← HL.out]; exact ⟨(ltS_ok T i).1, HI40.out⟩)
    rw [HL.out] at HO ⊢
    obtain ⟨ln, HLN⟩ : ∃ x, Hid (L.length = x) := ⟨_, hid rfl⟩
    rw [HLN.out] at HO ⊢
    have hln40 : (ln : Int) ≤ 40 := by have := HLk.out.2; rw [HLN.out] at this; omega
    clear HL HI40 HSt
    obtain ⟨w0, hw0⟩ : ∃ x, x = wr := ⟨_, rfl⟩
    subst hw0
    go_wp2_with fail
    go_loopw [5] (fun iv wx => ∃ j : Nat, iv = .int .i64 j ∧ 1 ≤ j ∧ j ≤ 20 ∧ Hid (w0.grownBy wx none)) (fun iv _ => 20 - (intOf iv).toNat)
    case atStart => exact ⟨1, rfl, Nat.le_refl _, by decide, hid (grefl _ _)⟩
    case round =>
      obtain ⟨j, rfl, hj1, hj20, HX⟩ := hrel
      obtain ⟨wx, hwx⟩ : ∃ x, x = wr := ⟨_, rfl⟩
      subst hwx
      by_cases hjn : j < n
      · have hjn' : (j : Int) < (n : Int) := by omega
        by_cases hj : j < 20
        · have hj' : (j : Int) < 20 := by omega
          obtain rfl : a = some ⟨b, o, none⟩ := HA.out (by omega)
          obtain ⟨m, hm⟩ : ∃ m, m + 1 = j := ⟨j - 1, by omega⟩
          have HGx := hid (gtrans HG.out HX.out)
          have hsub : IntKind.i64.wrap ((j : Int) - 1) = (m : Int) := by rw [IntKind.wrap_i64]; omega
          have hsub2 : wrap64 ((j : Int) - 1) = (m : Int) := by unfold wrap64; omega
          have hmn : m < n := by omega
          have hmn' : (m : Int) < (n : Int) := by omega
          have ya := ((HS.out.keep HGx.out).at_ m hmn).2.2.1
          have yb := ((HS.out.keep HGx.out).at_ j hjn).2.2.1
          have HYg : Hid (∀ u, wx.grownBy u none → u.cell? ⟨b, o + j * 20 + 1, none⟩ = some (.int .u64 (T j).g)) := hid (fun u hu => ((HS.out.keep (gtrans HGx.out hu)).at_ j hjn).2.1)
          have HYi : Hid (∀ u, wx.grownBy u none → u.rangeAt b (o + j * 20 + 2) (Lib.byteCells (T j).id)) := hid (fun u hu => ((HS.out.keep (gtrans HGx.out hu)).at_ j hjn).2.2.2)
          obtain ⟨hg64, hid16, hexj, -⟩ := (HS.out.2 j hjn).2
          obtain ⟨-, -, hexm, -⟩ := (HS.out.2 m hmn).2
          have HJL : Hid ((Try.prog.info? 27).map (·.size) = some (Lib.byteCells (T j).id).length) := hid (by rw [byteCells_length, hid16]; exact Try.size27)
          have HI16 := hid hid16
          obtain ⟨ea, hea⟩ : ∃ x, (T m).ex = x := ⟨_, rfl⟩
          obtain ⟨eb, heb⟩ : ∃ x, (T j).ex = x := ⟨_, rfl⟩
          obtain ⟨gg, hgg⟩ : ∃ x, (T j).g = x := ⟨_, rfl⟩
          obtain ⟨ID, HID⟩ : ∃ x, Hid ((T j).id = x) := ⟨_, hid rfl⟩
          rw [hea] at ya hexm
          rw [heb] at yb hexj
          rw [hgg] at HYg hg64
          rw [HID.out] at HYi HJL HI16
          have HG64 := hid hg64
          have HXY := hid (show (1 ≤ j ∧ j + 1 ≤ 20) from ⟨hj1, by omega⟩)
          have HJn := hid hjn
          have HOx := hid (HO.out.keep HX.out)
          clear hea heb hgg HID hid16 hj1 hj20 hj hjn hmn hm hg64
          have HEa := hid hexm
          have HEj := hid hexj
          clear hexm hexj
          go_upto_if 69 with fail
          go_cut [8] from 45 to 155 (fun v wc => ∃ E : Int, v = .int .i64 E ∧ Hid (mx eb ea = E ∧ mx ea eb = E) ∧ Hid (-9223372036854775808 ≤ E ∧ E ≤ 9223372036854775807) ∧ wx = wc)
          case first =>
            by_cases hab : ea < eb
            · have HM : Hid (∃ E : Int, Value.int .i64 eb = .int .i64 E ∧ Hid (mx eb ea = E ∧ mx ea eb = E) ∧ Hid (-9223372036854775808 ≤ E ∧ E ≤ 9223372036854775807) ∧ True) := hid ⟨eb, rfl, hid ⟨by unfold mx; rw [if_pos hab], by unfold mx; rw [if_neg (by omega)]⟩, HEj, trivial⟩
              go_wp2_with fail
              go_meet
              case rel => first | exact HM.out | (obtain ⟨E, e1, e2, e3, _⟩ := HM.out; exact ⟨E, e1, e2, e3, rfl⟩)
            · have HM : Hid (∃ E : Int, Value.int .i64 ea = .int .i64 E ∧ Hid (mx eb ea = E ∧ mx ea eb = E) ∧ Hid (-9223372036854775808 ≤ E ∧ E ≤ 9223372036854775807) ∧ True) := hid ⟨ea, rfl, hid ⟨by unfold mx; rw [if_neg hab], by unfold mx; split <;> omega⟩, HEa, trivial⟩
              go_wp2_with fail
              go_meet
              case rel => first | exact HM.out | (obtain ⟨E, e1, e2, e3, _⟩ := HM.out; exact ⟨E, e1, e2, e3, rfl⟩)
          case rest =>
            obtain ⟨E, rfl, HMx, HEb, hwc⟩ := hcut
            subst hwc
            clear HEa HEj
            as_aux_lemma =>
            have HPa : Hid (prnL (prnL L ea) eb = prnL L E) := hid (by rw [prn_prn HLk.out.1, HMx.out.1])
            have HPb : Hid (prnL (prnL L eb) ea = prnL L E) := hid (by rw [prn_prn HLk.out.1, HMx.out.2])
            have HPL : Hid ((prnL L E).length ≤ 40) := hid (Nat.le_trans (len_prn _ _) HLk.out.2)
            have HL41 : Hid (L.length ≤ 41) := hid (by have := HLk.out.2; omega)
            have HL41a : Hid ((prnL L ea).length ≤ 41) := hid (by have := HLk.out.2; have := len_prn L ea; omega)
            have HL41b : Hid ((prnL L eb).length ≤ 41) := hid (by have := HLk.out.2; have := len_prn L eb; omega)
            have HOx_0 := HOx
            have HU_0 := hid (grefl wx none)
            go_upto_region 19 with (first
              | (go_at_call 18; (with_reducible refine (HEq.out _ _ _ _ _ _ (by have h := HVx_9.out; rw [HPa.out] at h; exact h) HVz_9.out HPL.out).mono ?_); rintro e s10 ⟨rfl, gg⟩; have HOx_10 := hid (HOx_9.out.keep gg); have HVa_10 := hid (HVa_9.out.keep gg); have HVb_10 := hid (HVb_9.out.keep gg); have HVx_10 := hid (HVx_9.out.keep gg); have HVc_10 := hid (HVc_9.out.keep gg); have HVd_10 := hid (HVd_9.out.keep gg); have HVy_10 := hid (HVy_9.out.keep gg); have HVe_10 := hid (HVe_9.out.keep gg); have HVz_10 := hid (HVz_9.out.keep gg);  have HU_10 := hid (gtrans HU_9.out gg); clear gg)
              | (go_at_call 10; (with_reducible refine (HPr.out _ _ _ _ _ HVe_8.out HL41.out).mono ?_); rintro e s9 ⟨vz, rfl, oo, gg⟩; have HOx_9 := hid (HOx_8.out.keep gg); have HVa_9 := hid (HVa_8.out.keep gg); have HVb_9 := hid (HVb_8.out.keep gg); have HVx_9 := hid (HVx_8.out.keep gg); have HVc_9 := hid (HVc_8.out.keep gg); have HVd_9 := hid (HVd_8.out.keep gg); have HVy_9 := hid (HVy_8.out.keep gg); have HVe_9 := hid (HVe_8.out.keep gg); have HVz_9 := hid oo; have HU_9 := hid (gtrans HU_8.out gg); clear gg oo)
              | (go_at_call 19; (with_reducible refine (HCp.out _ _ _ _ HOx_7.out HLk.out.2).mono ?_); rintro e s8 ⟨ve, rfl, oo, gg⟩; have HOx_8 := hid (HOx_7.out.keep gg); have HVa_8 := hid (HVa_7.out.keep gg); have HVb_8 := hid (HVb_7.out.keep gg); have HVx_8 := hid (HVx_7.out.keep gg); have HVc_8 := hid (HVc_7.out.keep gg); have HVd_8 := hid (HVd_7.out.keep gg); have HVy_8 := hid (HVy_7.out.keep gg); have HVe_8 := hid oo; have HU_8 := hid (gtrans HU_7.out gg); clear gg oo)
              | (go_at_call 18; (with_reducible refine (HEq.out _ _ _ _ _ _ (by have h := HVx_6.out; rw [HPa.out] at h; exact h) (by have h := HVy_6.out; rw [HPb.out] at h; exact h) HPL.out).mono ?_); rintro e s7 ⟨rfl, gg⟩; have HOx_7 := hid (HOx_6.out.keep gg); have HVa_7 := hid (HVa_6.out.keep gg); have HVb_7 := hid (HVb_6.out.keep gg); have HVx_7 := hid (HVx_6.out.keep gg); have HVc_7 := hid (HVc_6.out.keep gg); have HVd_7 := hid (HVd_6.out.keep gg); have HVy_7 := hid (HVy_6.out.keep gg);  have HU_7 := hid (gtrans HU_6.out gg); clear gg)
              | (go_at_call 10; (with_reducible refine (HPr.out _ _ _ _ _ HVd_5.out HL41b.out).mono ?_); rintro e s6 ⟨vy, rfl, oo, gg⟩; have HOx_6 := hid (HOx_5.out.keep gg); have HVa_6 := hid (HVa_5.out.keep gg); have HVb_6 := hid (HVb_5.out.keep gg); have HVx_6 := hid (HVx_5.out.keep gg); have HVc_6 := hid (HVc_5.out.keep gg); have HVd_6 := hid (HVd_5.out.keep gg); have HVy_6 := hid oo; have HU_6 := hid (gtrans HU_5.out gg); clear gg oo)
              | (go_at_call 10; (with_reducible refine (HPr.out _ _ _ _ _ HVc_4.out HL41.out).mono ?_); rintro e s5 ⟨vd, rfl, oo, gg⟩; have HOx_5 := hid (HOx_4.out.keep gg); have HVa_5 := hid (HVa_4.out.keep gg); have HVb_5 := hid (HVb_4.out.keep gg); have HVx_5 := hid (HVx_4.out.keep gg); have HVc_5 := hid (HVc_4.out.keep gg); have HVd_5 := hid oo; have HU_5 := hid (gtrans HU_4.out gg); clear gg oo)
              | (go_at_call 19; (with_reducible refine (HCp.out _ _ _ _ HOx_3.out HLk.out.2).mono ?_); rintro e s4 ⟨vc, rfl, oo, gg⟩; have HOx_4 := hid (HOx_3.out.keep gg); have HVa_4 := hid (HVa_3.out.keep gg); have HVb_4 := hid (HVb_3.out.keep gg); have HVx_4 := hid (HVx_3.out.keep gg); have HVc_4 := hid oo; have HU_4 := hid (gtrans HU_3.out gg); clear gg oo)
              | (go_at_call 10; (with_reducible refine (HPr.out _ _ _ _ _ HVb_2.out HL41a.out).mono ?_); rintro e s3 ⟨vx, rfl, oo, gg⟩; have HOx_3 := hid (HOx_2.out.keep gg); have HVa_3 := hid (HVa_2.out.keep gg); have HVb_3 := hid (HVb_2.out.keep gg); have HVx_3 := hid oo; have HU_3 := hid (gtrans HU_2.out gg); clear gg oo)
              | (go_at_call 10; (with_reducible refine (HPr.out _ _ _ _ _ HVa_1.out HL41.out).mono ?_); rintro e s2 ⟨vb, rfl, oo, gg⟩; have HOx_2 := hid (HOx_1.out.keep gg); have HVa_2 := hid (HVa_1.out.keep gg); have HVb_2 := hid oo; have HU_2 := hid (gtrans HU_1.out gg); clear gg oo)
              | (go_at_call 19; (with_reducible refine (HCp.out _ _ _ _ HOx_0.out HLk.out.2).mono ?_); rintro e s1 ⟨va, rfl, oo, gg⟩; have HOx_1 := hid (HOx_0.out.keep gg); have HVa_1 := hid oo; have HU_1 := hid (gtrans HU_0.out gg); clear gg oo))
            have HX9 : Hid (OutK 0 s10 vx (prnL L E)) := hid (by rw [← HPa.out]; exact HVx_10.out)
            have HO9 := HOx_10
            have HU9 := HU_10
            clear HVa_1 HVa_2 HVa_3 HVa_4 HVa_5 HVa_6 HVa_7 HVa_8 HVa_9 HVa_10 HVb_2 HVb_3 HVb_4 HVb_5 HVb_6 HVb_7 HVb_8 HVb_9 HVb_10 HVc_4 HVc_5 HVc_6 HVc_7 HVc_8 HVc_9 HVc_10 HVd_5 HVd_6 HVd_7 HVd_8 HVd_9 HVd_10 HVe_8 HVe_9 HVe_10 HVy_6 HVy_7 HVy_8 HVy_9 HVy_10 HVz_9 HVz_10 HVx_3 HVx_4 HVx_5 HVx_6 HVx_7 HVx_8 HVx_9 HVx_10 HOx_0 HOx_1 HOx_2 HOx_3 HOx_4 HOx_5 HOx_6 HOx_7 HOx_8 HOx_9 HOx_10 HU_0 HU_1 HU_2 HU_3 HU_4 HU_5 HU_6 HU_7 HU_8 HU_9 HU_10 HL41a HL41b HPa HPb HCp HMx
            obtain ⟨hoL, a9, b9, off9, c9, hv9, hc9, Ha9, Hc9⟩ := HO9.out.rd.open
            injection hv9 with e1 e2 e3
            have HA9 : Hid (0 < ln → la = some ⟨b9, off9, none⟩) := hid (fun h => by rw [e1]; exact (Ha9.out (by rw [HLN.out]; exact h)).1)
            have HOL := hid hoL
            have HNil : Hid (OutK s10.heap.size s10 (.slice none 0 0) ((L.take 0).filter (fun r => decide (E < r.ex)))) := hid (by rw [List.take_zero, List.filter_nil]; exact OutK.nil _ _)
            clear e1 e2 e3 hc9 Ha9 hoL
            go_wp2_with fail
            go_loopw [11, 12] (fun ww kv wy => ∃ (k : Nat) (wv : Value), wv = ww ∧ kv = .int .i64 k ∧ k ≤ ln ∧ Hid (OutK s10.heap.size wy wv ((L.take k).filter (fun r => decide (E < r.ex)))) ∧ Hid (s10.grownBy wy none)) (fun _ kv _ => ln - (intOf kv).toNat)
            case atStart => exact ⟨0, _, rfl, rfl, Nat.zero_le _, HNil, hid (grefl _ _)⟩
            case round =>
              obtain ⟨k, wv, rfl, rfl, hk, HW, HY⟩ := hrel
              obtain ⟨wy, hwy⟩ : ∃ x, x = wr := ⟨_, rfl⟩
              subst hwy
              by_cases hkl : k < ln
              · have hkl' : (k : Int) < (ln : Int) := by omega
                obtain rfl : la = some ⟨b9, off9, none⟩ := HA9.out (by omega)
                have hkL : k < L.length := by rw [HLN.out]; exact hkl
                obtain ⟨hrr, -⟩ := Hc9.out wy HY.out k hkL
                have hok := HOL.out _ (List.getElem_mem hkL)
                have HTk : Hid ((L.take (k + 1)).filter (fun r => decide (E < r.ex)) = if E < L[k].ex then (L.take k).filter (fun r => decide (E < r.ex)) ++ [L[k]] else (L.take k).filter (fun r => decide (E < r.ex))) := hid (by
                  rw [List.take_succ_eq_append_getElem hkL, List.filter_append]
                  split
                  · rename_i h; rw [List.filter_cons_of_pos (by simpa using h), List.filter_nil]
                  · rename_i h; rw [List.filter_cons_of_neg (by simpa using h), List.filter_nil, List.append_nil])
                have HFl : Hid (((L.take k).filter (fun r => decide (E < r.ex))).length ≤ 40) := hid (by
                  have h1 := List.length_filter_le (fun r : Ky => decide (E < r.ex)) (L.take k)
                  have h2 := HLk.out.2
                  have h3 : (L.take k).length ≤ L.length := by rw [List.length_take]; omega
                  omega)
                have y18 : wy.cell? ⟨b9, off9 + k * 19 + 18, none⟩ = some (.int .i64 L[k].ex) := hrr 18 _ (Ky.c18 hok.2.1)
                obtain ⟨q, hq⟩ : ∃ q, L[k] = q := ⟨_, rfl⟩
                rw [hq] at hrr hok HTk y18
                have HQ16 := hid hok.2.1
                have HQo := hid hok
                have HRr := hid hrr
                have HKs : Hid ((Try.prog.info? 48).map (·.size) = some q.cells.length) := hid (by rw [Ky.cells_length hok.2.1]; exact Try.size48)
                obtain ⟨FL, HFe⟩ : ∃ x, Hid ((L.take k).filter (fun r => decide (E < r.ex)) = x) := ⟨_, hid rfl⟩
                rw [HFe.out] at HW HTk HFl
                obtain ⟨qe, hqe⟩ : ∃ x, q.ex = x := ⟨_, rfl⟩
                rw [hqe] at y18 HTk
                have HKk := hid (show k + 1 ≤ ln by omega)
                clear hrr hok hq hqe HFe hkL hk hkl
                by_cases hqx : E < qe
                · as_aux_lemma =>
                  have HTp : Hid ((L.take (k + 1)).filter (fun r => decide (E < r.ex)) = FL ++ [q]) := hid (by rw [HTk.out, if_pos hqx])
                  clear HTk
                  go_wp2_with (first
                    | (with_reducible refine wpList_load_part (by with_unfolding_all rfl) 48 _ (by with_unfolding_all rfl) b9 (off9 + k * 19) q.cells _ (by with_unfolding_all rfl) HRr.out Try.underlying48 (by with_unfolding_all rfl) HKs.out ?_)
                    | ((with_reducible refine wpList_slice1 (by with_unfolding_all rfl) _ (by with_unfolding_all rfl) q HQ16.out (by with_unfolding_all rfl) ?_); intro z1 BB ss gg; have HB1 := hid (one_rd HQo.out BB (fun x => x = wy.heap.size) rfl); have HZ1 := hid gg; have HW1 := hid (HW.out.keep gg); clear BB ss gg)
                    | (at_builtin; refine wpList_append_keys rfl _ _ rfl s10.heap.size (fun x => x = wy.heap.size) FL [q] HW1.out HB1.out (by have := HFl.out; show FL.length + 1 ≤ _; omega) (Nat.le_trans HY.out.size HZ1.out.size) ?_; intro v4 z4 hO4 hg4; have HO4 := hid hO4; have HG4 := hid ((gtrans HY.out HZ1.out).andThen hg4 (fun j hj => .inl (HW1.out.block j hj))); clear hO4 hg4))
                  go_roundw
                  case rel => exact ⟨k + 1, _, rfl, by go_num, HKk.out, by rw [HTp.out]; exact HO4, HG4⟩
                  case measure => have := HKk.out; simp [intOf]; omega
                · as_aux_lemma =>
                  have HTp : Hid ((L.take (k + 1)).filter (fun r => decide (E < r.ex)) = FL) := hid (by rw [HTk.out, if_neg hqx])
                  clear HTk
                  go_wp2_with fail
                  go_roundw
                  case rel => exact ⟨k + 1, _, rfl, by go_num, HKk.out, by rw [HTp.out]; exact HW, HY⟩
                  case measure => have := HKk.out; simp [intOf]; omega
              · as_aux_lemma =>
                have hkl' : ¬ (k : Int) < (ln : Int) := by omega
                have HW9 : Hid (OutK 0 wy wv (prnL L E)) := hid (by
                  have h := HW.out
                  rw [List.take_of_length_le (by rw [HLN.out]; omega)] at h
                  have e : prnL L E = L.filter (fun r => decide (E < r.ex)) := by unfold prnL; rw [if_pos HLk.out.1]
                  rw [e]
                  exact h.below (Nat.zero_le _))
                have HXy := hid (HX9.out.keep HY.out)
                have yg := HYg.out wy (gtrans HU9.out HY.out)
                have HXl : Hid (∀ r ∈ prnL L E, E < r.ex) := hid (fun r hr => by
                  have e : prnL L E = L.filter (fun r => decide (E < r.ex)) := by unfold prnL; rw [if_pos HLk.out.1]
                  rw [e] at hr
                  simpa using (List.mem_filter.1 hr).2)
                have HXc : Hid (chk (prnL L E) = true) := hid (chk_prn _ _)
                obtain ⟨X, HXe⟩ : ∃ x, Hid (prnL L E = x) := ⟨_, hid rfl⟩
                rw [HXe.out] at HW9 HXy HXl HXc HPL
                have HKL : Hid ((killL X gg E).length ≤ 41) := hid (by have := len_kill X gg E; have := HPL.out; omega)
                have HK1 : Hid (∀ (u : World) (v : Value), OutK 0 u v (killL X gg E) → Calls Try.prog 14 #[v, .int .u64 gg, .agg (Lib.byteCells ID).toArray] u fun e w' => e = .returned (.bool true) ∧ u.grownBy w' none) := hid (fun u v h => by
                  have := HHs.out u 0 v _ gg ID h HKL.out HI16.out
                  rw [has_kill HXc.out] at this
                  exact this)
                have HK2 : Hid (∀ (u : World) (v : Value), OutK 0 u v (prnL (killL X gg E) E) → Calls Try.prog 14 #[v, .int .u64 gg, .agg (Lib.byteCells ID).toArray] u fun e w' => e = .returned (.bool (wholeIn X gg)) ∧ u.grownBy w' none) := hid (fun u v h => by
                  have := HHs.out u 0 v _ gg ID h (Nat.le_trans (len_prn _ _) HKL.out) HI16.out
                  rw [prn_kill HXc.out gg E HXl.out ID] at this
                  exact this)
                have HK3 : Hid (∀ (u : World), wy.grownBy u none → Calls Try.prog 20 #[vx, .int .u64 gg] u fun e w' => e = .returned (.bool (wholeIn X gg)) ∧ u.grownBy w' none) := hid (fun u h => HWl.out u 0 vx X gg (HXy.out.keep h) HPL.out)
                have HK4 : Hid (∀ (u : World), wy.grownBy u none → Calls Try.prog 18 #[vx, wv] u fun e w' => e = .returned (.bool true) ∧ u.grownBy w' none) := hid (fun u h => HEq.out u 0 0 vx wv X (HXy.out.keep h) (HW9.out.keep h) HPL.out)
                have HK0 : Hid (Calls Try.prog 8 #[vx, .int .u64 gg, .int .i64 E] wy fun e w' => ∃ v', e = .returned v' ∧ OutK 0 w' v' (killL X gg E) ∧ wy.grownBy w' none) := hid (HKl.out wy 0 vx X gg E HXy.out HPL.out HG64.out HEb.out)
                obtain ⟨KX, HKX⟩ : ∃ x, Hid (killL X gg E = x) := ⟨_, hid rfl⟩
                rw [HKX.out] at HK0 HK1 HK2 HKL
                have HPk : Hid (∀ (u : World) (v : Value), OutK 0 u v KX → Calls Try.prog 10 #[v, .int .i64 E] u fun e w' => ∃ v', e = .returned v' ∧ OutK 0 w' v' (prnL KX E) ∧ u.grownBy w' none) := hid (fun u v h => HPr.out u 0 v KX E h HKL.out)
                obtain ⟨J, HJ⟩ : ∃ x, Hid (Lib.byteCells ID = x) := ⟨_, hid rfl⟩
                rw [HJ.out] at HK1 HK2 HYi HJL
                obtain ⟨WL, HWLe⟩ : ∃ x, Hid (wholeIn X gg = x) := ⟨_, hid rfl⟩
                rw [HWLe.out] at HK2 HK3
                have HJn2 := HJn
                have HGy := hid (gtrans HU9.out HY.out)
                clear HKl HHs HWl HPr HEq HXe HKX HJ HWLe HW HXl HXc HKL HI16 HX9 HO9 HA9 HOL Hc9 HLN HO HOx HL41 HEb HG64 HPL
                go_upto_region 27 with (go_at_call 8; (with_reducible refine HK0.out.mono ?_); rintro e z1 ⟨vk, rfl, ok1, gg1⟩; have HKv := hid ok1; have HZ := hid gg1; clear ok1 gg1)
                refine wp_region_listX (by kernel_rfl) [fun v _ => v = vx, fun v _ => v = wv, fun v _ => v = (Value.bool true), fun v _ => v = (Value.bool false), fun v _ => v = (Value.bool false), fun v _ => v = vk, fun v _ => v = (Value.int .u64 (gg : Nat)), fun v _ => v = (Value.slice (some ⟨b, o, none⟩) n c), fun v _ => v = (Value.int .i64 (j : Nat)), fun v _ => v = (Value.pointer (some ⟨b, o + j * 20, none⟩)), fun v _ => v = (Value.pointer (some ⟨b, o + j * 20 + 2, none⟩)), fun v _ => v = (Value.agg J.toArray), fun v _ => v = (Value.bool true), fun v _ => v = (Value.bool false), fun v _ => v = (Value.bool false), fun v _ => v = (Value.bool false), fun v _ => v = vk, fun v _ => v = (Value.int .i64 E), fun v u => ∃ z, v = z ∧ OutK 0 u z (prnL KX E), fun v _ => v = (Value.int .u64 (gg : Nat)), fun v _ => v = (Value.slice (some ⟨b, o, none⟩) n c), fun v _ => v = (Value.int .i64 (j : Nat)), fun v _ => v = (Value.pointer (some ⟨b, o + j * 20, none⟩)), fun v _ => v = (Value.pointer (some ⟨b, o + j * 20 + 2, none⟩)), fun v _ => v = (Value.agg J.toArray), fun v _ => v = (Value.bool WL), fun v _ => v = vx, fun v _ => v = (Value.int .u64 (gg : Nat)), fun v _ => v = (Value.bool WL), fun v _ => v = (Value.bool false), fun v _ => v = (Value.bool false)] (none) (fun _ => none) 31 (by kernel_rfl) (by kernel_rfl) (by kernel_rfl) (by kernel_rfl) (by decide) noRow_one (fun _ => .inl rfl) ⟨fun i v u u' hki h hg => h, fun i v u u' hki h hg => h, fun i v u u' hki h hg => h, fun i v u u' hki h hg => h, fun i v u u' hki h hg => h, fun i v u u' hki h hg => h, fun i v u u' hki h hg => h, fun i v u u' hki h hg => h, fun i v u u' hki h hg => h, fun i v u u' hki h hg => h, fun i v u u' hki h hg => h, fun i v u u' hki h hg => h, fun i v u u' hki h hg => h, fun i v u u' hki h hg => h, fun i v u u' hki h hg => h, fun i v u u' hki h hg => h, fun i v u u' hki h hg => h, fun i v u u' hki h hg => h, fun i v u u' hki h hg => (by obtain ⟨z, rfl, h1⟩ := h; exact ⟨_, rfl, h1.keep hg⟩), fun i v u u' hki h hg => h, fun i v u u' hki h hg => h, fun i v u u' hki h hg => h, fun i v u u' hki h hg => h, fun i v u u' hki h hg => h, fun i v u u' hki h hg => h, fun i v u u' hki h hg => h, fun i v u u' hki h hg => h, fun i v u u' hki h hg => h, fun i v u u' hki h hg => h, fun i v u u' hki h hg => h, fun i v u u' hki h hg => h, trivial⟩ ⟨?_, ?_, ?_, ?_, ?_, ?_, ?_, ?_, ?_, ?_, ?_, ?_, ?_, ?_, ?_, ?_, ?_, ?_, ?_, ?_, ?_, ?_, ?_, ?_, ?_, ?_, ?_, ?_, ?_, ?_, ?_, trivial⟩ ?_
                · intro A u hu hpu hsz hout hdeps
                  have e9 : A.eval (.tmp 9) = vx := (hout 9 (by kernel_rfl)).trans rfl
                  refine ifw_none rfl ?_
                  with_reducible refine shown_q vx ?qq_1pa_0 (fun _ _ => ?qr_1pa_0)
                  case qr_1pa_0 => exact (rfl : vx = vx)
                  with_reducible refine quietAt_mv (.tmp 9) vx ?h0_1pa_0 ?h1_1pa_0
                  case h0_1pa_0 => rfl
                  case h1_1pa_0 => exact e9
                · intro A u hu hpu hsz hout hdeps
                  have e11 : A.eval (.tmp 11) = wv := (hout 11 (by kernel_rfl)).trans rfl
                  refine ifw_none rfl ?_
                  with_reducible refine shown_q wv ?qq_1pa_1 (fun _ _ => ?qr_1pa_1)
                  case qr_1pa_1 => exact (rfl : wv = wv)
                  with_reducible refine quietAt_mv (.tmp 11) wv ?h0_1pa_1 ?h1_1pa_1
                  case h0_1pa_1 => rfl
                  case h1_1pa_1 => exact e11
                · intro A u hu hpu hsz hout hdeps
                  have e125 : A.eval (.tmp 125) = vx := by have h := depL hdeps 0 (by kernel_rfl) 125 (by kernel_rfl); exact h
                  have e126 : A.eval (.tmp 126) = wv := by have h := depL hdeps 1 (by kernel_rfl) 126 (by kernel_rfl); exact h
                  refine ifw_none rfl ?_
                  with_reducible refine shown_q (Value.bool true) ?qq_1pa_2 (fun _ _ => ?qr_1pa_2)
                  case qr_1pa_2 => exact (rfl : (Value.bool true) = (Value.bool true))
                  with_reducible refine quietAt_call 18 Try.f18 ?h0_1pa_2 ?h1_1pa_2 ?h2_1pa_2 #[.tmp 125, .tmp 126] #[23, 23] ?h3_1pa_2 (Value.bool true) #[vx, wv] ?h4_1pa_2 ?h5_1pa_2
                  case h0_1pa_2 => exact Try.func18
                  case h1_1pa_2 => kernel_rfl
                  case h2_1pa_2 => kernel_rfl
                  case h3_1pa_2 => rfl
                  case h4_1pa_2 => exact map2 _ _ _ _ _ e125 e126
                  case h5_1pa_2 => exact HK4.out u (gtrans HZ.out hu)
                · intro A u hu hpu hsz hout hdeps
                  have e127 : A.eval (.tmp 127) = (.bool true) := by have h := depL hdeps 2 (by kernel_rfl) 127 (by kernel_rfl); exact h
                  refine ifw_none rfl ?_
                  with_reducible refine shown_q (Value.bool false) ?qq_1pa_3 (fun _ _ => ?qr_1pa_3)
                  case qr_1pa_3 => exact (rfl : (Value.bool false) = (Value.bool false))
                  with_reducible refine quietAt_un .not 4 (.tmp 127) (Value.bool true) (Value.bool false) ?h0_1pa_3 ?h1_1pa_3 ?h2_1pa_3
                  case h0_1pa_3 => rfl
                  case h1_1pa_3 => exact e127
                  case h2_1pa_3 => rfl
                · intro A u hu hpu hsz hout hdeps
                  have e128 : A.eval (.tmp 128) = (.bool false) := by have h := depL hdeps 3 (by kernel_rfl) 128 (by kernel_rfl); exact h
                  refine ifw_none rfl ?_
                  with_reducible refine shown_q (Value.bool false) ?qq_1pa_4 (fun _ _ => ?qr_1pa_4)
                  case qr_1pa_4 => exact (rfl : (Value.bool false) = (Value.bool false))
                  with_reducible refine quietAt_mv (.tmp 128) (Value.bool false) ?h0_1pa_4 ?h1_1pa_4
                  case h0_1pa_4 => rfl
                  case h1_1pa_4 => exact e128
                · intro A u hu hpu hsz hout hdeps
                  have e129 : A.eval (.tmp 129) = (.bool false) := by have h := depL hdeps 4 (by kernel_rfl) 129 (by kernel_rfl); exact h
                  have e14 : A.eval (.tmp 14) = vk := (hout 14 (by kernel_rfl)).trans rfl
                  refine ifw_want 4 false 129 rfl rfl e129 ?_
                  with_reducible refine shown_q vk ?qq_1pa_5 (fun _ _ => ?qr_1pa_5)
                  case qr_1pa_5 => exact (rfl : vk = vk)
                  with_reducible refine quietAt_mv (.tmp 14) vk ?h0_1pa_5 ?h1_1pa_5
                  case h0_1pa_5 => rfl
                  case h1_1pa_5 => exact e14
                · intro A u hu hpu hsz hout hdeps
                  have e129 : A.eval (.tmp 129) = (.bool false) := by have h := depL hdeps 4 (by kernel_rfl) 129 (by kernel_rfl); exact h
                  have e13 : A.eval (.tmp 13) = (.int .u64 (gg : Nat)) := (hout 13 (by kernel_rfl)).trans rfl
                  refine ifw_want 4 false 129 rfl rfl e129 ?_
                  with_reducible refine shown_q (Value.int .u64 (gg : Nat)) ?qq_1pa_6 (fun _ _ => ?qr_1pa_6)
                  case qr_1pa_6 => exact (rfl : (Value.int .u64 (gg : Nat)) = (Value.int .u64 (gg : Nat)))
                  with_reducible refine quietAt_mv (.tmp 13) (Value.int .u64 (gg : Nat)) ?h0_1pa_6 ?h1_1pa_6
                  case h0_1pa_6 => rfl
                  case h1_1pa_6 => exact e13
                · intro A u hu hpu hsz hout hdeps
                  have e129 : A.eval (.tmp 129) = (.bool false) := by have h := depL hdeps 4 (by kernel_rfl) 129 (by kernel_rfl); exact h
                  have e0 : A.eval (.tmp 0) = (.slice (some ⟨b, o, none⟩) n c) := (hout 0 (by kernel_rfl)).trans rfl
                  refine ifw_want 4 false 129 rfl rfl e129 ?_
                  with_reducible refine shown_q (Value.slice (some ⟨b, o, none⟩) n c) ?qq_1pa_7 (fun _ _ => ?qr_1pa_7)
                  case qr_1pa_7 => exact (rfl : (Value.slice (some ⟨b, o, none⟩) n c) = (Value.slice (some ⟨b, o, none⟩) n c))
                  with_reducible refine quietAt_mv (.tmp 0) (Value.slice (some ⟨b, o, none⟩) n c) ?h0_1pa_7 ?h1_1pa_7
                  case h0_1pa_7 => rfl
                  case h1_1pa_7 => exact e0
                · intro A u hu hpu hsz hout hdeps
                  have e129 : A.eval (.tmp 129) = (.bool false) := by have h := depL hdeps 4 (by kernel_rfl) 129 (by kernel_rfl); exact h
                  have e5 : A.eval (.tmp 5) = (.int .i64 (j : Nat)) := (hout 5 (by kernel_rfl)).trans rfl
                  refine ifw_want 4 false 129 rfl rfl e129 ?_
                  with_reducible refine shown_q (Value.int .i64 (j : Nat)) ?qq_1pa_8 (fun _ _ => ?qr_1pa_8)
                  case qr_1pa_8 => exact (rfl : (Value.int .i64 (j : Nat)) = (Value.int .i64 (j : Nat)))
                  with_reducible refine quietAt_mv (.tmp 5) (Value.int .i64 (j : Nat)) ?h0_1pa_8 ?h1_1pa_8
                  case h0_1pa_8 => rfl
                  case h1_1pa_8 => exact e5
                · intro A u hu hpu hsz hout hdeps
                  have e129 : A.eval (.tmp 129) = (.bool false) := by have h := depL hdeps 4 (by kernel_rfl) 129 (by kernel_rfl); exact h
                  have e132 : A.eval (.tmp 132) = (.slice (some ⟨b, o, none⟩) n c) := by have h := depL hdeps 7 (by kernel_rfl) 132 (by kernel_rfl); exact h
                  have e133 : A.eval (.tmp 133) = (.int .i64 (j : Nat)) := by have h := depL hdeps 8 (by kernel_rfl) 133 (by kernel_rfl); exact h
                  refine ifw_want 4 false 129 rfl rfl e129 ?_
                  with_reducible refine shown_q (Value.pointer (some ⟨b, o + j * 20, none⟩)) ?qq_1pa_9 (fun _ _ => ?qr_1pa_9)
                  case qr_1pa_9 => exact (rfl : (Value.pointer (some ⟨b, o + j * 20, none⟩)) = (Value.pointer (some ⟨b, o + j * 20, none⟩)))
                  with_reducible refine quietAt_idx 22 (.tmp 132) (.tmp 133) (Value.slice (some ⟨b, o, none⟩) n c) (Value.int .i64 (j : Nat)) (Value.pointer (some ⟨b, o + j * 20, none⟩)) ?h0_1pa_9 ?h1_1pa_9 ?h2_1pa_9 ?h3_1pa_9
                  case h0_1pa_9 => rfl
                  case h1_1pa_9 => exact e132
                  case h2_1pa_9 => exact e133
                  case h3_1pa_9 => exact (idx22 b o n c j HJn2.out u)
                · intro A u hu hpu hsz hout hdeps
                  have e129 : A.eval (.tmp 129) = (.bool false) := by have h := depL hdeps 4 (by kernel_rfl) 129 (by kernel_rfl); exact h
                  have e134 : A.eval (.tmp 134) = (.pointer (some ⟨b, o + j * 20, none⟩)) := by have h := depL hdeps 9 (by kernel_rfl) 134 (by kernel_rfl); exact h
                  refine ifw_want 4 false 129 rfl rfl e129 ?_
                  with_reducible refine shown_q (Value.pointer (some ⟨b, o + j * 20 + 2, none⟩)) ?qq_1pa_10 (fun _ _ => ?qr_1pa_10)
                  case qr_1pa_10 => exact (rfl : (Value.pointer (some ⟨b, o + j * 20 + 2, none⟩)) = (Value.pointer (some ⟨b, o + j * 20 + 2, none⟩)))
                  with_reducible refine quietAt_field 29 (.tmp 134) 2 ?h0_1pa_10 ⟨b, o + j * 20, none⟩ ⟨b, o + j * 20 + 2, none⟩ ?h1_1pa_10 ?h2_1pa_10
                  case h0_1pa_10 => rfl
                  case h1_1pa_10 => exact e134
                  case h2_1pa_10 => kernel_rfl
                · intro A u hu hpu hsz hout hdeps
                  have e129 : A.eval (.tmp 129) = (.bool false) := by have h := depL hdeps 4 (by kernel_rfl) 129 (by kernel_rfl); exact h
                  have e135 : A.eval (.tmp 135) = (.pointer (some ⟨b, o + j * 20 + 2, none⟩)) := by have h := depL hdeps 10 (by kernel_rfl) 135 (by kernel_rfl); exact h
                  refine ifw_want 4 false 129 rfl rfl e129 ?_
                  with_reducible refine shown_q (Value.agg J.toArray) ?qq_1pa_11 (fun _ _ => ?qr_1pa_11)
                  case qr_1pa_11 => exact (rfl : (Value.agg J.toArray) = (Value.agg J.toArray))
                  with_reducible refine quietAt_load 27 (.tmp 135) ?h0_1pa_11 b (o + j * 20 + 2) J (.array 16 5) ?h1_1pa_11 ?h2_1pa_11 ?h3_1pa_11 ?h4_1pa_11 ?h5_1pa_11
                  case h0_1pa_11 => rfl
                  case h1_1pa_11 => exact e135
                  case h2_1pa_11 => exact (HYi.out u (gtrans HGy.out (gtrans HZ.out hu)))
                  case h3_1pa_11 => exact Try.underlying27
                  case h4_1pa_11 => rfl
                  case h5_1pa_11 => exact HJL.out
                · intro A u hu hpu hsz hout hdeps
                  have e129 : A.eval (.tmp 129) = (.bool false) := by have h := depL hdeps 4 (by kernel_rfl) 129 (by kernel_rfl); exact h
                  have e130 : A.eval (.tmp 130) = vk := by have h := depL hdeps 5 (by kernel_rfl) 130 (by kernel_rfl); exact h
                  have e131 : A.eval (.tmp 131) = (.int .u64 (gg : Nat)) := by have h := depL hdeps 6 (by kernel_rfl) 131 (by kernel_rfl); exact h
                  have e136 : A.eval (.tmp 136) = (.agg J.toArray) := by have h := depL hdeps 11 (by kernel_rfl) 136 (by kernel_rfl); exact h
                  refine ifw_want 4 false 129 rfl rfl e129 ?_
                  with_reducible refine shown_q (Value.bool true) ?qq_1pa_12 (fun _ _ => ?qr_1pa_12)
                  case qr_1pa_12 => exact (rfl : (Value.bool true) = (Value.bool true))
                  with_reducible refine quietAt_call 14 Try.f14 ?h0_1pa_12 ?h1_1pa_12 ?h2_1pa_12 #[.tmp 130, .tmp 131, .tmp 136] #[23, 25, 27] ?h3_1pa_12 (Value.bool true) #[vk, (Value.int .u64 (gg : Nat)), (Value.agg J.toArray)] ?h4_1pa_12 ?h5_1pa_12
                  case h0_1pa_12 => exact Try.func14
                  case h1_1pa_12 => kernel_rfl
                  case h2_1pa_12 => kernel_rfl
                  case h3_1pa_12 => rfl
                  case h4_1pa_12 => exact map3 _ _ _ _ _ _ _ e130 e131 e136
                  case h5_1pa_12 => exact HK1.out u vk (HKv.out.keep hu)
                · intro A u hu hpu hsz hout hdeps
                  have e129 : A.eval (.tmp 129) = (.bool false) := by have h := depL hdeps 4 (by kernel_rfl) 129 (by kernel_rfl); exact h
                  have e137 : A.eval (.tmp 137) = (.bool true) := by have h := depL hdeps 12 (by kernel_rfl) 137 (by kernel_rfl); exact h
                  refine ifw_want 4 false 129 rfl rfl e129 ?_
                  with_reducible refine shown_q (Value.bool false) ?qq_1pa_13 (fun _ _ => ?qr_1pa_13)
                  case qr_1pa_13 => exact (rfl : (Value.bool false) = (Value.bool false))
                  with_reducible refine quietAt_un .not 4 (.tmp 137) (Value.bool true) (Value.bool false) ?h0_1pa_13 ?h1_1pa_13 ?h2_1pa_13
                  case h0_1pa_13 => rfl
                  case h1_1pa_13 => exact e137
                  case h2_1pa_13 => rfl
                · intro A u hu hpu hsz hout hdeps
                  have e129 : A.eval (.tmp 129) = (.bool false) := by have h := depL hdeps 4 (by kernel_rfl) 129 (by kernel_rfl); exact h
                  have e138 : A.eval (.tmp 138) = (.bool false) := by have h := depL hdeps 13 (by kernel_rfl) 138 (by kernel_rfl); exact h
                  refine ifw_none rfl ?_
                  with_reducible refine shown_q (Value.bool false) ?qq_1pa_14 (fun _ _ => ?qr_1pa_14)
                  case qr_1pa_14 => exact (rfl : (Value.bool false) = (Value.bool false))
                  with_reducible refine quietAt_pick (.tmp 129) (.const (.bool true)) (.tmp 138) false (Value.bool false) ?h0_1pa_14 ?h1_1pa_14 ?h2_1pa_14
                  case h0_1pa_14 => rfl
                  case h1_1pa_14 => exact e129
                  case h2_1pa_14 => rw [if_neg (by decide)]; exact e138
                · intro A u hu hpu hsz hout hdeps
                  have e139 : A.eval (.tmp 139) = (.bool false) := by have h := depL hdeps 14 (by kernel_rfl) 139 (by kernel_rfl); exact h
                  refine ifw_none rfl ?_
                  with_reducible refine shown_q (Value.bool false) ?qq_1pa_15 (fun _ _ => ?qr_1pa_15)
                  case qr_1pa_15 => exact (rfl : (Value.bool false) = (Value.bool false))
                  with_reducible refine quietAt_mv (.tmp 139) (Value.bool false) ?h0_1pa_15 ?h1_1pa_15
                  case h0_1pa_15 => rfl
                  case h1_1pa_15 => exact e139
                · intro A u hu hpu hsz hout hdeps
                  have e140 : A.eval (.tmp 140) = (.bool false) := by have h := depL hdeps 15 (by kernel_rfl) 140 (by kernel_rfl); exact h
                  have e14 : A.eval (.tmp 14) = vk := (hout 14 (by kernel_rfl)).trans rfl
                  refine ifw_want 15 false 140 rfl rfl e140 ?_
                  with_reducible refine shown_q vk ?qq_1pa_16 (fun _ _ => ?qr_1pa_16)
                  case qr_1pa_16 => exact (rfl : vk = vk)
                  with_reducible refine quietAt_mv (.tmp 14) vk ?h0_1pa_16 ?h1_1pa_16
                  case h0_1pa_16 => rfl
                  case h1_1pa_16 => exact e14
                · intro A u hu hpu hsz hout hdeps
                  have e140 : A.eval (.tmp 140) = (.bool false) := by have h := depL hdeps 15 (by kernel_rfl) 140 (by kernel_rfl); exact h
                  have e8 : A.eval (.tmp 8) = (.int .i64 E) := (hout 8 (by kernel_rfl)).trans rfl
                  refine ifw_want 15 false 140 rfl rfl e140 ?_
                  with_reducible refine shown_q (Value.int .i64 E) ?qq_1pa_17 (fun _ _ => ?qr_1pa_17)
                  case qr_1pa_17 => exact (rfl : (Value.int .i64 E) = (Value.int .i64 E))
                  with_reducible refine quietAt_mv (.tmp 8) (Value.int .i64 E) ?h0_1pa_17 ?h1_1pa_17
                  case h0_1pa_17 => rfl
                  case h1_1pa_17 => exact e8
                · intro A u hu hpu hsz hout hdeps
                  have e140 : A.eval (.tmp 140) = (.bool false) := by have h := depL hdeps 15 (by kernel_rfl) 140 (by kernel_rfl); exact h
                  have e141 : A.eval (.tmp 141) = vk := by have h := depL hdeps 16 (by kernel_rfl) 141 (by kernel_rfl); exact h
                  have e142 : A.eval (.tmp 142) = (.int .i64 E) := by have h := depL hdeps 17 (by kernel_rfl) 142 (by kernel_rfl); exact h
                  refine ifw_want 15 false 140 rfl rfl e140 ?_
                  with_reducible refine shown_call 10 Try.f10 ?h0_1pa_18 ?h1_1pa_18 ?h2_1pa_18 #[.tmp 141, .tmp 142] #[23, 2] ?h3_1pa_18 #[vk, (Value.int .i64 E)] ?h4_1pa_18 ?h5_1pa_18
                  case h0_1pa_18 => exact Try.func10
                  case h1_1pa_18 => kernel_rfl
                  case h2_1pa_18 => kernel_rfl
                  case h3_1pa_18 => rfl
                  case h4_1pa_18 => exact map2 _ _ _ _ _ e141 e142
                  case h5_1pa_18 => exact (HPk.out u vk (HKv.out.keep hu)).mono fun e w' ⟨v', he, ho, hg⟩ => ⟨v', he, hg, v', rfl, ho⟩
                · intro A u hu hpu hsz hout hdeps
                  have e140 : A.eval (.tmp 140) = (.bool false) := by have h := depL hdeps 15 (by kernel_rfl) 140 (by kernel_rfl); exact h
                  have e13 : A.eval (.tmp 13) = (.int .u64 (gg : Nat)) := (hout 13 (by kernel_rfl)).trans rfl
                  refine ifw_want 15 false 140 rfl rfl e140 ?_
                  with_reducible refine shown_q (Value.int .u64 (gg : Nat)) ?qq_1pa_19 (fun _ _ => ?qr_1pa_19)
                  case qr_1pa_19 => exact (rfl : (Value.int .u64 (gg : Nat)) = (Value.int .u64 (gg : Nat)))
                  with_reducible refine quietAt_mv (.tmp 13) (Value.int .u64 (gg : Nat)) ?h0_1pa_19 ?h1_1pa_19
                  case h0_1pa_19 => rfl
                  case h1_1pa_19 => exact e13
                · intro A u hu hpu hsz hout hdeps
                  have e140 : A.eval (.tmp 140) = (.bool false) := by have h := depL hdeps 15 (by kernel_rfl) 140 (by kernel_rfl); exact h
                  have e0 : A.eval (.tmp 0) = (.slice (some ⟨b, o, none⟩) n c) := (hout 0 (by kernel_rfl)).trans rfl
                  refine ifw_want 15 false 140 rfl rfl e140 ?_
                  with_reducible refine shown_q (Value.slice (some ⟨b, o, none⟩) n c) ?qq_1pa_20 (fun _ _ => ?qr_1pa_20)
                  case qr_1pa_20 => exact (rfl : (Value.slice (some ⟨b, o, none⟩) n c) = (Value.slice (some ⟨b, o, none⟩) n c))
                  with_reducible refine quietAt_mv (.tmp 0) (Value.slice (some ⟨b, o, none⟩) n c) ?h0_1pa_20 ?h1_1pa_20
                  case h0_1pa_20 => rfl
                  case h1_1pa_20 => exact e0
                · intro A u hu hpu hsz hout hdeps
                  have e140 : A.eval (.tmp 140) = (.bool false) := by have h := depL hdeps 15 (by kernel_rfl) 140 (by kernel_rfl); exact h
                  have e5 : A.eval (.tmp 5) = (.int .i64 (j : Nat)) := (hout 5 (by kernel_rfl)).trans rfl
                  refine ifw_want 15 false 140 rfl rfl e140 ?_
                  with_reducible refine shown_q (Value.int .i64 (j : Nat)) ?qq_1pa_21 (fun _ _ => ?qr_1pa_21)
                  case qr_1pa_21 => exact (rfl : (Value.int .i64 (j : Nat)) = (Value.int .i64 (j : Nat)))
                  with_reducible refine quietAt_mv (.tmp 5) (Value.int .i64 (j : Nat)) ?h0_1pa_21 ?h1_1pa_21
                  case h0_1pa_21 => rfl
                  case h1_1pa_21 => exact e5
                · intro A u hu hpu hsz hout hdeps
                  have e140 : A.eval (.tmp 140) = (.bool false) := by have h := depL hdeps 15 (by kernel_rfl) 140 (by kernel_rfl); exact h
                  have e145 : A.eval (.tmp 145) = (.slice (some ⟨b, o, none⟩) n c) := by have h := depL hdeps 20 (by kernel_rfl) 145 (by kernel_rfl); exact h
                  have e146 : A.eval (.tmp 146) = (.int .i64 (j : Nat)) := by have h := depL hdeps 21 (by kernel_rfl) 146 (by kernel_rfl); exact h
                  refine ifw_want 15 false 140 rfl rfl e140 ?_
                  with_reducible refine shown_q (Value.pointer (some ⟨b, o + j * 20, none⟩)) ?qq_1pa_22 (fun _ _ => ?qr_1pa_22)
                  case qr_1pa_22 => exact (rfl : (Value.pointer (some ⟨b, o + j * 20, none⟩)) = (Value.pointer (some ⟨b, o + j * 20, none⟩)))
                  with_reducible refine quietAt_idx 22 (.tmp 145) (.tmp 146) (Value.slice (some ⟨b, o, none⟩) n c) (Value.int .i64 (j : Nat)) (Value.pointer (some ⟨b, o + j * 20, none⟩)) ?h0_1pa_22 ?h1_1pa_22 ?h2_1pa_22 ?h3_1pa_22
                  case h0_1pa_22 => rfl
                  case h1_1pa_22 => exact e145
                  case h2_1pa_22 => exact e146
                  case h3_1pa_22 => exact (idx22 b o n c j HJn2.out u)
                · intro A u hu hpu hsz hout hdeps
                  have e140 : A.eval (.tmp 140) = (.bool false) := by have h := depL hdeps 15 (by kernel_rfl) 140 (by kernel_rfl); exact h
                  have e147 : A.eval (.tmp 147) = (.pointer (some ⟨b, o + j * 20, none⟩)) := by have h := depL hdeps 22 (by kernel_rfl) 147 (by kernel_rfl); exact h
                  refine ifw_want 15 false 140 rfl rfl e140 ?_
                  with_reducible refine shown_q (Value.pointer (some ⟨b, o + j * 20 + 2, none⟩)) ?qq_1pa_23 (fun _ _ => ?qr_1pa_23)
                  case qr_1pa_23 => exact (rfl : (Value.pointer (some ⟨b, o + j * 20 + 2, none⟩)) = (Value.pointer (some ⟨b, o + j * 20 + 2, none⟩)))
                  with_reducible refine quietAt_field 29 (.tmp 147) 2 ?h0_1pa_23 ⟨b, o + j * 20, none⟩ ⟨b, o + j * 20 + 2, none⟩ ?h1_1pa_23 ?h2_1pa_23
                  case h0_1pa_23 => rfl
                  case h1_1pa_23 => exact e147
                  case h2_1pa_23 => kernel_rfl
                · intro A u hu hpu hsz hout hdeps
                  have e140 : A.eval (.tmp 140) = (.bool false) := by have h := depL hdeps 15 (by kernel_rfl) 140 (by kernel_rfl); exact h
                  have e148 : A.eval (.tmp 148) = (.pointer (some ⟨b, o + j * 20 + 2, none⟩)) := by have h := depL hdeps 23 (by kernel_rfl) 148 (by kernel_rfl); exact h
                  refine ifw_want 15 false 140 rfl rfl e140 ?_
                  with_reducible refine shown_q (Value.agg J.toArray) ?qq_1pa_24 (fun _ _ => ?qr_1pa_24)
                  case qr_1pa_24 => exact (rfl : (Value.agg J.toArray) = (Value.agg J.toArray))
                  with_reducible refine quietAt_load 27 (.tmp 148) ?h0_1pa_24 b (o + j * 20 + 2) J (.array 16 5) ?h1_1pa_24 ?h2_1pa_24 ?h3_1pa_24 ?h4_1pa_24 ?h5_1pa_24
                  case h0_1pa_24 => rfl
                  case h1_1pa_24 => exact e148
                  case h2_1pa_24 => exact (HYi.out u (gtrans HGy.out (gtrans HZ.out hu)))
                  case h3_1pa_24 => exact Try.underlying27
                  case h4_1pa_24 => rfl
                  case h5_1pa_24 => exact HJL.out
                · intro A u hu hpu hsz hout hdeps
                  have e140 : A.eval (.tmp 140) = (.bool false) := by have h := depL hdeps 15 (by kernel_rfl) 140 (by kernel_rfl); exact h
                  have f143 : (fun v u => ∃ z, v = z ∧ OutK 0 u z (prnL KX E)) (A.eval (.tmp 143)) u := by have h := depL hdeps 18 (by kernel_rfl) 143 (by kernel_rfl); exact h
                  obtain ⟨VP, e143, HVP⟩ := f143
                  have e144 : A.eval (.tmp 144) = (.int .u64 (gg : Nat)) := by have h := depL hdeps 19 (by kernel_rfl) 144 (by kernel_rfl); exact h
                  have e149 : A.eval (.tmp 149) = (.agg J.toArray) := by have h := depL hdeps 24 (by kernel_rfl) 149 (by kernel_rfl); exact h
                  refine ifw_want 15 false 140 rfl rfl e140 ?_
                  with_reducible refine shown_q (Value.bool WL) ?qq_1pa_25 (fun _ _ => ?qr_1pa_25)
                  case qr_1pa_25 => exact (rfl : (Value.bool WL) = (Value.bool WL))
                  with_reducible refine quietAt_call 14 Try.f14 ?h0_1pa_25 ?h1_1pa_25 ?h2_1pa_25 #[.tmp 143, .tmp 144, .tmp 149] #[23, 25, 27] ?h3_1pa_25 (Value.bool WL) #[VP, (Value.int .u64 (gg : Nat)), (Value.agg J.toArray)] ?h4_1pa_25 ?h5_1pa_25
                  case h0_1pa_25 => exact Try.func14
                  case h1_1pa_25 => kernel_rfl
                  case h2_1pa_25 => kernel_rfl
                  case h3_1pa_25 => rfl
                  case h4_1pa_25 => exact map3 _ _ _ _ _ _ _ e143 e144 e149
                  case h5_1pa_25 => exact HK2.out u VP HVP
                · intro A u hu hpu hsz hout hdeps
                  have e140 : A.eval (.tmp 140) = (.bool false) := by have h := depL hdeps 15 (by kernel_rfl) 140 (by kernel_rfl); exact h
                  have e9 : A.eval (.tmp 9) = vx := (hout 9 (by kernel_rfl)).trans rfl
                  refine ifw_want 15 false 140 rfl rfl e140 ?_
                  with_reducible refine shown_q vx ?qq_1pa_26 (fun _ _ => ?qr_1pa_26)
                  case qr_1pa_26 => exact (rfl : vx = vx)
                  with_reducible refine quietAt_mv (.tmp 9) vx ?h0_1pa_26 ?h1_1pa_26
                  case h0_1pa_26 => rfl
                  case h1_1pa_26 => exact e9
                · intro A u hu hpu hsz hout hdeps
                  have e140 : A.eval (.tmp 140) = (.bool false) := by have h := depL hdeps 15 (by kernel_rfl) 140 (by kernel_rfl); exact h
                  have e13 : A.eval (.tmp 13) = (.int .u64 (gg : Nat)) := (hout 13 (by kernel_rfl)).trans rfl
                  refine ifw_want 15 false 140 rfl rfl e140 ?_
                  with_reducible refine shown_q (Value.int .u64 (gg : Nat)) ?qq_1pa_27 (fun _ _ => ?qr_1pa_27)
                  case qr_1pa_27 => exact (rfl : (Value.int .u64 (gg : Nat)) = (Value.int .u64 (gg : Nat)))
                  with_reducible refine quietAt_mv (.tmp 13) (Value.int .u64 (gg : Nat)) ?h0_1pa_27 ?h1_1pa_27
                  case h0_1pa_27 => rfl
                  case h1_1pa_27 => exact e13
                · intro A u hu hpu hsz hout hdeps
                  have e140 : A.eval (.tmp 140) = (.bool false) := by have h := depL hdeps 15 (by kernel_rfl) 140 (by kernel_rfl); exact h
                  have e151 : A.eval (.tmp 151) = vx := by have h := depL hdeps 26 (by kernel_rfl) 151 (by kernel_rfl); exact h
                  have e152 : A.eval (.tmp 152) = (.int .u64 (gg : Nat)) := by have h := depL hdeps 27 (by kernel_rfl) 152 (by kernel_rfl); exact h
                  refine ifw_want 15 false 140 rfl rfl e140 ?_
                  with_reducible refine shown_q (Value.bool WL) ?qq_1pa_28 (fun _ _ => ?qr_1pa_28)
                  case qr_1pa_28 => exact (rfl : (Value.bool WL) = (Value.bool WL))
                  with_reducible refine quietAt_call 20 Try.f20 ?h0_1pa_28 ?h1_1pa_28 ?h2_1pa_28 #[.tmp 151, .tmp 152] #[23, 25] ?h3_1pa_28 (Value.bool WL) #[vx, (Value.int .u64 (gg : Nat))] ?h4_1pa_28 ?h5_1pa_28
                  case h0_1pa_28 => exact Try.func20
                  case h1_1pa_28 => kernel_rfl
                  case h2_1pa_28 => kernel_rfl
                  case h3_1pa_28 => rfl
                  case h4_1pa_28 => exact map2 _ _ _ _ _ e151 e152
                  case h5_1pa_28 => exact HK3.out u (gtrans HZ.out hu)
                · intro A u hu hpu hsz hout hdeps
                  have e140 : A.eval (.tmp 140) = (.bool false) := by have h := depL hdeps 15 (by kernel_rfl) 140 (by kernel_rfl); exact h
                  have e150 : A.eval (.tmp 150) = (.bool WL) := by have h := depL hdeps 25 (by kernel_rfl) 150 (by kernel_rfl); exact h
                  have e153 : A.eval (.tmp 153) = (.bool WL) := by have h := depL hdeps 28 (by kernel_rfl) 153 (by kernel_rfl); exact h
                  refine ifw_want 15 false 140 rfl rfl e140 ?_
                  with_reducible refine shown_q (Value.bool false) ?qq_1pa_29 (fun _ _ => ?qr_1pa_29)
                  case qr_1pa_29 => exact (rfl : (Value.bool false) = (Value.bool false))
                  with_reducible refine quietAt_bin .neq 4 (.tmp 150) (.tmp 153) 4 (Value.bool WL) (Value.bool WL) (Value.bool false) ?h0_1pa_29 ?h1_1pa_29 ?h2_1pa_29 ?h3_1pa_29
                  case h0_1pa_29 => rfl
                  case h1_1pa_29 => exact e150
                  case h2_1pa_29 => exact e153
                  case h3_1pa_29 => exact (neq4 WL u)
                · intro A u hu hpu hsz hout hdeps
                  have e140 : A.eval (.tmp 140) = (.bool false) := by have h := depL hdeps 15 (by kernel_rfl) 140 (by kernel_rfl); exact h
                  have e154 : A.eval (.tmp 154) = (.bool false) := by have h := depL hdeps 29 (by kernel_rfl) 154 (by kernel_rfl); exact h
                  refine ifw_none rfl ?_
                  with_reducible refine shown_q (Value.bool false) ?qq_1pa_30 (fun _ _ => ?qr_1pa_30)
                  case qr_1pa_30 => exact (rfl : (Value.bool false) = (Value.bool false))
                  with_reducible refine quietAt_pick (.tmp 140) (.const (.bool true)) (.tmp 154) false (Value.bool false) ?h0_1pa_30 ?h1_1pa_30 ?h2_1pa_30
                  case h0_1pa_30 => rfl
                  case h1_1pa_30 => exact e140
                  case h2_1pa_30 => rw [if_neg (by decide)]; exact e154
                · intro A u8 listed hh hall
                  have hA := hh.frame
                  have HU := hid hh.grown
                  obtain ⟨x125, hx125⟩ : ∃ x, A.eval (.tmp 125) = x := ⟨_, rfl⟩
                  have f125 : (fun v _ => v = vx) x125 u8 := by rw [← hx125]; exact hh.got 0 _ 125 rfl rfl (hall 0 (by decide))
                  obtain ⟨x126, hx126⟩ : ∃ x, A.eval (.tmp 126) = x := ⟨_, rfl⟩
                  have f126 : (fun v _ => v = wv) x126 u8 := by rw [← hx126]; exact hh.got 1 _ 126 rfl rfl (hall 1 (by decide))
                  obtain ⟨x127, hx127⟩ : ∃ x, A.eval (.tmp 127) = x := ⟨_, rfl⟩
                  have f127 : (fun v _ => v = (Value.bool true)) x127 u8 := by rw [← hx127]; exact hh.got 2 _ 127 rfl rfl (hall 2 (by decide))
                  obtain ⟨x128, hx128⟩ : ∃ x, A.eval (.tmp 128) = x := ⟨_, rfl⟩
                  have f128 : (fun v _ => v = (Value.bool false)) x128 u8 := by rw [← hx128]; exact hh.got 3 _ 128 rfl rfl (hall 3 (by decide))
                  obtain ⟨x129, hx129⟩ : ∃ x, A.eval (.tmp 129) = x := ⟨_, rfl⟩
                  have f129 : (fun v _ => v = (Value.bool false)) x129 u8 := by rw [← hx129]; exact hh.got 4 _ 129 rfl rfl (hall 4 (by decide))
                  obtain ⟨x130, hx130⟩ : ∃ x, A.eval (.tmp 130) = x := ⟨_, rfl⟩
                  have f130 : (fun v _ => v = vk) x130 u8 := by rw [← hx130]; exact hh.got 5 _ 130 rfl rfl (hall 5 (by decide))
                  obtain ⟨x131, hx131⟩ : ∃ x, A.eval (.tmp 131) = x := ⟨_, rfl⟩
                  have f131 : (fun v _ => v = (Value.int .u64 (gg : Nat))) x131 u8 := by rw [← hx131]; exact hh.got 6 _ 131 rfl rfl (hall 6 (by decide))
                  obtain ⟨x132, hx132⟩ : ∃ x, A.eval (.tmp 132) = x := ⟨_, rfl⟩
                  have f132 : (fun v _ => v = (Value.slice (some ⟨b, o, none⟩) n c)) x132 u8 := by rw [← hx132]; exact hh.got 7 _ 132 rfl rfl (hall 7 (by decide))
                  obtain ⟨x133, hx133⟩ : ∃ x, A.eval (.tmp 133) = x := ⟨_, rfl⟩
                  have f133 : (fun v _ => v = (Value.int .i64 (j : Nat))) x133 u8 := by rw [← hx133]; exact hh.got 8 _ 133 rfl rfl (hall 8 (by decide))
                  obtain ⟨x134, hx134⟩ : ∃ x, A.eval (.tmp 134) = x := ⟨_, rfl⟩
                  have f134 : (fun v _ => v = (Value.pointer (some ⟨b, o + j * 20, none⟩))) x134 u8 := by rw [← hx134]; exact hh.got 9 _ 134 rfl rfl (hall 9 (by decide))
                  obtain ⟨x135, hx135⟩ : ∃ x, A.eval (.tmp 135) = x := ⟨_, rfl⟩
                  have f135 : (fun v _ => v = (Value.pointer (some ⟨b, o + j * 20 + 2, none⟩))) x135 u8 := by rw [← hx135]; exact hh.got 10 _ 135 rfl rfl (hall 10 (by decide))
                  obtain ⟨x136, hx136⟩ : ∃ x, A.eval (.tmp 136) = x := ⟨_, rfl⟩
                  have f136 : (fun v _ => v = (Value.agg J.toArray)) x136 u8 := by rw [← hx136]; exact hh.got 11 _ 136 rfl rfl (hall 11 (by decide))
                  obtain ⟨x137, hx137⟩ : ∃ x, A.eval (.tmp 137) = x := ⟨_, rfl⟩
                  have f137 : (fun v _ => v = (Value.bool true)) x137 u8 := by rw [← hx137]; exact hh.got 12 _ 137 rfl rfl (hall 12 (by decide))
                  obtain ⟨x138, hx138⟩ : ∃ x, A.eval (.tmp 138) = x := ⟨_, rfl⟩
                  have f138 : (fun v _ => v = (Value.bool false)) x138 u8 := by rw [← hx138]; exact hh.got 13 _ 138 rfl rfl (hall 13 (by decide))
                  obtain ⟨x139, hx139⟩ : ∃ x, A.eval (.tmp 139) = x := ⟨_, rfl⟩
                  have f139 : (fun v _ => v = (Value.bool false)) x139 u8 := by rw [← hx139]; exact hh.got 14 _ 139 rfl rfl (hall 14 (by decide))
                  obtain ⟨x140, hx140⟩ : ∃ x, A.eval (.tmp 140) = x := ⟨_, rfl⟩
                  have f140 : (fun v _ => v = (Value.bool false)) x140 u8 := by rw [← hx140]; exact hh.got 15 _ 140 rfl rfl (hall 15 (by decide))
                  obtain ⟨x141, hx141⟩ : ∃ x, A.eval (.tmp 141) = x := ⟨_, rfl⟩
                  have f141 : (fun v _ => v = vk) x141 u8 := by rw [← hx141]; exact hh.got 16 _ 141 rfl rfl (hall 16 (by decide))
                  obtain ⟨x142, hx142⟩ : ∃ x, A.eval (.tmp 142) = x := ⟨_, rfl⟩
                  have f142 : (fun v _ => v = (Value.int .i64 E)) x142 u8 := by rw [← hx142]; exact hh.got 17 _ 142 rfl rfl (hall 17 (by decide))
                  obtain ⟨x143, hx143⟩ : ∃ x, A.eval (.tmp 143) = x := ⟨_, rfl⟩
                  have f143 : (fun v u => ∃ z, v = z ∧ OutK 0 u z (prnL KX E)) x143 u8 := by rw [← hx143]; exact hh.got 18 _ 143 rfl rfl (hall 18 (by decide))
                  obtain ⟨x144, hx144⟩ : ∃ x, A.eval (.tmp 144) = x := ⟨_, rfl⟩
                  have f144 : (fun v _ => v = (Value.int .u64 (gg : Nat))) x144 u8 := by rw [← hx144]; exact hh.got 19 _ 144 rfl rfl (hall 19 (by decide))
                  obtain ⟨x145, hx145⟩ : ∃ x, A.eval (.tmp 145) = x := ⟨_, rfl⟩
                  have f145 : (fun v _ => v = (Value.slice (some ⟨b, o, none⟩) n c)) x145 u8 := by rw [← hx145]; exact hh.got 20 _ 145 rfl rfl (hall 20 (by decide))
                  obtain ⟨x146, hx146⟩ : ∃ x, A.eval (.tmp 146) = x := ⟨_, rfl⟩
                  have f146 : (fun v _ => v = (Value.int .i64 (j : Nat))) x146 u8 := by rw [← hx146]; exact hh.got 21 _ 146 rfl rfl (hall 21 (by decide))
                  obtain ⟨x147, hx147⟩ : ∃ x, A.eval (.tmp 147) = x := ⟨_, rfl⟩
                  have f147 : (fun v _ => v = (Value.pointer (some ⟨b, o + j * 20, none⟩))) x147 u8 := by rw [← hx147]; exact hh.got 22 _ 147 rfl rfl (hall 22 (by decide))
                  obtain ⟨x148, hx148⟩ : ∃ x, A.eval (.tmp 148) = x := ⟨_, rfl⟩
                  have f148 : (fun v _ => v = (Value.pointer (some ⟨b, o + j * 20 + 2, none⟩))) x148 u8 := by rw [← hx148]; exact hh.got 23 _ 148 rfl rfl (hall 23 (by decide))
                  obtain ⟨x149, hx149⟩ : ∃ x, A.eval (.tmp 149) = x := ⟨_, rfl⟩
                  have f149 : (fun v _ => v = (Value.agg J.toArray)) x149 u8 := by rw [← hx149]; exact hh.got 24 _ 149 rfl rfl (hall 24 (by decide))
                  obtain ⟨x150, hx150⟩ : ∃ x, A.eval (.tmp 150) = x := ⟨_, rfl⟩
                  have f150 : (fun v _ => v = (Value.bool WL)) x150 u8 := by rw [← hx150]; exact hh.got 25 _ 150 rfl rfl (hall 25 (by decide))
                  obtain ⟨x151, hx151⟩ : ∃ x, A.eval (.tmp 151) = x := ⟨_, rfl⟩
                  have f151 : (fun v _ => v = vx) x151 u8 := by rw [← hx151]; exact hh.got 26 _ 151 rfl rfl (hall 26 (by decide))
                  obtain ⟨x152, hx152⟩ : ∃ x, A.eval (.tmp 152) = x := ⟨_, rfl⟩
                  have f152 : (fun v _ => v = (Value.int .u64 (gg : Nat))) x152 u8 := by rw [← hx152]; exact hh.got 27 _ 152 rfl rfl (hall 27 (by decide))
                  obtain ⟨x153, hx153⟩ : ∃ x, A.eval (.tmp 153) = x := ⟨_, rfl⟩
                  have f153 : (fun v _ => v = (Value.bool WL)) x153 u8 := by rw [← hx153]; exact hh.got 28 _ 153 rfl rfl (hall 28 (by decide))
                  obtain ⟨x154, hx154⟩ : ∃ x, A.eval (.tmp 154) = x := ⟨_, rfl⟩
                  have f154 : (fun v _ => v = (Value.bool false)) x154 u8 := by rw [← hx154]; exact hh.got 29 _ 154 rfl rfl (hall 29 (by decide))
                  obtain ⟨x155, hx155⟩ : ∃ x, A.eval (.tmp 155) = x := ⟨_, rfl⟩
                  have f155 : (fun v _ => v = (Value.bool false)) x155 u8 := by rw [← hx155]; exact hh.got 30 _ 155 rfl rfl (hall 30 (by decide))
                  dsimp only [wrote, List.foldl] at hA
                  rw [hx125, hx126, hx127, hx128, hx129, hx130, hx131, hx132, hx133, hx134, hx135, hx136, hx137, hx138, hx139, hx140, hx141, hx142, hx143, hx144, hx145, hx146, hx147, hx148, hx149, hx150, hx151, hx152, hx153, hx154, hx155] at hA
                  clear hh hall hx125 hx126 hx127 hx128 hx129 hx130 hx131 hx132 hx133 hx134 hx135 hx136 hx137 hx138 hx139 hx140 hx141 hx142 hx143 hx144 hx145 hx146 hx147 hx148 hx149 hx150 hx151 hx152 hx153 hx154 hx155
                  replace f125 := (f125 : x125 = vx)
                  replace f126 := (f126 : x126 = wv)
                  replace f127 := (f127 : x127 = (.bool true))
                  replace f128 := (f128 : x128 = (.bool false))
                  replace f129 := (f129 : x129 = (.bool false))
                  replace f130 := (f130 : x130 = vk)
                  replace f131 := (f131 : x131 = (.int .u64 (gg : Nat)))
                  replace f132 := (f132 : x132 = (.slice (some ⟨b, o, none⟩) n c))
                  replace f133 := (f133 : x133 = (.int .i64 (j : Nat)))
                  replace f134 := (f134 : x134 = (.pointer (some ⟨b, o + j * 20, none⟩)))
                  replace f135 := (f135 : x135 = (.pointer (some ⟨b, o + j * 20 + 2, none⟩)))
                  replace f136 := (f136 : x136 = (.agg J.toArray))
                  replace f137 := (f137 : x137 = (.bool true))
                  replace f138 := (f138 : x138 = (.bool false))
                  replace f139 := (f139 : x139 = (.bool false))
                  replace f140 := (f140 : x140 = (.bool false))
                  replace f141 := (f141 : x141 = vk)
                  replace f142 := (f142 : x142 = (.int .i64 E))
                  obtain ⟨VP, e143, HVP⟩ := f143
                  replace f144 := (f144 : x144 = (.int .u64 (gg : Nat)))
                  replace f145 := (f145 : x145 = (.slice (some ⟨b, o, none⟩) n c))
                  replace f146 := (f146 : x146 = (.int .i64 (j : Nat)))
                  replace f147 := (f147 : x147 = (.pointer (some ⟨b, o + j * 20, none⟩)))
                  replace f148 := (f148 : x148 = (.pointer (some ⟨b, o + j * 20 + 2, none⟩)))
                  replace f149 := (f149 : x149 = (.agg J.toArray))
                  replace f150 := (f150 : x150 = (.bool WL))
                  replace f151 := (f151 : x151 = vx)
                  replace f152 := (f152 : x152 = (.int .u64 (gg : Nat)))
                  replace f153 := (f153 : x153 = (.bool WL))
                  replace f154 := (f154 : x154 = (.bool false))
                  replace f155 := (f155 : x155 = (.bool false))
                  rw [f125, f126, f127, f128, f129, f130, f131, f132, f133, f134, f135, f136, f137, f138, f139, f140, f141, f142, e143, f144, f145, f146, f147, f148, f149, f150, f151, f152, f153, f154, f155] at hA
                  clear f125 f126 f127 f128 f129 f130 f131 f132 f133 f134 f135 f136 f137 f138 f139 f140 f141 f142 e143 f144 f145 f146 f147 f148 f149 f150 f151 f152 f153 f154 f155
                  subst hA
                  show wpList _ _ _ [] _ _
                  unfold wpList
                  simp only [Act.put, List.setIfInBounds_toArray, List.set_cons_succ, List.set_cons_zero]
                  have HUz := hid (gtrans HX.out (gtrans HGy.out (gtrans HZ.out HU.out)))
                  go_wp2_with fail
                  go_roundw
                  case rel => exact ⟨j + 1, by go_num, by omega, HXY.out.2, HUz⟩
                  case measure => have := HXY.out; simp [intOf]; omega
        · have hj' : ¬ (j : Int) < 20 := by omega
          go_wp2_with (go_at_call 15; (with_reducible refine (HWk.out _).mono ?_); rintro e wl ⟨rfl, hgl⟩; have HGl := hid (gtrans HG.out (gtrans HX.out hgl)); clear hgl)
          go_ret
          exact ⟨rfl, HGl.out⟩
      · have hjn' : ¬ (j : Int) < (n : Int) := by omega
        go_wp2_with (go_at_call 15; (with_reducible refine (HWk.out _).mono ?_); rintro e wl ⟨rfl, hgl⟩; have HGl := hid (gtrans HG.out (gtrans HX.out hgl)); clear hgl)
        go_ret
        exact ⟨rfl, HGl.out⟩
end Go.Proofs.Ytlgjmhemgfjgnaa
