/- The walks of check, Check. -/
import Derived.Test.YtdmnhkgiojkphaaGreatDoorX20
import Derived.ArgAppend
import Derived.Test.YtdmnhkgiojkphaaGreatDoorX14
import Derived.Deep.CutRange
import Derived.Deep.CutBlock
import Derived.Test.YtdmnhkgiojkphaaGreatDoorRows
import Derived.ProofKit
import Derived.OpenShut
import Derived.SizedLaws
import Derived.Deep.SlicePairs
import Derived.Deep.Strs
import Derived.Deep.Matrix
import Derived.Lib.LaidTab
import Derived.Lib.LaidU8
import Derived.Stop.LaidErr
import Derived.LaidMore
import Derived.MakeChecks
import Derived.ChangeArms
import Derived.ChangeOld
import Derived.Handed
import Derived.Deep.DeepHandedRow
import Derived.Deep.DeepWitnessRowRef
namespace Go.Proofs.YtdmnhkgiojkphaaGreatDoor
open Go Go.RowKit Go.Maps
open Go.RowKit (wrap32 wrap64)

set_option maxRecDepth 100000 in
set_option maxHeartbeats 2000000 in
theorem check_any : ∀ (n : Nat), n ≤ 1099511627776 → ∀ (t : Tree), cntT t ≤ n → ∀ (about : Nat) (w : World) (F : Nat → Prop) (v : Value), RdT w F t v → Glob w → about ≤ 33 →
    Calls Tryz.prog 42 #[v, .int .i64 about] w fun e w' => e = .returned (.int .i64 (checkT t about)) ∧ w.grownBy w' none
  | 0, _, t, hn, _, _, _, _, _, _, _ => by rw [cntT_eq] at hn; omega
  | n + 1, hN, t, hn, about, w, F, v, hv, hG, ha => by
    have ih := check_any n (by omega)
    have hv0 := hv
    rw [RdT_eq] at hv
    obtain ⟨kv, ia, ic, rfl, hkv, hc, hi⟩ := hv
    obtain ⟨ka, kc, rfl, hkr⟩ := hkv
    have hAl : ∀ u : World, w.grownBy u none → Calls Tryz.prog 74 #[.agg #[.int .i64 t.kind, .bool t.flag, .int .i64 t.n, .string t.text, .slice ka t.keys.length kc, .slice ia t.items.length ic], .int .i64 about] u fun e w' => e = .returned (.int .i64 (oneE t about)) ∧ u.grownBy w' none := fun u hu => checkAlone_any t about u F _ (hv0.on (Stays.none hu)) (by omega) (hG.grown hu (fun k hk => by cases hk)) (by omega)
    have hct := checkT_eq t about
    have hlt : oneE t about = 0 → 0 < t.items.length → about < 32 := fun h0 hl => by
      have hk := one_kind h0
      have hs := hk.2.2.1
      unfold spareB at hs
      simp only [Bool.and_eq_true, Bool.or_eq_true, beq_iff_eq] at hs
      rcases hs.2 with h | h
      · omega
      · exact hk.2.2.2.2.2.2 h
    obtain ⟨A, HA⟩ : ∃ A, Hid (t.items.length = A) := ⟨_, hid rfl⟩
    obtain ⟨KN, HKN⟩ : ∃ A, Hid (t.keys.length = A) := ⟨_, hid rfl⟩
    rw [HA.out, HKN.out] at hAl
    have hA : A ≤ 1099511627776 := by have := cntL_length t.items; rw [cntT_eq] at hn; rw [HA.out] at this; omega
    rw [HA.out, HKN.out]
    obtain ⟨E, HE⟩ : ∃ E, Hid (oneE t about = E) := ⟨_, hid rfl⟩
    obtain ⟨R, HR⟩ : ∃ E, Hid (checkT t about = E) := ⟨_, hid rfl⟩
    rw [HE.out] at hAl hct hlt
    rw [HR.out] at hct ⊢
    have HCT := hid hct
    have HAl := hid hAl
    have HLT := hid hlt
    have HI := hid hi
    have HIH := hid ih
    have HN := hid hn
    have HGl := hid hG
    obtain ⟨W0, hW0⟩ : ∃ W0, w.alloc (.cells #[.int .i64 t.kind, .bool t.flag, .int .i64 t.n, .string t.text, .slice ka KN kc, .slice ia A ic] 26) = W0 := ⟨_, rfl⟩
    have c0 := boxed w (.int .i64 t.kind) (.bool t.flag) (.int .i64 t.n) (.string t.text) (.slice ka KN kc) (.slice ia A ic)
    have g0 : w.grownBy W0 none := by rw [← hW0]; exact galloc _ _ none
    rw [hW0] at c0
    have HG0 := hid g0
    have HB : Hid (∀ u : World, W0.grownBy u none → u.heap[w.heap.size]? = some (.cells #[.int .i64 t.kind, .bool t.flag, .int .i64 t.n, .string t.text, .slice ka KN kc, .slice ia A ic] 26 (0, 0))) := fun u hu => (hu.block _ (Array.getElem?_eq_some_iff.1 c0).1 (by simp)).trans c0
    obtain ⟨⟨x0, x1, x2, x3, x4, x5⟩, xf⟩ := cells6 c0
    clear c0 g0 hi ih hn hN hct hAl hlt hG hv0 hkr hc
    by_cases hE0 : E = 0
    · subst hE0
      have HCL : Hid (R = checkL t.items (about + 1)) := by rw [HCT.out, if_pos rfl]; exact rfl
      clear HCT
      go_enter Tryz.func42, Tryz.ntmps42
      go_wp2_with (go_at_call 74; refine (HAl.out _ HG0.out).mono ?_; rintro e u2 ⟨rfl, hg2⟩; obtain ⟨⟨x0, x1, x2, x3, x4, x5⟩, xf⟩ := cells6 (HB.out _ hg2))
      have HG1 := hid (gtrans HG0.out hg2)
      clear hg2
      go_loopw [18] (fun iv wr => ∃ (i : Nat), iv = .int .i64 i ∧ i ≤ A ∧ Hid (w.grownBy wr none) ∧ Hid (R = checkL (t.items.drop i) (about + 1))) (fun iv _ => A - (intOf iv).toNat)
      case atStart => exact ⟨0, rfl, Nat.zero_le _, HG1, HCL⟩
      case round =>
        obtain ⟨i, rfl, hi', HG, HD⟩ := hrel
        by_cases hlt : i < A
        · have hd : decide ((i : Int) < (A : Int)) = true := decide_eq_true (by omega)
          have hitl : i < t.items.length := by have := HA.out; omega
          obtain ⟨g, o, rfl, hg, hF', hRd⟩ := HI.out (by omega)
          obtain ⟨a0, a1, a2, a3, b4, c4, d4, b5, c5, d5, z0, z1, z2, z3, z4, z5, hT⟩ := hRd.atS (Stays.none HG.out) hF' hg i hitl
          have hab : about < 32 := HLT.out (by first | rfl | trivial) (by omega)
          have hgz : wr.grownBy (wr.alloc (.cells #[.int .i64 a0, .bool a1, .int .i64 a2, .string a3, .slice b4 c4 d4, .slice b5 c5 d5] 26)) none := galloc _ _ none
          have k1 := boxed wr (.int .i64 a0) (.bool a1) (.int .i64 a2) (.string a3) (.slice b4 c4 d4) (.slice b5 c5 d5)
          obtain ⟨W1, hW1⟩ : ∃ W1, wr.alloc (.cells #[.int .i64 a0, .bool a1, .int .i64 a2, .string a3, .slice b4 c4 d4, .slice b5 c5 d5] 26) = W1 := ⟨_, rfl⟩
          rw [hW1] at k1 hgz
          have HC : Hid (Calls Tryz.prog 42 #[.agg #[.int .i64 a0, .bool a1, .int .i64 a2, .string a3, .slice b4 c4 d4, .slice b5 c5 d5], .int .i64 ((about + 1 : Nat) : Int)] W1 fun e w' => e = .returned (.int .i64 (checkT t.items[i] (about + 1))) ∧ W1.grownBy w' none) := hid (HIH.out t.items[i] (by have h1 := cntL_mem (List.getElem_mem hitl); have h2 := HN.out; rw [cntT_eq] at h2; omega) (about + 1) W1 F _ (hT.on (Stays.none hgz)) (HGl.out.grown (gtrans HG.out hgz) (fun k hk => by cases hk)) (by omega))
          have HGz := hid (gtrans HG.out hgz)
          obtain ⟨⟨q0, q1, q2, q3, q4, q5⟩, qf⟩ := cells6 k1
          have hdr : checkL (t.items.drop i) (about + 1) = if checkT t.items[i] (about + 1) = 0 then checkL (t.items.drop (i + 1)) (about + 1) else checkT t.items[i] (about + 1) := by rw [List.drop_eq_getElem_cons hitl, checkL]
          obtain ⟨X, HX⟩ : ∃ E, Hid (checkT t.items[i] (about + 1) = E) := ⟨_, hid rfl⟩
          rw [HX.out] at hdr HC
          have HDR := hid hdr
          clear hT hRd hgz k1 hdr
          go_wp2_with fail
          refine HC.out.mono ?_
          rintro e w2 ⟨rfl, hg2⟩
          have HG2 := hid (gtrans HGz.out hg2)
          clear hg2
          by_cases hX0 : X = 0
          · subst hX0
            go_wp2_with fail
            exact ⟨⟨i + 1, rfl, by omega, HG2, hid (by rw [HD.out, HDR.out]; simp)⟩, by simp only [intOf]; omega⟩
          · have hxb : (X != 0) = true := by simpa using hX0
            have HX0 := hid hX0
            clear hX0
            go_wp2_with fail
            go_ret
            exact ⟨by rw [HD.out, HDR.out, if_neg HX0.out]; rfl, HG2.out⟩
        · have hd : decide ((i : Int) < (A : Int)) = false := decide_eq_false (by omega)
          go_wp2_with fail
          go_ret
          refine ⟨?_, HG.out⟩
          rw [HD.out, List.drop_eq_nil_of_le (by have := HA.out; omega)]
          rfl
    · have heb : (E != 0) = true := by simpa using hE0
      have HF : Hid (R = E) := by rw [HCT.out, if_neg hE0]; exact rfl
      clear hE0 HCT
      go_enter Tryz.func42, Tryz.ntmps42
      go_wp2_with (go_at_call 74; refine (HAl.out _ HG0.out).mono ?_; rintro e u2 ⟨rfl, hg2⟩)
      go_ret
      exact ⟨by rw [HF.out]; rfl, gtrans HG0.out hg2⟩
set_option maxRecDepth 100000 in
theorem checkF_any (t : Tree) (hn : cntT t ≤ 1099511627776) (w : World) (F : Nat → Prop) (v : Value) (hv : RdT w F t v) (hG : Glob w) :
    Calls Tryz.prog 15 #[v] w fun e w' => e = .returned (.int .i64 (checkT t 0)) ∧ w.grownBy w' none := by
  have hv0 := hv
  rw [RdT_eq] at hv
  obtain ⟨kv, ia, ic, rfl, ⟨ka, kc, rfl, hkr⟩, hc, hi⟩ := hv
  obtain ⟨A, HA⟩ : ∃ A, Hid (t.items.length = A) := ⟨_, hid rfl⟩
  obtain ⟨KN, HKN⟩ : ∃ A, Hid (t.keys.length = A) := ⟨_, hid rfl⟩
  rw [HA.out, HKN.out] at hv0 ⊢
  have g0 : w.grownBy (w.alloc (.cells #[.int .i64 t.kind, .bool t.flag, .int .i64 t.n, .string t.text, .slice ka KN kc, .slice ia A ic] 26)) none := galloc _ _ none
  have c0 := boxed w (.int .i64 t.kind) (.bool t.flag) (.int .i64 t.n) (.string t.text) (.slice ka KN kc) (.slice ia A ic)
  obtain ⟨W0, hW0⟩ : ∃ W0, w.alloc (.cells #[.int .i64 t.kind, .bool t.flag, .int .i64 t.n, .string t.text, .slice ka KN kc, .slice ia A ic] 26) = W0 := ⟨_, rfl⟩
  rw [hW0] at c0 g0
  have HC := hid (check_any _ hn t (Nat.le_refl _) 0 W0 F _ (hv0.on (Stays.none g0)) (hG.grown g0 (fun k hk => by cases hk)) (by omega))
  have HG0 := hid g0
  obtain ⟨⟨x0, x1, x2, x3, x4, x5⟩, xf⟩ := cells6 c0
  obtain ⟨R, HR⟩ : ∃ E, Hid (checkT t 0 = E) := ⟨_, hid rfl⟩
  rw [HR.out] at HC ⊢
  clear c0 g0 hv0 hkr hc hi hG hn
  go_enter Tryz.func15, Tryz.ntmps15
  go_wp2_with fail
  refine HC.out.mono ?_
  rintro e w' ⟨rfl, hg⟩
  have HG1 := hid (gtrans HG0.out hg)
  clear hg
  go_wp2_with fail
  go_ret
  exact ⟨rfl, HG1.out⟩
end Go.Proofs.YtdmnhkgiojkphaaGreatDoor

namespace Go.Proofs.YtdmnhkgiojkphaaGreatDoor
open Go Go.RowKit Go.Maps
open Go.RowKit (wrap32 wrap64)

theorem convert_sl (l : List UInt8) (a : Option Addr) (b off c : Nat) (w : World) (ha : 0 < l.length → a = some ⟨b, off, none⟩)
    (hcell : ∀ i (h : i < l.length), w.cell? ⟨b, off + i, none⟩ = some (.int .u8 l[i].toNat)) : (convert 84 9 (.slice a l.length c)).run Tryz.prog w = .ok (.string (str l)) w := by
  by_cases hl : 0 < l.length
  · rw [ha hl]
    have := run_convert_bytes_arg w 84 5 Tryz.underlying84 Tryz.underlying5 b off l.length c (l.map fun b => (b.toNat : Int)) (by simp) (fun i hi => by
      simp [hcell i hi, List.getD, List.getElem?_eq_getElem hi]) 9 Tryz.underlying9
    rw [this]
    have e : strOfNums (l.map fun b => (b.toNat : Int)) = str l := by
      unfold strOfNums str
      rw [List.map_map, show l.map ((fun n : Int => UInt8.ofNat n.toNat) ∘ fun b : UInt8 => (b.toNat : Int)) = l.map id from List.map_congr_left fun x _ => by simp, List.map_id]
    rw [e]
  · have : l = [] := by cases l with | nil => rfl | cons _ _ => simp at hl
    subst this
    rcases a with _ | ⟨b', o', sp⟩
    · exact run_convert_bytes_nil w 84 5 Tryz.underlying84 Tryz.underlying5 0 c 9 Tryz.underlying9
    · rw [run_convert_bytes_string w 84 9 5 _ _ _ Tryz.underlying84 Tryz.underlying5 Tryz.underlying9]
      have hl := run_loadCells_list (P := Tryz.prog) w ⟨b', o', sp⟩ [] (fun j v hj => by simp at hj)
      have := run_bytesToString (P := Tryz.prog) w ⟨b', o', sp⟩ 0 c [] (by simpa using hl)
      exact this
theorem Out.convert {B : Nat} {w : World} {v : Value} {l : List UInt8} (h : Out B w v l) : (convert 84 9 v).run Tryz.prog w = .ok (.string (str l)) w := by
  have hc := fun (g : Nat) (hg : v.ownBlock = some g) => h.cells (g := g) hg
  rcases h.2 with ⟨rfl, h0⟩ | ⟨g, cap, cur, rfl, _, hgg, hle, _, hs, _⟩
  · have : l = [] := List.eq_nil_of_length_eq_zero h0
    subst this
    exact convert_sl [] Option.none 0 0 0 w (fun h => by simp at h) (fun i hi => by simp at hi)
  · refine convert_sl l _ g 0 cap w (fun _ => rfl) (fun i hi => ?_)
    have := hc g rfl i (.int .u8 l[i].toNat) (by simp [Lib.byteCells, hi])
    simpa [Addr.add_lit] using this

set_option maxRecDepth 100000 in
set_option maxHeartbeats 1000000 in
theorem print_ok (t : Tree) (hc : checkT t 0 = 0) (hf : Fits t) (hn : cntT t ≤ 1099511627776) (hl : (pr t).length ≤ 1099511627776) (w : World) (F : Nat → Prop) (v : Value) (hv : RdT w F t v) (hG : Glob w) :
    Calls Tryz.prog 13 #[v] w fun e w' => e = .returned (.tuple #[.string (str (pr t)), .int .i64 0]) ∧ w.grownBy w' none := by
  have hv0 := hv
  rw [RdT_eq] at hv
  obtain ⟨kv, ia, ic, rfl, ⟨ka, kc, rfl, hkr⟩, hc', hi⟩ := hv
  obtain ⟨A, HA⟩ : ∃ A, Hid (t.items.length = A) := ⟨_, hid rfl⟩
  obtain ⟨KN, HKN⟩ : ∃ A, Hid (t.keys.length = A) := ⟨_, hid rfl⟩
  rw [HA.out, HKN.out] at hv0 ⊢
  have g0 : w.grownBy (w.alloc (.cells #[.int .i64 t.kind, .bool t.flag, .int .i64 t.n, .string t.text, .slice ka KN kc, .slice ia A ic] 26)) none := galloc _ _ none
  have c0 := boxed w (.int .i64 t.kind) (.bool t.flag) (.int .i64 t.n) (.string t.text) (.slice ka KN kc) (.slice ia A ic)
  obtain ⟨W0, hW0⟩ : ∃ W0, w.alloc (.cells #[.int .i64 t.kind, .bool t.flag, .int .i64 t.n, .string t.text, .slice ka KN kc, .slice ia A ic] 26) = W0 := ⟨_, rfl⟩
  rw [hW0] at c0 g0
  have HV0 : Hid (RdT W0 F t (.agg #[.int .i64 t.kind, .bool t.flag, .int .i64 t.n, .string t.text, .slice ka KN kc, .slice ia A ic])) := hv0.on (Stays.none g0)
  have hGW : Glob W0 := hG.grown g0 (fun k hk => by cases hk)
  have hCk := checkF_any t hn W0 F _ HV0.out hGW
  rw [hc] at hCk
  have HC := hid hCk
  have HG0 := hid g0
  have HGW := hid hGW
  have HB : Hid (∀ u : World, W0.grownBy u none → u.heap[w.heap.size]? = some (.cells #[.int .i64 t.kind, .bool t.flag, .int .i64 t.n, .string t.text, .slice ka KN kc, .slice ia A ic] 26 (0, 0))) := fun u hu => (hu.block _ (Array.getElem?_eq_some_iff.1 c0).1 (by simp)).trans c0
  have HA1 : Hid (∀ u : World, W0.grownBy u none → Calls Tryz.prog 41 #[.slice none 0 0, .agg #[.int .i64 t.kind, .bool t.flag, .int .i64 t.n, .string t.text, .slice ka KN kc, .slice ia A ic]] u fun e w' => ∃ v', e = .returned v' ∧ u.grownBy w' none ∧ ∀ (x : World), (convert 84 9 v').run Tryz.prog w' = .ok (.string (str (pr t))) w') := fun u hu => by
    have hz := hu.size
    have hGu : Glob u := hGW.grown hu (fun k hk => by cases hk)
    refine (appendValue_any _ hn t (Nat.le_refl _) ⟨0, hc⟩ hf u.heap.size u (.slice none 0 0) [] _ (World.ownsRow_nil _ _ _ _) (RdT.kept (F := F) (Stays.none hu) (fun g _ hg => by omega) t HV0.out) (Nat.le_refl _) hGu.1 hGu (by simp only [List.length_nil]; omega)).mono ?_
    rintro e w' ⟨v', rfl, ho, hk⟩
    exact ⟨v', rfl, gof hk.1.1 none, fun _ => by have := ho.convert; rw [List.nil_append] at this; exact this⟩
  obtain ⟨⟨x0, x1, x2, x3, x4, x5⟩, xf⟩ := cells6 c0
  obtain ⟨PT, HPT⟩ : ∃ P, Hid (str (pr t) = P) := ⟨_, hid rfl⟩
  rw [HPT.out] at HA1 ⊢
  clear c0 g0 hv0 hkr hc' hi hG hn hGW hCk hc hf hl
  go_enter Tryz.func13, Tryz.ntmps13
  go_wp2_with (first
    | (go_at_call 15; refine HC.out.mono ?_; rintro e u2 ⟨rfl, hg2⟩; obtain ⟨⟨x0, x1, x2, x3, x4, x5⟩, xf⟩ := cells6 (HB.out _ hg2))
    | (go_at_call 41; refine (HA1.out _ hg2).mono ?_; rintro e u3 ⟨v3, rfl, hg3, hcv⟩; have hcv := hcv u3))
  go_ret2
  exact ⟨rfl, gtrans HG0.out (gtrans hg2 hg3)⟩
set_option maxRecDepth 100000 in
set_option maxHeartbeats 1000000 in
theorem print_bad (t : Tree) (hc : checkT t 0 ≠ 0) (hn : cntT t ≤ 1099511627776) (w : World) (F : Nat → Prop) (v : Value) (hv : RdT w F t v) (hG : Glob w) :
    Calls Tryz.prog 13 #[v] w fun e w' => e = .returned (.tuple #[.string ⟨#[]⟩, .int .i64 (checkT t 0)]) ∧ w.grownBy w' none := by
  have hv0 := hv
  rw [RdT_eq] at hv
  obtain ⟨kv, ia, ic, rfl, ⟨ka, kc, rfl, hkr⟩, hc', hi⟩ := hv
  obtain ⟨A, HA⟩ : ∃ A, Hid (t.items.length = A) := ⟨_, hid rfl⟩
  obtain ⟨KN, HKN⟩ : ∃ A, Hid (t.keys.length = A) := ⟨_, hid rfl⟩
  rw [HA.out, HKN.out] at hv0 ⊢
  have g0 : w.grownBy (w.alloc (.cells #[.int .i64 t.kind, .bool t.flag, .int .i64 t.n, .string t.text, .slice ka KN kc, .slice ia A ic] 26)) none := galloc _ _ none
  have c0 := boxed w (.int .i64 t.kind) (.bool t.flag) (.int .i64 t.n) (.string t.text) (.slice ka KN kc) (.slice ia A ic)
  obtain ⟨W0, hW0⟩ : ∃ W0, w.alloc (.cells #[.int .i64 t.kind, .bool t.flag, .int .i64 t.n, .string t.text, .slice ka KN kc, .slice ia A ic] 26) = W0 := ⟨_, rfl⟩
  rw [hW0] at c0 g0
  have HC := hid (checkF_any t hn W0 F _ (hv0.on (Stays.none g0)) (hG.grown g0 (fun k hk => by cases hk)))
  have HG0 := hid g0
  obtain ⟨⟨x0, x1, x2, x3, x4, x5⟩, xf⟩ := cells6 c0
  obtain ⟨R, HR⟩ : ∃ E, Hid (checkT t 0 = E) := ⟨_, hid rfl⟩
  rw [HR.out] at HC hc ⊢
  have hrb : (R != 0) = true := by simpa using hc
  clear c0 g0 hv0 hkr hc' hi hG hn hc
  go_enter Tryz.func13, Tryz.ntmps13
  go_wp2_with (go_at_call 15; refine HC.out.mono ?_; rintro e u2 ⟨rfl, hg2⟩)
  go_ret2
  exact ⟨rfl, gtrans HG0.out hg2⟩
end Go.Proofs.YtdmnhkgiojkphaaGreatDoor

namespace Go.Proofs.YtdmnhkgiojkphaaGreatDoor
open Go Go.RowKit Go.Maps
open Go.RowKit (wrap32 wrap64)

theorem num_any (w : World) (k : Int) : Calls Tryz.prog 14 #[.int .i64 k] w fun e w' => e = .returned (.int .i64 k) ∧ w' = w := by
  go_enter Tryz.func14, Tryz.ntmps14
  go_wp2_with fail
  go_ret
  exact ⟨rfl, rfl⟩
end Go.Proofs.YtdmnhkgiojkphaaGreatDoor

namespace Go.Proofs.YtdmnhkgiojkphaaGreatDoor
open Go Go.RowKit Go.Maps
open Go.RowKit (wrap32 wrap64)

/-! ### codes -/
def CodeOk (c : Int) : Prop := 20 ≤ c ∧ c ≤ 25
def Codes {α : Type} (r : Res α) : Prop := ∀ c q, r = .bad c q → CodeOk c
theorem code22 : CodeOk 22 := ⟨by decide, by decide⟩
theorem listGo_codes {it : List UInt8 → Res Tree} (h : ∀ l, Codes (it l)) : ∀ (f : Nat) (l : List UInt8) (acc : List Tree), Codes (listGo it f l acc)
  | 0, l, acc => fun c q e => by injection e with e _; rw [← e]; exact code22
  | f + 1, l, acc => fun c q e => by
    unfold listGo at e
    split at e
    · rename_i hit; injection e with e1 _; rw [← e1]; exact h _ _ _ hit
    · split at e
      · cases e
      · exact listGo_codes h f _ _ _ _ e
      · injection e with e _; rw [← e]; exact code22
theorem keyR_codes (ks : List ByteArray) (l : List UInt8) : Codes (keyR ks l) := fun c q e => by
  unfold keyR at e
  split at e
  · split at e
    · injection e with e _; rw [← e]; exact code22
    · split at e
      · injection e with e _; rw [← e]; exact ⟨by decide, by decide⟩
      · cases e
  · injection e with e _; rw [← e]; exact code22
theorem mapGo_codes {it : List UInt8 → Res Tree} (h : ∀ l, Codes (it l)) : ∀ (f : Nat) (l : List UInt8) (ks : List ByteArray) (acc : List Tree), Codes (mapGo it f l ks acc)
  | 0, l, ks, acc => fun c q e => by injection e with e _; rw [← e]; exact code22
  | f + 1, l, ks, acc => fun c q e => by
    unfold mapGo at e
    split at e
    · rename_i hit; injection e with e1 _; rw [← e1]; exact keyR_codes _ _ _ _ hit
    · split at e
      · split at e
        · rename_i hit; injection e with e1 _; rw [← e1]; exact h _ _ _ hit
        · split at e
          · cases e
          · exact mapGo_codes h f _ _ _ _ _ e
          · injection e with e _; rw [← e]; exact code22
      · injection e with e _; rw [← e]; exact code22
theorem readWord_codes {w : List UInt8} {e : Int} (h : readWord w = .error e) : CodeOk e := by
  unfold readWord at h
  repeat' split at h
  all_goals first | (cases h; done) | (injection h with h; rw [← h]; exact ⟨by decide, by decide⟩)
theorem itemW_codes {d : Option (List UInt8 → Res Tree)} (h : ∀ it, d = some it → ∀ l, Codes (it l)) (l : List UInt8) : Codes (itemW d l) := fun c q e => by
  unfold itemW at e
  split at e
  · injection e with e _; rw [← e]; exact code22
  · split at e
    · cases hd : d with
      | none => rw [hd] at e; injection e with e _; rw [← e]; exact ⟨by decide, by decide⟩
      | some it =>
        rw [hd] at e
        simp only [] at e
        unfold listR at e
        split at e
        · cases e
        · exact listGo_codes (h it hd) _ _ _ _ _ e
    · split at e
      · cases hd : d with
        | none => rw [hd] at e; injection e with e _; rw [← e]; exact ⟨by decide, by decide⟩
        | some it =>
          rw [hd] at e
          simp only [] at e
          unfold mapR at e
          split at e
          · cases e
          · exact mapGo_codes (h it hd) _ _ _ _ _ _ e
      · split at e
        · split at e
          · injection e with e _; rw [← e]; exact code22
          · cases e
        · split at e
          · rename_i hw; injection e with e1 _; rw [← e1]; exact readWord_codes hw
          · cases e
theorem itemR_codes : ∀ k l, Codes (itemR k l)
  | 0, l => itemW_codes (fun it h => by cases h) l
  | k + 1, l => itemW_codes (fun it h => by injection h with h; subst h; exact itemR_codes k) l
theorem parseR_codes {d : Nat} {l : List UInt8} {c : Int} {q : List UInt8} (e : parseR d l = .bad c q) : CodeOk c := by
  unfold parseR at e
  split at e
  · rename_i hit; injection e with e1 _; rw [← e1]; exact itemR_codes _ _ _ _ hit
  · split at e
    · cases e
    · injection e with e _; rw [← e]; exact ⟨by decide, by decide⟩
/-- What Parse tells of a text, at whatever depth. -/
inductive Told where
  | yes (t : Tree)
  | no (c : Int) (p : Nat)
def toldOf (s : ByteArray) (d : Int) : Told :=
  if d < 0 ∨ 32 < d then .no 20 0
  else match parseR d.toNat s.data.toList with
    | .ok t _ => .yes t
    | .bad c q => .no c (s.size - q.length)
theorem parse_yes {s : ByteArray} {d : Int} {t : Tree} (h : toldOf s d = .yes t) (hs : s.size ≤ 4294967280) (w : World) (hG : Glob w) :
    Calls Tryz.prog 18 #[.string s, .int .i64 d] w fun e w' => ∃ (k : Int) (f : Bool) (n : Int) (x : ByteArray) (ka : Option Addr) (kn kc : Nat) (ia : Option Addr) (il ic : Nat), e = .returned (.tuple #[.agg #[.int .i64 k, .bool f, .int .i64 n, .string x, .slice ka kn kc, .slice ia il ic], .agg #[.int .i64 0, .int .i64 0]]) ∧ RdT w' (fun g => w.heap.size ≤ g) t (.agg #[.int .i64 k, .bool f, .int .i64 n, .string x, .slice ka kn kc, .slice ia il ic]) ∧ w.grownBy w' none := by
  unfold toldOf at h
  split at h
  · cases h
  · rename_i hd
    obtain ⟨n, rfl⟩ : ∃ n : Nat, d = (n : Int) := ⟨d.toNat, by omega⟩
    rw [Int.toNat_natCast] at h
    refine (parse_any w s n hG hG.1 hs (by omega)).mono ?_
    rintro e w' ⟨he, hg⟩
    rw [from_zeroR] at he
    split at h
    · rename_i t' q hp
      injection h with h
      subst h
      rw [hp] at he
      obtain ⟨v, rfl, hT⟩ := he
      have hT' := hT
      rw [RdT_eq] at hT'
      obtain ⟨kv, ia, ic, rfl, ⟨ka, kc, rfl, _⟩, _, _⟩ := hT'
      exact ⟨_, _, _, _, _, _, _, _, _, _, rfl, hT, hg⟩
    · cases h
theorem parse_no {s : ByteArray} {d : Int} {c : Int} {p : Nat} (h : toldOf s d = .no c p) (hs : s.size ≤ 4294967280) (w : World) (hG : Glob w) :
    (20 ≤ c ∧ c ≤ 25 ∧ p ≤ s.size) ∧ Calls Tryz.prog 18 #[.string s, .int .i64 d] w fun e w' => e = .returned (.tuple #[zeroV6, .agg #[.int .i64 c, .int .i64 p]]) ∧ w.grownBy w' none := by
  unfold toldOf at h
  split at h
  · rename_i hd
    injection h with h1 h2
    subst h1 h2
    exact ⟨⟨by decide, by decide, Nat.zero_le _⟩, parse_depth w s d hd⟩
  · rename_i hd
    obtain ⟨n, rfl⟩ : ∃ n : Nat, d = (n : Int) := ⟨d.toNat, by omega⟩
    rw [Int.toNat_natCast] at h
    split at h
    · cases h
    · rename_i c' q hp
      injection h with h1 h2
      subst h1
      have hc := parseR_codes hp
      refine ⟨⟨hc.1, hc.2, by omega⟩, ?_⟩
      refine (parse_any w s n hG hG.1 hs (by omega)).mono ?_
      rintro e w' ⟨he, hg⟩
      rw [from_zeroR, hp] at he
      obtain ⟨p', hp1, hp2, rfl⟩ := he
      have : p' = p := by rw [← h2, hp2, from_length]; omega
      subst this
      exact ⟨rfl, hg⟩
/-- What a text that is read is, and how it is printed. -/
theorem told_good {s : ByteArray} {d : Int} {t : Tree} (h : toldOf s d = .yes t) : 0 ≤ d ∧ checkT t 0 = 0 ∧ Fits t ∧ (depthT t : Int) ≤ d ∧ (pr t).length ≤ s.size + 4 * bf s.data.toList ∧ toldOf (str (pr t)) d = .yes t := by
  unfold toldOf at h
  split at h
  · cases h
  · rename_i hd
    split at h
    · rename_i t' q hp
      injection h with h
      subst h
      obtain ⟨⟨h1, h2, h3⟩, h4⟩ := parseR_tells hp
      rw [Array.length_toList] at h4
      have hc := h1 0 (by omega)
      refine ⟨by omega, hc, h2, by omega, h4, ?_⟩
      unfold toldOf
      rw [if_neg hd, str_list, parse_print _ _ hc h2 h3]
    · cases h
end Go.Proofs.YtdmnhkgiojkphaaGreatDoor

namespace Go.Proofs.YtdmnhkgiojkphaaGreatDoor
open Go Go.RowKit

theorem sep_sum (f : Tree → Nat) (g : Tree → List UInt8) : ∀ (l : List Tree), (∀ x ∈ l, f x ≤ (g x).length) → (l.map f).sum ≤ (sep (l.map g)).length
  | [], _ => by simp
  | [x], h => by simp only [List.map_cons, List.map_nil, sep, List.sum_cons, List.sum_nil]; have := h x (by simp); omega
  | x :: y :: r, h => by
    have h1 := h x (by simp)
    have h2 := sep_sum f g (y :: r) (fun z hz => h z (by simp [List.mem_cons.1 hz]))
    simp only [List.map_cons, sep, List.sum_cons, List.length_append, List.length_cons] at h2 ⊢
    omega
theorem cntL_sum (l : List Tree) : cntL l = (l.map cntT).sum := by
  induction l with
  | nil => rfl
  | cons a r ih => rw [cntL, ih, List.map_cons, List.sum_cons]
theorem sep_ents : ∀ (ks : List ByteArray) (l : List Tree), ks.length = l.length → (∀ x ∈ l, cntT x ≤ (pr x).length) → cntL l + keyN ks ≤ (sep (ents ks (l.map pr))).length
  | [], [], _, _ => by simp [cntL, keyN]
  | [], _ :: _, h, _ => by simp at h
  | _ :: _, [], h, _ => by simp at h
  | [k], [x], _, h => by
    have h1 := h x (by simp)
    have h2 := escL_ge k.data.toList
    rw [Array.length_toList] at h2
    have h3 : k.size ≤ (escL k.data.toList).length := h2
    have e : sep (ents [k] ([x].map pr)) = quo k.data.toList ++ 58 :: pr x := rfl
    rw [e]
    simp only [cntL, keyN, quo, List.length_append, List.length_cons, List.length_nil]
    omega
  | [_], _ :: _ :: _, h, _ => by simp at h
  | _ :: _ :: _, [_], h, _ => by simp at h
  | k :: k2 :: kr, x :: y :: r, hl, h => by
    have h1 := h x (by simp)
    have ih := sep_ents (k2 :: kr) (y :: r) (by simpa using hl) (fun z hz => h z (by simp [List.mem_cons.1 hz]))
    have h2 := escL_ge k.data.toList
    rw [Array.length_toList] at h2
    have h3 : k.size ≤ (escL k.data.toList).length := h2
    have e : sep (ents (k :: k2 :: kr) ((x :: y :: r).map pr)) = (quo k.data.toList ++ 58 :: pr x) ++ 44 :: sep (ents (k2 :: kr) ((y :: r).map pr)) := rfl
    rw [e]
    rw [cntL, keyN]
    simp only [quo, List.length_append, List.length_cons, List.length_nil] at ih ⊢
    omega
theorem itoa_pos (n : Int) : 1 ≤ (Lib.itoa n).length := by
  obtain ⟨c, r, h, _⟩ := itoa_cons n
  rw [h]; simp
theorem cnt_pr : ∀ (n : Nat) (t : Tree), cntT t ≤ n → ∀ about, checkT t about = 0 → cntT t ≤ (pr t).length
  | 0, t, h, _, _ => by rw [cntT_eq] at h; omega
  | n + 1, t, h, about, hc => by
    have h1 := check_one hc
    have hk := one_kind h1.1
    have hs := leaf_shape h1.1
    have hitems : ∀ x ∈ t.items, cntT x ≤ (pr x).length := fun x hx => by
      have := cntL_mem hx
      rw [cntT_eq] at h
      exact cnt_pr n x (by omega) (about + 1) (h1.2 x hx)
    have hcases : t.kind = 1 ∨ t.kind = 2 ∨ t.kind = 3 ∨ t.kind = 4 ∨ t.kind = 5 ∨ t.kind = 6 := by omega
    rw [cntT_eq]
    rcases hcases with hh | hh | hh | hh | hh | hh
    · rw [hs.1 hh]; decide
    · have e := hs.2.1 hh
      generalize t.flag = f at e
      subst e
      cases f <;> decide
    · have e := hs.2.2.1 hh
      generalize t.n = z at e
      subst e
      have : pr (.mk 3 false z ⟨#[]⟩ [] []) = Lib.itoa z := by rw [pr_eq]; rfl
      rw [this]
      have := itoa_pos z
      show 0 + (0 + 0) + 1 ≤ _
      omega
    · have e := hs.2.2.2.1 hh
      generalize t.text = z at e
      subst e
      have : pr (.mk 4 false 0 z [] []) = quo z.data.toList := by rw [pr_eq]; rfl
      rw [this]
      have h2 := escL_ge z.data.toList
      rw [Array.length_toList] at h2
      have h3 : z.size ≤ (escL z.data.toList).length := h2
      show 0 + (z.size + 0) + 1 ≤ _
      simp only [quo, List.length_append, List.length_cons, List.length_nil]
      omega
    · have e := hs.2.2.2.2.1 hh
      have hp := pr_kind5 hh
      rw [pieces_list hh] at hp
      rw [hp]
      have hsum := sep_sum cntT pr t.items hitems
      rw [← cntL_sum] at hsum
      have ht : t.text.size = 0 := by rw [e]; rfl
      have hkk : t.keys = [] := by rw [e]; rfl
      rw [ht, hkk]
      simp only [keyN, List.length_cons, List.length_append, List.length_nil]
      omega
    · have e := hs.2.2.2.2.2 hh
      have hp := pr_kind6 hh
      rw [pieces_map hh] at hp
      rw [hp]
      have hsum := sep_ents t.keys t.items (hk.2.2.2.2.2.1 hh).1 hitems
      have ht : t.text.size = 0 := by rw [e]; rfl
      rw [ht]
      simp only [List.length_cons, List.length_append, List.length_nil]
      omega
end Go.Proofs.YtdmnhkgiojkphaaGreatDoor

namespace Go.Proofs.YtdmnhkgiojkphaaGreatDoor
open Go Go.RowKit Go.Maps
open Go.RowKit (wrap32 wrap64)

theorem cells2 {w : World} {k : Nat} {a b : Value} {t : TypeId} (h : w.heap[k]? = some (.cells #[a, b] t (0, 0))) : (w.cell? ⟨k, 0, none⟩ = some a ∧ w.cell? ⟨k, 1, none⟩ = some b) ∧ ∀ o, w.frozen? ⟨k, o, none⟩ = false := by
  refine ⟨⟨by simp [World.cell?, h], by simp [World.cell?, h]⟩, fun o => by simp [World.frozen?, h]⟩
def wakeS : ByteArray := ⟨#[32, 123, 34, 98, 34, 32, 58, 32, 91, 49, 44, 45, 50, 93, 44, 32, 34, 97, 34, 58, 110, 117, 108, 108, 125]⟩
def wakeT : Tree := .mk 6 false 0 ⟨#[]⟩ [⟨#[98]⟩, ⟨#[97]⟩] [.mk 5 false 0 ⟨#[]⟩ [] [.mk 3 false 1 ⟨#[]⟩ [] [], .mk 3 false (-2) ⟨#[]⟩ [] []], .mk 1 false 0 ⟨#[]⟩ [] []]
def wakeB : ByteArray := ⟨#[91, 49, 44, 93]⟩
theorem wake_yes : toldOf wakeS 2 = .yes wakeT := by kernel_rfl
theorem wake_no : toldOf wakeB 2 = .no 22 3 := by kernel_rfl
theorem itoa1 : Lib.itoa 1 = [49] := by
  have := Lib.itoa_nonneg 1
  rw [Lib.decDigits_one (by omega)] at this
  exact this
theorem itoa2 : Lib.itoa (-2) = [45, 50] := by
  have := Lib.itoa_neg 2 (by omega)
  rw [Lib.decDigits_one (by omega)] at this
  exact this
theorem wake_pr : pr wakeT = [123, 34, 98, 34, 58, 91, 49, 44, 45, 50, 93, 44, 34, 97, 34, 58, 110, 117, 108, 108, 125] := by
  have e1 : pr (.mk 3 false 1 ⟨#[]⟩ [] []) = [49] := by rw [pr_eq]; show Lib.itoa 1 = _; exact itoa1
  have e2 : pr (.mk 3 false (-2) ⟨#[]⟩ [] []) = [45, 50] := by rw [pr_eq]; show Lib.itoa (-2) = _; exact itoa2
  have e3 : pr (.mk 5 false 0 ⟨#[]⟩ [] [.mk 3 false 1 ⟨#[]⟩ [] [], .mk 3 false (-2) ⟨#[]⟩ [] []]) = [91, 49, 44, 45, 50, 93] := by
    rw [pr_list]
    simp only [List.map_cons, List.map_nil, e1, e2]
    rfl
  have e4 : pr (.mk 1 false 0 ⟨#[]⟩ [] []) = nullW := by rw [pr_eq]; rfl
  unfold wakeT
  rw [pr_map]
  simp only [List.map_cons, List.map_nil, e3, e4]
  rfl

set_option maxRecDepth 100000 in
set_option maxHeartbeats 1000000 in
theorem wakes_any (w : World) (hG : Glob w) : Calls Tryz.prog 17 #[] w fun e w' => e = .returned (.bool true) ∧ w.grownBy w' none := by
  have HG := hid hG
  have hgd := told_good wake_yes
  have hcn : cntT wakeT ≤ 1099511627776 := Nat.le_trans (cnt_pr _ wakeT (Nat.le_refl _) 0 hgd.2.1) (by rw [wake_pr]; decide)
  have HP : Hid (∀ (u : World) (F : Nat → Prop) (v : Value), RdT u F wakeT v → Glob u → Calls Tryz.prog 13 #[v] u fun e w' => e = .returned (.tuple #[.string ⟨#[123, 34, 98, 34, 58, 91, 49, 44, 45, 50, 93, 44, 34, 97, 34, 58, 110, 117, 108, 108, 125]⟩, .int .i64 0]) ∧ u.grownBy w' none) := fun u F v hv hGu => by
    have := print_ok wakeT hgd.2.1 hgd.2.2.1 hcn (by rw [wake_pr]; decide) u F v hv hGu
    rw [wake_pr] at this
    exact this
  have HY : Hid (∀ u : World, Glob u → _) := fun u hu => parse_yes wake_yes (by decide) u hu
  have HN : Hid (∀ u : World, Glob u → _) := fun u hu => (parse_no wake_no (by decide) u hu).2
  clear hgd hcn hG
  unfold wakeS at HY
  unfold wakeB zeroV6 at HN
  go_enter Tryz.func17, Tryz.ntmps17
  go_wp2_with fail
  refine (HY.out w HG.out).mono ?_
  rintro e w1 ⟨k, f, n, x, ka, kn, kc, ia, il, ic, rfl, hT, hg1⟩
  have HT := hid hT
  have HG1 := hid hg1
  have hGl : Glob w1 := HG.out.grown hg1 (fun k hk => by cases hk)
  have HGl := hid hGl
  clear hT hg1 hGl
  have hgW : w1.grownBy ((w1.alloc (.cells #[.int .i64 k, .bool f, .int .i64 n, .string x, .slice ka kn kc, .slice ia il ic] 26)).alloc (.cells #[.int .i64 0, .int .i64 0] 69)) none := gtrans (galloc _ _ none) (galloc _ _ none)
  have hc5 : ((w1.alloc (.cells #[.int .i64 k, .bool f, .int .i64 n, .string x, .slice ka kn kc, .slice ia il ic] 26)).alloc (.cells #[.int .i64 0, .int .i64 0] 69)).heap[w1.heap.size + 1]? = some (.cells #[.int .i64 0, .int .i64 0] 69 (0, 0)) := lit_new _ _ _ _ (by simp)
  go_wp2_with fail
  generalize (w1.alloc (.cells #[.int .i64 k, .bool f, .int .i64 n, .string x, .slice ka kn kc, .slice ia il ic] 26)).alloc (.cells #[.int .i64 0, .int .i64 0] 69) = W2 at hgW hc5 ⊢
  have hG2 : Glob W2 := HGl.out.grown hgW (fun k hk => by cases hk)
  refine (HP.out W2 _ _ (HT.out.on (Stays.none hgW)) hG2).mono ?_
  rintro e w3 ⟨rfl, hg3⟩
  have hG3 : Glob w3 := hG2.grown hg3 (fun k hk => by cases hk)
  have HG3 := hid hG3
  have hlt := (Array.getElem?_eq_some_iff.1 hc5).1
  have hc6 : w3.heap[w1.heap.size + 1]? = some (.cells #[.int .i64 0, .int .i64 0] 69 (0, 0)) := (hg3.block _ hlt (by simp)).trans hc5
  have HC6 := hid hc6
  have HGg := hid (gtrans (gtrans HG1.out hgW) hg3)
  clear hgW hc5 hG2 hg3 hG3 hlt hc6
  go_wp2_with fail
  refine (HN.out w3 HG3.out).mono ?_
  rintro e w4 ⟨rfl, hg4⟩
  have hlt := (Array.getElem?_eq_some_iff.1 HC6.out).1
  have hc7 : w4.heap[w1.heap.size + 1]? = some (.cells #[.int .i64 0, .int .i64 0] 69 (0, 0)) := (hg4.block _ hlt (by simp)).trans HC6.out
  have j := fun (x y : Obj) => (cells2 (lit_old (lit_old hc7 x) y))
  have j0 := fun (x y : Obj) => (j x y).1.1
  have j1 := fun (x y : Obj) => (j x y).1.2
  have jf := fun (x y : Obj) => (j x y).2
  have HGh := hid (gtrans HGg.out hg4)
  have HN2 := hid (num_any)
  clear j hc7 hlt hg4
  go_wp2_with (go_at_call 14; refine (HN2.out _ _).mono ?_; rintro e u5 ⟨rfl, rfl⟩)
  go_ret
  exact ⟨rfl, gtrans HGh.out (gtrans (galloc w4 _ none) (galloc _ _ none))⟩
end Go.Proofs.YtdmnhkgiojkphaaGreatDoor

namespace Go.Proofs.YtdmnhkgiojkphaaGreatDoor
open Go Go.RowKit Go.ChangeShapes Go.WideShapes Go.Deep

theorem Tryz.cells9 : Tryz.prog.cellsOf 9 = 1 := by kernel_rfl
theorem Tryz.cells3 : Tryz.prog.cellsOf 3 = 1 := by kernel_rfl
theorem Tryz.cells156 : Tryz.prog.cellsOf 156 = 1 := by kernel_rfl
theorem Tryz.u8x : U8Extra Tryz.prog Tryz.lays197_ren := ⟨by kernel_rfl, by kernel_rfl, by kernel_rfl, by kernel_rfl, by kernel_rfl, by kernel_rfl, by kernel_rfl⟩

theorem utf8_below8 {w w' : World} (h : Lib.Utf8Tabs 0 1 w) (hb : Below 8 w w') : Lib.Utf8Tabs 0 1 w' :=
  ⟨fun c hc => (World.cell?_of_block (a := ⟨0, c, none⟩) (hb.block 0 (by omega))).trans (h.1 c hc), fun i hi => ⟨(World.cell?_of_block (a := ⟨1, 2 * i, none⟩) (hb.block 1 (by omega))).trans (h.2 i hi).1, (World.cell?_of_block (a := ⟨1, 2 * i + 1, none⟩) (hb.block 1 (by omega))).trans (h.2 i hi).2⟩⟩
theorem tab_below8 {w w' : World} {n : String} {g : Nat} {k : IntKind} {zs : List Int} (hg : Tryz.prog.globalNamed n = some g) (h8 : g < 8) (h : Lib.TabIs Tryz.prog w n k zs) (hb : Below 8 w w') : Lib.TabIs Tryz.prog w' n k zs := by
  unfold Lib.TabIs World.var? at h ⊢
  rw [hg] at h ⊢
  simp only [Option.bind_some] at h ⊢
  rw [hb.block g h8]
  exact h
theorem var_lt {w : World} {n : String} {g : Nat} {cs : Array Value} (hg : Tryz.prog.globalNamed n = some g) (h : w.var? Tryz.prog n = some cs) : g < w.heap.size := by
  unfold World.var? at h
  rw [hg] at h
  simp only [Option.bind_some] at h
  rcases Nat.lt_or_ge g w.heap.size with h' | h'
  · exact h'
  · rw [Array.getElem?_eq_none h'] at h; cases h
theorem first_is : Rows.laid_unicode_utf8_first = Lib.firstData := by kernel_rfl
theorem accept_is : (Rows.laid_unicode_utf8_acceptRanges : DataW Unit) = Lib.acceptData := by kernel_rfl
theorem tens_is : (Rows.laid_internal_strconv_uint64pow10 : DataW Unit) = Lib.tabData .u64 Lib.pow10Tab := by kernel_rfl
theorem starE : ("*" ++ "errors.errorString" : String) = "*errors.errorString" := by decide
theorem row299 (u : TypeId) (h : Tryz.prog.typeName? 3 u = some "*errors.errorString") : u = 299 :=
  typeName_ptr_named (P := Tryz.prog) (nm := "errors.errorString") (by rw [starE]; kernel_rfl) (by kernel_rfl) (by decide) u (by rw [starE]; exact h)
set_option maxRecDepth 100000 in
theorem glob_of {W : World} (h : laidMet Tryz.prog [("math/bits.deBruijn32tab", Rows.laid_math_bits_deBruijn32tab), ("math/bits.deBruijn64tab", Rows.laid_math_bits_deBruijn64tab), ("internal/strconv.uint64pow10", Rows.laid_internal_strconv_uint64pow10), ("unicode/utf8.acceptRanges", Rows.laid_unicode_utf8_acceptRanges), ("strconv.ErrRange", Rows.laid_strconv_ErrRange), ("strconv.ErrSyntax", Rows.laid_strconv_ErrSyntax), ("unicode/utf8.first", Rows.laid_unicode_utf8_first)] W) : Glob W := by
  have r7 : Lib.VarReads Tryz.prog W "math/bits.deBruijn64tab" Rows.laid_math_bits_deBruijn64tab := Lib.laidMet.reads h (by simp)
  obtain ⟨g7, t7, cs7, f7, p7, hg7, _, hv7, _⟩ := r7
  have hg7' : Tryz.prog.globalNamed "math/bits.deBruijn64tab" = some 7 := by kernel_rfl
  have hsz : 8 ≤ W.heap.size := var_lt hg7' hv7
  have hT : Lib.Utf8Tabs 0 1 W := utf8Tabs_of_reads { Tryz.lays197 with } Tryz.u8x (by have := Lib.laidMet.reads (n := "unicode/utf8.first") (d := Rows.laid_unicode_utf8_first) h (by simp); rw [first_is] at this; exact this) (by have := Lib.laidMet.reads (n := "unicode/utf8.acceptRanges") (d := Rows.laid_unicode_utf8_acceptRanges) h (by simp); rw [accept_is] at this; exact this)
  have ht : Lib.TabIs Tryz.prog W tensName .u64 Lib.pow10Tab := by
    have h3 := h.tail.tail
    rw [tens_is] at h3
    exact Lib.tabIs_of_head (g := 2) (t := 281) (e := 156) (n := 20) (by kernel_rfl) (by kernel_rfl) Tryz.underlying281 Tryz.underlying156 Tryz.cells156 (by kernel_rfl) h3
  obtain ⟨a4, _, v4, _⟩ := laid_sentinel (g := 5) (ti := 167) (tp := 299) (te := 301) (ts := 9) h.tail.tail.tail.tail (by kernel_rfl) (by kernel_rfl) Tryz.underlying167 row299 Tryz.underlying299 Tryz.underlying301 rfl rfl Tryz.underlying9 (by kernel_rfl) Tryz.cells9
  obtain ⟨a5, _, v5, _⟩ := laid_sentinel (g := 4) (ti := 167) (tp := 299) (te := 301) (ts := 9) h.tail.tail.tail.tail.tail (by kernel_rfl) (by kernel_rfl) Tryz.underlying167 row299 Tryz.underlying299 Tryz.underlying301 rfl rfl Tryz.underlying9 (by kernel_rfl) Tryz.cells9
  have c5 : W.cell? ⟨5, 0, none⟩ = some (.iface 299 (.pointer (some a4))) := by
    have := World.var?_cell (g := 5) (by kernel_rfl) v4 0
    simpa using this
  have c4 : W.cell? ⟨4, 0, none⟩ = some (.iface 299 (.pointer (some a5))) := by
    have := World.var?_cell (g := 4) (by kernel_rfl) v5 0
    simpa using this
  exact ⟨hsz, fun w' hb => ⟨utf8_below8 hT hb, ⟨_, _, (World.cell?_of_block (a := ⟨4, 0, none⟩) (hb.block 4 (by omega))).trans c4⟩, ⟨_, _, (World.cell?_of_block (a := ⟨5, 0, none⟩) (hb.block 5 (by omega))).trans c5⟩, tab_below8 (g := 2) (by kernel_rfl) (by omega) ht hb⟩⟩
end Go.Proofs.YtdmnhkgiojkphaaGreatDoor

namespace Go.Proofs.YtdmnhkgiojkphaaGreatDoor
open Go Go.RowKit Go.ChangeShapes Go.WideShapes Go.Deep

theorem add_none {b o i : Nat} : (⟨b, o, none⟩ : Addr).add i = ⟨b, o + i, none⟩ := Addr.add_lit ..
section
variable {H : Type} {enc : TypeId × Value → H} {W : World}
end
end Go.Proofs.YtdmnhkgiojkphaaGreatDoor

namespace Go.Proofs.YtdmnhkgiojkphaaGreatDoor
open Go Go.RowKit Go.ChangeShapes Go.WideShapes Go.ChangeAt

noncomputable def doorOne (os : Os) : World :=
  { World.doorLaid Tryz.prog 400 os with heap := (World.doorLaid Tryz.prog 400 os).heap.setIfInBounds 0 (.cells ((Lib.firstTab.map fun z => Value.int .u8 z).toArray) 146) }
end Go.Proofs.YtdmnhkgiojkphaaGreatDoor
