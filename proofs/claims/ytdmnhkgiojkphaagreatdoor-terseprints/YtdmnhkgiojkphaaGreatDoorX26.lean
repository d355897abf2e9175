/- The walks of check, Check. -/
import Derived.Test.YtdmnhkgiojkphaaGreatDoorWalkX
import Derived.ArgAppend
import Derived.Test.YtdmnhkgiojkphaaGreatDoorX16
namespace Go.Proofs.YtdmnhkgiojkphaaGreatDoor
open Go Go.RowKit Go.Maps
open Go.RowKit (wrap32 wrap64)

theorem errs (t : Tree) (about : Nat) : oneE t about = 0 ∨ (oneE t about != 0) = true := by
  by_cases h : oneE t about = 0
  · exact .inl h
  · exact .inr (by simpa using h)
set_option maxRecDepth 100000 in
set_option maxHeartbeats 2000000 in
theorem check_any : ∀ (n : Nat), n ≤ 1099511627776 → ∀ (t : Tree), cntT t ≤ n → ∀ (about : Nat) (w : World) (F : Nat → Prop) (v : Value), RdT w F t v → Glob w → about ≤ 33 →
    Calls Tryz.prog 42 #[v, .int .i64 about] w fun e w' => e = .returned (.int .i64 (checkT t about)) ∧ w.grownBy w' none
  | 0, _, t, hn, _, _, _, _, _, _, _ => by rw [cntT_eq] at hn; omega
  | n + 1, hN, t, hn, about, w, F, v, hv, hG, ha => by
    have ih := check_any n (by omega)
    have hv0 := hv
    rw [RdT_eq] at hv
    obtain ⟨kv, ia, ic, rfl, hkv, hc, hi⟩ := hv
    obtain ⟨ka, kc, rfl, hkr⟩ := hkv
    have hAl : ∀ u : World, w.grownBy u none → Calls Tryz.prog 74 #[.agg #[.int .i64 t.kind, .bool t.flag, .int .i64 t.n, .string t.text, .slice ka t.keys.length kc, .slice ia t.items.length ic], .int .i64 about] u fun e w' => e = .returned (.int .i64 (oneE t about)) ∧ u.grownBy w' none := fun u hu => checkAlone_any t about u F _ (hv0.on (Stays.none hu)) (by omega) (hG.grown hu (fun k hk => by cases hk)) (by omega)
    have hct := checkT_eq t about
    have hlt : oneE t about = 0 → 0 < t.items.length → about < 32 := fun h0 hl => by
      have hk := one_kind h0
      have hs := hk.2.2.1
      unfold spareB at hs
      simp only [Bool.and_eq_true, Bool.or_eq_true, beq_iff_eq] at hs
      rcases hs.2 with h | h
      · omega
      · exact hk.2.2.2.2.2.2 h
    obtain ⟨A, HA⟩ : ∃ A, Hid (t.items.length = A) := ⟨_, hid rfl⟩
    obtain ⟨KN, HKN⟩ : ∃ A, Hid (t.keys.length = A) := ⟨_, hid rfl⟩
    rw [HA.out, HKN.out] at hAl
    have hA : A ≤ 1099511627776 := by have := cntL_length t.items; rw [cntT_eq] at hn; rw [HA.out] at this; omega
    rw [HA.out, HKN.out]
    obtain ⟨E, HE⟩ : ∃ E, Hid (oneE t about = E) := ⟨_, hid rfl⟩
    obtain ⟨R, HR⟩ : ∃ E, Hid (checkT t about = E) := ⟨_, hid rfl⟩
    rw [HE.out] at hAl hct hlt
    rw [HR.out] at hct ⊢
    have HCT := hid hct
    have HAl := hid hAl
    have HLT := hid hlt
    have HI := hid hi
    have HIH := hid ih
    have HN := hid hn
    have HGl := hid hG
    obtain ⟨W0, hW0⟩ : ∃ W0, w.alloc (.cells #[.int .i64 t.kind, .bool t.flag, .int .i64 t.n, .string t.text, .slice ka KN kc, .slice ia A ic] 26) = W0 := ⟨_, rfl⟩
    have c0 := boxed w (.int .i64 t.kind) (.bool t.flag) (.int .i64 t.n) (.string t.text) (.slice ka KN kc) (.slice ia A ic)
    have g0 : w.grownBy W0 none := by rw [← hW0]; exact galloc _ _ none
    rw [hW0] at c0
    have HG0 := hid g0
    have HB : Hid (∀ u : World, W0.grownBy u none → u.heap[w.heap.size]? = some (.cells #[.int .i64 t.kind, .bool t.flag, .int .i64 t.n, .string t.text, .slice ka KN kc, .slice ia A ic] 26 (0, 0))) := fun u hu => (hu.block _ (Array.getElem?_eq_some_iff.1 c0).1 (by simp)).trans c0
    obtain ⟨⟨x0, x1, x2, x3, x4, x5⟩, xf⟩ := cells6 c0
    clear c0 g0 hi ih hn hN hct hAl hlt hG hv0 hkr hc
    by_cases hE0 : E = 0
    · subst hE0
      have HCL : Hid (R = checkL t.items (about + 1)) := by rw [HCT.out, if_pos rfl]; exact rfl
      clear HCT
      go_enter Tryz.func42, Tryz.ntmps42
      go_wp2_with (go_at_call 74; refine (HAl.out _ HG0.out).mono ?_; rintro e u2 ⟨rfl, hg2⟩; obtain ⟨⟨x0, x1, x2, x3, x4, x5⟩, xf⟩ := cells6 (HB.out _ hg2))
      have HG1 := hid (gtrans HG0.out hg2)
      clear hg2
      go_loopw [18] (fun iv wr => ∃ (i : Nat), iv = .int .i64 i ∧ i ≤ A ∧ Hid (w.grownBy wr none) ∧ Hid (R = checkL (t.items.drop i) (about + 1))) (fun iv _ => A - (intOf iv).toNat)
      case atStart => exact ⟨0, rfl, Nat.zero_le _, HG1, HCL⟩
      case round =>
        obtain ⟨i, rfl, hi', HG, HD⟩ := hrel
        by_cases hlt : i < A
        · have hd : decide ((i : Int) < (A : Int)) = true := decide_eq_true (by omega)
          have hitl : i < t.items.length := by have := HA.out; omega
          obtain ⟨g, o, rfl, hg, hF', hRd⟩ := HI.out (by omega)
          obtain ⟨a0, a1, a2, a3, b4, c4, d4, b5, c5, d5, z0, z1, z2, z3, z4, z5, hT⟩ := hRd.atS (Stays.none HG.out) hF' hg i hitl
          have hab : about < 32 := HLT.out (by first | rfl | trivial) (by omega)
          have hgz : wr.grownBy (wr.alloc (.cells #[.int .i64 a0, .bool a1, .int .i64 a2, .string a3, .slice b4 c4 d4, .slice b5 c5 d5] 26)) none := galloc _ _ none
          have k1 := boxed wr (.int .i64 a0) (.bool a1) (.int .i64 a2) (.string a3) (.slice b4 c4 d4) (.slice b5 c5 d5)
          obtain ⟨W1, hW1⟩ : ∃ W1, wr.alloc (.cells #[.int .i64 a0, .bool a1, .int .i64 a2, .string a3, .slice b4 c4 d4, .slice b5 c5 d5] 26) = W1 := ⟨_, rfl⟩
          rw [hW1] at k1 hgz
          have HC : Hid (Calls Tryz.prog 42 #[.agg #[.int .i64 a0, .bool a1, .int .i64 a2, .string a3, .slice b4 c4 d4, .slice b5 c5 d5], .int .i64 ((about + 1 : Nat) : Int)] W1 fun e w' => e = .returned (.int .i64 (checkT t.items[i] (about + 1))) ∧ W1.grownBy w' none) := hid (HIH.out t.items[i] (by have h1 := cntL_mem (List.getElem_mem hitl); have h2 := HN.out; rw [cntT_eq] at h2; omega) (about + 1) W1 F _ (hT.on (Stays.none hgz)) (HGl.out.grown (gtrans HG.out hgz) (fun k hk => by cases hk)) (by omega))
          have HGz := hid (gtrans HG.out hgz)
          obtain ⟨⟨q0, q1, q2, q3, q4, q5⟩, qf⟩ := cells6 k1
          have hdr : checkL (t.items.drop i) (about + 1) = if checkT t.items[i] (about + 1) = 0 then checkL (t.items.drop (i + 1)) (about + 1) else checkT t.items[i] (about + 1) := by rw [List.drop_eq_getElem_cons hitl, checkL]
          obtain ⟨X, HX⟩ : ∃ E, Hid (checkT t.items[i] (about + 1) = E) := ⟨_, hid rfl⟩
          rw [HX.out] at hdr HC
          have HDR := hid hdr
          clear hT hRd hgz k1 hdr
          go_wp2_with fail
          refine HC.out.mono ?_
          rintro e w2 ⟨rfl, hg2⟩
          have HG2 := hid (gtrans HGz.out hg2)
          clear hg2
          by_cases hX0 : X = 0
          · subst hX0
            go_wp2_with fail
            exact ⟨⟨i + 1, rfl, by omega, HG2, hid (by rw [HD.out, HDR.out]; simp)⟩, by simp only [intOf]; omega⟩
          · have hxb : (X != 0) = true := by simpa using hX0
            have HX0 := hid hX0
            clear hX0
            go_wp2_with fail
            go_ret
            exact ⟨by rw [HD.out, HDR.out, if_neg HX0.out]; rfl, HG2.out⟩
        · have hd : decide ((i : Int) < (A : Int)) = false := decide_eq_false (by omega)
          go_wp2_with fail
          go_ret
          refine ⟨?_, HG.out⟩
          rw [HD.out, List.drop_eq_nil_of_le (by have := HA.out; omega)]
          rfl
    · have heb : (E != 0) = true := by simpa using hE0
      have HF : Hid (R = E) := by rw [HCT.out, if_neg hE0]; exact rfl
      clear hE0 HCT
      go_enter Tryz.func42, Tryz.ntmps42
      go_wp2_with (go_at_call 74; refine (HAl.out _ HG0.out).mono ?_; rintro e u2 ⟨rfl, hg2⟩)
      go_ret
      exact ⟨by rw [HF.out]; rfl, gtrans HG0.out hg2⟩
set_option maxRecDepth 100000 in
theorem checkF_any (t : Tree) (hn : cntT t ≤ 1099511627776) (w : World) (F : Nat → Prop) (v : Value) (hv : RdT w F t v) (hG : Glob w) :
    Calls Tryz.prog 15 #[v] w fun e w' => e = .returned (.int .i64 (checkT t 0)) ∧ w.grownBy w' none := by
  have hv0 := hv
  rw [RdT_eq] at hv
  obtain ⟨kv, ia, ic, rfl, ⟨ka, kc, rfl, hkr⟩, hc, hi⟩ := hv
  obtain ⟨A, HA⟩ : ∃ A, Hid (t.items.length = A) := ⟨_, hid rfl⟩
  obtain ⟨KN, HKN⟩ : ∃ A, Hid (t.keys.length = A) := ⟨_, hid rfl⟩
  rw [HA.out, HKN.out] at hv0 ⊢
  have g0 : w.grownBy (w.alloc (.cells #[.int .i64 t.kind, .bool t.flag, .int .i64 t.n, .string t.text, .slice ka KN kc, .slice ia A ic] 26)) none := galloc _ _ none
  have c0 := boxed w (.int .i64 t.kind) (.bool t.flag) (.int .i64 t.n) (.string t.text) (.slice ka KN kc) (.slice ia A ic)
  obtain ⟨W0, hW0⟩ : ∃ W0, w.alloc (.cells #[.int .i64 t.kind, .bool t.flag, .int .i64 t.n, .string t.text, .slice ka KN kc, .slice ia A ic] 26) = W0 := ⟨_, rfl⟩
  rw [hW0] at c0 g0
  have HC := hid (check_any _ hn t (Nat.le_refl _) 0 W0 F _ (hv0.on (Stays.none g0)) (hG.grown g0 (fun k hk => by cases hk)) (by omega))
  have HG0 := hid g0
  obtain ⟨⟨x0, x1, x2, x3, x4, x5⟩, xf⟩ := cells6 c0
  obtain ⟨R, HR⟩ : ∃ E, Hid (checkT t 0 = E) := ⟨_, hid rfl⟩
  rw [HR.out] at HC ⊢
  clear c0 g0 hv0 hkr hc hi hG hn
  go_enter Tryz.func15, Tryz.ntmps15
  go_wp2_with fail
  refine HC.out.mono ?_
  rintro e w' ⟨rfl, hg⟩
  have HG1 := hid (gtrans HG0.out hg)
  clear hg
  go_wp2_with fail
  go_ret
  exact ⟨rfl, HG1.out⟩
end Go.Proofs.YtdmnhkgiojkphaaGreatDoor

namespace Go.Proofs.YtdmnhkgiojkphaaGreatDoor
open Go Go.RowKit Go.Maps
open Go.RowKit (wrap32 wrap64)

theorem convert_sl (l : List UInt8) (a : Option Addr) (b off c : Nat) (w : World) (ha : 0 < l.length → a = some ⟨b, off, none⟩)
    (hcell : ∀ i (h : i < l.length), w.cell? ⟨b, off + i, none⟩ = some (.int .u8 l[i].toNat)) : (convert 84 9 (.slice a l.length c)).run Tryz.prog w = .ok (.string (str l)) w := by
  by_cases hl : 0 < l.length
  · rw [ha hl]
    have := run_convert_bytes_arg w 84 5 Tryz.underlying84 Tryz.underlying5 b off l.length c (l.map fun b => (b.toNat : Int)) (by simp) (fun i hi => by
      simp [hcell i hi, List.getD, List.getElem?_eq_getElem hi]) 9 Tryz.underlying9
    rw [this]
    have e : strOfNums (l.map fun b => (b.toNat : Int)) = str l := by
      unfold strOfNums str
      rw [List.map_map, show l.map ((fun n : Int => UInt8.ofNat n.toNat) ∘ fun b : UInt8 => (b.toNat : Int)) = l.map id from List.map_congr_left fun x _ => by simp, List.map_id]
    rw [e]
  · have : l = [] := by cases l with | nil => rfl | cons _ _ => simp at hl
    subst this
    rcases a with _ | ⟨b', o', sp⟩
    · exact run_convert_bytes_nil w 84 5 Tryz.underlying84 Tryz.underlying5 0 c 9 Tryz.underlying9
    · rw [run_convert_bytes_string w 84 9 5 _ _ _ Tryz.underlying84 Tryz.underlying5 Tryz.underlying9]
      have hl := run_loadCells_list (P := Tryz.prog) w ⟨b', o', sp⟩ [] (fun j v hj => by simp at hj)
      have := run_bytesToString (P := Tryz.prog) w ⟨b', o', sp⟩ 0 c [] (by simpa using hl)
      exact this
theorem Out.convert {B : Nat} {w : World} {v : Value} {l : List UInt8} (h : Out B w v l) : (convert 84 9 v).run Tryz.prog w = .ok (.string (str l)) w := by
  have hc := fun (g : Nat) (hg : v.ownBlock = some g) => h.cells (g := g) hg
  rcases h.2 with ⟨rfl, h0⟩ | ⟨g, cap, cur, rfl, _, hgg, hle, _, hs, _⟩
  · have : l = [] := List.eq_nil_of_length_eq_zero h0
    subst this
    exact convert_sl [] Option.none 0 0 0 w (fun h => by simp at h) (fun i hi => by simp at hi)
  · refine convert_sl l _ g 0 cap w (fun _ => rfl) (fun i hi => ?_)
    have := hc g rfl i (.int .u8 l[i].toNat) (by simp [Lib.byteCells, hi])
    simpa [Addr.add_lit] using this

set_option maxRecDepth 100000 in
set_option maxHeartbeats 1000000 in
theorem print_ok (t : Tree) (hc : checkT t 0 = 0) (hf : Fits t) (hn : cntT t ≤ 1099511627776) (hl : (pr t).length ≤ 1099511627776) (w : World) (F : Nat → Prop) (v : Value) (hv : RdT w F t v) (hG : Glob w) :
    Calls Tryz.prog 13 #[v] w fun e w' => e = .returned (.tuple #[.string (str (pr t)), .int .i64 0]) ∧ w.grownBy w' none := by
  have hv0 := hv
  rw [RdT_eq] at hv
  obtain ⟨kv, ia, ic, rfl, ⟨ka, kc, rfl, hkr⟩, hc', hi⟩ := hv
  obtain ⟨A, HA⟩ : ∃ A, Hid (t.items.length = A) := ⟨_, hid rfl⟩
  obtain ⟨KN, HKN⟩ : ∃ A, Hid (t.keys.length = A) := ⟨_, hid rfl⟩
  rw [HA.out, HKN.out] at hv0 ⊢
  have g0 : w.grownBy (w.alloc (.cells #[.int .i64 t.kind, .bool t.flag, .int .i64 t.n, .string t.text, .slice ka KN kc, .slice ia A ic] 26)) none := galloc _ _ none
  have c0 := boxed w (.int .i64 t.kind) (.bool t.flag) (.int .i64 t.n) (.string t.text) (.slice ka KN kc) (.slice ia A ic)
  obtain ⟨W0, hW0⟩ : ∃ W0, w.alloc (.cells #[.int .i64 t.kind, .bool t.flag, .int .i64 t.n, .string t.text, .slice ka KN kc, .slice ia A ic] 26) = W0 := ⟨_, rfl⟩
  rw [hW0] at c0 g0
  have HV0 : Hid (RdT W0 F t (.agg #[.int .i64 t.kind, .bool t.flag, .int .i64 t.n, .string t.text, .slice ka KN kc, .slice ia A ic])) := hv0.on (Stays.none g0)
  have hGW : Glob W0 := hG.grown g0 (fun k hk => by cases hk)
  have hCk := checkF_any t hn W0 F _ HV0.out hGW
  rw [hc] at hCk
  have HC := hid hCk
  have HG0 := hid g0
  have HGW := hid hGW
  have HB : Hid (∀ u : World, W0.grownBy u none → u.heap[w.heap.size]? = some (.cells #[.int .i64 t.kind, .bool t.flag, .int .i64 t.n, .string t.text, .slice ka KN kc, .slice ia A ic] 26 (0, 0))) := fun u hu => (hu.block _ (Array.getElem?_eq_some_iff.1 c0).1 (by simp)).trans c0
  have HA1 : Hid (∀ u : World, W0.grownBy u none → Calls Tryz.prog 41 #[.slice none 0 0, .agg #[.int .i64 t.kind, .bool t.flag, .int .i64 t.n, .string t.text, .slice ka KN kc, .slice ia A ic]] u fun e w' => ∃ v', e = .returned v' ∧ u.grownBy w' none ∧ ∀ (x : World), (convert 84 9 v').run Tryz.prog w' = .ok (.string (str (pr t))) w') := fun u hu => by
    have hz := hu.size
    have hGu : Glob u := hGW.grown hu (fun k hk => by cases hk)
    refine (appendValue_any _ hn t (Nat.le_refl _) ⟨0, hc⟩ hf u.heap.size u (.slice none 0 0) [] _ (World.ownsRow_nil _ _ _ _) (RdT.kept (F := F) (Stays.none hu) (fun g _ hg => by omega) t HV0.out) (Nat.le_refl _) hGu.1 hGu (by simp only [List.length_nil]; omega)).mono ?_
    rintro e w' ⟨v', rfl, ho, hk⟩
    exact ⟨v', rfl, gof hk.1.1 none, fun _ => by have := ho.convert; rw [List.nil_append] at this; exact this⟩
  obtain ⟨⟨x0, x1, x2, x3, x4, x5⟩, xf⟩ := cells6 c0
  obtain ⟨PT, HPT⟩ : ∃ P, Hid (str (pr t) = P) := ⟨_, hid rfl⟩
  rw [HPT.out] at HA1 ⊢
  clear c0 g0 hv0 hkr hc' hi hG hn hGW hCk hc hf hl
  go_enter Tryz.func13, Tryz.ntmps13
  go_wp2_with (first
    | (go_at_call 15; refine HC.out.mono ?_; rintro e u2 ⟨rfl, hg2⟩; obtain ⟨⟨x0, x1, x2, x3, x4, x5⟩, xf⟩ := cells6 (HB.out _ hg2))
    | (go_at_call 41; refine (HA1.out _ hg2).mono ?_; rintro e u3 ⟨v3, rfl, hg3, hcv⟩; have hcv := hcv u3))
  go_ret2
  exact ⟨rfl, gtrans HG0.out (gtrans hg2 hg3)⟩
set_option maxRecDepth 100000 in
set_option maxHeartbeats 1000000 in
theorem print_bad (t : Tree) (hc : checkT t 0 ≠ 0) (hn : cntT t ≤ 1099511627776) (w : World) (F : Nat → Prop) (v : Value) (hv : RdT w F t v) (hG : Glob w) :
    Calls Tryz.prog 13 #[v] w fun e w' => e = .returned (.tuple #[.string ⟨#[]⟩, .int .i64 (checkT t 0)]) ∧ w.grownBy w' none := by
  have hv0 := hv
  rw [RdT_eq] at hv
  obtain ⟨kv, ia, ic, rfl, ⟨ka, kc, rfl, hkr⟩, hc', hi⟩ := hv
  obtain ⟨A, HA⟩ : ∃ A, Hid (t.items.length = A) := ⟨_, hid rfl⟩
  obtain ⟨KN, HKN⟩ : ∃ A, Hid (t.keys.length = A) := ⟨_, hid rfl⟩
  rw [HA.out, HKN.out] at hv0 ⊢
  have g0 : w.grownBy (w.alloc (.cells #[.int .i64 t.kind, .bool t.flag, .int .i64 t.n, .string t.text, .slice ka KN kc, .slice ia A ic] 26)) none := galloc _ _ none
  have c0 := boxed w (.int .i64 t.kind) (.bool t.flag) (.int .i64 t.n) (.string t.text) (.slice ka KN kc) (.slice ia A ic)
  obtain ⟨W0, hW0⟩ : ∃ W0, w.alloc (.cells #[.int .i64 t.kind, .bool t.flag, .int .i64 t.n, .string t.text, .slice ka KN kc, .slice ia A ic] 26) = W0 := ⟨_, rfl⟩
  rw [hW0] at c0 g0
  have HC := hid (checkF_any t hn W0 F _ (hv0.on (Stays.none g0)) (hG.grown g0 (fun k hk => by cases hk)))
  have HG0 := hid g0
  obtain ⟨⟨x0, x1, x2, x3, x4, x5⟩, xf⟩ := cells6 c0
  obtain ⟨R, HR⟩ : ∃ E, Hid (checkT t 0 = E) := ⟨_, hid rfl⟩
  rw [HR.out] at HC hc ⊢
  have hrb : (R != 0) = true := by simpa using hc
  clear c0 g0 hv0 hkr hc' hi hG hn hc
  go_enter Tryz.func13, Tryz.ntmps13
  go_wp2_with (go_at_call 15; refine HC.out.mono ?_; rintro e u2 ⟨rfl, hg2⟩)
  go_ret2
  exact ⟨rfl, gtrans HG0.out hg2⟩
end Go.Proofs.YtdmnhkgiojkphaaGreatDoor

namespace Go.Proofs.YtdmnhkgiojkphaaGreatDoor
open Go Go.RowKit Go.Maps
open Go.RowKit (wrap32 wrap64)

theorem bf_step (s : ByteArray) (i : Nat) (h : i + 1 < s.size) : bf (from_ s i) = (if s[i] = 92 ∧ (s[i + 1] = 98 ∨ s[i + 1] = 102) then 1 else 0) + bf (from_ s (i + 1)) := by
  rw [from_lt s i (by omega), from_lt s (i + 1) h, bf]
theorem bf_end (s : ByteArray) (i : Nat) (h : s.size ≤ i + 1) : bf (from_ s i) = 0 := by
  by_cases h0 : i < s.size
  · rw [from_lt s i h0, from_ge s (i + 1) h]; rfl
  · rw [from_ge s i (by omega)]; rfl
theorem bf_le (l : List UInt8) : bf l ≤ l.length := by
  induction l with
  | nil => simp [bf]
  | cons a r ih =>
    cases r with
    | nil => simp [bf]
    | cons b q =>
      rw [bf, List.length_cons]
      split <;> omega
set_option maxRecDepth 100000 in
set_option maxHeartbeats 1000000 in
theorem longer_any (s t : ByteArray) (w : World) (hs : s.size ≤ 1099511627776) :
    Calls Tryz.prog 36 #[.string s, .string t] w fun e w' => e = .returned (.bool (decide ((t.size : Int) ≤ (s.size : Int) + 4 * (bf s.data.toList : Int)))) ∧ w' = w := by
  have hb := bf_le s.data.toList
  rw [Array.length_toList] at hb
  have hb' : bf s.data.toList ≤ s.size := hb
  obtain ⟨X, HX⟩ : ∃ X, Hid (bf s.data.toList = X) := ⟨_, hid rfl⟩
  rw [HX.out] at hb' ⊢
  clear hb
  go_enter Tryz.func36, Tryz.ntmps36
  go_wp2_with fail
  go_loopw [5, 6] (fun nv iv wr => ∃ (m i : Nat), nv = .int .i64 m ∧ iv = .int .i64 i ∧ i ≤ s.size ∧ m ≤ i ∧ wr = w ∧ Hid (X = m + bf (from_ s i))) (fun _ iv _ => s.size - (intOf iv).toNat)
  case atStart => exact ⟨0, 0, rfl, rfl, Nat.zero_le _, Nat.le_refl _, rfl, hid (by rw [from_zeroR, HX.out]; omega)⟩
  case round =>
    obtain ⟨m, i, rfl, rfl, hi, hm, rfl, HB⟩ := hrel
    by_cases hlt : i + 1 < s.size
    · have hd : decide ((i : Int) + 1 < (s.size : Int)) = true := decide_eq_true (by omega)
      have q1 : (i : Int) < (s.size : Int) := by omega
      have q2 : i < s.size := by omega
      have q3 : (i : Int) + 1 < (s.size : Int) := by omega
      have q4 : ((i : Int) + 1).toNat = i + 1 := by omega
      have q5 : ¬ ((i : Int) + 1 < 0) := by omega
      have HS := hid (bf_step s i hlt)
      obtain ⟨a, ha⟩ : ∃ a, s[i] = a := ⟨_, rfl⟩
      obtain ⟨b, hb⟩ : ∃ b, s[i + 1] = b := ⟨_, rfl⟩
      rw [ha, hb] at HS
      have HBB := hid HS
      have hab := u8_bd a
      have hbb := u8_bd b
      by_cases a92 : a = 92
      · have e1 : ((a.toNat : Int) == 92) = true := by rw [a92]; rfl
        have e1n : (a.toNat == 92) = true := by rw [a92]; rfl
        have HA := hid a92
        clear a92
        by_cases b98 : b = 98
        · have e2 : ((b.toNat : Int) == 98) = true := by rw [b98]; rfl
          have e2n : (b.toNat == 98) = true := by rw [b98]; rfl
          have HBv := hid b98
          clear b98
          clear HBB
          go_wp2_with fail
          exact ⟨⟨m + 1, i + 1, rfl, rfl, by omega, by omega, by first | rfl | trivial, hid (by rw [HB.out, HS.out, if_pos ⟨HA.out, .inl HBv.out⟩]; omega)⟩, by simp only [intOf]; omega⟩
        · have e2 : ((b.toNat : Int) == 98) = false := beq_eq_false_iff_ne.2 (fun h => b98 (UInt8.toNat_inj.1 (by show b.toNat = 98; omega)))
          have e2n : (b.toNat == 98) = false := beq_eq_false_iff_ne.2 (fun h => b98 (UInt8.toNat_inj.1 h))
          have HBv := hid b98
          clear b98
          by_cases b102 : b = 102
          · have e3 : ((b.toNat : Int) == 102) = true := by rw [b102]; rfl
            have e3n : (b.toNat == 102) = true := by rw [b102]; rfl
            have HBw := hid b102
            clear b102
            clear HBB
            go_wp2_with fail
            exact ⟨⟨m + 1, i + 1, rfl, rfl, by omega, by omega, by first | rfl | trivial, hid (by rw [HB.out, HS.out, if_pos ⟨HA.out, .inr HBw.out⟩]; omega)⟩, by simp only [intOf]; omega⟩
          · have e3 : ((b.toNat : Int) == 102) = false := beq_eq_false_iff_ne.2 (fun h => b102 (UInt8.toNat_inj.1 (by show b.toNat = 102; omega)))
            have e3n : (b.toNat == 102) = false := beq_eq_false_iff_ne.2 (fun h => b102 (UInt8.toNat_inj.1 h))
            have HBw := hid b102
            clear b102
            clear HBB
            go_wp2_with fail
            exact ⟨⟨m, i + 1, rfl, rfl, by omega, by omega, by first | rfl | trivial, hid (by rw [HB.out, HS.out, if_neg (fun h => h.2.elim HBv.out HBw.out)]; omega)⟩, by simp only [intOf]; omega⟩
      · have e1 : ((a.toNat : Int) == 92) = false := beq_eq_false_iff_ne.2 (fun h => a92 (UInt8.toNat_inj.1 (by show a.toNat = 92; omega)))
        have e1n : (a.toNat == 92) = false := beq_eq_false_iff_ne.2 (fun h => a92 (UInt8.toNat_inj.1 h))
        have HA := hid a92
        clear a92
        clear HBB
        go_wp2_with fail
        exact ⟨⟨m, i + 1, rfl, rfl, by omega, by omega, by first | rfl | trivial, hid (by rw [HB.out, HS.out, if_neg (fun h => HA.out h.1)]; omega)⟩, by simp only [intOf]; omega⟩
    · have hd : decide ((i : Int) + 1 < (s.size : Int)) = false := decide_eq_false (by omega)
      have hm0 : X = m := by rw [HB.out, bf_end s i (by omega)]; omega
      subst hm0
      go_wp2_with fail
      go_ret
      exact ⟨rfl, rfl⟩
theorem num_any (w : World) (k : Int) : Calls Tryz.prog 14 #[.int .i64 k] w fun e w' => e = .returned (.int .i64 k) ∧ w' = w := by
  go_enter Tryz.func14, Tryz.ntmps14
  go_wp2_with fail
  go_ret
  exact ⟨rfl, rfl⟩
end Go.Proofs.YtdmnhkgiojkphaaGreatDoor
