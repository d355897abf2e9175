/- The walk of Print. -/
import Derived.Test.YtihbpkebknifdaaGreatDoorWalkY
import Derived.ArgAppend
import Derived.Test.YtihbpkebknifdaaGreatDoorWalkN
namespace Go.Proofs.YtihbpkebknifdaaGreatDoor
open Go Go.RowKit Go.Maps
open Go.RowKit (wrap32 wrap64)

theorem convert_sl (l : List UInt8) (a : Option Addr) (b off c : Nat) (w : World) (ha : 0 < l.length → a = some ⟨b, off, none⟩)
    (hcell : ∀ i (h : i < l.length), w.cell? ⟨b, off + i, none⟩ = some (.int .u8 l[i].toNat)) : (convert 50 9 (.slice a l.length c)).run Tryz.prog w = .ok (.string (str l)) w := by
  by_cases hl : 0 < l.length
  · rw [ha hl]
    have := run_convert_bytes_arg w 50 5 Tryz.underlying50 Tryz.underlying5 b off l.length c (l.map fun b => (b.toNat : Int)) (by simp) (fun i hi => by
      simp [hcell i hi, List.getD, List.getElem?_eq_getElem hi]) 9 Tryz.underlying9
    rw [this]
    have e : strOfNums (l.map fun b => (b.toNat : Int)) = str l := by
      unfold strOfNums str
      rw [List.map_map, show l.map ((fun n : Int => UInt8.ofNat n.toNat) ∘ fun b : UInt8 => (b.toNat : Int)) = l.map id from List.map_congr_left fun x _ => by simp, List.map_id]
    rw [e]
  · have : l = [] := by cases l with | nil => rfl | cons _ _ => simp at hl
    subst this
    rcases a with _ | ⟨b', o', sp⟩
    · exact run_convert_bytes_nil w 50 5 Tryz.underlying50 Tryz.underlying5 0 c 9 Tryz.underlying9
    · rw [run_convert_bytes_string w 50 9 5 _ _ _ Tryz.underlying50 Tryz.underlying5 Tryz.underlying9]
      have hl := run_loadCells_list (P := Tryz.prog) w ⟨b', o', sp⟩ [] (fun j v hj => by simp at hj)
      have := run_bytesToString (P := Tryz.prog) w ⟨b', o', sp⟩ 0 c [] (by simpa using hl)
      exact this
theorem Out.convert {B : Nat} {w : World} {v : Value} {l : List UInt8} (h : Out B w v l) : (convert 50 9 v).run Tryz.prog w = .ok (.string (str l)) w := by
  have hc := fun (g : Nat) (hg : v.ownBlock = some g) => h.cells (g := g) hg
  rcases h.2 with ⟨rfl, h0⟩ | ⟨g, cap, cur, rfl, _, hgg, hle, _, hs, _⟩
  · have : l = [] := List.eq_nil_of_length_eq_zero h0
    subst this
    exact convert_sl [] Option.none 0 0 0 w (fun h => by simp at h) (fun i hi => by simp at hi)
  · refine convert_sl l _ g 0 cap w (fun _ => rfl) (fun i hi => ?_)
    have := hc g rfl i (.int .u8 l[i].toNat) (by simp [Lib.byteCells, hi])
    simpa [Addr.add_lit] using this

set_option maxRecDepth 100000 in
set_option maxHeartbeats 1000000 in
theorem print_ok (t : Tree) (hc : checkT t 0 = 0) (hf : Fits t) (hn : cntT t ≤ 1099511627776) (hl : (pr t).length ≤ 1099511627776) (w : World) (F : Nat → Prop) (v : Value) (hv : RdT w F t v) (hG : Glob w) :
    Calls Tryz.prog 14 #[v] w fun e w' => e = .returned (.tuple #[.string (str (pr t)), .int .i64 0]) ∧ w.grownBy w' none := by
  have hv0 := hv
  rw [RdT_eq] at hv
  obtain ⟨kv, ia, ic, rfl, ⟨ka, kc, rfl, hkr⟩, hc', hi⟩ := hv
  obtain ⟨A, HA⟩ : ∃ A, Hid (t.items.length = A) := ⟨_, hid rfl⟩
  obtain ⟨KN, HKN⟩ : ∃ A, Hid (t.keys.length = A) := ⟨_, hid rfl⟩
  rw [HA.out, HKN.out] at hv0 ⊢
  have g0 : w.grownBy (w.alloc (.cells #[.int .i64 t.kind, .bool t.flag, .int .i64 t.n, .string t.text, .slice ka KN kc, .slice ia A ic] 25)) none := galloc _ _ none
  have c0 := boxed w (.int .i64 t.kind) (.bool t.flag) (.int .i64 t.n) (.string t.text) (.slice ka KN kc) (.slice ia A ic)
  obtain ⟨W0, hW0⟩ : ∃ W0, w.alloc (.cells #[.int .i64 t.kind, .bool t.flag, .int .i64 t.n, .string t.text, .slice ka KN kc, .slice ia A ic] 25) = W0 := ⟨_, rfl⟩
  rw [hW0] at c0 g0
  have HV0 : Hid (RdT W0 F t (.agg #[.int .i64 t.kind, .bool t.flag, .int .i64 t.n, .string t.text, .slice ka KN kc, .slice ia A ic])) := hv0.on (Stays.none g0)
  have hGW : Glob W0 := hG.grown g0 (fun k hk => by cases hk)
  have hCk := checkF_any t hn W0 F _ HV0.out hGW
  rw [hc] at hCk
  have HC := hid hCk
  have HG0 := hid g0
  have HGW := hid hGW
  have HB : Hid (∀ u : World, W0.grownBy u none → u.heap[w.heap.size]? = some (.cells #[.int .i64 t.kind, .bool t.flag, .int .i64 t.n, .string t.text, .slice ka KN kc, .slice ia A ic] 25 (0, 0))) := fun u hu => (hu.block _ (Array.getElem?_eq_some_iff.1 c0).1 (by simp)).trans c0
  have HA1 : Hid (∀ u : World, W0.grownBy u none → Calls Tryz.prog 22 #[.slice none 0 0, .agg #[.int .i64 t.kind, .bool t.flag, .int .i64 t.n, .string t.text, .slice ka KN kc, .slice ia A ic]] u fun e w' => ∃ v', e = .returned v' ∧ u.grownBy w' none ∧ ∀ (x : World), (convert 50 9 v').run Tryz.prog w' = .ok (.string (str (pr t))) w') := fun u hu => by
    have hz := hu.size
    have hGu : Glob u := hGW.grown hu (fun k hk => by cases hk)
    refine (appendValue_any _ hn t (Nat.le_refl _) ⟨0, hc⟩ hf u.heap.size u (.slice none 0 0) [] _ (World.ownsRow_nil _ _ _ _) (RdT.kept (F := F) (Stays.none hu) (fun g _ hg => by omega) t HV0.out) (Nat.le_refl _) hGu.1 hGu (by simp only [List.length_nil]; omega)).mono ?_
    rintro e w' ⟨v', rfl, ho, hk⟩
    exact ⟨v', rfl, gof hk.1.1 none, fun _ => by have := ho.convert; rw [List.nil_append] at this; exact this⟩
  obtain ⟨⟨x0, x1, x2, x3, x4, x5⟩, xf⟩ := cells6 c0
  obtain ⟨PT, HPT⟩ : ∃ P, Hid (str (pr t) = P) := ⟨_, hid rfl⟩
  rw [HPT.out] at HA1 ⊢
  clear c0 g0 hv0 hkr hc' hi hG hn hGW hCk hc hf hl
  go_enter Tryz.func14, Tryz.ntmps14
  go_wp2_with (first
    | (go_at_call 6; refine HC.out.mono ?_; rintro e u2 ⟨rfl, hg2⟩; obtain ⟨⟨x0, x1, x2, x3, x4, x5⟩, xf⟩ := cells6 (HB.out _ hg2))
    | (go_at_call 22; refine (HA1.out _ hg2).mono ?_; rintro e u3 ⟨v3, rfl, hg3, hcv⟩; have hcv := hcv u3))
  go_ret2
  exact ⟨rfl, gtrans HG0.out (gtrans hg2 hg3)⟩
set_option maxRecDepth 100000 in
set_option maxHeartbeats 1000000 in
theorem print_bad (t : Tree) (hc : checkT t 0 ≠ 0) (hn : cntT t ≤ 1099511627776) (w : World) (F : Nat → Prop) (v : Value) (hv : RdT w F t v) (hG : Glob w) :
    Calls Tryz.prog 14 #[v] w fun e w' => e = .returned (.tuple #[.string ⟨#[]⟩, .int .i64 (checkT t 0)]) ∧ w.grownBy w' none := by
  have hv0 := hv
  rw [RdT_eq] at hv
  obtain ⟨kv, ia, ic, rfl, ⟨ka, kc, rfl, hkr⟩, hc', hi⟩ := hv
  obtain ⟨A, HA⟩ : ∃ A, Hid (t.items.length = A) := ⟨_, hid rfl⟩
  obtain ⟨KN, HKN⟩ : ∃ A, Hid (t.keys.length = A) := ⟨_, hid rfl⟩
  rw [HA.out, HKN.out] at hv0 ⊢
  have g0 : w.grownBy (w.alloc (.cells #[.int .i64 t.kind, .bool t.flag, .int .i64 t.n, .string t.text, .slice ka KN kc, .slice ia A ic] 25)) none := galloc _ _ none
  have c0 := boxed w (.int .i64 t.kind) (.bool t.flag) (.int .i64 t.n) (.string t.text) (.slice ka KN kc) (.slice ia A ic)
  obtain ⟨W0, hW0⟩ : ∃ W0, w.alloc (.cells #[.int .i64 t.kind, .bool t.flag, .int .i64 t.n, .string t.text, .slice ka KN kc, .slice ia A ic] 25) = W0 := ⟨_, rfl⟩
  rw [hW0] at c0 g0
  have HC := hid (checkF_any t hn W0 F _ (hv0.on (Stays.none g0)) (hG.grown g0 (fun k hk => by cases hk)))
  have HG0 := hid g0
  obtain ⟨⟨x0, x1, x2, x3, x4, x5⟩, xf⟩ := cells6 c0
  obtain ⟨R, HR⟩ : ∃ E, Hid (checkT t 0 = E) := ⟨_, hid rfl⟩
  rw [HR.out] at HC hc ⊢
  have hrb : (R != 0) = true := by simpa using hc
  clear c0 g0 hv0 hkr hc' hi hG hn hc
  go_enter Tryz.func14, Tryz.ntmps14
  go_wp2_with (go_at_call 6; refine HC.out.mono ?_; rintro e u2 ⟨rfl, hg2⟩)
  go_ret2
  exact ⟨rfl, gtrans HG0.out hg2⟩
end Go.Proofs.YtihbpkebknifdaaGreatDoor

namespace Go.Proofs.YtihbpkebknifdaaGreatDoor
open Go Go.RowKit Go.Maps
open Go.RowKit (wrap32 wrap64)

theorem bf_step (s : ByteArray) (i : Nat) (h : i + 1 < s.size) : bf (from_ s i) = (if s[i] = 92 ∧ (s[i + 1] = 98 ∨ s[i + 1] = 102) then 1 else 0) + bf (from_ s (i + 1)) := by
  rw [from_lt s i (by omega), from_lt s (i + 1) h, bf]
theorem bf_end (s : ByteArray) (i : Nat) (h : s.size ≤ i + 1) : bf (from_ s i) = 0 := by
  by_cases h0 : i < s.size
  · rw [from_lt s i h0, from_ge s (i + 1) h]; rfl
  · rw [from_ge s i (by omega)]; rfl
theorem bf_le (l : List UInt8) : bf l ≤ l.length := by
  induction l with
  | nil => simp [bf]
  | cons a r ih =>
    cases r with
    | nil => simp [bf]
    | cons b q =>
      rw [bf, List.length_cons]
      split <;> omega
theorem num_any (w : World) (k : Int) : Calls Tryz.prog 5 #[.int .i64 k] w fun e w' => e = .returned (.int .i64 k) ∧ w' = w := by
  go_enter Tryz.func5, Tryz.ntmps5
  go_wp2_with fail
  go_ret
  exact ⟨rfl, rfl⟩
end Go.Proofs.YtihbpkebknifdaaGreatDoor
