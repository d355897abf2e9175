/- Steps; step, whole, later. -/
import Derived.Test.YtlgjmhemgfjgnaaGreatVO
import Derived.Test.YtlgjmhemgfjgnaaGreatChecked
import Derived.Test.YtlgjmhemgfjgnaaGreatRows
import Derived.ProofKit
import Derived.OpenShut
import Derived.SizedLaws
import Derived.Lib.LaidTab
import Derived.Stop.LaidErr
import Derived.LaidMore
import Derived.MakeChecks
import Derived.ChangeOld
import Derived.Handed
import Derived.Lib.SmallJoins
import Derived.Deep.Matrix
import Derived.Deep.SlicePairs
import Derived.Deep.Strs
namespace Go.Proofs.YtlgjmhemgfjgnaaGreat
open Go Go.RowKit
open Go.RowKit (wrap32 wrap64)

/-- A step of a script. -/
structure St where
  dO : Int
  g : Nat
  id : List UInt8
  ex : Int
  raw : Value
def St.cells (s : St) : List Value := .int .i64 s.dO :: .int .u64 s.g :: (Lib.byteCells s.id ++ [.int .i64 s.ex, s.raw])
def St.ok (s : St) : Prop := s.g < 18446744073709551616 ∧ s.id.length = 16 ∧ (-9223372036854775808 ≤ s.ex ∧ s.ex ≤ 9223372036854775807) ∧ ∃ a n c, s.raw = .slice a n c
theorem St.cells_length {s : St} (h : s.id.length = 16) : s.cells.length = 20 := by simp [St.cells, byteCells_length, h]
theorem St.one {s : St} (h : s.ok) : ∀ v ∈ s.cells, v.oneCell' = true := by
  obtain ⟨_, _, _, a, n, c, hr⟩ := h
  intro v hv
  unfold St.cells at hv
  simp only [List.mem_cons, List.mem_append, List.not_mem_nil, or_false] at hv
  rcases hv with rfl | rfl | hv | rfl | rfl
  · rfl
  · rfl
  · exact bcs_one _ v hv
  · rfl
  · rw [hr]; rfl
theorem St.c0 (s : St) : s.cells[0]? = some (.int .i64 s.dO) := rfl
theorem St.c1 (s : St) : s.cells[1]? = some (.int .u64 s.g) := rfl
theorem St.c18 {s : St} (h : s.id.length = 16) : s.cells[18]? = some (.int .i64 s.ex) := by
  unfold St.cells
  rw [List.getElem?_cons_succ, List.getElem?_cons_succ, List.getElem?_append_right (by rw [byteCells_length]; omega), byteCells_length, h]
  rfl
theorem St.rid {w : World} {b o : Nat} {s : St} (h : w.rangeAt b o s.cells) : w.rangeAt b (o + 2) (Lib.byteCells s.id) := range_sub (A := [.int .i64 s.dO, .int .u64 s.g]) (C := [.int .i64 s.ex, s.raw]) h
theorem Tryz.size71 : (Tryz.prog.info? 71).map (·.size) = some 20 := by kernel_rfl
def zst : St := ⟨0, 0, z16, 0, .slice none 0 0⟩
theorem zst_ok : zst.ok := ⟨by decide, rfl, ⟨by decide, by decide⟩, none, 0, 0, rfl⟩
theorem Tryz.zero71 : (Tryz.prog.info? 71).map (fun i => i.zero) = some (some (.agg zst.cells.toArray)) := by kernel_rfl
def stepL (l : List Ky) (o : St) : List Ky := if o.dO = 1 then addL l o.g o.id o.ex else if o.dO = 2 then killL l o.g o.ex else prnL l o.ex
set_option maxRecDepth 100000 in
set_option maxHeartbeats 1600000 in
theorem step_any (w : World) (v : Value) (F : Nat → Prop) (l : List Ky) (o : St) (hv : RdK w F v l) (hl : l.length ≤ 1000000) (ho : o.ok) :
    Calls Tryz.prog 8 #[v, .agg o.cells.toArray] w fun e w' => ∃ v', e = .returned v' ∧ OutK w.heap.size w' v' (stepL l o) ∧ w.grownBy w' none := by
  obtain ⟨hg, hid', hex, hrw⟩ := ho
  have HV := hid hv
  obtain ⟨_, a, b, off, c, rfl, hc, _, _⟩ := hv.open
  obtain ⟨n, HN⟩ : ∃ n, Hid (l.length = n) := ⟨_, hid rfl⟩
  have HC : Hid (∀ (u : World) (B : Nat), Blk u B o.cells 71 → u.cell? ⟨B, 0, none⟩ = some (.int .i64 o.dO) ∧ u.cell? ⟨B, 1, none⟩ = some (.int .u64 o.g) ∧ u.cell? ⟨B, 18, none⟩ = some (.int .i64 o.ex)) := hid (fun u B h => ⟨by rw [h.cell]; exact St.c0 _, by rw [h.cell]; exact St.c1 _, by rw [h.cell]; exact St.c18 hid'⟩)
  have HR : Hid (∀ (u : World) (B : Nat), Blk u B o.cells 71 → u.rangeAt B 2 (Lib.byteCells o.id)) := hid (fun u B h => by have := St.rid h.whole; rw [Nat.zero_add] at this; exact this)
  have HA : Hid (∀ u, w.grownBy u none → Calls Tryz.prog 24 #[.slice a n c, .int .u64 o.g, .agg (Lib.byteCells o.id).toArray, .int .i64 o.ex] u fun e w' => ∃ v', e = .returned v' ∧ OutK u.heap.size w' v' (addL l o.g o.id o.ex) ∧ u.grownBy w' none) := hid (fun u hu => by have := add_any u _ F l o.g o.id o.ex (HV.out.keep hu) hl hid' hg hex; rw [HN.out] at this; exact this)
  have HK : Hid (∀ u, w.grownBy u none → Calls Tryz.prog 25 #[.slice a n c, .int .u64 o.g, .int .i64 o.ex] u fun e w' => ∃ v', e = .returned v' ∧ OutK u.heap.size w' v' (killL l o.g o.ex) ∧ u.grownBy w' none) := hid (fun u hu => by have := kill_any u _ F l o.g o.ex (HV.out.keep hu) hl hg hex; rw [HN.out] at this; exact this)
  have HP : Hid (∀ u, w.grownBy u none → Calls Tryz.prog 26 #[.slice a n c, .int .i64 o.ex] u fun e w' => ∃ v', e = .returned v' ∧ OutK u.heap.size w' v' (prnL l o.ex) ∧ u.grownBy w' none) := hid (fun u hu => by have := prune_any u _ F l o.ex (HV.out.keep hu) hl; rw [HN.out] at this; exact this)
  have HJL : Hid ((Tryz.prog.info? 69).map (·.size) = some (Lib.byteCells o.id).length) := hid (by rw [byteCells_length, hid']; exact Tryz.size69)
  have HSt : Hid (stepL l o = if o.dO = 1 then addL l o.g o.id o.ex else if o.dO = 2 then killL l o.g o.ex else prnL l o.ex) := hid rfl
  obtain ⟨K, HKe⟩ : ∃ x, Hid (o.cells = x) := ⟨_, hid rfl⟩
  obtain ⟨J, HJe⟩ : ∃ x, Hid (Lib.byteCells o.id = x) := ⟨_, hid rfl⟩
  obtain ⟨D, HD⟩ : ∃ x, Hid (o.dO = x) := ⟨_, hid rfl⟩
  obtain ⟨G, HG⟩ : ∃ x, Hid (o.g = x) := ⟨_, hid rfl⟩
  obtain ⟨E, HE⟩ : ∃ x, Hid (o.ex = x) := ⟨_, hid rfl⟩
  obtain ⟨RA, HRA⟩ : ∃ x, Hid (addL l o.g o.id o.ex = x) := ⟨_, hid rfl⟩
  obtain ⟨RK, HRK⟩ : ∃ x, Hid (killL l o.g o.ex = x) := ⟨_, hid rfl⟩
  obtain ⟨RP, HRP⟩ : ∃ x, Hid (prnL l o.ex = x) := ⟨_, hid rfl⟩
  obtain ⟨RS, HRS⟩ : ∃ x, Hid (stepL l o = x) := ⟨_, hid rfl⟩
  rw [HRA.out, HRK.out, HRP.out, HRS.out, HD.out] at HSt
  rw [HRA.out, HG.out, HJe.out, HE.out] at HA
  rw [HRK.out, HG.out, HE.out] at HK
  rw [HRP.out, HE.out] at HP
  rw [HKe.out, HD.out, HG.out, HE.out] at HC
  rw [HKe.out, HJe.out] at HR
  rw [HJe.out] at HJL
  rw [HKe.out, HN.out, HRS.out]
  clear hv hc hl hg hid' hex hrw HN HKe HJe HD HG HE HRA HRK HRP HRS HV
  have fld : ∀ (u : World), True := fun _ => trivial
  clear fld
  by_cases h1 : D = 1
  · subst h1
    have hr : RS = RA := by rw [HSt.out, if_pos rfl]
    rw [hr]
    clear HSt hr HK HP
    go_enter Tryz.func8, Tryz.ntmps8
    go_upto_region 1 with ((with_reducible refine wpList_box_row (by with_unfolding_all rfl) 71 _ (by with_unfolding_all rfl) K (by with_unfolding_all rfl) ?_); intro w1 B1 s1 g1; have HB1 := hid B1; have HG1 := hid g1; clear B1 g1 s1)
    obtain ⟨y0, y1, y18⟩ := HC.out _ _ HB1.out
    go_wp2_with (first
      | (with_reducible refine wpList_load_part (by with_unfolding_all rfl) 69 _ (by with_unfolding_all rfl) w.heap.size 2 J _ (by with_unfolding_all rfl) (HR.out _ _ HB1.out) Tryz.underlying69 (by with_unfolding_all rfl) HJL.out ?_)
      | (go_at_call 24; (with_reducible refine (HA.out _ HG1.out).mono ?_); rintro e w4 ⟨v4, rfl, ho4, hg4⟩; have HG4 := hid (gtrans HG1.out hg4); have HO4 := hid (ho4.below HG1.out.size); clear ho4 hg4))
    go_ret
    exact ⟨_, rfl, HO4.out, HG4.out⟩
  · have h1' : (D == 1) = false := beq_eq_false_iff_ne.2 h1
    by_cases h2 : D = 2
    · subst h2
      have hr : RS = RK := by rw [HSt.out, if_neg h1, if_pos rfl]
      rw [hr]
      clear HSt hr HA HP h1
      go_enter Tryz.func8, Tryz.ntmps8
      go_upto_region 1 with ((with_reducible refine wpList_box_row (by with_unfolding_all rfl) 71 _ (by with_unfolding_all rfl) K (by with_unfolding_all rfl) ?_); intro w1 B1 s1 g1; have HB1 := hid B1; have HG1 := hid g1; clear B1 g1 s1)
      obtain ⟨y0, y1, y18⟩ := HC.out _ _ HB1.out
      go_wp2_with (first
        | (with_reducible refine wpList_load_part (by with_unfolding_all rfl) 69 _ (by with_unfolding_all rfl) w.heap.size 2 J _ (by with_unfolding_all rfl) (HR.out _ _ HB1.out) Tryz.underlying69 (by with_unfolding_all rfl) HJL.out ?_)
        | (go_at_call 25; (with_reducible refine (HK.out _ HG1.out).mono ?_); rintro e w4 ⟨v4, rfl, ho4, hg4⟩; have HG4 := hid (gtrans HG1.out hg4); have HO4 := hid (ho4.below HG1.out.size); clear ho4 hg4))
      go_ret
      exact ⟨_, rfl, HO4.out, HG4.out⟩
    · have h2' : (D == 2) = false := beq_eq_false_iff_ne.2 h2
      have hr : RS = RP := by rw [HSt.out, if_neg h1, if_neg h2]
      rw [hr]
      clear HSt hr HA HK
      go_enter Tryz.func8, Tryz.ntmps8
      go_upto_region 1 with ((with_reducible refine wpList_box_row (by with_unfolding_all rfl) 71 _ (by with_unfolding_all rfl) K (by with_unfolding_all rfl) ?_); intro w1 B1 s1 g1; have HB1 := hid B1; have HG1 := hid g1; clear B1 g1 s1)
      obtain ⟨y0, y1, y18⟩ := HC.out _ _ HB1.out
      go_wp2_with (first
        | (with_reducible refine wpList_load_part (by with_unfolding_all rfl) 69 _ (by with_unfolding_all rfl) w.heap.size 2 J _ (by with_unfolding_all rfl) (HR.out _ _ HB1.out) Tryz.underlying69 (by with_unfolding_all rfl) HJL.out ?_)
        | (go_at_call 26; (with_reducible refine (HP.out _ HG1.out).mono ?_); rintro e w4 ⟨v4, rfl, ho4, hg4⟩; have HG4 := hid (gtrans HG1.out hg4); have HO4 := hid (ho4.below HG1.out.size); clear ho4 hg4))
      go_ret
      exact ⟨_, rfl, HO4.out, HG4.out⟩
/-- The steps of a script, as they lie. -/
def ArgS (w : World) (a : Option Addr) (b o n : Nat) (T : Nat → St) : Prop := (0 < n → a = some ⟨b, o, none⟩ ∧ b < w.heap.size) ∧ ∀ i, i < n → w.rangeAt b (o + i * 20) (T i).cells ∧ (T i).ok
theorem ArgS.keep {w u : World} {a : Option Addr} {b o n : Nat} {T : Nat → St} (h : ArgS w a b o n T) (hu : w.grownBy u none) : ArgS u a b o n T :=
  ⟨fun h0 => ⟨(h.1 h0).1, Nat.lt_of_lt_of_le (h.1 h0).2 hu.size⟩, fun i hi => ⟨range_at hu (h.1 (by omega)).2 (by simp) (h.2 i hi).1, (h.2 i hi).2⟩⟩
theorem ArgS.at_ {w : World} {a : Option Addr} {b o n : Nat} {T : Nat → St} (h : ArgS w a b o n T) (i : Nat) (hi : i < n) :
    w.cell? ⟨b, o + i * 20, none⟩ = some (.int .i64 (T i).dO) ∧ w.cell? ⟨b, o + i * 20 + 1, none⟩ = some (.int .u64 (T i).g) ∧ w.cell? ⟨b, o + i * 20 + 18, none⟩ = some (.int .i64 (T i).ex) ∧ w.rangeAt b (o + i * 20 + 2) (Lib.byteCells (T i).id) := by
  obtain ⟨hr, hk⟩ := h.2 i hi
  refine ⟨?_, hr 1 _ (St.c1 _), hr 18 _ (St.c18 hk.2.1), St.rid hr⟩
  have := hr 0 _ (St.c0 _)
  rw [Nat.add_zero] at this
  exact this
end Go.Proofs.YtlgjmhemgfjgnaaGreat

namespace Go.Proofs.YtlgjmhemgfjgnaaGreat
open Go Go.RowKit Go.ChangeShapes Go.WideShapes Go.ChangeAt Go.Joins Go.Deep

theorem Tryz.cells69 : Tryz.prog.cellsOf 69 = 16 := by kernel_rfl
theorem Tryz.cells5 : Tryz.prog.cellsOf 5 = 1 := by kernel_rfl
theorem Tryz.cells71 : Tryz.prog.cellsOf 71 = 20 := by kernel_rfl
theorem Tryz.cells57 : Tryz.prog.cellsOf 57 = 1 := by kernel_rfl
theorem Tryz.cells67 : Tryz.prog.cellsOf 67 = 1 := by kernel_rfl
theorem Tryz.cells2 : Tryz.prog.cellsOf 2 = 1 := by kernel_rfl
theorem Tryz.cells3 : Tryz.prog.cellsOf 3 = 1 := by kernel_rfl
theorem Tryz.bytes71 : Tryz.prog.bytesOf 71 = 64 := by kernel_rfl
theorem own5 : ownKnob Tryz.prog.godebug = none := by kernel_rfl
theorem laidOut5 : laidOutB Tryz.prog = true := by kernel_rfl
theorem bytes_of : ∀ (cs : List Value), (∀ i, i < cs.length → ∃ b : UInt8, cs[i]? = some (.int .u8 b.toNat)) → ∃ D : List UInt8, cs = Lib.byteCells D ∧ D.length = cs.length
  | [], _ => ⟨[], rfl, rfl⟩
  | c :: cs, h => by
    obtain ⟨D, hD, hl⟩ := bytes_of cs (fun i hi => by simpa using h (i + 1) (by simp; omega))
    obtain ⟨b, hb⟩ := h 0 (by simp)
    simp only [List.getElem?_cons_zero, Option.some.injEq] at hb
    exact ⟨b :: D, by rw [hb, hD]; rfl, by simp [hl]⟩
theorem u8_of {n : Int} (h : (Lit.int .u8 n).wf = true) : ∃ b : UInt8, n = b.toNat := by
  simp [Lit.wf, IntKind.min, IntKind.max, IntKind.signed, IntKind.bits] at h
  refine ⟨UInt8.ofNat n.toNat, ?_⟩
  rw [UInt8.toNat_ofNat']
  omega
theorem u64_of {n : Int} (h : (Lit.int .u64 n).wf = true) : ∃ b : Nat, n = b ∧ b < 18446744073709551616 := by
  simp [Lit.wf, IntKind.min, IntKind.max, IntKind.signed, IntKind.bits] at h
  exact ⟨n.toNat, by omega, by omega⟩
theorem i64_of {n : Int} (h : (Lit.int .i64 n).wf = true) : -9223372036854775808 ≤ n ∧ n ≤ 9223372036854775807 := by
  simp [Lit.wf, IntKind.min, IntKind.max, IntKind.signed, IntKind.bits] at h
  omega
theorem add_none {b o i : Nat} : (⟨b, o, none⟩ : Addr).add i = ⟨b, o + i, none⟩ := Addr.add_lit ..
theorem weightsAll_mem {H : Type} {P : Program} {e : TypeId} {d : DataW H} : ∀ {l : List (DataW H)}, d ∈ l → ∀ n ∈ d.weights P e, n ∈ DataW.weightsAll P e l
  | x :: r, hd, n, hn => by
    simp only [DataW.weightsAll, List.mem_append]
    rcases List.mem_cons.1 hd with rfl | h
    · exact .inl hn
    · exact .inr (weightsAll_mem h n hn)
theorem all_slice {H : Type} {P : Program} {t e : TypeId} {elems spare : List (DataW H)} (hu : P.underlying t = some (.slice e)) (h : ((DataW.slice elems spare).weights P t).all (· ≤ reachBytes) = true) :
    (elems.length + spare.length) * P.bytesOf e ≤ reachBytes ∧ ∀ d ∈ elems, (d.weights P e).all (· ≤ reachBytes) = true := by
  simp only [DataW.weights, hu] at h
  rw [List.all_eq_true] at h
  refine ⟨of_decide_eq_true (h _ (List.mem_cons_self ..)), fun d hd => List.all_eq_true.2 fun n hn => h n (List.mem_cons_of_mem _ (List.mem_append_left _ (weightsAll_mem hd n hn)))⟩

section
variable {H : Type} {enc : TypeId × Value → H} {W : World}
set_option maxRecDepth 100000 in
/-- A slice of structs, its elements' cells. -/
theorem open_rows {t e : TypeId} {k : Nat} (ht : Tryz.prog.underlying t = some (.slice e)) (hk : Tryz.prog.cellsOf e = k) (hk0 : 0 < k) (hby : 0 < Tryz.prog.bytesOf e) {fuel : Nat} {v : Value} {y : DataW H × List MemPlace}
    (h : DataW.trod enc Tryz.prog W 0 (fun _ => true) true fuel t [v] = some y) (hsz : (y.1.weights Tryz.prog t).all (· ≤ reachBytes) = true) :
    ∃ (a : Option Addr) (b o n c : Nat), v = .slice a n c ∧ n ≤ c ∧ n ≤ 140737488355328 ∧ (0 < n → a = some ⟨b, o, none⟩ ∧ b < W.heap.size) ∧
      ∀ i, i < n → ∃ (cs : List Value) (m : Nat) (x : DataW H × List MemPlace), cs.length = k ∧ (∀ j, j < k → W.cell? ⟨b, o + (i * k + j), none⟩ = cs[j]?) ∧ DataW.trod enc Tryz.prog W 0 (fun _ => true) true m e cs = some x ∧ (x.1.weights Tryz.prog e).all (· ≤ reachBytes) = true := by
  rcases DataW.trod_slice ht h with ⟨hcs, _⟩ | ⟨a, len, cap, elems, rest, n2, _, hcs, hx, _, hl', _, hlen, hel, _, _⟩
  · simp only [List.cons.injEq, and_true] at hcs
    subst hcs
    exact ⟨none, 0, 0, 0, 0, rfl, Nat.le_refl _, by omega, fun h => by omega, fun i h => by omega⟩
  · simp only [List.cons.injEq, and_true] at hcs
    subst hcs
    rw [hx] at hsz
    obtain ⟨hs1, hs2⟩ := all_slice ht hsz
    simp only [List.length_map] at hs1
    have hrb := reachBytes_lt
    have hlb : len ≤ 140737488355328 := by
      have : (elems.length + rest.length) * 1 ≤ (elems.length + rest.length) * Tryz.prog.bytesOf e := Nat.mul_le_mul_left _ hby
      omega
    rw [hk] at hel
    have hex : ∀ i, i < len → ∃ (cs : List Value) (x : DataW H × List MemPlace), cs.length = k ∧ (∀ j, j < k → W.cell? ((a.add (i * k)).add j) = cs[j]?) ∧ DataW.trod enc Tryz.prog W 0 (fun _ => true) true n2 e cs = some x ∧ (x.1.weights Tryz.prog e).all (· ≤ reachBytes) = true := by
      intro i hi
      have hi' := hel i hi
      rw [List.getElem?_eq_getElem (by omega), Option.bind_eq_some_iff] at hi'
      obtain ⟨cs', hc', ht'⟩ := hi'
      obtain ⟨_, hl6, hc6⟩ := World.cells?_some hc'
      exact ⟨cs', elems[i], hl6, fun j hj => hc6 j hj, ht', hs2 _ (List.mem_map.2 ⟨elems[i], List.getElem_mem _, rfl⟩)⟩
    by_cases h0 : len = 0
    · exact ⟨some a, 0, 0, len, cap, rfl, hl', hlb, fun h => by omega, fun i h => by omega⟩
    · obtain ⟨b, off, spot⟩ := a
      obtain ⟨cs0, x0, hl0, hc0, _, _⟩ := hex 0 (by omega)
      have c0 := hc0 0 hk0
      rw [List.getElem?_eq_getElem (by omega)] at c0
      have hspot : spot = none := by simpa [Addr.add] using World.cell?_spot c0
      subst hspot
      have hblt : b < W.heap.size := by
        rw [add_none, add_none] at c0
        exact World.block_lt_of_cell? W _ c0
      refine ⟨some ⟨b, off, none⟩, b, off, len, cap, rfl, hl', hlb, fun _ => ⟨rfl, hblt⟩, fun i hi => ?_⟩
      obtain ⟨cs, x, hl1, hc1, ht1, hs3⟩ := hex i hi
      refine ⟨cs, n2, x, hl1, fun j hj => ?_, ht1, hs3⟩
      have := hc1 j hj
      rw [add_none, add_none, Nat.add_assoc] at this
      exact this
set_option maxRecDepth 100000 in
theorem open_id {fuel : Nat} {cs : List Value} {x : DataW H × List MemPlace} (h : DataW.trod enc Tryz.prog W 0 (fun _ => true) true fuel 69 cs = some x) : ∃ D : List UInt8, cs = Lib.byteCells D ∧ D.length = 16 := by
  obtain ⟨xs, m, _, _, hl, hxl, hf⟩ := DataW.trod_array Tryz.underlying69 h
  rw [Tryz.cells69] at hl
  obtain ⟨D, hD, hDl⟩ := bytes_of cs (fun i hi => by
    have h1 := hf i (by omega)
    rw [Tryz.cells5, Nat.mul_one, List.getElem?_eq_getElem (by omega)] at h1
    obtain ⟨n, e, _, hw⟩ := DataW.trod_int (k := .u8) Tryz.underlying5 h1
    obtain ⟨b, rfl⟩ := u8_of hw
    refine ⟨b, ?_⟩
    have h2 : (List.take 1 (List.drop i cs))[0]? = some (.int .u8 b.toNat) := by rw [e]; rfl
    rw [List.getElem?_take_of_lt (by omega), List.getElem?_drop] at h2
    simpa using h2)
  exact ⟨D, hD, by omega⟩
set_option maxRecDepth 100000 in
theorem open_step {fuel : Nat} {cs : List Value} {x : DataW H × List MemPlace} (h : DataW.trod enc Tryz.prog W 0 (fun _ => true) true fuel 71 cs = some x) : ∃ t : St, cs = t.cells ∧ t.ok := by
  obtain ⟨xs, k, _, hx, hl, hxl, hf⟩ := DataW.trod_struct Tryz.underlying71 h
  rw [Tryz.cells71] at hl
  obtain ⟨x0, x1, x2, x3, x4, rfl⟩ : ∃ x0 x1 x2 x3 x4, xs = [x0, x1, x2, x3, x4] := by
    match xs, (show xs.length = 5 from hxl) with
    | [a, b, c, d, e], _ => exact ⟨a, b, c, d, e, rfl⟩
  have f0 : DataW.trod enc Tryz.prog W 0 (fun _ => true) true k 3 ((cs.drop 0).take 1) = some x0 := by
    have := hf 0 _ rfl
    change DataW.trod enc Tryz.prog W 0 (fun _ => true) true k 3 ((cs.drop 0).take (Tryz.prog.cellsOf 3)) = some x0 at this
    rw [Tryz.cells3] at this
    exact this
  have f1 : DataW.trod enc Tryz.prog W 0 (fun _ => true) true k 67 ((cs.drop 1).take 1) = some x1 := by
    have := hf 1 _ rfl
    change DataW.trod enc Tryz.prog W 0 (fun _ => true) true k 67 ((cs.drop 1).take (Tryz.prog.cellsOf 67)) = some x1 at this
    rw [Tryz.cells67] at this
    exact this
  have f2 : DataW.trod enc Tryz.prog W 0 (fun _ => true) true k 69 ((cs.drop 2).take 16) = some x2 := by
    have := hf 2 _ rfl
    change DataW.trod enc Tryz.prog W 0 (fun _ => true) true k 69 ((cs.drop 2).take (Tryz.prog.cellsOf 69)) = some x2 at this
    rw [Tryz.cells69] at this
    exact this
  have f3 : DataW.trod enc Tryz.prog W 0 (fun _ => true) true k 2 ((cs.drop 18).take 1) = some x3 := by
    have := hf 3 _ rfl
    change DataW.trod enc Tryz.prog W 0 (fun _ => true) true k 2 ((cs.drop 18).take (Tryz.prog.cellsOf 2)) = some x3 at this
    rw [Tryz.cells2] at this
    exact this
  have f4 : DataW.trod enc Tryz.prog W 0 (fun _ => true) true k 57 ((cs.drop 19).take 1) = some x4 := by
    have := hf 4 _ rfl
    change DataW.trod enc Tryz.prog W 0 (fun _ => true) true k 57 ((cs.drop 19).take (Tryz.prog.cellsOf 57)) = some x4 at this
    rw [Tryz.cells57] at this
    exact this
  obtain ⟨z0, e0, _, _⟩ := DataW.trod_int (k := .i64) Tryz.underlying3 f0
  obtain ⟨z1, e1, _, w1⟩ := DataW.trod_int (k := .u64) Tryz.underlying67 f1
  obtain ⟨D, hD, hDl⟩ := open_id f2
  obtain ⟨z3, e3, _, w3⟩ := DataW.trod_int (k := .i64) Tryz.underlying2 f3
  obtain ⟨N, rfl, hN⟩ := u64_of w1
  obtain ⟨v, hv⟩ : ∃ v, (cs.drop 19).take 1 = [v] := by
    have : ((cs.drop 19).take 1).length = 1 := by rw [List.length_take, List.length_drop]; omega
    match hq : (cs.drop 19).take 1, this with
    | [v], _ => exact ⟨v, rfl⟩
  rw [hv] at f4
  obtain ⟨a, n, c, hs⟩ : ∃ a n c, v = .slice a n c := by
    rcases DataW.trod_slice Tryz.underlying57 f4 with ⟨hcs, _⟩ | ⟨a, len, cap, elems, rest, n2, _, hcs, _⟩
    · simp only [List.cons.injEq, and_true] at hcs
      exact ⟨_, _, _, hcs⟩
    · simp only [List.cons.injEq, and_true] at hcs
      exact ⟨_, _, _, hcs⟩
  refine ⟨⟨z0, N, D, z3, v⟩, ?_, hN, hDl, i64_of w3, a, n, c, hs⟩
  have hsp : cs = (cs.drop 0).take 1 ++ ((cs.drop 1).take 1 ++ ((cs.drop 2).take 16 ++ ((cs.drop 18).take 1 ++ (cs.drop 19).take 1))) := by
    have h5 : (cs.drop 19).take 1 = cs.drop 19 := List.take_of_length_le (by rw [List.length_drop]; omega)
    rw [h5]
    have h4 : (cs.drop 18).take 1 ++ cs.drop 19 = cs.drop 18 := by
      have := List.take_append_drop 1 (cs.drop 18)
      rwa [List.drop_drop] at this
    rw [h4]
    have h3 : (cs.drop 2).take 16 ++ cs.drop 18 = cs.drop 2 := by
      have := List.take_append_drop 16 (cs.drop 2)
      rwa [List.drop_drop] at this
    rw [h3]
    have h2 : (cs.drop 1).take 1 ++ cs.drop 2 = cs.drop 1 := by
      have := List.take_append_drop 1 (cs.drop 1)
      rwa [List.drop_drop] at this
    rw [h2]
    exact (List.take_append_drop 1 cs).symm
  rw [hsp, e0, e1, hD, e3, hv]
  rfl
theorem open_S {fuel : Nat} {v : Value} {y : DataW H × List MemPlace} (h : DataW.trod enc Tryz.prog W 0 (fun _ => true) true fuel 22 [v] = some y) (hsz : (y.1.weights Tryz.prog 22).all (· ≤ reachBytes) = true) :
    ∃ (a : Option Addr) (b o n c : Nat) (T : Nat → St), v = .slice a n c ∧ n ≤ 140737488355328 ∧ ArgS W a b o n T ∧ n ≤ c := by
  obtain ⟨a, b, o, n, c, hv, hnc, hn, ha, hel⟩ := open_rows Tryz.underlying22 Tryz.cells71 (by decide) (by rw [Tryz.bytes71]; decide) h hsz
  have hex : ∀ i, i < n → ∃ q : St, W.rangeAt b (o + i * 20) q.cells ∧ q.ok := by
    intro i hi
    obtain ⟨cs, m, x, hcl, hcell, ht, hs⟩ := hel i hi
    obtain ⟨q, rfl, hq⟩ := open_step ht
    refine ⟨q, fun j v hj => ?_, hq⟩
    have hj' : j < 20 := by rw [← hcl]; exact (List.getElem?_eq_some_iff.1 hj).1
    have := hcell j hj'
    rw [hj, ← Nat.add_assoc] at this
    exact this
  haveI : Inhabited St := ⟨zst⟩
  obtain ⟨f, hf⟩ := choose_lt hex
  exact ⟨a, b, o, n, c, f, hv, hn, ⟨ha, hf⟩, hnc⟩
end
end Go.Proofs.YtlgjmhemgfjgnaaGreat
