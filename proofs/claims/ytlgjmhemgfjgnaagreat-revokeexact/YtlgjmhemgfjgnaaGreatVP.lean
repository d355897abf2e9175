/- Steps; step, whole, later. -/
import Derived.Test.YtlgjmhemgfjgnaaGreatVO
namespace Go.Proofs.YtlgjmhemgfjgnaaGreat
open Go Go.RowKit
open Go.RowKit (wrap32 wrap64)

/-- A step of a script. -/
structure St where
  dO : Int
  g : Nat
  id : List UInt8
  ex : Int
  raw : Value
def St.cells (s : St) : List Value := .int .i64 s.dO :: .int .u64 s.g :: (Lib.byteCells s.id ++ [.int .i64 s.ex, s.raw])
def St.ok (s : St) : Prop := s.g < 18446744073709551616 ∧ s.id.length = 16 ∧ (-9223372036854775808 ≤ s.ex ∧ s.ex ≤ 9223372036854775807) ∧ ∃ a n c, s.raw = .slice a n c
theorem St.cells_length {s : St} (h : s.id.length = 16) : s.cells.length = 20 := by simp [St.cells, byteCells_length, h]
theorem St.one {s : St} (h : s.ok) : ∀ v ∈ s.cells, v.oneCell' = true := by
  obtain ⟨_, _, _, a, n, c, hr⟩ := h
  intro v hv
  unfold St.cells at hv
  simp only [List.mem_cons, List.mem_append, List.not_mem_nil, or_false] at hv
  rcases hv with rfl | rfl | hv | rfl | rfl
  · rfl
  · rfl
  · exact bcs_one _ v hv
  · rfl
  · rw [hr]; rfl
theorem St.c0 (s : St) : s.cells[0]? = some (.int .i64 s.dO) := rfl
theorem St.c1 (s : St) : s.cells[1]? = some (.int .u64 s.g) := rfl
theorem St.c18 {s : St} (h : s.id.length = 16) : s.cells[18]? = some (.int .i64 s.ex) := by
  unfold St.cells
  rw [List.getElem?_cons_succ, List.getElem?_cons_succ, List.getElem?_append_right (by rw [byteCells_length]; omega), byteCells_length, h]
  rfl
theorem St.rid {w : World} {b o : Nat} {s : St} (h : w.rangeAt b o s.cells) : w.rangeAt b (o + 2) (Lib.byteCells s.id) := range_sub (A := [.int .i64 s.dO, .int .u64 s.g]) (C := [.int .i64 s.ex, s.raw]) h
theorem Tryz.size71 : (Tryz.prog.info? 71).map (·.size) = some 20 := by kernel_rfl
def zst : St := ⟨0, 0, z16, 0, .slice none 0 0⟩
theorem zst_ok : zst.ok := ⟨by decide, rfl, ⟨by decide, by decide⟩, none, 0, 0, rfl⟩
theorem Tryz.zero71 : (Tryz.prog.info? 71).map (fun i => i.zero) = some (some (.agg zst.cells.toArray)) := by kernel_rfl
def stepL (l : List Ky) (o : St) : List Ky := if o.dO = 1 then addL l o.g o.id o.ex else if o.dO = 2 then killL l o.g o.ex else prnL l o.ex
set_option maxRecDepth 100000 in
set_option maxHeartbeats 1600000 in
theorem step_any (w : World) (v : Value) (F : Nat → Prop) (l : List Ky) (o : St) (hv : RdK w F v l) (hl : l.length ≤ 1000000) (ho : o.ok) :
    Calls Tryz.prog 8 #[v, .agg o.cells.toArray] w fun e w' => ∃ v', e = .returned v' ∧ OutK w.heap.size w' v' (stepL l o) ∧ w.grownBy w' none := by
  obtain ⟨hg, hid', hex, hrw⟩ := ho
  have HV := hid hv
  obtain ⟨_, a, b, off, c, rfl, hc, _, _⟩ := hv.open
  obtain ⟨n, HN⟩ : ∃ n, Hid (l.length = n) := ⟨_, hid rfl⟩
  have HC : Hid (∀ (u : World) (B : Nat), Blk u B o.cells 71 → u.cell? ⟨B, 0, none⟩ = some (.int .i64 o.dO) ∧ u.cell? ⟨B, 1, none⟩ = some (.int .u64 o.g) ∧ u.cell? ⟨B, 18, none⟩ = some (.int .i64 o.ex)) := hid (fun u B h => ⟨by rw [h.cell]; exact St.c0 _, by rw [h.cell]; exact St.c1 _, by rw [h.cell]; exact St.c18 hid'⟩)
  have HR : Hid (∀ (u : World) (B : Nat), Blk u B o.cells 71 → u.rangeAt B 2 (Lib.byteCells o.id)) := hid (fun u B h => by have := St.rid h.whole; rw [Nat.zero_add] at this; exact this)
  have HA : Hid (∀ u, w.grownBy u none → Calls Tryz.prog 24 #[.slice a n c, .int .u64 o.g, .agg (Lib.byteCells o.id).toArray, .int .i64 o.ex] u fun e w' => ∃ v', e = .returned v' ∧ OutK u.heap.size w' v' (addL l o.g o.id o.ex) ∧ u.grownBy w' none) := hid (fun u hu => by have := add_any u _ F l o.g o.id o.ex (HV.out.keep hu) hl hid' hg hex; rw [HN.out] at this; exact this)
  have HK : Hid (∀ u, w.grownBy u none → Calls Tryz.prog 25 #[.slice a n c, .int .u64 o.g, .int .i64 o.ex] u fun e w' => ∃ v', e = .returned v' ∧ OutK u.heap.size w' v' (killL l o.g o.ex) ∧ u.grownBy w' none) := hid (fun u hu => by have := kill_any u _ F l o.g o.ex (HV.out.keep hu) hl hg hex; rw [HN.out] at this; exact this)
  have HP : Hid (∀ u, w.grownBy u none → Calls Tryz.prog 26 #[.slice a n c, .int .i64 o.ex] u fun e w' => ∃ v', e = .returned v' ∧ OutK u.heap.size w' v' (prnL l o.ex) ∧ u.grownBy w' none) := hid (fun u hu => by have := prune_any u _ F l o.ex (HV.out.keep hu) hl; rw [HN.out] at this; exact this)
  have HJL : Hid ((Tryz.prog.info? 69).map (·.size) = some (Lib.byteCells o.id).length) := hid (by rw [byteCells_length, hid']; exact Tryz.size69)
  have HSt : Hid (stepL l o = if o.dO = 1 then addL l o.g o.id o.ex else if o.dO = 2 then killL l o.g o.ex else prnL l o.ex) := hid rfl
  obtain ⟨K, HKe⟩ : ∃ x, Hid (o.cells = x) := ⟨_, hid rfl⟩
  obtain ⟨J, HJe⟩ : ∃ x, Hid (Lib.byteCells o.id = x) := ⟨_, hid rfl⟩
  obtain ⟨D, HD⟩ : ∃ x, Hid (o.dO = x) := ⟨_, hid rfl⟩
  obtain ⟨G, HG⟩ : ∃ x, Hid (o.g = x) := ⟨_, hid rfl⟩
  obtain ⟨E, HE⟩ : ∃ x, Hid (o.ex = x) := ⟨_, hid rfl⟩
  obtain ⟨RA, HRA⟩ : ∃ x, Hid (addL l o.g o.id o.ex = x) := ⟨_, hid rfl⟩
  obtain ⟨RK, HRK⟩ : ∃ x, Hid (killL l o.g o.ex = x) := ⟨_, hid rfl⟩
  obtain ⟨RP, HRP⟩ : ∃ x, Hid (prnL l o.ex = x) := ⟨_, hid rfl⟩
  obtain ⟨RS, HRS⟩ : ∃ x, Hid (stepL l o = x) := ⟨_, hid rfl⟩
  rw [HRA.out, HRK.out, HRP.out, HRS.out, HD.out] at HSt
  rw [HRA.out, HG.out, HJe.out, HE.out] at HA
  rw [HRK.out, HG.out, HE.out] at HK
  rw [HRP.out, HE.out] at HP
  rw [HKe.out, HD.out, HG.out, HE.out] at HC
  rw [HKe.out, HJe.out] at HR
  rw [HJe.out] at HJL
  rw [HKe.out, HN.out, HRS.out]
  clear hv hc hl hg hid' hex hrw HN HKe HJe HD HG HE HRA HRK HRP HRS HV
  have fld : ∀ (u : World), True := fun _ => trivial
  clear fld
  by_cases h1 : D = 1
  · subst h1
    have hr : RS = RA := by rw [HSt.out, if_pos rfl]
    rw [hr]
    clear HSt hr HK HP
    go_enter Tryz.func8, Tryz.ntmps8
    go_upto_region 1 with ((with_reducible refine wpList_box_row (by with_unfolding_all rfl) 71 _ (by with_unfolding_all rfl) K (by with_unfolding_all rfl) ?_); intro w1 B1 s1 g1; have HB1 := hid B1; have HG1 := hid g1; clear B1 g1 s1)
    obtain ⟨y0, y1, y18⟩ := HC.out _ _ HB1.out
    go_wp2_with (first
      | (with_reducible refine wpList_load_part (by with_unfolding_all rfl) 69 _ (by with_unfolding_all rfl) w.heap.size 2 J _ (by with_unfolding_all rfl) (HR.out _ _ HB1.out) Tryz.underlying69 (by with_unfolding_all rfl) HJL.out ?_)
      | (go_at_call 24; (with_reducible refine (HA.out _ HG1.out).mono ?_); rintro e w4 ⟨v4, rfl, ho4, hg4⟩; have HG4 := hid (gtrans HG1.out hg4); have HO4 := hid (ho4.below HG1.out.size); clear ho4 hg4))
    go_ret
    exact ⟨_, rfl, HO4.out, HG4.out⟩
  · have h1' : (D == 1) = false := beq_eq_false_iff_ne.2 h1
    by_cases h2 : D = 2
    · subst h2
      have hr : RS = RK := by rw [HSt.out, if_neg h1, if_pos rfl]
      rw [hr]
      clear HSt hr HA HP h1
      go_enter Tryz.func8, Tryz.ntmps8
      go_upto_region 1 with ((with_reducible refine wpList_box_row (by with_unfolding_all rfl) 71 _ (by with_unfolding_all rfl) K (by with_unfolding_all rfl) ?_); intro w1 B1 s1 g1; have HB1 := hid B1; have HG1 := hid g1; clear B1 g1 s1)
      obtain ⟨y0, y1, y18⟩ := HC.out _ _ HB1.out
      go_wp2_with (first
        | (with_reducible refine wpList_load_part (by with_unfolding_all rfl) 69 _ (by with_unfolding_all rfl) w.heap.size 2 J _ (by with_unfolding_all rfl) (HR.out _ _ HB1.out) Tryz.underlying69 (by with_unfolding_all rfl) HJL.out ?_)
        | (go_at_call 25; (with_reducible refine (HK.out _ HG1.out).mono ?_); rintro e w4 ⟨v4, rfl, ho4, hg4⟩; have HG4 := hid (gtrans HG1.out hg4); have HO4 := hid (ho4.below HG1.out.size); clear ho4 hg4))
      go_ret
      exact ⟨_, rfl, HO4.out, HG4.out⟩
    · have h2' : (D == 2) = false := beq_eq_false_iff_ne.2 h2
      have hr : RS = RP := by rw [HSt.out, if_neg h1, if_neg h2]
      rw [hr]
      clear HSt hr HA HK
      go_enter Tryz.func8, Tryz.ntmps8
      go_upto_region 1 with ((with_reducible refine wpList_box_row (by with_unfolding_all rfl) 71 _ (by with_unfolding_all rfl) K (by with_unfolding_all rfl) ?_); intro w1 B1 s1 g1; have HB1 := hid B1; have HG1 := hid g1; clear B1 g1 s1)
      obtain ⟨y0, y1, y18⟩ := HC.out _ _ HB1.out
      go_wp2_with (first
        | (with_reducible refine wpList_load_part (by with_unfolding_all rfl) 69 _ (by with_unfolding_all rfl) w.heap.size 2 J _ (by with_unfolding_all rfl) (HR.out _ _ HB1.out) Tryz.underlying69 (by with_unfolding_all rfl) HJL.out ?_)
        | (go_at_call 26; (with_reducible refine (HP.out _ HG1.out).mono ?_); rintro e w4 ⟨v4, rfl, ho4, hg4⟩; have HG4 := hid (gtrans HG1.out hg4); have HO4 := hid (ho4.below HG1.out.size); clear ho4 hg4))
      go_ret
      exact ⟨_, rfl, HO4.out, HG4.out⟩
/-- The steps of a script, as they lie. -/
def ArgS (w : World) (a : Option Addr) (b o n : Nat) (T : Nat → St) : Prop := (0 < n → a = some ⟨b, o, none⟩ ∧ b < w.heap.size) ∧ ∀ i, i < n → w.rangeAt b (o + i * 20) (T i).cells ∧ (T i).ok
theorem ArgS.keep {w u : World} {a : Option Addr} {b o n : Nat} {T : Nat → St} (h : ArgS w a b o n T) (hu : w.grownBy u none) : ArgS u a b o n T :=
  ⟨fun h0 => ⟨(h.1 h0).1, Nat.lt_of_lt_of_le (h.1 h0).2 hu.size⟩, fun i hi => ⟨range_at hu (h.1 (by omega)).2 (by simp) (h.2 i hi).1, (h.2 i hi).2⟩⟩
theorem ArgS.at_ {w : World} {a : Option Addr} {b o n : Nat} {T : Nat → St} (h : ArgS w a b o n T) (i : Nat) (hi : i < n) :
    w.cell? ⟨b, o + i * 20, none⟩ = some (.int .i64 (T i).dO) ∧ w.cell? ⟨b, o + i * 20 + 1, none⟩ = some (.int .u64 (T i).g) ∧ w.cell? ⟨b, o + i * 20 + 18, none⟩ = some (.int .i64 (T i).ex) ∧ w.rangeAt b (o + i * 20 + 2) (Lib.byteCells (T i).id) := by
  obtain ⟨hr, hk⟩ := h.2 i hi
  refine ⟨?_, hr 1 _ (St.c1 _), hr 18 _ (St.c18 hk.2.1), St.rid hr⟩
  have := hr 0 _ (St.c0 _)
  rw [Nat.add_zero] at this
  exact this
end Go.Proofs.YtlgjmhemgfjgnaaGreat
