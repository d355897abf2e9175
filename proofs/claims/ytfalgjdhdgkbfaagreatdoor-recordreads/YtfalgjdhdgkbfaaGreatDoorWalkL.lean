/- The walks of the Reader's Bytes, Text, ID. -/
import Derived.Test.YtfalgjdhdgkbfaaGreatDoorWalkK
import Derived.Laws.BytesArg
import Derived.Deep.MidRow
import Derived.Deep.RegionHeld3
import Derived.Test.YtfalgjdhdgkbfaaGreatDoorWalkH
namespace Go.Proofs.YtfalgjdhdgkbfaaGreatDoor
open Go Go.RowKit
open Go.RowKit (wrap32 wrap64)

theorem rowT_length (l : List UInt8) (bad : Nat) : (rowT l bad).length ≤ 1048576 := by
  unfold rowT
  rw [List.length_drop]
  by_cases h : 1048576 < numL (rt l bad 4)
  · have e : rb l (rowB l bad) (rowN l bad) ≠ 0 := fun hz => by
      have := (rb_zero hz).1
      unfold rowB ref at this
      rw [if_pos h] at this
      split at this <;> omega
    have e2 : rt l (rowB l bad) (rowN l bad) = [] := by unfold rt; rw [if_neg e]
    rw [e2]; simp
  · have := (rt_length l (rowB l bad) (rowN l bad)).1
    unfold rowN at *
    omega

set_option maxRecDepth 100000 in
set_option maxHeartbeats 1000000 in
theorem rbytes_any (w : World) (b : Nat) (F : Nat → Prop) (l : List UInt8) (bad : Nat) (h : Rr w b F l bad) :
    Calls Tryz.prog 57 #[.pointer (some ⟨b, 0, none⟩)] w fun r w' => ∃ v, r = .returned v ∧ Out w.heap.size w' v (rowT l bad) ∧ Rr w' b F (rowL l bad) (rowE l bad) ∧ w.grownBy w' (some b) := by
  have HR := hid (row_any w b F l bad h)
  have HC : Hid (∀ u v, Rd u F v (rowT l bad) → Calls Tryz.prog 50 #[v] u fun e w' => ∃ v', e = .returned v' ∧ Out u.heap.size w' v' (rowT l bad) ∧ u.grownBy w' none) := fun u v hv => clone_any _ F v u (by have := rowT_length l bad; omega) hv
  clear h
  go_enter Tryz.func57, Tryz.ntmps57
  go_wp2_with (first
    | (go_at_call 110; refine (HR.out).mono ?_; rintro e w1 ⟨v1, rfl, hv1, hR1, hg1⟩; have HV1 := hid hv1; have HR1 := hid hR1; have HG1 := hid hg1; clear hv1 hR1 hg1)
    | (go_at_call 50; refine (HC.out _ _ HV1.out).mono ?_; rintro e w2 ⟨v2, rfl, hO2, hg2⟩))
  go_ret
  exact ⟨_, rfl, hO2.below HG1.out.size, HR1.out.keep hg2, gsomeT HG1.out hg2⟩

theorem strOfNums_list (l : List UInt8) : strOfNums (l.map fun b => (b.toNat : Int)) = ⟨l.toArray⟩ := by
  unfold strOfNums
  rw [List.map_map, show l.map ((fun n : Int => UInt8.ofNat n.toNat) ∘ fun b : UInt8 => (b.toNat : Int)) = l.map id from List.map_congr_left fun x _ => by simp, List.map_id]
theorem Rd.convert {w : World} {F : Nat → Prop} {v : Value} {l : List UInt8} (h : Rd w F v l) : (convert 28 9 v).run Tryz.prog w = .ok (.string ⟨l.toArray⟩) w := by
  obtain ⟨a, b, off, c, rfl, hc, hn, ha, hcell⟩ := h
  by_cases hl : 0 < l.length
  · rw [(ha hl).1]
    have := run_convert_bytes_arg w 28 5 Tryz.underlying28 Tryz.underlying5 b off l.length c (l.map fun b => (b.toNat : Int)) (by simp) (fun i hi => by
      simp [hcell i hi, List.getD, List.getElem?_eq_getElem hi]) 9 Tryz.underlying9
    rw [this, strOfNums_list]
  · have : l = [] := by cases l with | nil => rfl | cons _ _ => simp at hl
    subst this
    rcases a with _ | ⟨b', o', sp⟩
    · exact run_convert_bytes_nil w 28 5 Tryz.underlying28 Tryz.underlying5 0 c 9 Tryz.underlying9
    · rw [run_convert_bytes_string w 28 9 5 _ _ _ Tryz.underlying28 Tryz.underlying5 Tryz.underlying9]
      have hl := run_loadCells_list (P := Tryz.prog) w ⟨b', o', sp⟩ [] (fun j v hj => by simp at hj)
      have := run_bytesToString (P := Tryz.prog) w ⟨b', o', sp⟩ 0 c [] (by simpa using hl)
      exact this
def str (l : List UInt8) : ByteArray := ⟨l.toArray⟩
set_option maxRecDepth 100000 in
set_option maxHeartbeats 1000000 in
theorem rtext_any (w : World) (b : Nat) (F : Nat → Prop) (l : List UInt8) (bad : Nat) (h : Rr w b F l bad) :
    Calls Tryz.prog 46 #[.pointer (some ⟨b, 0, none⟩)] w fun r w' => r = .returned (.string (str (rowT l bad))) ∧ Rr w' b F (rowL l bad) (rowE l bad) ∧ w.grownBy w' (some b) := by
  have HR := hid (row_any w b F l bad h)
  clear h
  go_enter Tryz.func46, Tryz.ntmps46
  go_wp2_with (go_at_call 110; refine (HR.out).mono ?_; rintro e w1 ⟨v1, rfl, hv1, hR1, hg1⟩; have HR1 := hid hR1; have HG1 := hid hg1; have hcv := hv1.convert; clear hv1 hR1 hg1)
  go_ret
  exact ⟨rfl, HR1.out, HG1.out⟩

theorem gbel {a w w' : World} {B : Nat} {row : Option Nat} (h : a.grownBy w row) (k : Below B w w') (hB : a.heap.size ≤ B) : a.grownBy w' row :=
  ⟨k.os.trans h.os, k.tape.trans h.tape, k.output.trans h.output, Nat.le_trans h.size k.size, fun i hi hr => (k.block i (by omega)).trans (h.block i hi hr)⟩
theorem Rd.bel {w w' : World} {B : Nat} {F : Nat → Prop} {v : Value} {l : List UInt8} (h : Rd w F v l) (hb : Below B w w') (hF : ∀ k, F k → k < B) : Rd w' F v l := by
  obtain ⟨a, b, off, c, hv, hc, hn, ha, hcell⟩ := h
  refine ⟨a, b, off, c, hv, hc, hn, fun hl => ⟨(ha hl).1, Nat.lt_of_lt_of_le (ha hl).2.1 hb.size, (ha hl).2.2⟩, fun i hi => ?_⟩
  rw [← hcell i hi]
  have := hb.block b (hF _ (ha (by omega)).2.2)
  simp only [World.cell?, this]
theorem Rr.bel {w w' : World} {B b : Nat} {F : Nat → Prop} {l : List UInt8} {bad : Nat} (h : Rr w b F l bad) (hb : Below B w w') (hF : ∀ k, F k → k < B) (hbB : b < B) : Rr w' b F l bad := by
  obtain ⟨v, hh, hv, hFb, hl⟩ := h
  exact ⟨v, (hb.block b hbB).trans hh, hv.bel hb hF, hFb, hl⟩
/-- Sixteen bytes, out of those that were taken. -/
def idL (x : List UInt8) : List UInt8 := x ++ List.replicate (16 - x.length) 0
def zer16 : List Value := Lib.byteCells (List.replicate 16 0)
theorem zer_at (i : Nat) (h : i < 16) : zer16.toArray[i]? = some (.int .u8 0) := by
  have e : zer16 = List.replicate 16 (.int .u8 0) := rfl
  rw [e, List.getElem?_toArray, List.getElem?_replicate, if_pos h]
theorem splice_id (x : List UInt8) : splice zer16 0 (Lib.byteCells x) = Lib.byteCells (idL x) := by
  unfold splice zer16 idL
  rw [byteCells_append, List.take_zero, List.nil_append, byteCells_length, Nat.zero_add]
  congr 1
  unfold Lib.byteCells
  rw [← List.map_drop, List.drop_replicate]
theorem cells16 {w : World} {k : Nat} {v0 v1 v2 v3 v4 v5 v6 v7 v8 v9 v10 v11 v12 v13 v14 v15 : Value} {t : TypeId} (h : w.heap[k]? = some (.cells #[v0, v1, v2, v3, v4, v5, v6, v7, v8, v9, v10, v11, v12, v13, v14, v15] t (0, 0))) : (w.cell? ⟨k, 0, none⟩ = some v0 ∧ w.cell? ⟨k, 1, none⟩ = some v1 ∧ w.cell? ⟨k, 2, none⟩ = some v2 ∧ w.cell? ⟨k, 3, none⟩ = some v3 ∧ w.cell? ⟨k, 4, none⟩ = some v4 ∧ w.cell? ⟨k, 5, none⟩ = some v5 ∧ w.cell? ⟨k, 6, none⟩ = some v6 ∧ w.cell? ⟨k, 7, none⟩ = some v7 ∧ w.cell? ⟨k, 8, none⟩ = some v8 ∧ w.cell? ⟨k, 9, none⟩ = some v9 ∧ w.cell? ⟨k, 10, none⟩ = some v10 ∧ w.cell? ⟨k, 11, none⟩ = some v11 ∧ w.cell? ⟨k, 12, none⟩ = some v12 ∧ w.cell? ⟨k, 13, none⟩ = some v13 ∧ w.cell? ⟨k, 14, none⟩ = some v14 ∧ w.cell? ⟨k, 15, none⟩ = some v15) ∧ ∀ o, w.frozen? ⟨k, o, none⟩ = false := by
  refine ⟨?_, fun o => by simp [World.frozen?, h]⟩
  simp [World.cell?, h]
def put16 (w : World) (k : Nat) (v0 v1 v2 v3 v4 v5 v6 v7 v8 v9 v10 v11 v12 v13 v14 v15 : Value) : World := ((((((((((((((((w.setCell ⟨k, 0, none⟩ v0).setCell ⟨k, 1, none⟩ v1).setCell ⟨k, 2, none⟩ v2).setCell ⟨k, 3, none⟩ v3).setCell ⟨k, 4, none⟩ v4).setCell ⟨k, 5, none⟩ v5).setCell ⟨k, 6, none⟩ v6).setCell ⟨k, 7, none⟩ v7).setCell ⟨k, 8, none⟩ v8).setCell ⟨k, 9, none⟩ v9).setCell ⟨k, 10, none⟩ v10).setCell ⟨k, 11, none⟩ v11).setCell ⟨k, 12, none⟩ v12).setCell ⟨k, 13, none⟩ v13).setCell ⟨k, 14, none⟩ v14).setCell ⟨k, 15, none⟩ v15)
theorem put16_cells {w : World} {k : Nat} {f : Nat → Value} {v0 v1 v2 v3 v4 v5 v6 v7 v8 v9 v10 v11 v12 v13 v14 v15 : Value} {t : TypeId} (h0 : w.rowIs k t 16 f) : ((put16 w k v0 v1 v2 v3 v4 v5 v6 v7 v8 v9 v10 v11 v12 v13 v14 v15).cell? ⟨k, 0, none⟩ = some v0 ∧ (put16 w k v0 v1 v2 v3 v4 v5 v6 v7 v8 v9 v10 v11 v12 v13 v14 v15).cell? ⟨k, 1, none⟩ = some v1 ∧ (put16 w k v0 v1 v2 v3 v4 v5 v6 v7 v8 v9 v10 v11 v12 v13 v14 v15).cell? ⟨k, 2, none⟩ = some v2 ∧ (put16 w k v0 v1 v2 v3 v4 v5 v6 v7 v8 v9 v10 v11 v12 v13 v14 v15).cell? ⟨k, 3, none⟩ = some v3 ∧ (put16 w k v0 v1 v2 v3 v4 v5 v6 v7 v8 v9 v10 v11 v12 v13 v14 v15).cell? ⟨k, 4, none⟩ = some v4 ∧ (put16 w k v0 v1 v2 v3 v4 v5 v6 v7 v8 v9 v10 v11 v12 v13 v14 v15).cell? ⟨k, 5, none⟩ = some v5 ∧ (put16 w k v0 v1 v2 v3 v4 v5 v6 v7 v8 v9 v10 v11 v12 v13 v14 v15).cell? ⟨k, 6, none⟩ = some v6 ∧ (put16 w k v0 v1 v2 v3 v4 v5 v6 v7 v8 v9 v10 v11 v12 v13 v14 v15).cell? ⟨k, 7, none⟩ = some v7 ∧ (put16 w k v0 v1 v2 v3 v4 v5 v6 v7 v8 v9 v10 v11 v12 v13 v14 v15).cell? ⟨k, 8, none⟩ = some v8 ∧ (put16 w k v0 v1 v2 v3 v4 v5 v6 v7 v8 v9 v10 v11 v12 v13 v14 v15).cell? ⟨k, 9, none⟩ = some v9 ∧ (put16 w k v0 v1 v2 v3 v4 v5 v6 v7 v8 v9 v10 v11 v12 v13 v14 v15).cell? ⟨k, 10, none⟩ = some v10 ∧ (put16 w k v0 v1 v2 v3 v4 v5 v6 v7 v8 v9 v10 v11 v12 v13 v14 v15).cell? ⟨k, 11, none⟩ = some v11 ∧ (put16 w k v0 v1 v2 v3 v4 v5 v6 v7 v8 v9 v10 v11 v12 v13 v14 v15).cell? ⟨k, 12, none⟩ = some v12 ∧ (put16 w k v0 v1 v2 v3 v4 v5 v6 v7 v8 v9 v10 v11 v12 v13 v14 v15).cell? ⟨k, 13, none⟩ = some v13 ∧ (put16 w k v0 v1 v2 v3 v4 v5 v6 v7 v8 v9 v10 v11 v12 v13 v14 v15).cell? ⟨k, 14, none⟩ = some v14 ∧ (put16 w k v0 v1 v2 v3 v4 v5 v6 v7 v8 v9 v10 v11 v12 v13 v14 v15).cell? ⟨k, 15, none⟩ = some v15) ∧ w.grownBy (put16 w k v0 v1 v2 v3 v4 v5 v6 v7 v8 v9 v10 v11 v12 v13 v14 v15) (some k) := by
  have hr := ((((((((((((((((h0.set 0 v0).set 1 v1).set 2 v2).set 3 v3).set 4 v4).set 5 v5).set 6 v6).set 7 v7).set 8 v8).set 9 v9).set 10 v10).set 11 v11).set 12 v12).set 13 v13).set 14 v14).set 15 v15)
  unfold put16
  refine ⟨⟨(hr.cell (i := 0) (by decide)).trans rfl, (hr.cell (i := 1) (by decide)).trans rfl, (hr.cell (i := 2) (by decide)).trans rfl, (hr.cell (i := 3) (by decide)).trans rfl, (hr.cell (i := 4) (by decide)).trans rfl, (hr.cell (i := 5) (by decide)).trans rfl, (hr.cell (i := 6) (by decide)).trans rfl, (hr.cell (i := 7) (by decide)).trans rfl, (hr.cell (i := 8) (by decide)).trans rfl, (hr.cell (i := 9) (by decide)).trans rfl, (hr.cell (i := 10) (by decide)).trans rfl, (hr.cell (i := 11) (by decide)).trans rfl, (hr.cell (i := 12) (by decide)).trans rfl, (hr.cell (i := 13) (by decide)).trans rfl, (hr.cell (i := 14) (by decide)).trans rfl, (hr.cell (i := 15) (by decide)).trans rfl⟩, ?_⟩
  · exact gtrans (gtrans (gtrans (gtrans (gtrans (gtrans (gtrans (gtrans (gtrans (gtrans (gtrans (gtrans (gtrans (gtrans (gtrans (gset _ _ _) (gset _ _ _)) (gset _ _ _)) (gset _ _ _)) (gset _ _ _)) (gset _ _ _)) (gset _ _ _)) (gset _ _ _)) (gset _ _ _)) (gset _ _ _)) (gset _ _ _)) (gset _ _ _)) (gset _ _ _)) (gset _ _ _)) (gset _ _ _)) (gset _ _ _)
theorem gdrew1 (w : World) (row : Option Nat) : w.grownBy w.drew row := ⟨rfl, rfl, rfl, Nat.le_refl _, fun _ _ _ => rfl⟩
theorem idL_length (x : List UInt8) (h : x.length ≤ 16) : (idL x).length = 16 := by simp [idL]; omega
theorem sixteen {α : Type} {l : List α} (h : l.length = 16) : ∃ a0 a1 a2 a3 a4 a5 a6 a7 a8 a9 a10 a11 a12 a13 a14 a15, l = [a0, a1, a2, a3, a4, a5, a6, a7, a8, a9, a10, a11, a12, a13, a14, a15] := by
  match l, h with
  | [a0, a1, a2, a3, a4, a5, a6, a7, a8, a9, a10, a11, a12, a13, a14, a15], _ => exact ⟨a0, a1, a2, a3, a4, a5, a6, a7, a8, a9, a10, a11, a12, a13, a14, a15, rfl⟩

set_option maxRecDepth 100000 in
set_option maxHeartbeats 4000000 in
theorem rid_any (w : World) (b : Nat) (F : Nat → Prop) (l : List UInt8) (bad : Nat) (h : Rr w b F l bad) :
    Calls Tryz.prog 60 #[.pointer (some ⟨b, 0, none⟩)] w fun r w' => r = .returned (.agg (Lib.byteCells (idL (rt l bad 16))).toArray) ∧ Rr w' b F (rl l bad 16) (rb l bad 16) ∧ w.grownBy w' (some b) := by
  have hlt := h.lt
  have hFb : ¬ (fun k => k < w.heap.size ∧ F k) b := fun h2 => (by obtain ⟨v, _, _, h3, _⟩ := h; exact h3 h2.2)
  have h' : Rr w b (fun k => k < w.heap.size ∧ F k) l bad := h.mono (fun k hk hf => ⟨hk, hf⟩) hFb
  have HT : Hid (∀ u, w.grownBy u none → Calls Tryz.prog 109 #[.pointer (some ⟨b, 0, none⟩), .int .i64 16] u fun r w' => ∃ v, r = .returned v ∧ Rd w' (fun k => k < w.heap.size ∧ F k) v (rt l bad 16) ∧ Rr w' b (fun k => k < w.heap.size ∧ F k) (rl l bad 16) (rb l bad 16) ∧ u.grownBy w' (some b)) := fun u hu => take_any u b _ l bad 16 (h'.keep hu) (by decide) (by decide)
  have hxl := (rt_length l bad 16).1
  obtain ⟨x, HX⟩ : ∃ x, Hid (rt l bad 16 = x) := ⟨_, hid rfl⟩
  rw [HX.out] at HT hxl ⊢
  have HXL := hid hxl
  have HSP := hid (splice_id x)
  have HIL := hid (idL_length x hxl)
  have HMIN : Hid ((Lib.byteCells x).length = Nat.min x.length 16) := hid (by rw [byteCells_length]; exact (Nat.min_eq_left hxl).symm)
  have HONE : Hid (∀ u ∈ Lib.byteCells x, u.oneCell' = true) := hid (fun u hu => by
    unfold Lib.byteCells at hu
    obtain ⟨_, _, rfl⟩ := List.mem_map.1 hu
    rfl)
  have HFIT : Hid (0 + (Lib.byteCells x).length ≤ zer16.length) := hid (by rw [byteCells_length, show zer16.length = 16 from rfl]; omega)
  have HG : Hid (∀ u v, Rd u (fun k => k < w.heap.size ∧ F k) v x → ∃ (a : Option Addr) (c : Nat), v = .slice a x.length c ∧ (0 < (Lib.byteCells x).length → ∃ ad, a = some ad ∧ ∀ j y, (Lib.byteCells x)[j]? = some y → u.cell? (ad.add j) = some y)) := hid (fun u v hv => by
    obtain ⟨a, b', off, c, rfl, hc, hn, ha, hcell⟩ := hv
    refine ⟨a, c, rfl, fun h0 => ?_⟩
    rw [byteCells_length] at h0
    refine ⟨_, (ha h0).1, fun j y hy => ?_⟩
    have hj : j < x.length := by have := (List.getElem?_eq_some_iff.1 hy).1; rwa [byteCells_length] at this
    rw [Addr.add_lit, hcell j hj, ← hy]
    simp [Lib.byteCells, List.getElem?_eq_getElem hj])
  generalize Lib.byteCells x = cs at HSP HMIN HONE HFIT HG
  clear h h' hFb hxl
  go_enter Tryz.func60, Tryz.ntmps60
  go_wp2_with fail
  have z1 : (Obj.cells #[.int .u8 0, .int .u8 0, .int .u8 0, .int .u8 0, .int .u8 0, .int .u8 0, .int .u8 0, .int .u8 0, .int .u8 0, .int .u8 0, .int .u8 0, .int .u8 0, .int .u8 0, .int .u8 0, .int .u8 0, .int .u8 0] 65 (0, 0)) = .cells zer16.toArray 65 (0, 0) := rfl
  generalize hW2 : (w.alloc (.cells #[.int .u8 0, .int .u8 0, .int .u8 0, .int .u8 0, .int .u8 0, .int .u8 0, .int .u8 0, .int .u8 0, .int .u8 0, .int .u8 0, .int .u8 0, .int .u8 0, .int .u8 0, .int .u8 0, .int .u8 0, .int .u8 0] 65)).alloc (.cells #[.int .u8 0, .int .u8 0, .int .u8 0, .int .u8 0, .int .u8 0, .int .u8 0, .int .u8 0, .int .u8 0, .int .u8 0, .int .u8 0, .int .u8 0, .int .u8 0, .int .u8 0, .int .u8 0, .int .u8 0, .int .u8 0] 65) = W2
  have HG2 : Hid (w.grownBy W2 none) := hid (by rw [← hW2]; exact gtrans (galloc _ _ _) (galloc _ _ _))
  have HZ1 : Hid (W2.heap[w.heap.size + 1]? = some (.cells zer16.toArray 65 (0, 0))) := hid (by
    rw [← hW2, ← z1]
    have := heap_new (w.alloc (.cells #[.int .u8 0, .int .u8 0, .int .u8 0, .int .u8 0, .int .u8 0, .int .u8 0, .int .u8 0, .int .u8 0, .int .u8 0, .int .u8 0, .int .u8 0, .int .u8 0, .int .u8 0, .int .u8 0, .int .u8 0, .int .u8 0] 65)) #[.int .u8 0, .int .u8 0, .int .u8 0, .int .u8 0, .int .u8 0, .int .u8 0, .int .u8 0, .int .u8 0, .int .u8 0, .int .u8 0, .int .u8 0, .int .u8 0, .int .u8 0, .int .u8 0, .int .u8 0, .int .u8 0] 65
    rw [show (w.alloc (.cells #[.int .u8 0, .int .u8 0, .int .u8 0, .int .u8 0, .int .u8 0, .int .u8 0, .int .u8 0, .int .u8 0, .int .u8 0, .int .u8 0, .int .u8 0, .int .u8 0, .int .u8 0, .int .u8 0, .int .u8 0, .int .u8 0] 65)).heap.size = w.heap.size + 1 by simp] at this
    exact this)
  have HZ0 : Hid (W2.heap[w.heap.size]? = some (.cells zer16.toArray 65 (0, 0))) := hid (by
    rw [← hW2, ← z1]
    exact heap_at (galloc _ _ none) (by simp) (heap_new w _ _))
  clear hW2 z1
  go_region_held3 (fun _ => True) (trivial) (first
    | (go_at_call 109; refine (HT.out _ (gtrans HG2.out (gdrew1 _ _))).mono ?_; rintro e w3 ⟨v3, rfl, hv3, hR3, hg3⟩; have HR3 := hid hR3; have HG3 := hid hg3; obtain ⟨a3, c3, rfl, hp3⟩ := HG.out _ _ hv3; have HP3 := hid hp3; clear hv3 hR3 hg3 hp3)
    | (refine step_copy_splice rfl (.tmp 5) (.tmp 7) 28 28 rfl 5 Tryz.underlying28 Tryz.one5 _ _ _ _ _ _ rfl rfl (w.heap.size + 1) 0 zer16 65 (by exact heap_at HG3.out (by simp; omega) HZ1.out) cs (by exact HMIN.out) (by exact fun h0 => ⟨rfl, HP3.out h0⟩) HFIT.out HONE.out (w.heap.size + 1) _ (Below.refl _ _) (Nat.le_refl _) ?_; intro w4 hg4 hb4))
  have HB4 := hid hb4
  have e5 := hg4.out
  rw [HSP.out] at e5
  obtain ⟨y0, y1, y2, y3, y4, y5, y6, y7, y8, y9, y10, y11, y12, y13, y14, y15, HY⟩ := sixteen HIL.out
  have e6 : w4.heap[w.heap.size + 1]? = some (.cells #[.int .u8 y0.toNat, .int .u8 y1.toNat, .int .u8 y2.toNat, .int .u8 y3.toNat, .int .u8 y4.toNat, .int .u8 y5.toNat, .int .u8 y6.toNat, .int .u8 y7.toNat, .int .u8 y8.toNat, .int .u8 y9.toNat, .int .u8 y10.toNat, .int .u8 y11.toNat, .int .u8 y12.toNat, .int .u8 y13.toNat, .int .u8 y14.toNat, .int .u8 y15.toNat] 65 (0, 0)) := by rw [e5, HY]; rfl
  have e7 : w4.heap[w.heap.size]? = some (.cells #[.int .u8 0, .int .u8 0, .int .u8 0, .int .u8 0, .int .u8 0, .int .u8 0, .int .u8 0, .int .u8 0, .int .u8 0, .int .u8 0, .int .u8 0, .int .u8 0, .int .u8 0, .int .u8 0, .int .u8 0, .int .u8 0] 65 (0, 0)) := (hb4.block _ (Nat.lt_succ_self _)).trans (heap_at HG3.out (by simp; omega) HZ0.out)
  obtain ⟨⟨c0, c1, c2, c3, c4, c5, c6, c7, c8, c9, c10, c11, c12, c13, c14, c15⟩, fz6⟩ := cells16 e6
  obtain ⟨⟨d0, d1, d2, d3, d4, d5, d6, d7, d8, d9, d10, d11, d12, d13, d14, d15⟩, fz7⟩ := cells16 e7
  have HYY := hid HY
  have HG4 : Hid (w.grownBy w4 (some b)) := hid (gbel (gtrans (gsome (gtrans HG2.out (gdrew1 _ _)) (some b)) HG3.out) HB4.out (Nat.le_succ _))
  have HR4 := hid (HR3.out.bel HB4.out (fun k hk => Nat.lt_succ_of_lt hk.1) (Nat.lt_succ_of_lt hlt))
  have E7 : Hid (w4.rowIs w.heap.size 65 16 (fun _ => .int .u8 0)) := hid ⟨zer16.toArray, e7, rfl, fun i hi => zer_at i hi⟩
  have hw4 := HB4.out.size
  have hw4 := HG4.out.size
  clear HY e5 e6 e7 hb4 hg4 HSP HMIN HONE HFIT HG HP3 HT
  go_wp2_with fail
  change bodyPost Tryz.prog Tryz.f60 _ Exit.ret _ (put16 w4 w.heap.size (.int .u8 y0.toNat) (.int .u8 y1.toNat) (.int .u8 y2.toNat) (.int .u8 y3.toNat) (.int .u8 y4.toNat) (.int .u8 y5.toNat) (.int .u8 y6.toNat) (.int .u8 y7.toNat) (.int .u8 y8.toNat) (.int .u8 y9.toNat) (.int .u8 y10.toNat) (.int .u8 y11.toNat) (.int .u8 y12.toNat) (.int .u8 y13.toNat) (.int .u8 y14.toNat) (.int .u8 y15.toNat))
  obtain ⟨⟨f0, f1, f2, f3, f4, f5, f6, f7, f8, f9, f10, f11, f12, f13, f14, f15⟩, g8⟩ := put16_cells (v0 := .int .u8 y0.toNat) (v1 := .int .u8 y1.toNat) (v2 := .int .u8 y2.toNat) (v3 := .int .u8 y3.toNat) (v4 := .int .u8 y4.toNat) (v5 := .int .u8 y5.toNat) (v6 := .int .u8 y6.toNat) (v7 := .int .u8 y7.toNat) (v8 := .int .u8 y8.toNat) (v9 := .int .u8 y9.toNat) (v10 := .int .u8 y10.toNat) (v11 := .int .u8 y11.toNat) (v12 := .int .u8 y12.toNat) (v13 := .int .u8 y13.toNat) (v14 := .int .u8 y14.toNat) (v15 := .int .u8 y15.toNat) E7.out
  generalize put16 w4 w.heap.size (.int .u8 y0.toNat) (.int .u8 y1.toNat) (.int .u8 y2.toNat) (.int .u8 y3.toNat) (.int .u8 y4.toNat) (.int .u8 y5.toNat) (.int .u8 y6.toNat) (.int .u8 y7.toNat) (.int .u8 y8.toNat) (.int .u8 y9.toNat) (.int .u8 y10.toNat) (.int .u8 y11.toNat) (.int .u8 y12.toNat) (.int .u8 y13.toNat) (.int .u8 y14.toNat) (.int .u8 y15.toNat) = W5 at g8 f0 f1 f2 f3 f4 f5 f6 f7 f8 f9 f10 f11 f12 f13 f14 f15 ⊢
  have HR5 := hid (HR4.out.on g8 (fun e => by injection e with e; omega) (fun k e h => by injection e with e; have := h.1; omega))
  have HG5 : Hid (w.grownBy W5 (some b)) := hid (HG4.out.andThen g8 (fun j hj => .inl (by injection hj with hj; omega)))
  refine bodyPost_ret (v := .agg #[.int .u8 y0.toNat, .int .u8 y1.toNat, .int .u8 y2.toNat, .int .u8 y3.toNat, .int .u8 y4.toNat, .int .u8 y5.toNat, .int .u8 y6.toNat, .int .u8 y7.toNat, .int .u8 y8.toNat, .int .u8 y9.toNat, .int .u8 y10.toNat, .int .u8 y11.toNat, .int .u8 y12.toNat, .int .u8 y13.toNat, .int .u8 y14.toNat, .int .u8 y15.toNat]) (by simp [results, Tryz.results60, go_sem, f0, f1, f2, f3, f4, f5, f6, f7, f8, f9, f10, f11, f12, f13, f14, f15]) rfl ⟨?_, HR5.out.mono (fun k _ h => h.2) ?_, HG5.out⟩
  · rw [HYY.out]; rfl
  · obtain ⟨_, _, _, h9, _⟩ := HR5.out
    exact fun h => h9 ⟨hlt, h⟩
end Go.Proofs.YtfalgjdhdgkbfaaGreatDoor
