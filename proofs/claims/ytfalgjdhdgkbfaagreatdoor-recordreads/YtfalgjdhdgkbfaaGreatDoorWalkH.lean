/- The walk of the Writer's Done. -/
import Derived.Test.YtfalgjdhdgkbfaaGreatDoorWalkG
namespace Go.Proofs.YtfalgjdhdgkbfaaGreatDoor
open Go Go.RowKit
open Go.RowKit (wrap32 wrap64)

def ptrM : Value → Nat
  | .pointer (some a) => a.block + 1
  | _ => 0

set_option maxRecDepth 100000 in
set_option maxHeartbeats 1000000 in
theorem wdone_bad (w : World) (b t m o : Nat) (f : Nat → Value) (F : Nat → Prop) (l : List UInt8) (bad : Nat) (h : Wr w b t m o f F l bad) (hb : bad ≠ 0) :
    Calls Tryz.prog 38 #[.pointer (some ⟨b, o, none⟩)] w fun e w' => e = .returned (.tuple #[.slice none 0 0, .int .i64 bad]) ∧ w.grownBy w' none := by
  obtain ⟨p, c0, c1, c2, hfz, hlt, hp⟩ := h.cells
  have hd : ((bad : Int) != 0) = true := by simpa using hb
  have hd2 : (bad != 0) = true := by simpa using hb
  clear h hp hb
  go_enter Tryz.func38, Tryz.ntmps38
  go_wp2_with fail
  go_quiet ((fail))
  rename_i nq
  go_wp2_with fail
  go_ret2
  exact ⟨rfl, gdrew _ _ _⟩

theorem below_drew {B : Nat} {w u : World} (h : Below B w u) : Below B w u.drew := ⟨h.os, h.tape, h.output, h.size, h.block⟩
theorem Tryz.one5 : (Tryz.prog.info? 5).map (·.size) = some 1 := by kernel_rfl
theorem drop_splice (cur : List Value) (E : Nat) (cs : List Value) (h : E + cs.length ≤ cur.length) : (splice cur E cs).drop E = cs ++ cur.drop (E + cs.length) := by
  unfold splice
  rw [List.drop_append_of_le_length (by rw [List.length_take]; omega), List.drop_eq_nil_of_le (by rw [List.length_take]; omega), List.nil_append]

set_option maxRecDepth 100000 in
set_option maxHeartbeats 4000000 in
theorem wdone_ok (w : World) (b t m o : Nat) (f : Nat → Value) (F : Nat → Prop) (l : List UInt8) (h : Wr w b t m o f F l 0) (hl : l.length ≤ 140737488355328) :
    Calls Tryz.prog 38 #[.pointer (some ⟨b, o, none⟩)] w fun e w' => ∃ v', e = .returned (.tuple #[v', .int .i64 0]) ∧ Out w.heap.size w' v' l ∧ w.grownBy w' none := by
  obtain ⟨p, c0, c1, c2, hfz, hlt, hp⟩ := h.cells
  have hmk := run_make_row' (P := Tryz.prog) 28 5 (.int .u8 0) 1 Tryz.underlying28 Tryz.info5 rfl .i64 .i64 l.length (by omega) (by omega) w
  have hnew := heap_new w (madeCells #[.int .u8 0] l.length) 5
  have hmz : (madeCells #[Value.int .u8 0] l.length).size = l.length := by simp [size_madeCells]
  obtain ⟨w1, hw1⟩ : ∃ w1, w.alloc (.cells (madeCells #[.int .u8 0] l.length) 5) = w1 := ⟨_, rfl⟩
  have hg1 : w.grownBy w1 none := by rw [← hw1]; exact galloc _ _ _
  rw [hw1] at hmk hnew
  have HCH : Hid (∃ ps, Chain w F p ps ∧ laid ps = l) := by
    obtain ⟨h1, h2, h3, q, ps, e1, e2, e3, hc, hll⟩ := h
    rw [hp] at e1
    injection e1 with e1
    rw [e1]
    exact ⟨ps, hc, hll⟩
  have HB1 := hid (gbelow hg1)
  obtain ⟨x0, x1, x2, xl⟩ : w1.cell? ⟨b, o, none⟩ = some (.pointer p) ∧ w1.cell? ⟨b, o + 1, none⟩ = some (.int .i64 (l.length : Int)) ∧ w1.cell? ⟨b, o + 2, none⟩ = some (.int .i64 (0 : Int)) ∧ w1.heap.size = w.heap.size + 1 := by
    refine ⟨(cell_at hg1 hlt (by simp)).trans c0, (cell_at hg1 hlt (by simp)).trans c1, (cell_at hg1 hlt (by simp)).trans c2, ?_⟩
    rw [← hw1]; simp
  have HNEW := hid hnew
  have HMZ := hid hmz
  obtain ⟨n, HN⟩ : ∃ n, Hid (l.length = n) := ⟨_, hid rfl⟩
  rw [HN.out] at hmk c1 x1 hl HNEW HMZ
  generalize madeCells #[Value.int .u8 0] n = mc at HNEW HMZ hmk
  clear h hp hw1 hg1 hnew hmz
  go_enter Tryz.func38, Tryz.ntmps38
  go_wp2_with fail
  go_loopw [5, 6] (fun ev pv wr => ∃ (ps : List (List UInt8)) (q : Option Addr) (cur : List Value) (S : List UInt8) (E : Nat), ev = .int .i64 E ∧ pv = .pointer q ∧ Hid ((laid ps).length = E) ∧ Hid (Chain w F q ps) ∧ Hid (laid ps ++ S = l) ∧ Hid (wr.heap[w.heap.size]? = some (.cells cur.toArray 5 (0, 0))) ∧ cur.length = n ∧ Hid (cur.drop E = Lib.byteCells S) ∧ Hid (Below w.heap.size w wr)) (fun _ pv _ => ptrM pv)
  case atStart =>
    obtain ⟨ps, hc, hll⟩ := HCH.out
    refine ⟨ps, p, mc.toList, [], n, rfl, rfl, hid (by rw [hll, HN.out]), hid hc, hid (by rw [hll, List.append_nil]), hid (by simpa using HNEW.out), by simpa using HMZ.out, hid (by rw [List.drop_eq_nil_of_le (by have := HMZ.out; simp; omega)]; rfl), HB1⟩
  case round =>
    obtain ⟨ps, q, cur, S, E, rfl, rfl, HE, HC, HS, HH, hcl, HD, HB⟩ := hrel
    cases ps with
    | nil =>
      have hq : q = none := HC.out
      subst hq
      go_wp2_with fail
      go_ret2
      refine ⟨_, rfl, ?_, gof HB.out none⟩
      have hE0 : E = 0 := HE.out.symm
      have hSl : S = l := HS.out
      have hcur : cur = Lib.byteCells l := by have := HD.out; rw [hE0, List.drop_zero, hSl] at this; exact this
      refine ⟨by rw [byteCells_length]; omega, .inr ⟨w.heap.size, n, cur.toArray, by rw [HN.out]; rfl, Nat.le_refl _, HH.out, by rw [HN.out]; exact Nat.le_refl _, by unfold maxLen; omega, by simp; omega, ?_⟩⟩
      rw [Nat.mul_one, List.toList_toArray, hcur, List.take_of_length_le (by rw [byteCells_length]; exact Nat.le_refl _)]
    | cons x r =>
      obtain ⟨g, v, q', e, hgl, hFg, hhg, hrx, hdec, hcr⟩ := HC.out
      subst e
      have HEL : Hid ((laid r).length + x.length = E) := hid (by rw [← HE.out, laid, List.length_append])
      have HSn : Hid (laid r ++ (x ++ S) = l) := hid (by rw [← List.append_assoc]; exact HS.out)
      have hEn : E ≤ n := by rw [← HN.out, ← HS.out, List.length_append, HE.out]; omega
      have HDD : Hid (∀ u, Below w.heap.size w u → u.cell? ⟨g, 0, none⟩ = some (.pointer q') ∧ u.cell? ⟨g, 1, none⟩ = some v) := hid (fun u hu => by
        have := (hu.block g hgl).trans hhg
        exact ⟨by simp [World.cell?, this], by simp [World.cell?, this]⟩)
      obtain ⟨d0, d1⟩ := HDD.out wr HB.out
      obtain ⟨a, b', off, c, hv, hxc, hxn, hxa, hxcell⟩ := hrx
      subst hv
      have HXA := hid hxa
      have HXC := hid hxcell
      obtain ⟨E', HE'⟩ : ∃ E', Hid ((laid r).length = E') := ⟨_, hid rfl⟩
      have hEE : E' + x.length = E := by rw [← HE'.out]; exact HEL.out
      have e1 : (E : Int) - (x.length : Int) = (E' : Int) := by omega
      have HEE := hid hEE
      have hE'n : E' ≤ n := by omega
      have HCR := hid hcr
      have HDEC := hid hdec
      have HHG := hid hhg
      have HPOS : Hid (0 < (Lib.byteCells x).length → ∃ ad, a = some ad ∧ ∀ j u, (Lib.byteCells x)[j]? = some u → wr.drew.cell? (ad.add j) = some u) := hid (fun h0 => by
        rw [byteCells_length] at h0
        refine ⟨_, (HXA.out h0).1, fun j u hu => ?_⟩
        have hj : j < x.length := by have := (List.getElem?_eq_some_iff.1 hu).1; rwa [byteCells_length] at this
        rw [Addr.add_lit]
        show wr.cell? _ = _
        rw [cell_at (gof HB.out none) (HXA.out h0).2.1 (by simp), HXC.out j hj, ← hu]
        simp [Lib.byteCells, List.getElem?_eq_getElem hj])
      have HONE : Hid (∀ u ∈ Lib.byteCells x, u.oneCell' = true) := hid (fun u hu => by
        unfold Lib.byteCells at hu
        obtain ⟨_, _, rfl⟩ := List.mem_map.1 hu
        rfl)
      have hnl := byteCells_length x
      have hnl2 : (Lib.byteCells x).length = Nat.min x.length (n - E') := by rw [hnl]; exact (Nat.min_eq_left (by omega)).symm
      have HNL := hid hnl2
      have HFIT : Hid (E' + (Lib.byteCells x).length ≤ cur.length) := hid (by rw [hnl]; omega)
      generalize HX : Lib.byteCells x = cs at HPOS HONE HNL HFIT
      have HXX := hid HX
      clear HX hxn hxa hxcell hhg hcr hdec hEE hnl hnl2
      go_wp2_with fail
      by_cases hEn' : E' = n
      · have h00 : cs.length = 0 := by have := HNL.out; rw [hEn', Nat.sub_self] at this; rw [this]; exact Nat.min_zero _
        have HZ0 := hid h00
        have HEn := hid hEn'
        clear h00
        go_region_law (refine step_copy_splice rfl (.tmp 44) (.tmp 48) 28 28 rfl 5 Tryz.underlying28 Tryz.one5 _ _ _ _ _ _ rfl rfl w.heap.size E' cur 5 (by exact HH.out) cs (by have := HNL.out; rw [HEn.out, Nat.sub_self] at this; exact this) (by exact fun h0 => absurd h0 (by have := HZ0.out; omega)) HFIT.out HONE.out w.heap.size w (below_drew HB.out) (Nat.le_refl _) ?_; intro w4 hg4 hb4)
        have HB4 := hid hb4
        obtain ⟨d0', d1'⟩ := HDD.out w4 HB4.out
        go_wp2_with fail
        refine ⟨⟨r, q', splice cur E' cs, x ++ S, E', by first | rfl | rw [HEn.out], rfl, HE', HCR, HSn, hg4, ?_, ?_, HB4⟩, ?_⟩
        · rw [length_splice _ _ _ HFIT.out]; exact hcl
        · refine hid ?_
          rw [drop_splice _ _ _ HFIT.out, byteCells_append, ← HXX.out, byteCells_length, HEE.out, HD.out]
        · cases q' with
          | none => simp [ptrM]
          | some a' => have := HDEC.out a' rfl; simp only [ptrM]; omega
      · have f1 : ¬ n - E' = 0 := by omega
        have f2 : ¬ n ≤ E' := by omega
        have f3 : ¬ n = E' := by omega
        go_region_law (refine step_copy_splice rfl (.tmp 44) (.tmp 48) 28 28 rfl 5 Tryz.underlying28 Tryz.one5 _ _ _ _ _ _ rfl rfl w.heap.size E' cur 5 (by exact HH.out) cs (by exact HNL.out) (by exact fun h0 => ⟨rfl, HPOS.out h0⟩) HFIT.out HONE.out w.heap.size w (below_drew HB.out) (Nat.le_refl _) ?_; intro w4 hg4 hb4)
        have HB4 := hid hb4
        obtain ⟨d0', d1'⟩ := HDD.out w4 HB4.out
        go_wp2_with fail
        refine ⟨⟨r, q', splice cur E' cs, x ++ S, E', by first | rfl | rw [HEn.out], rfl, HE', HCR, HSn, hg4, ?_, ?_, HB4⟩, ?_⟩
        · rw [length_splice _ _ _ HFIT.out]; exact hcl
        · refine hid ?_
          rw [drop_splice _ _ _ HFIT.out, byteCells_append, ← HXX.out, byteCells_length, HEE.out, HD.out]
        · cases q' with
          | none => simp [ptrM]
          | some a' => have := HDEC.out a' rfl; simp only [ptrM]; omega
end Go.Proofs.YtfalgjdhdgkbfaaGreatDoor
