/- RecordReads: its walk. -/
import Derived.Test.YtfalgjdhdgkbfaaGreatDoorX15
namespace Go.Proofs.YtfalgjdhdgkbfaaGreatDoor.Bk
open Go Go.RowKit
open Go.RowKit (wrap32 wrap64)

theorem zero79 : (Tryz.prog.info? 79).map (fun i => i.zero) = some (some (.agg [Value.pointer none, .pointer none].toArray)) := by kernel_rfl
theorem zero81 : (Tryz.prog.info? 81).map (fun i => i.zero) = some (some (.agg [Value.pointer none, .pointer none].toArray)) := by kernel_rfl
theorem size67 : (Tryz.prog.info? 67).map (·.size) = some 23 := by kernel_rfl
theorem tw3 {α : Type} {l : List α} (h : l.length = 23) : ∃ a0 a1 a2 a3 a4 a5 a6 a7 a8 a9 a10 a11 a12 a13 a14 a15 a16 a17 a18 a19 a20 a21 a22, l = [a0, a1, a2, a3, a4, a5, a6, a7, a8, a9, a10, a11, a12, a13, a14, a15, a16, a17, a18, a19, a20, a21, a22] := by
  match l, h with
  | [a0, a1, a2, a3, a4, a5, a6, a7, a8, a9, a10, a11, a12, a13, a14, a15, a16, a17, a18, a19, a20, a21, a22], _ => exact ⟨a0, a1, a2, a3, a4, a5, a6, a7, a8, a9, a10, a11, a12, a13, a14, a15, a16, a17, a18, a19, a20, a21, a22, rfl⟩
/-- A field that is asked for, as its cells tell it. -/
structure Ofd where
  cs : List Value
  dv : Int
  on : Int
  wd : Int
def Ofd.ok (o : Ofd) : Prop := o.cs.length = 23 ∧ o.cs[0]? = some (.int .i64 o.dv) ∧ o.cs[1]? = some (.int .i64 o.on) ∧ o.cs[3]? = some (.int .i64 o.wd)
def RowsF (W : World) (a : Option Addr) (b o n : Nat) (f : Nat → Ofd) : Prop := (0 < n → a = some ⟨b, o, none⟩ ∧ b < W.heap.size) ∧ ∀ i, i < n → W.rangeAt b (o + i * 23) (f i).cs ∧ (f i).ok
/-- The readers that there are behind k rounds. -/
def Made (w : World) (lo : Nat) (q x : Value) (l : List UInt8) (hi : Nat) : Prop := ∃ lo1 b d F G, q = .pointer (some ⟨b, 0, none⟩) ∧ x = .pointer (some ⟨d, 0, none⟩) ∧ RQ w lo1 hi b d F G l 0 ∧ lo ≤ lo1 ∧ hi ≤ w.heap.size
theorem Made.kb {w w' : World} {lo hi B x' y' : Nat} {q x : Value} {l : List UInt8} (h : Made w lo q x l hi) (k : KB w w' B x' y') (hB : hi ≤ B) (hx : x' < lo) (hy : y' < lo) : Made w' lo q x l hi := by
  obtain ⟨lo1, b, d, F, G, e1, e2, hq, h1, h2⟩ := h
  exact ⟨lo1, b, d, F, G, e1, e2, hq.kb k hB (.inl (by omega)) (.inl (by omega)), h1, Nat.le_trans h2 k.size⟩
theorem KB.set {w : World} {B b d i : Nat} (v : Value) (p : Nat) (hp : p = b ∨ p = d) : KB w (w.setCell ⟨p, i, none⟩ v) B b d := by
  refine ⟨rfl, rfl, rfl, by simp [World.setCell], fun k _ h2 h3 => ?_⟩
  exact Below.heap_setCell _ _ _ _ (fun e => by have e' : k = p := e; rcases hp with h | h <;> omega)
theorem KB.but {w w' : World} {B b d q : Nat} (h : But w w' q) (hq : B ≤ q) : KB w w' B b d := KB.bel (h.below hq)
set_option maxRecDepth 100000 in
set_option maxHeartbeats 12800000 in
theorem reads_walk (w : World) (V0 V1 : Value) (L0 L1 : List UInt8) (oa : Option Addr) (ob oo on oc : Nat) (f : Nat → Ofd) (ht : Tab w) (h0 : Rd w V0 L0) (h1 : Rd w V1 L1) (_hl0 : L0.length ≤ 140737488355328) (_hl1 : L1.length ≤ 140737488355328) (hon : on ≤ 140737488355328) (hR : RowsF w oa ob oo on f) :
    Calls Tryz.prog 4 #[.agg #[V0, V1, .slice oa on oc]] w fun e w' => e = .returned (.bool true) ∧ Below w.heap.size w w' := by
  have HT := hid ht
  have HA0 : Hid (∀ u, Below w.heap.size w u → Rd u V0 L0 ∧ Rd u V1 L1) := hid (fun u hu => ⟨h0.below hu, h1.below hu⟩)
  have HRO := hid hR
  obtain ⟨a0, n0, c0, rfl, hn0⟩ : ∃ a n c, V0 = .slice a n c ∧ n = L0.length := by obtain ⟨a, _, _, c, hv, _⟩ := h0; exact ⟨a, _, c, hv, rfl⟩
  obtain ⟨a1, n1, c1, rfl, hn1⟩ : ∃ a n c, V1 = .slice a n c ∧ n = L1.length := by obtain ⟨a, _, _, c, hv, _⟩ := h1; exact ⟨a, _, c, hv, rfl⟩
  have HN0 := hid hn0
  have HN1 := hid hn1
  clear ht h0 h1 hR hn0 hn1 _hl0 _hl1
  go_enter Tryz.func4, Tryz.ntmps4
  go_upto_region 3 with (first
    | (have := HG2; clear this; (with_reducible refine wpList_alloc_row (by with_unfolding_all rfl) 81 (by with_unfolding_all rfl) [.pointer none, .pointer none] zero81 ?_); intro w3 B3 s3 g3; have HV3 := hid B3; have HB3 := hid (HB2.out.keep g3); have HR3 := hid (HR2.out.keep g3); have HG3 := hid (gtrans HG2.out g3); clear B3 s3 g3)
    | (have := HG1; clear this; (with_reducible refine wpList_alloc_row (by with_unfolding_all rfl) 79 (by with_unfolding_all rfl) [.pointer none, .pointer none] zero79 ?_); intro w2 B2 s2 g2; have HR2 := hid B2; have HB2 := hid (HB1.out.keep g2); have HG2 := hid (gtrans HG1.out g2); clear B2 s2 g2)
    | ((with_reducible refine wpList_box_row (by with_unfolding_all rfl) 77 _ (by with_unfolding_all rfl) [.slice a0 n0 c0, .slice a1 n1 c1, .slice oa on oc] (by with_unfolding_all rfl) ?_); intro w1 B1 s1 g1; have HB1 := hid B1; have HG1 := hid g1; clear B1 s1 g1))
  obtain ⟨p1, hp1⟩ : ∃ q, w.heap.size = q := ⟨_, rfl⟩
  obtain ⟨p3, hp3⟩ : ∃ q, w1.heap.size = q := ⟨_, rfl⟩
  obtain ⟨p4, hp4⟩ : ∃ q, w2.heap.size = q := ⟨_, rfl⟩
  have HPn : Hid (w.heap.size = p1 ∧ p1 < p3 ∧ p3 < p4 ∧ p4 < w3.heap.size) := hid (by have h1 := HB1.out.lt; have h2 := HR2.out.lt; have h3 := HV3.out.lt; omega)
  rw [hp1] at HB3
  rw [hp3] at HR3
  rw [hp4] at HV3
  simp only [hp1, hp3, hp4]
  clear hp1 hp3 hp4 HB1 HB2 HR2 HG1 HG2
  have HBW := hid (gbelow HG3.out)
  go_wp2_with fail
  go_loopw [5] (fun kv wr => ∃ k : Nat, kv = .int .i64 k ∧ k ≤ 2 ∧ Hid (Blk wr p1 [.slice a0 n0 c0, .slice a1 n1 c1, .slice oa on oc] 77) ∧ Hid (Below w.heap.size w wr) ∧ Hid (w3.heap.size ≤ wr.heap.size) ∧ ∃ q0 q1 x0 x1 hi, Hid (Blk wr p3 [q0, q1] 79) ∧ Hid (Blk wr p4 [x0, x1] 81) ∧ Hid (0 < k → Made wr (p4 + 1) q0 x0 L0 hi) ∧ Hid (1 < k → ∃ hi2, Made wr hi q1 x1 L1 hi2)) (fun kv _ => 2 - (intOf kv).toNat)
  case atStart => exact ⟨0, rfl, by omega, HB3, HBW, hid (Nat.le_refl _), .pointer none, .pointer none, .pointer none, .pointer none, 0, HR3, HV3, hid (fun h => by omega), hid (fun h => by omega)⟩
  case round =>
    obtain ⟨k, rfl, hk, HB, HBW2, HSZ, q0, q1, x0, x1, hi, HQ, HX, HM0, HM1⟩ := hrel
    clear HB3 HR3 HV3 HG3 HBW
    have pc0 := HB.out.cell 0
    have pc1 := HB.out.cell 1
    have qc0 := HQ.out.cell 0
    have qc1 := HQ.out.cell 1
    have xc0 := HX.out.cell 0
    have xc1 := HX.out.cell 1
    have qz0 := HQ.out.frozen 0
    have qz1 := HQ.out.frozen 1
    have xz0 := HX.out.frozen 0
    have xz1 := HX.out.frozen 1
    rcases (show k = 0 ∨ k = 1 ∨ k = 2 by omega) with rfl | rfl | rfl
    · as_aux_lemma =>
      have HRd : Hid (∀ u, Below w.heap.size w u → Rd u (.slice a0 n0 c0) L0) := hid (fun u hu => (HA0.out u hu).1)
      have HPw : Hid (p1 < wr.heap.size ∧ p3 < wr.heap.size ∧ p4 < wr.heap.size ∧ p1 < p3 ∧ p3 < p4 ∧ w.heap.size = p1) := hid (by have h1 := HPn.out; have h2 := HSZ.out; omega)
      by_cases hbig : (4194304 : Int) < (n0 : Int)
      · have HWk := hid (works_any wr (HT.out.keep (gof HBW2.out none)))
        go_wp2_with fail
        refine HWk.out.mono ?_
        rintro e w4 ⟨rfl, hg⟩
        have HB4 := hid (HBW2.out.trans ((gbelow hg).mono HBW2.out.size))
        clear hg
        go_wp2_with fail
        go_ret
        exact ⟨rfl, HB4.out⟩
      · have HLl : Hid (L0.length ≤ 4194304) := hid (by rw [← HN0.out]; omega)
        have HLe := hid (lend4_any wr (.slice a0 n0 c0) L0 (HRd.out wr HBW2.out) HLl.out)
        go_wp2_with fail
        refine HLe.out.mono ?_
        rintro e w4 ⟨vi, rfl, hL4, hb4⟩
        have HL4 := hid hL4
        have HW4 := hid hb4
        have HFr := hid (from_any w4 _ vi L0 (Rd.up hL4.rd) (by have := HLl.out; omega))
        clear hL4 hb4 HLe
        go_wp2_with fail
        refine HFr.out.mono ?_
        rintro e w5 ⟨b, rfl, hb5, hR5, hg5⟩
        have HRa : Hid (Rr w5 b (fun g => w4.heap.size ≤ g ∧ g < w5.heap.size ∧ g ≠ b) L0 0) := hid (hR5.mono (fun q hq h => ⟨h.1, hq, h.2⟩) (fun h => h.2.2 rfl))
        have HLb : Hid (w4.heap.size ≤ b ∧ b < w5.heap.size) := hid ⟨hb5, hR5.lt⟩
        have HW5 : Hid (Below wr.heap.size wr w5) := hid (HW4.out.trans ((gbelow hg5).mono HW4.out.size))
        have HL5 := hid (HL4.out.below (gbelow hg5))
        have HS45 := hid (And.intro HW4.out.size hg5.size)
        have HQ5 : Hid (Blk w5 p3 [q0, q1] 79) := hid ((HW5.out.block p3 HPw.out.2.1).trans HQ.out)
        have HX5 : Hid (Blk w5 p4 [x0, x1] 81) := hid ((HW5.out.block p4 HPw.out.2.2.1).trans HX.out)
        have HP5 : Hid (Blk w5 p1 [.slice a0 n0 c0, .slice a1 n1 c1, .slice oa on oc] 77) := hid ((HW5.out.block p1 HPw.out.1).trans HB.out)
        have HK5 : Hid (KB wr w5 wr.heap.size p3 p4) := hid (KB.bel HW5.out)
        clear hb5 hR5 hg5 HFr pc0 pc1 qc0 qc1 xc0 xc1 qz0 qz1 xz0 xz1 hbig
        have qc := HQ5.out.cell 0
        have qz := HQ5.out.frozen 0
        go_upto_region 10 with fail
        obtain ⟨w6, hw6⟩ : ∃ q, w5.setCell ⟨p3, 0, none⟩ (.pointer (some ⟨b, 0, none⟩)) = q := ⟨_, rfl⟩
        rw [hw6]
        have HG6 : Hid (w5.grownBy w6 (some p3)) := hid (by rw [← hw6]; exact gset _ _ _)
        have HQ6 : Hid (Blk w6 p3 [.pointer (some ⟨b, 0, none⟩), q1] 79) := hid (by rw [← hw6]; exact HQ5.out.set 0 _)
        have HX6 := hid (HX5.out.on HG6.out (by have := HPw.out; simp; omega))
        have HP6 := hid (HP5.out.on HG6.out (by have := HPw.out; simp; omega))
        have HRa6 := hid (HRa.out.on HG6.out (by have h1 := HPw.out; have h2 := HLb.out; have h3 := HS45.out; simp; omega) (fun q hq h => by injection hq with hq; have h1 := HPw.out; have h3 := HS45.out; omega))
        have HL6 : Hid (Lent w6 wr.heap.size vi L0) := hid (HL5.out.same (by rw [← hw6]; exact Same.but HQ5.out (by decide) (But.setCell _ _ _ _)))
        have HS6 : Hid (w6.heap.size = w5.heap.size) := hid (by rw [← hw6]; simp [World.setCell])
        have HK6 : Hid (KB wr w6 wr.heap.size p3 p4) := hid (HK5.out.trans (by rw [← hw6]; exact KB.set _ p3 (.inl rfl)))
        clear hw6 qc qz HQ5 HX5 HP5 HRa HL5 HK5 HW5
        have HBel6 : Hid (Below w.heap.size w w6) := hid (HBW2.out.trans (HK6.out.below HBW2.out.size (by have := HPw.out; omega) (by have := HPw.out; omega)))
        have HFv := hid (rvfrom_any w6 _ (.slice a0 n0 c0) L0 (Rd.up (HRd.out w6 HBel6.out)) (by have := HLl.out; omega))
        have pc := HP6.out.cell 0
        go_wp2_with fail
        refine HFv.out.mono ?_
        rintro e w7 ⟨d, rfl, hb7, hV7, hg7⟩
        have HVa : Hid (Rv w7 d (fun g => w6.heap.size ≤ g ∧ g < w7.heap.size ∧ g ≠ d) L0 0) := hid (hV7.mono (fun q hq h => ⟨h.1, hq, h.2⟩) (fun h => h.2.2 rfl))
        have HLd : Hid (w6.heap.size ≤ d ∧ d < w7.heap.size) := hid ⟨hb7, hV7.lt⟩
        have HQ7 := hid (HQ6.out.keep hg7)
        have HX7 := hid (HX6.out.keep hg7)
        have HP7 := hid (HP6.out.keep hg7)
        have HRa7 := hid (HRa6.out.keep hg7)
        have HL7 := hid (HL6.out.below (gbelow hg7))
        have HS7 := hid hg7.size
        have HK7 : Hid (KB wr w7 wr.heap.size p3 p4) := hid (HK6.out.trans (KB.new hg7 (by have h1 := HS6.out; have h2 := HS45.out; omega)))
        clear hb7 hV7 hg7 pc HFv HQ6 HX6 HP6 HRa6 HL6 HBel6
        have xc := HX7.out.cell 0
        have xz := HX7.out.frozen 0
        go_upto_region 11 with fail
        obtain ⟨w8, hw8⟩ : ∃ q, w7.setCell ⟨p4, 0, none⟩ (.pointer (some ⟨d, 0, none⟩)) = q := ⟨_, rfl⟩
        rw [hw8]
        have HG8 : Hid (w7.grownBy w8 (some p4)) := hid (by rw [← hw8]; exact gset _ _ _)
        have HX8 : Hid (Blk w8 p4 [.pointer (some ⟨d, 0, none⟩), x1] 81) := hid (by rw [← hw8]; exact HX7.out.set 0 _)
        have HQ8 := hid (HQ7.out.on HG8.out (by have := HPw.out; simp; omega))
        have HP8 := hid (HP7.out.on HG8.out (by have := HPw.out; simp; omega))
        have HRa8 := hid (HRa7.out.on HG8.out (by have h1 := HPw.out; have h2 := HLb.out; have h3 := HS45.out; simp; omega) (fun q hq h => by injection hq with hq; have h1 := HPw.out; have h3 := HS45.out; omega))
        have HVa8 := hid (HVa.out.on HG8.out (by have h1 := HPw.out; have h2 := HLd.out; have h3 := HS45.out; have h4 := HS6.out; simp; omega) (fun q hq h => by injection hq with hq; have h1 := HPw.out; have h3 := HS45.out; have h4 := HS6.out; omega))
        have HL8 : Hid (Lent w8 wr.heap.size vi L0) := hid (HL7.out.same (by rw [← hw8]; exact Same.but HX7.out (by decide) (But.setCell _ _ _ _)))
        have HS8 : Hid (w8.heap.size = w7.heap.size) := hid (by rw [← hw8]; simp [World.setCell])
        have HK8 : Hid (KB wr w8 wr.heap.size p3 p4) := hid (HK7.out.trans (by rw [← hw8]; exact KB.set _ p4 (.inr rfl)))
        clear hw8 xc xz HX7 HQ7 HP7 HRa7 HVa HL7 HK7
        have HBel8 : Hid (Below w.heap.size w w8) := hid (HBW2.out.trans (HK8.out.below HBW2.out.size (by have := HPw.out; omega) (by have := HPw.out; omega)))
        have HIn := hid (intact4_any w8 wr.heap.size vi (.slice a0 n0 c0) L0 HL8.out (HRd.out w8 HBel8.out) HLl.out)
        have qc := HQ8.out.cell 0
        have pc := HP8.out.cell 0
        go_wp2_with fail
        refine HIn.out.mono ?_
        rintro e w9 ⟨rfl, dd, hw9⟩
        have hg9 : w8.grownBy w9 none := by rw [hw9]; exact gdrew _ _ _
        have HQ9 := hid (HQ8.out.keep hg9)
        have HX9 := hid (HX8.out.keep hg9)
        have HP9 := hid (HP8.out.keep hg9)
        have HRa9 := hid (HRa8.out.keep hg9)
        have HVa9 := hid (HVa8.out.keep hg9)
        have HL9 := hid (HL8.out.below (gbelow hg9))
        have HS9 : Hid (w9.heap.size = w8.heap.size) := hid (by rw [hw9]; rfl)
        have HK9 : Hid (KB wr w9 wr.heap.size p3 p4) := hid (HK8.out.trans (KB.new hg9 (by have h1 := HS6.out; have h2 := HS45.out; have h3 := HS7.out; have h4 := HS8.out; omega)))
        clear hw9 hg9 qc pc HIn HQ8 HX8 HP8 HRa8 HVa8 HL8 HK8 HBel8
        have HOv := hid (over_any w9 wr.heap.size vi L0 HL9.out HLl.out)
        go_wp2_with fail
        refine HOv.out.mono ?_
        rintro e w10 ⟨rfl, q, hq, hbut⟩
        have HLq : Hid (wr.heap.size ≤ q ∧ q < w4.heap.size) := hid ⟨(HL4.out.own.lt q hq).1, (HL4.out.own.lt q hq).2⟩
        have HKq : Hid (KB w9 w10 w9.heap.size q q) := hid ⟨hbut.os, hbut.tape, hbut.output, Nat.le_of_eq hbut.size.symm, fun j _ h2 _ => hbut.block j h2⟩
        have HS10 := hid hbut.size
        have HK10 : Hid (KB wr w10 wr.heap.size p3 p4) := hid (HK9.out.trans (KB.but hbut HLq.out.1))
        have HRQ : Hid (RQ w10 w4.heap.size w7.heap.size b d (fun g => w4.heap.size ≤ g ∧ g < w5.heap.size ∧ g ≠ b) (fun g => w6.heap.size ≤ g ∧ g < w7.heap.size ∧ g ≠ d) L0 0) := hid (by
          have h1 := HLb.out
          have h2 := HLd.out
          have h3 := HS45.out
          have h4 := HS6.out
          have h5 := HS7.out
          have h6 := HS8.out
          have h7 := HS9.out
          have hr : RQ w9 w4.heap.size w7.heap.size b d (fun g => w4.heap.size ≤ g ∧ g < w5.heap.size ∧ g ≠ b) (fun g => w6.heap.size ≤ g ∧ g < w7.heap.size ∧ g ≠ d) L0 0 :=
            ⟨HRa9.out, HVa9.out, by omega, by omega, fun g hg => by omega, fun g hg => by omega, fun hg => by omega, fun hg => by omega, by omega⟩
          exact hr.kb HKq.out (by omega) (.inl (by have := HLq.out; omega)) (.inl (by have := HLq.out; omega)))
        have HQ10 : Hid (Blk w10 p3 [.pointer (some ⟨b, 0, none⟩), q1] 79) := hid ((hbut.block p3 (by have := HPw.out; have := HLq.out; omega)).trans HQ9.out)
        have HX10 : Hid (Blk w10 p4 [.pointer (some ⟨d, 0, none⟩), x1] 81) := hid ((hbut.block p4 (by have := HPw.out; have := HLq.out; omega)).trans HX9.out)
        have HP10 : Hid (Blk w10 p1 [.slice a0 n0 c0, .slice a1 n1 c1, .slice oa on oc] 77) := hid ((hbut.block p1 (by have := HPw.out; have := HLq.out; omega)).trans HP9.out)
        have HBel10 : Hid (Below w.heap.size w w10) := hid (HBW2.out.trans (HK10.out.below HBW2.out.size (by have := HPw.out; omega) (by have := HPw.out; omega)))
        have HSZ10 : Hid (w3.heap.size ≤ w10.heap.size) := hid (Nat.le_trans HSZ.out HK10.out.size)
        have HSq : Hid (w7.heap.size ≤ w10.heap.size ∧ wr.heap.size ≤ w4.heap.size) := hid (by have h6 := HS8.out; have h7 := HS9.out; have h8 := HS10.out; have h9 := HS45.out; omega)
        clear hq hbut HOv HQ9 HX9 HP9 HRa9 HVa9 HL9 HK9 HKq HL4
        go_wp2_with fail
        go_roundw
        case rel => exact ⟨1, by go_num, by omega, HP10, HBel10, HSZ10, _, _, _, _, w7.heap.size, HQ10, HX10, hid (fun _ => ⟨w4.heap.size, b, d, _, _, rfl, rfl, HRQ.out, by have h1 := HPw.out; have h2 := HSq.out; omega, HSq.out.1⟩), hid (fun h => by omega)⟩
        case measure => simp [intOf]
    · as_aux_lemma =>
      have HRd : Hid (∀ u, Below w.heap.size w u → Rd u (.slice a1 n1 c1) L1) := hid (fun u hu => (HA0.out u hu).2)
      have HPw : Hid (p1 < wr.heap.size ∧ p3 < wr.heap.size ∧ p4 < wr.heap.size ∧ p1 < p3 ∧ p3 < p4 ∧ w.heap.size = p1) := hid (by have h1 := HPn.out; have h2 := HSZ.out; omega)
      by_cases hbig : (4194304 : Int) < (n1 : Int)
      · have HWk := hid (works_any wr (HT.out.keep (gof HBW2.out none)))
        go_wp2_with fail
        refine HWk.out.mono ?_
        rintro e w4 ⟨rfl, hg⟩
        have HB4 := hid (HBW2.out.trans ((gbelow hg).mono HBW2.out.size))
        clear hg
        go_wp2_with fail
        go_ret
        exact ⟨rfl, HB4.out⟩
      · have HLl : Hid (L1.length ≤ 4194304) := hid (by rw [← HN1.out]; omega)
        have HLe := hid (lend4_any wr (.slice a1 n1 c1) L1 (HRd.out wr HBW2.out) HLl.out)
        go_wp2_with fail
        refine HLe.out.mono ?_
        rintro e w4 ⟨vi, rfl, hL4, hb4⟩
        have HL4 := hid hL4
        have HW4 := hid hb4
        have HFr := hid (from_any w4 _ vi L1 (Rd.up hL4.rd) (by have := HLl.out; omega))
        clear hL4 hb4 HLe
        go_wp2_with fail
        refine HFr.out.mono ?_
        rintro e w5 ⟨b, rfl, hb5, hR5, hg5⟩
        have HRa : Hid (Rr w5 b (fun g => w4.heap.size ≤ g ∧ g < w5.heap.size ∧ g ≠ b) L1 0) := hid (hR5.mono (fun q hq h => ⟨h.1, hq, h.2⟩) (fun h => h.2.2 rfl))
        have HLb : Hid (w4.heap.size ≤ b ∧ b < w5.heap.size) := hid ⟨hb5, hR5.lt⟩
        have HW5 : Hid (Below wr.heap.size wr w5) := hid (HW4.out.trans ((gbelow hg5).mono HW4.out.size))
        have HL5 := hid (HL4.out.below (gbelow hg5))
        have HS45 := hid (And.intro HW4.out.size hg5.size)
        have HQ5 : Hid (Blk w5 p3 [q0, q1] 79) := hid ((HW5.out.block p3 HPw.out.2.1).trans HQ.out)
        have HX5 : Hid (Blk w5 p4 [x0, x1] 81) := hid ((HW5.out.block p4 HPw.out.2.2.1).trans HX.out)
        have HP5 : Hid (Blk w5 p1 [.slice a0 n0 c0, .slice a1 n1 c1, .slice oa on oc] 77) := hid ((HW5.out.block p1 HPw.out.1).trans HB.out)
        have HK5 : Hid (KB wr w5 wr.heap.size p3 p4) := hid (KB.bel HW5.out)
        clear hb5 hR5 hg5 HFr pc0 pc1 qc0 qc1 xc0 xc1 qz0 qz1 xz0 xz1 hbig
        have qc := HQ5.out.cell 1
        have qz := HQ5.out.frozen 1
        go_upto_region 10 with fail
        obtain ⟨w6, hw6⟩ : ∃ q, w5.setCell ⟨p3, 1, none⟩ (.pointer (some ⟨b, 0, none⟩)) = q := ⟨_, rfl⟩
        rw [hw6]
        have HG6 : Hid (w5.grownBy w6 (some p3)) := hid (by rw [← hw6]; exact gset _ _ _)
        have HQ6 : Hid (Blk w6 p3 [q0, .pointer (some ⟨b, 0, none⟩)] 79) := hid (by rw [← hw6]; exact HQ5.out.set 1 _)
        have HX6 := hid (HX5.out.on HG6.out (by have := HPw.out; simp; omega))
        have HP6 := hid (HP5.out.on HG6.out (by have := HPw.out; simp; omega))
        have HRa6 := hid (HRa.out.on HG6.out (by have h1 := HPw.out; have h2 := HLb.out; have h3 := HS45.out; simp; omega) (fun q hq h => by injection hq with hq; have h1 := HPw.out; have h3 := HS45.out; omega))
        have HL6 : Hid (Lent w6 wr.heap.size vi L1) := hid (HL5.out.same (by rw [← hw6]; exact Same.but HQ5.out (by decide) (But.setCell _ _ _ _)))
        have HS6 : Hid (w6.heap.size = w5.heap.size) := hid (by rw [← hw6]; simp [World.setCell])
        have HK6 : Hid (KB wr w6 wr.heap.size p3 p4) := hid (HK5.out.trans (by rw [← hw6]; exact KB.set _ p3 (.inl rfl)))
        clear hw6 qc qz HQ5 HX5 HP5 HRa HL5 HK5 HW5
        have HBel6 : Hid (Below w.heap.size w w6) := hid (HBW2.out.trans (HK6.out.below HBW2.out.size (by have := HPw.out; omega) (by have := HPw.out; omega)))
        have HFv := hid (rvfrom_any w6 _ (.slice a1 n1 c1) L1 (Rd.up (HRd.out w6 HBel6.out)) (by have := HLl.out; omega))
        have pc := HP6.out.cell 1
        go_wp2_with fail
        refine HFv.out.mono ?_
        rintro e w7 ⟨d, rfl, hb7, hV7, hg7⟩
        have HVa : Hid (Rv w7 d (fun g => w6.heap.size ≤ g ∧ g < w7.heap.size ∧ g ≠ d) L1 0) := hid (hV7.mono (fun q hq h => ⟨h.1, hq, h.2⟩) (fun h => h.2.2 rfl))
        have HLd : Hid (w6.heap.size ≤ d ∧ d < w7.heap.size) := hid ⟨hb7, hV7.lt⟩
        have HQ7 := hid (HQ6.out.keep hg7)
        have HX7 := hid (HX6.out.keep hg7)
        have HP7 := hid (HP6.out.keep hg7)
        have HRa7 := hid (HRa6.out.keep hg7)
        have HL7 := hid (HL6.out.below (gbelow hg7))
        have HS7 := hid hg7.size
        have HK7 : Hid (KB wr w7 wr.heap.size p3 p4) := hid (HK6.out.trans (KB.new hg7 (by have h1 := HS6.out; have h2 := HS45.out; omega)))
        clear hb7 hV7 hg7 pc HFv HQ6 HX6 HP6 HRa6 HL6 HBel6
        have xc := HX7.out.cell 1
        have xz := HX7.out.frozen 1
        go_upto_region 11 with fail
        obtain ⟨w8, hw8⟩ : ∃ q, w7.setCell ⟨p4, 1, none⟩ (.pointer (some ⟨d, 0, none⟩)) = q := ⟨_, rfl⟩
        rw [hw8]
        have HG8 : Hid (w7.grownBy w8 (some p4)) := hid (by rw [← hw8]; exact gset _ _ _)
        have HX8 : Hid (Blk w8 p4 [x0, .pointer (some ⟨d, 0, none⟩)] 81) := hid (by rw [← hw8]; exact HX7.out.set 1 _)
        have HQ8 := hid (HQ7.out.on HG8.out (by have := HPw.out; simp; omega))
        have HP8 := hid (HP7.out.on HG8.out (by have := HPw.out; simp; omega))
        have HRa8 := hid (HRa7.out.on HG8.out (by have h1 := HPw.out; have h2 := HLb.out; have h3 := HS45.out; simp; omega) (fun q hq h => by injection hq with hq; have h1 := HPw.out; have h3 := HS45.out; omega))
        have HVa8 := hid (HVa.out.on HG8.out (by have h1 := HPw.out; have h2 := HLd.out; have h3 := HS45.out; have h4 := HS6.out; simp; omega) (fun q hq h => by injection hq with hq; have h1 := HPw.out; have h3 := HS45.out; have h4 := HS6.out; omega))
        have HL8 : Hid (Lent w8 wr.heap.size vi L1) := hid (HL7.out.same (by rw [← hw8]; exact Same.but HX7.out (by decide) (But.setCell _ _ _ _)))
        have HS8 : Hid (w8.heap.size = w7.heap.size) := hid (by rw [← hw8]; simp [World.setCell])
        have HK8 : Hid (KB wr w8 wr.heap.size p3 p4) := hid (HK7.out.trans (by rw [← hw8]; exact KB.set _ p4 (.inr rfl)))
        clear hw8 xc xz HX7 HQ7 HP7 HRa7 HVa HL7 HK7
        have HBel8 : Hid (Below w.heap.size w w8) := hid (HBW2.out.trans (HK8.out.below HBW2.out.size (by have := HPw.out; omega) (by have := HPw.out; omega)))
        have HIn := hid (intact4_any w8 wr.heap.size vi (.slice a1 n1 c1) L1 HL8.out (HRd.out w8 HBel8.out) HLl.out)
        have qc := HQ8.out.cell 1
        have pc := HP8.out.cell 1
        go_wp2_with fail
        refine HIn.out.mono ?_
        rintro e w9 ⟨rfl, dd, hw9⟩
        have hg9 : w8.grownBy w9 none := by rw [hw9]; exact gdrew _ _ _
        have HQ9 := hid (HQ8.out.keep hg9)
        have HX9 := hid (HX8.out.keep hg9)
        have HP9 := hid (HP8.out.keep hg9)
        have HRa9 := hid (HRa8.out.keep hg9)
        have HVa9 := hid (HVa8.out.keep hg9)
        have HL9 := hid (HL8.out.below (gbelow hg9))
        have HS9 : Hid (w9.heap.size = w8.heap.size) := hid (by rw [hw9]; rfl)
        have HK9 : Hid (KB wr w9 wr.heap.size p3 p4) := hid (HK8.out.trans (KB.new hg9 (by have h1 := HS6.out; have h2 := HS45.out; have h3 := HS7.out; have h4 := HS8.out; omega)))
        clear hw9 hg9 qc pc HIn HQ8 HX8 HP8 HRa8 HVa8 HL8 HK8 HBel8
        have HOv := hid (over_any w9 wr.heap.size vi L1 HL9.out HLl.out)
        go_wp2_with fail
        refine HOv.out.mono ?_
        rintro e w10 ⟨rfl, q, hq, hbut⟩
        have HLq : Hid (wr.heap.size ≤ q ∧ q < w4.heap.size) := hid ⟨(HL4.out.own.lt q hq).1, (HL4.out.own.lt q hq).2⟩
        have HKq : Hid (KB w9 w10 w9.heap.size q q) := hid ⟨hbut.os, hbut.tape, hbut.output, Nat.le_of_eq hbut.size.symm, fun j _ h2 _ => hbut.block j h2⟩
        have HS10 := hid hbut.size
        have HK10 : Hid (KB wr w10 wr.heap.size p3 p4) := hid (HK9.out.trans (KB.but hbut HLq.out.1))
        have HRQ : Hid (RQ w10 w4.heap.size w7.heap.size b d (fun g => w4.heap.size ≤ g ∧ g < w5.heap.size ∧ g ≠ b) (fun g => w6.heap.size ≤ g ∧ g < w7.heap.size ∧ g ≠ d) L1 0) := hid (by
          have h1 := HLb.out
          have h2 := HLd.out
          have h3 := HS45.out
          have h4 := HS6.out
          have h5 := HS7.out
          have h6 := HS8.out
          have h7 := HS9.out
          have hr : RQ w9 w4.heap.size w7.heap.size b d (fun g => w4.heap.size ≤ g ∧ g < w5.heap.size ∧ g ≠ b) (fun g => w6.heap.size ≤ g ∧ g < w7.heap.size ∧ g ≠ d) L1 0 :=
            ⟨HRa9.out, HVa9.out, by omega, by omega, fun g hg => by omega, fun g hg => by omega, fun hg => by omega, fun hg => by omega, by omega⟩
          exact hr.kb HKq.out (by omega) (.inl (by have := HLq.out; omega)) (.inl (by have := HLq.out; omega)))
        have HQ10 : Hid (Blk w10 p3 [q0, .pointer (some ⟨b, 0, none⟩)] 79) := hid ((hbut.block p3 (by have := HPw.out; have := HLq.out; omega)).trans HQ9.out)
        have HX10 : Hid (Blk w10 p4 [x0, .pointer (some ⟨d, 0, none⟩)] 81) := hid ((hbut.block p4 (by have := HPw.out; have := HLq.out; omega)).trans HX9.out)
        have HP10 : Hid (Blk w10 p1 [.slice a0 n0 c0, .slice a1 n1 c1, .slice oa on oc] 77) := hid ((hbut.block p1 (by have := HPw.out; have := HLq.out; omega)).trans HP9.out)
        have HBel10 : Hid (Below w.heap.size w w10) := hid (HBW2.out.trans (HK10.out.below HBW2.out.size (by have := HPw.out; omega) (by have := HPw.out; omega)))
        have HSZ10 : Hid (w3.heap.size ≤ w10.heap.size) := hid (Nat.le_trans HSZ.out HK10.out.size)
        have HSq : Hid (w7.heap.size ≤ w10.heap.size ∧ wr.heap.size ≤ w4.heap.size) := hid (by have h6 := HS8.out; have h7 := HS9.out; have h8 := HS10.out; have h9 := HS45.out; omega)
        clear hq hbut HOv HQ9 HX9 HP9 HRa9 HVa9 HL9 HK9 HKq HL4
        go_wp2_with fail
        go_roundw
        case rel => exact ⟨2, by go_num, by omega, HP10, HBel10, HSZ10, _, _, _, _, hi, HQ10, HX10, hid (fun _ => (HM0.out (by omega)).kb HK10.out (by obtain ⟨_, _, _, _, _, _, _, _, _, h⟩ := HM0.out (by omega); exact h) (by have := HPw.out; omega) (by omega)), hid (fun _ => ⟨w7.heap.size, w4.heap.size, b, d, _, _, rfl, rfl, HRQ.out, by obtain ⟨_, _, _, _, _, _, _, _, _, h⟩ := HM0.out (by omega); have := HSq.out; omega, HSq.out.1⟩)⟩
        case measure => simp [intOf]
    · as_aux_lemma =>
      obtain ⟨lo0, b0, d0, F0, G0, rfl, rfl, hq0, hlo0, hhi0⟩ := HM0.out (by omega)
      obtain ⟨hi2, lo1, b1, d1, F1, G1, rfl, rfl, hq1, hlo1, hhi1⟩ := HM1.out (by omega)
      have HPw : Hid (p1 < wr.heap.size ∧ p3 < wr.heap.size ∧ p4 < wr.heap.size ∧ p1 < p3 ∧ p3 < p4 ∧ w.heap.size = p1) := hid (by have h1 := HPn.out; have h2 := HSZ.out; omega)
      have HLo : Hid (p4 < lo0 ∧ hi ≤ lo1 ∧ hi ≤ wr.heap.size ∧ hi2 ≤ wr.heap.size) := hid (by omega)
      have HQ0 := hid hq0
      have HQ1 := hid hq1
      clear HM0 HM1 hq0 hq1 hlo0 hlo1 hhi0 hhi1 pc0 pc1 qc0 qc1 xc0 xc1 qz0 qz1 xz0 xz1
      go_upto_region 16 with (first | refine wp_build59 rfl ?_ | refine wp_build62 rfl ?_)
      obtain ⟨W3, HW3⟩ : ∃ W3, Hid ((wr.alloc (.cells zeroB 59)).alloc (.cells zeroL 62) = W3) := ⟨_, hid rfl⟩
      rw [HW3.out]
      have HP : Hid (Below wr.heap.size wr W3 ∧ W3.heap.size = wr.heap.size + 2) := hid (by
        rw [← HW3.out]
        exact ⟨((Below.refl _ _).alloc (Nat.le_refl _) _).alloc (by simp) _, by simp⟩)
      have HBK : Hid (Bkc W3 wr.heap.size (.slice none 0 0) (.slice none 0 0) 0 0 0 0 ∧ W3.rowIs (wr.heap.size + 1) 62 2 (ltF (.slice none 0 0) (.slice none 0 0))) := hid (by
        rw [← HW3.out]
        constructor
        · exact bkc_same (zeroB_row wr) (Same.alloc 59 _ (.cells zeroL 62))
        · have h1 := zeroL_row (wr.alloc (.cells zeroB 59))
          simpa using h1)
      have HST0 : Hid (ST W3 wr.heap.size wr.heap.size (wr.heap.size + 1) 0 [] 0) := hid (ST.new HBK.out.1 HBK.out.2 (Nat.le_refl _) (by omega) (by have := HP.out.2; omega))
      have HB3 : Hid (Blk W3 p1 [.slice a0 n0 c0, .slice a1 n1 c1, .slice oa on oc] 77) := hid ((HP.out.1.block p1 HPw.out.1).trans HB.out)
      have HQ3 : Hid (Blk W3 p3 [.pointer (some ⟨b0, 0, none⟩), .pointer (some ⟨b1, 0, none⟩)] 79) := hid ((HP.out.1.block p3 HPw.out.2.1).trans HQ.out)
      have HX3 : Hid (Blk W3 p4 [.pointer (some ⟨d0, 0, none⟩), .pointer (some ⟨d1, 0, none⟩)] 81) := hid ((HP.out.1.block p4 HPw.out.2.2.1).trans HX.out)
      have HR03 := hid (HQ0.out.kb (KB.bel (b := 0) (d := 0) HP.out.1) (by have := HLo.out; omega) (.inl (by have := HLo.out; omega)) (.inl (by have := HLo.out; omega)))
      have HR13 := hid (HQ1.out.kb (KB.bel (b := 0) (d := 0) HP.out.1) (by have := HLo.out; omega) (.inl (by have h1 := HLo.out; have h2 := HQ0.out.b1; omega)) (.inl (by have h1 := HLo.out; have h2 := HQ0.out.b1; omega)))
      have HW2 := hid (HBW2.out.trans (HP.out.1.mono HBW2.out.size))
      have HSB : Hid (wr.heap.size ≤ W3.heap.size) := hid (by have := HP.out.2; omega)
      obtain ⟨B, hB⟩ : ∃ B, wr.heap.size = B := ⟨_, rfl⟩
      rw [hB] at HST0 HPw HLo HSB
      simp only [hB]
      have HOA : Hid (w.heap.size ≤ B) := hid (by have := HPw.out; omega)
      clear hB HW3 HBK HP HB HQ HX HQ0 HQ1 HBW2 HSZ
      go_wp2_with fail
      go_loopw [9] (fun iv wq => ∃ i : Nat, iv = .int .i64 i ∧ i ≤ on ∧ i ≤ 300 ∧ Hid (∃ l0 e0 l1 e1 T ps, RQ wq lo0 hi b0 d0 F0 G0 l0 e0 ∧ RQ wq lo1 hi2 b1 d1 F1 G1 l1 e1 ∧ ST wq B B (B + 1) T ps ps.length ∧ ps.length ≤ 5 ∧ T + ps.length ≤ i) ∧ Hid (Blk wq p1 [.slice a0 n0 c0, .slice a1 n1 c1, .slice oa on oc] 77) ∧ Hid (Blk wq p3 [.pointer (some ⟨b0, 0, none⟩), .pointer (some ⟨b1, 0, none⟩)] 79) ∧ Hid (Blk wq p4 [.pointer (some ⟨d0, 0, none⟩), .pointer (some ⟨d1, 0, none⟩)] 81) ∧ Hid (Below w.heap.size w wq) ∧ Hid (B ≤ wq.heap.size)) (fun iv _ => on - (intOf iv).toNat)
      case atStart => exact ⟨0, rfl, Nat.zero_le _, by omega, hid ⟨L0, 0, L1, 0, 0, [], HR03.out, HR13.out, HST0.out, by simp, by simp⟩, HB3, HQ3, HX3, HW2, HSB⟩
      case round =>
        obtain ⟨i, rfl, hi1, hi3, HSt, HB, HQ, HX, HBw, HBq⟩ := hrel
        clear HB3 HQ3 HX3 HW2 HSB HR03 HR13 HST0
        obtain ⟨wq, hwq⟩ : ∃ q, q = wr := ⟨_, rfl⟩
        subst hwq
        have pc2 := HB.out.cell 2
        by_cases hlt : i < on
        · have hlt' : (i : Int) < (on : Int) := by omega
          by_cases h300 : i < 300
          · have h300' : (i : Int) < 300 := by omega
            obtain ⟨⟨cs, dv, onn, wd⟩, ho⟩ : ∃ o, f i = o := ⟨_, rfl⟩
            obtain ⟨hra, hok⟩ := HRO.out.2 i hlt
            obtain ⟨rfl, hbl⟩ := HRO.out.1 (by omega)
            rw [ho] at hra hok
            obtain ⟨hl23, ho0, ho1, ho3⟩ := hok
            have HCl : Hid (cs.length = 23) := hid hl23
            have HO0 : Hid (cs[0]? = some (.int .i64 dv)) := hid ho0
            have HO3 : Hid (cs[3]? = some (.int .i64 wd)) := hid ho3
            have HOr : Hid (wq.rangeAt ob (oo + i * 23) cs) := hid (fun j v hv => by rw [HBw.out.cell (p := ⟨ob, oo + i * 23 + j, none⟩) hbl]; exact hra j v hv)
            have hoc := HOr.out 1 _ ho1
            have HOB : Hid (ob < w.heap.size ∧ True) := hid ⟨hbl, trivial⟩
            obtain ⟨l0, e0, l1, e1, T, ps, hq0, hq1, hst, hps, hTT⟩ := HSt.out
            have HRQ0 := hid hq0
            have HRQ1 := hid hq1
            have HST := hid hst
            have HTps : Hid (ps.length ≤ 5 ∧ T + ps.length ≤ 300) := hid (by omega)
            have HTi : Hid (T + ps.length ≤ i) := hid hTT
            have HHi0 : Hid (hi ≤ B) := hid HLo.out.2.2.1
            have HHi1 : Hid (hi2 ≤ B) := hid HLo.out.2.2.2
            clear ho hra hl23 ho0 ho1 ho3 hbl hq0 hq1 hst hps hTT HSt
            obtain ⟨kk, bK, dK, FK, GK, lK, eK, loK, hiK, hkk, hand2, HQK, HXK, HRQK, HHiK, HBK, HRE⟩ : ∃ (kk bK dK : Nat) (FK GK : Nat → Prop) (lK : List UInt8) (eK loK hiK : Nat), kk < 2 ∧ bits .and .i64 onn 1 = (kk : Int) ∧ Hid (wq.cell? ⟨p3, kk, none⟩ = some (.pointer (some ⟨bK, 0, none⟩))) ∧ Hid (wq.cell? ⟨p4, kk, none⟩ = some (.pointer (some ⟨dK, 0, none⟩))) ∧ Hid (RQ wq loK hiK bK dK FK GK lK eK) ∧ Hid (hiK ≤ B) ∧ Hid (p4 < bK ∧ bK < B ∧ p4 < dK ∧ dK < B ∧ p4 < loK) ∧ Hid (∀ u l' bad', KB wq u B bK dK → RQ u loK hiK bK dK FK GK l' bad' → ∃ l0 e0 l1 e1, RQ u lo0 hi b0 d0 F0 G0 l0 e0 ∧ RQ u lo1 hi2 b1 d1 F1 G1 l1 e1) := by
              have h2 := HRQ0.out.b1
              have h3 := HRQ0.out.d1
              have h4 := HRQ1.out.b1
              have h5 := HRQ1.out.d1
              have h6 := HLo.out
              rcases (show onn % 2 = 0 ∨ onn % 2 = 1 by omega) with hk | hk
              · exact ⟨0, b0, d0, F0, G0, l0, e0, lo0, hi, by omega, by rw [i64_and1, hk]; rfl, hid (HQ.out.cell 0), hid (HX.out.cell 0), HRQ0, hid (by omega), hid (by omega), hid (fun u l' bad' k5 rk => ⟨l', bad', l1, e1, rk, HRQ1.out.kb k5 (by omega) (.inl (by omega)) (.inl (by omega))⟩)⟩
              · exact ⟨1, b1, d1, F1, G1, l1, e1, lo1, hi2, by omega, by rw [i64_and1, hk]; rfl, hid (HQ.out.cell 1), hid (HX.out.cell 1), HRQ1, hid (by omega), hid (by omega), hid (fun u l' bad' k5 rk => ⟨l0, e0, l', bad', HRQ0.out.kb k5 (by omega) (.inr (by omega)) (.inr (by omega)), rk⟩)⟩
            have hkk' : (kk : Int) < 2 := by omega
            clear HRQ0 HRQ1 HHi0 HHi1
            go_upto_region 20 with fail
            have HSK : Hid (∀ u, KB wq u B bK dK → (fun u => u.cell? ⟨p3, kk, none⟩ = some (.pointer (some ⟨bK, 0, none⟩)) ∧ u.cell? ⟨p4, kk, none⟩ = some (.pointer (some ⟨dK, 0, none⟩)) ∧ u.cell? ⟨p1, 2, none⟩ = some (.slice (some ⟨ob, oo, none⟩) on oc) ∧ u.rangeAt ob (oo + i * 23) cs) u) := hid (fun u hk => by
              have h1 := HPw.out
              have h6 := HBK.out
              have h7 := HOB.out.1
              exact ⟨(hk.cell (by omega) (by omega) (by omega)).trans HQK.out, (hk.cell (by omega) (by omega) (by omega)).trans HXK.out, (hk.cell (by omega) (by omega) (by omega)).trans (HB.out.cell 2), hk.range (o := oo + i * 23) (by omega) (by omega) (by omega) HOr.out⟩)
            have HTk : Hid (∀ u, wq.grownBy u none → Calls Tryz.prog 16 #[.pointer (some ⟨bK, 0, none⟩), .pointer (some ⟨dK, 0, none⟩), .agg cs.toArray, .pointer (some ⟨B + 1, 0, none⟩)] u fun e w' => e = .returned (.bool true) ∧ Hid (After u w' B bK dK FK GK B (B + 1) T ps)) := hid (fun u hu => take_law u B bK dK FK GK lK eK B (B + 1) T ps cs dv wd ((HRQK.out.rp HHiK.out).keep hu) (HST.out.below (gbelow hu)) (by have := HTps.out; omega) HO0.out HO3.out)
            go_wp2_with fail
            refine wp_region_held_drew (S := (fun u => u.cell? ⟨p3, kk, none⟩ = some (.pointer (some ⟨bK, 0, none⟩)) ∧ u.cell? ⟨p4, kk, none⟩ = some (.pointer (some ⟨dK, 0, none⟩)) ∧ u.cell? ⟨p1, 2, none⟩ = some (.slice (some ⟨ob, oo, none⟩) on oc) ∧ u.rangeAt ob (oo + i * 23) cs)) (by kernel_rfl) ?_ (fun hHeld => ?_)
            · exact HSK.out _ (KB.new (gdrew1 wq none) HBq.out)
            as_aux_lemma =>
              refine wpAnyH_take (i := 0) (oi := { dst := some 75, op := Op.move (Operand.tmp 10), type := 3, pos := "law.go:165", after := #[], guard := none }) (v := (.int .i64 kk)) rfl (by kernel_rfl) (by kernel_rfl) (by kernel_rfl) (fun _ _ _ h => h) (Or.inl ⟨by rfl, by intro u hSu; (try dsimp only at hSu); go_simp⟩) (by assumption) ?_
              (try simp only [Act.put, List.setIfInBounds_toArray, List.set_cons_zero, List.set_cons_succ])
              refine wpAnyH_take (i := 1) (oi := { dst := some 76, op := Op.indexAddr 79 (Operand.tmp 3) (Operand.tmp 75), type := 0, pos := "law.go:165", after := #[{ on := 0, ground := Ground.data }], guard := none }) (v := (.pointer (some ⟨p3, kk, none⟩))) rfl (by kernel_rfl) (by kernel_rfl) (by kernel_rfl) (fun _ _ _ h => h) (Or.inl ⟨by rfl, by intro u hSu; (try dsimp only at hSu); go_simp⟩) (by assumption) ?_
              (try simp only [Act.put, List.setIfInBounds_toArray, List.set_cons_zero, List.set_cons_succ])
              refine wpAnyH_take (i := 2) (oi := { dst := some 77, op := Op.load 78 (Operand.tmp 76), type := 78, pos := "law.go:165", after := #[{ on := 1, ground := Ground.data }], guard := none }) (v := (.pointer (some ⟨bK, 0, none⟩))) rfl (by kernel_rfl) (by kernel_rfl) (by kernel_rfl) (fun _ _ _ h => h) (Or.inl ⟨by rfl, by intro u hSu; (try dsimp only at hSu); go_simp⟩) (by assumption) ?_
              (try simp only [Act.put, List.setIfInBounds_toArray, List.set_cons_zero, List.set_cons_succ])
              refine wpAnyH_take (i := 3) (oi := { dst := some 78, op := Op.move (Operand.tmp 10), type := 3, pos := "law.go:165", after := #[], guard := none }) (v := (.int .i64 kk)) rfl (by kernel_rfl) (by kernel_rfl) (by kernel_rfl) (fun _ _ _ h => h) (Or.inl ⟨by rfl, by intro u hSu; (try dsimp only at hSu); go_simp⟩) (by assumption) ?_
              (try simp only [Act.put, List.setIfInBounds_toArray, List.set_cons_zero, List.set_cons_succ])
              refine wpAnyH_take (i := 4) (oi := { dst := some 79, op := Op.indexAddr 81 (Operand.tmp 4) (Operand.tmp 78), type := 0, pos := "law.go:165", after := #[{ on := 3, ground := Ground.data }], guard := none }) (v := (.pointer (some ⟨p4, kk, none⟩))) rfl (by kernel_rfl) (by kernel_rfl) (by kernel_rfl) (fun _ _ _ h => h) (Or.inl ⟨by rfl, by intro u hSu; (try dsimp only at hSu); go_simp⟩) (by assumption) ?_
              (try simp only [Act.put, List.setIfInBounds_toArray, List.set_cons_zero, List.set_cons_succ])
              refine wpAnyH_take (i := 5) (oi := { dst := some 80, op := Op.load 80 (Operand.tmp 79), type := 80, pos := "law.go:165", after := #[{ on := 4, ground := Ground.data }], guard := none }) (v := (.pointer (some ⟨dK, 0, none⟩))) rfl (by kernel_rfl) (by kernel_rfl) (by kernel_rfl) (fun _ _ _ h => h) (Or.inl ⟨by rfl, by intro u hSu; (try dsimp only at hSu); go_simp⟩) (by assumption) ?_
              (try simp only [Act.put, List.setIfInBounds_toArray, List.set_cons_zero, List.set_cons_succ])
              as_aux_lemma =>
                refine wpAnyH_take (i := 6) (oi := { dst := some 81, op := Op.fieldAddr 77 (Operand.tmp 1) 1, type := 0, pos := "law.go:165", after := #[], guard := none }) (v := (.pointer (some ⟨p1, 2, none⟩))) rfl (by kernel_rfl) (by kernel_rfl) (by kernel_rfl) (fun _ _ _ h => h) (Or.inl ⟨by rfl, by intro u hSu; (try dsimp only at hSu); go_simp⟩) (by assumption) ?_
                (try simp only [Act.put, List.setIfInBounds_toArray, List.set_cons_zero, List.set_cons_succ])
                refine wpAnyH_take (i := 7) (oi := { dst := some 82, op := Op.load 22 (Operand.tmp 81), type := 22, pos := "law.go:165", after := #[{ on := 6, ground := Ground.data }], guard := none }) (v := (.slice (some ⟨ob, oo, none⟩) on oc)) rfl (by kernel_rfl) (by kernel_rfl) (by kernel_rfl) (fun _ _ _ h => h) (Or.inl ⟨by rfl, by intro u hSu; (try dsimp only at hSu); go_simp⟩) (by assumption) ?_
                (try simp only [Act.put, List.setIfInBounds_toArray, List.set_cons_zero, List.set_cons_succ])
                refine wpAnyH_take (i := 8) (oi := { dst := some 83, op := Op.move (Operand.tmp 9), type := 3, pos := "law.go:165", after := #[], guard := none }) (v := (.int .i64 i)) rfl (by kernel_rfl) (by kernel_rfl) (by kernel_rfl) (fun _ _ _ h => h) (Or.inl ⟨by rfl, by intro u hSu; (try dsimp only at hSu); go_simp⟩) (by assumption) ?_
                (try simp only [Act.put, List.setIfInBounds_toArray, List.set_cons_zero, List.set_cons_succ])
                refine wpAnyH_take (i := 9) (oi := { dst := some 84, op := Op.indexAddr 22 (Operand.tmp 82) (Operand.tmp 83), type := 0, pos := "law.go:165", after := #[{ on := 7, ground := Ground.data }, { on := 8, ground := Ground.data }], guard := none }) (v := (.pointer (some ⟨ob, oo + i * 23, none⟩))) rfl (by kernel_rfl) (by kernel_rfl) (by kernel_rfl) (fun _ _ _ h => h) (Or.inl ⟨by rfl, by intro u hSu; (try dsimp only at hSu); go_simp⟩) (by assumption) ?_
                (try simp only [Act.put, List.setIfInBounds_toArray, List.set_cons_zero, List.set_cons_succ])
                refine wpAnyH_take (i := 10) (oi := { dst := some 85, op := Op.load 67 (Operand.tmp 84), type := 67, pos := "law.go:165", after := #[{ on := 9, ground := Ground.data }], guard := none }) (v := (.agg cs.toArray)) rfl (by kernel_rfl) (by kernel_rfl) (by kernel_rfl) (fun _ _ _ h => h) (yieldsIf_load_mid rfl 67 (.tmp 84) rfl ob (oo + i * 23) rfl cs _ (fun _ h => h.2.2.2) Tryz.underlying67 rfl (by rw [HCl.out]; exact size67)) (by assumption) ?_
                (try simp only [Act.put, List.setIfInBounds_toArray, List.set_cons_zero, List.set_cons_succ])
                refine wpAnyH_take (i := 11) (oi := { dst := some 86, op := Op.move (Operand.tmp 8), type := 60, pos := "law.go:165", after := #[], guard := none }) (v := (.pointer (some ⟨B + 1, 0, none⟩))) rfl (by kernel_rfl) (by kernel_rfl) (by kernel_rfl) (fun _ _ _ h => h) (Or.inl ⟨by rfl, by intro u hSu; (try dsimp only at hSu); go_simp⟩) (by assumption) ?_
                (try simp only [Act.put, List.setIfInBounds_toArray, List.set_cons_zero, List.set_cons_succ])
                as_aux_lemma =>
                  refine wpAnyH_ready (rs := [12]) (by kernel_rfl) (by simp) ?_
                  refine AllReadyH.cons (o := { dst := some 87, op := Op.call { callee := Callee.value (Operand.func 16), args := #[Operand.tmp 77, Operand.tmp 80, Operand.tmp 85, Operand.tmp 86], argTypes := #[78, 80, 67, 60] }, type := 4, pos := "law.go:165", after := #[{ on := 2, ground := Ground.data }, { on := 5, ground := Ground.data }, { on := 10, ground := Ground.data }, { on := 11, ground := Ground.data }], guard := none }) rfl (fun K hK => ?_) AllReadyH.nil
                  go_simp
                  go_wp2_with (go_at_call 16; refine (HTk.out _ (gdrew1 _ _)).mono ?_; rintro e w4 ⟨rfl, hA⟩; obtain ⟨l', bad', ps', hP4, hS4, hps4, hK4⟩ := hA.out; have HP4 := hid hP4; have HS4 := hid hS4; have HPS4 := hid hps4; have HK4 := hid ((KB.new (gdrew1 wq none) HBq.out).trans hK4); have HSS4 := hid (HSK.out w4 HK4.out); have HLf := hid (left_any w4 bK FK l' bad' hP4.r); have HLv := hid (rvleft_any w4 dK GK l' bad' hP4.v); have HEf := hid (end_any w4 bK FK l' bad' hP4.r); have HEv := hid (rvend_any w4 dK GK l' bad' hP4.v); have HSe := hid (settle_any w4 B B (B + 1) T ps' hS4 (by have h1 := HTps.out; have h2 := HPS4.out; omega) (by have h1 := HTps.out; have h2 := HPS4.out; omega) 6); generalize hLL : (l'.length : Int) = LL at HLf HLv; generalize hEE : ((endE l' bad' : Nat) : Int) = EE at HEf HEv; clear hA hP4 hS4 hps4 hK4 hLL hEE)
                  refine hK.out _ _ ?_ (fun hHeld => ?_)
                  · exact HSS4.out
                  clear hK K
                  (try simp only [Act.put, List.setIfInBounds_toArray, List.set_cons_zero, List.set_cons_succ])
                  as_aux_lemma =>
                    refine wpAnyH_take (i := 13) (oi := { dst := some 88, op := Op.unOp UnOp.not 4 (Operand.tmp 87), type := 4, pos := "law.go:165", after := #[{ on := 12, ground := Ground.data }], guard := none }) (v := (.bool false)) rfl (by kernel_rfl) (by kernel_rfl) (by kernel_rfl) (fun _ _ _ h => h) (Or.inl ⟨by rfl, by intro u hSu; (try dsimp only at hSu); go_simp⟩) (by assumption) ?_
                    (try simp only [Act.put, List.setIfInBounds_toArray, List.set_cons_zero, List.set_cons_succ])
                    refine wpAnyH_take (i := 14) (oi := { dst := some 89, op := Op.move (Operand.tmp 88), type := 4, pos := "law.go:165", after := #[{ on := 13, ground := Ground.data }, { on := 12, ground := Ground.chain }], guard := none }) (v := (.bool false)) rfl (by kernel_rfl) (by kernel_rfl) (by kernel_rfl) (fun _ _ _ h => h) (Or.inl ⟨by rfl, by intro u hSu; (try dsimp only at hSu); go_simp⟩) (by assumption) ?_
                    (try simp only [Act.put, List.setIfInBounds_toArray, List.set_cons_zero, List.set_cons_succ])
                    refine wpAnyH_take (i := 15) (oi := { dst := some 90, op := Op.move (Operand.tmp 10), type := 3, pos := "law.go:165", after := #[{ on := 14, ground := Ground.guard }], guard := some (14, false) }) (v := (.int .i64 kk)) rfl (by kernel_rfl) (by kernel_rfl) (by kernel_rfl) (fun _ _ _ h => h) (Or.inl ⟨by rfl, by intro u hSu; (try dsimp only at hSu); go_simp⟩) (by assumption) ?_
                    (try simp only [Act.put, List.setIfInBounds_toArray, List.set_cons_zero, List.set_cons_succ])
                    refine wpAnyH_take (i := 16) (oi := { dst := some 91, op := Op.indexAddr 79 (Operand.tmp 3) (Operand.tmp 90), type := 0, pos := "law.go:165", after := #[{ on := 15, ground := Ground.data }, { on := 14, ground := Ground.guard }], guard := some (14, false) }) (v := (.pointer (some ⟨p3, kk, none⟩))) rfl (by kernel_rfl) (by kernel_rfl) (by kernel_rfl) (fun _ _ _ h => h) (Or.inl ⟨by rfl, by intro u hSu; (try dsimp only at hSu); go_simp⟩) (by assumption) ?_
                    (try simp only [Act.put, List.setIfInBounds_toArray, List.set_cons_zero, List.set_cons_succ])
                    refine wpAnyH_take (i := 17) (oi := { dst := some 92, op := Op.load 78 (Operand.tmp 91), type := 78, pos := "law.go:165", after := #[{ on := 16, ground := Ground.data }, { on := 14, ground := Ground.guard }], guard := some (14, false) }) (v := (.pointer (some ⟨bK, 0, none⟩))) rfl (by kernel_rfl) (by kernel_rfl) (by kernel_rfl) (fun _ _ _ h => h) (Or.inl ⟨by rfl, by intro u hSu; (try dsimp only at hSu); go_simp⟩) (by assumption) ?_
                    (try simp only [Act.put, List.setIfInBounds_toArray, List.set_cons_zero, List.set_cons_succ])
                    refine wpAnyH_take (i := 19) (oi := { dst := some 94, op := Op.move (Operand.tmp 10), type := 3, pos := "law.go:165", after := #[{ on := 14, ground := Ground.guard }], guard := some (14, false) }) (v := (.int .i64 kk)) rfl (by kernel_rfl) (by kernel_rfl) (by kernel_rfl) (fun _ _ _ h => h) (Or.inl ⟨by rfl, by intro u hSu; (try dsimp only at hSu); go_simp⟩) (by assumption) ?_
                    (try simp only [Act.put, List.setIfInBounds_toArray, List.set_cons_zero, List.set_cons_succ])
                    refine wpAnyH_take (i := 20) (oi := { dst := some 95, op := Op.indexAddr 81 (Operand.tmp 4) (Operand.tmp 94), type := 0, pos := "law.go:165", after := #[{ on := 19, ground := Ground.data }, { on := 14, ground := Ground.guard }], guard := some (14, false) }) (v := (.pointer (some ⟨p4, kk, none⟩))) rfl (by kernel_rfl) (by kernel_rfl) (by kernel_rfl) (fun _ _ _ h => h) (Or.inl ⟨by rfl, by intro u hSu; (try dsimp only at hSu); go_simp⟩) (by assumption) ?_
                    (try simp only [Act.put, List.setIfInBounds_toArray, List.set_cons_zero, List.set_cons_succ])
                    refine wpAnyH_take (i := 21) (oi := { dst := some 96, op := Op.load 80 (Operand.tmp 95), type := 80, pos := "law.go:165", after := #[{ on := 20, ground := Ground.data }, { on := 14, ground := Ground.guard }], guard := some (14, false) }) (v := (.pointer (some ⟨dK, 0, none⟩))) rfl (by kernel_rfl) (by kernel_rfl) (by kernel_rfl) (fun _ _ _ h => h) (Or.inl ⟨by rfl, by intro u hSu; (try dsimp only at hSu); go_simp⟩) (by assumption) ?_
                    (try simp only [Act.put, List.setIfInBounds_toArray, List.set_cons_zero, List.set_cons_succ])
                    as_aux_lemma =>
                      refine wpAnyH_ready (rs := [18]) (by kernel_rfl) (by simp) ?_
                      refine AllReadyH.cons (o := { dst := some 93, op := Op.call { callee := Callee.value (Operand.func 17), args := #[Operand.tmp 92], argTypes := #[78] }, type := 3, pos := "law.go:165", after := #[{ on := 17, ground := Ground.data }, { on := 14, ground := Ground.chain }, { on := 14, ground := Ground.guard }], guard := some (14, false) }) rfl (fun K hK => ?_) AllReadyH.nil
                      go_simp
                      go_wp2_with (go_at_call 17; refine (HLf.out).mono ?_; rintro e w' ⟨rfl, hw⟩; have hw' := hw.symm; clear hw; subst hw')
                      refine hK.out _ _ ?_ (fun hHeld => ?_)
                      · exact HSS4.out
                      clear hK K
                      (try simp only [Act.put, List.setIfInBounds_toArray, List.set_cons_zero, List.set_cons_succ])
                      refine wpAnyH_ready (rs := [22]) (by kernel_rfl) (by simp) ?_
                      refine AllReadyH.cons (o := { dst := some 97, op := Op.call { callee := Callee.value (Operand.func 18), args := #[Operand.tmp 96], argTypes := #[80] }, type := 3, pos := "law.go:165", after := #[{ on := 21, ground := Ground.data }, { on := 18, ground := Ground.chain }, { on := 14, ground := Ground.guard }], guard := some (14, false) }) rfl (fun K hK => ?_) AllReadyH.nil
                      go_simp
                      go_wp2_with (go_at_call 18; refine (HLv.out).mono ?_; rintro e w' ⟨rfl, hw⟩; have hw' := hw.symm; clear hw; subst hw')
                      refine hK.out _ _ ?_ (fun hHeld => ?_)
                      · exact HSS4.out
                      clear hK K
                      (try simp only [Act.put, List.setIfInBounds_toArray, List.set_cons_zero, List.set_cons_succ])
                      refine wpAnyH_take (i := 23) (oi := { dst := some 98, op := Op.binOp BinOp.neq 3 (Operand.tmp 93) (Operand.tmp 97) 3, type := 4, pos := "law.go:165", after := #[{ on := 18, ground := Ground.data }, { on := 22, ground := Ground.data }, { on := 14, ground := Ground.guard }], guard := some (14, false) }) (v := (.bool false)) rfl (by kernel_rfl) (by kernel_rfl) (by kernel_rfl) (fun _ _ _ h => h) (Or.inl ⟨by rfl, by intro u hSu; (try dsimp only at hSu); go_simp⟩) (by assumption) ?_
                      (try simp only [Act.put, List.setIfInBounds_toArray, List.set_cons_zero, List.set_cons_succ])
                      refine wpAnyH_take (i := 24) (oi := { dst := some 99, op := Op.pick (Operand.tmp 89) (Operand.const (Value.bool true)) (Operand.tmp 98), type := 4, pos := "law.go:165", after := #[{ on := 14, ground := Ground.data }, { on := 23, ground := Ground.data }], guard := none }) (v := (.bool false)) rfl (by kernel_rfl) (by kernel_rfl) (by kernel_rfl) (fun _ _ _ h => h) (Or.inl ⟨by rfl, by intro u hSu; (try dsimp only at hSu); go_simp⟩) (by assumption) ?_
                      (try simp only [Act.put, List.setIfInBounds_toArray, List.set_cons_zero, List.set_cons_succ])
                      refine wpAnyH_take (i := 25) (oi := { dst := some 100, op := Op.move (Operand.tmp 99), type := 4, pos := "law.go:165", after := #[{ on := 24, ground := Ground.data }, { on := 22, ground := Ground.chain }], guard := none }) (v := (.bool false)) rfl (by kernel_rfl) (by kernel_rfl) (by kernel_rfl) (fun _ _ _ h => h) (Or.inl ⟨by rfl, by intro u hSu; (try dsimp only at hSu); go_simp⟩) (by assumption) ?_
                      (try simp only [Act.put, List.setIfInBounds_toArray, List.set_cons_zero, List.set_cons_succ])
                      as_aux_lemma =>
                        refine wpAnyH_take (i := 26) (oi := { dst := some 101, op := Op.move (Operand.tmp 10), type := 3, pos := "law.go:165", after := #[{ on := 25, ground := Ground.guard }], guard := some (25, false) }) (v := (.int .i64 kk)) rfl (by kernel_rfl) (by kernel_rfl) (by kernel_rfl) (fun _ _ _ h => h) (Or.inl ⟨by rfl, by intro u hSu; (try dsimp only at hSu); go_simp⟩) (by assumption) ?_
                        (try simp only [Act.put, List.setIfInBounds_toArray, List.set_cons_zero, List.set_cons_succ])
                        refine wpAnyH_take (i := 27) (oi := { dst := some 102, op := Op.indexAddr 79 (Operand.tmp 3) (Operand.tmp 101), type := 0, pos := "law.go:165", after := #[{ on := 26, ground := Ground.data }, { on := 25, ground := Ground.guard }], guard := some (25, false) }) (v := (.pointer (some ⟨p3, kk, none⟩))) rfl (by kernel_rfl) (by kernel_rfl) (by kernel_rfl) (fun _ _ _ h => h) (Or.inl ⟨by rfl, by intro u hSu; (try dsimp only at hSu); go_simp⟩) (by assumption) ?_
                        (try simp only [Act.put, List.setIfInBounds_toArray, List.set_cons_zero, List.set_cons_succ])
                        refine wpAnyH_take (i := 28) (oi := { dst := some 103, op := Op.load 78 (Operand.tmp 102), type := 78, pos := "law.go:165", after := #[{ on := 27, ground := Ground.data }, { on := 25, ground := Ground.guard }], guard := some (25, false) }) (v := (.pointer (some ⟨bK, 0, none⟩))) rfl (by kernel_rfl) (by kernel_rfl) (by kernel_rfl) (fun _ _ _ h => h) (Or.inl ⟨by rfl, by intro u hSu; (try dsimp only at hSu); go_simp⟩) (by assumption) ?_
                        (try simp only [Act.put, List.setIfInBounds_toArray, List.set_cons_zero, List.set_cons_succ])
                        refine wpAnyH_take (i := 31) (oi := { dst := some 106, op := Op.move (Operand.tmp 10), type := 3, pos := "law.go:165", after := #[{ on := 25, ground := Ground.guard }], guard := some (25, false) }) (v := (.int .i64 kk)) rfl (by kernel_rfl) (by kernel_rfl) (by kernel_rfl) (fun _ _ _ h => h) (Or.inl ⟨by rfl, by intro u hSu; (try dsimp only at hSu); go_simp⟩) (by assumption) ?_
                        (try simp only [Act.put, List.setIfInBounds_toArray, List.set_cons_zero, List.set_cons_succ])
                        refine wpAnyH_take (i := 32) (oi := { dst := some 107, op := Op.indexAddr 81 (Operand.tmp 4) (Operand.tmp 106), type := 0, pos := "law.go:165", after := #[{ on := 31, ground := Ground.data }, { on := 25, ground := Ground.guard }], guard := some (25, false) }) (v := (.pointer (some ⟨p4, kk, none⟩))) rfl (by kernel_rfl) (by kernel_rfl) (by kernel_rfl) (fun _ _ _ h => h) (Or.inl ⟨by rfl, by intro u hSu; (try dsimp only at hSu); go_simp⟩) (by assumption) ?_
                        (try simp only [Act.put, List.setIfInBounds_toArray, List.set_cons_zero, List.set_cons_succ])
                        refine wpAnyH_take (i := 33) (oi := { dst := some 108, op := Op.load 80 (Operand.tmp 107), type := 80, pos := "law.go:165", after := #[{ on := 32, ground := Ground.data }, { on := 25, ground := Ground.guard }], guard := some (25, false) }) (v := (.pointer (some ⟨dK, 0, none⟩))) rfl (by kernel_rfl) (by kernel_rfl) (by kernel_rfl) (fun _ _ _ h => h) (Or.inl ⟨by rfl, by intro u hSu; (try dsimp only at hSu); go_simp⟩) (by assumption) ?_
                        (try simp only [Act.put, List.setIfInBounds_toArray, List.set_cons_zero, List.set_cons_succ])
                        as_aux_lemma =>
                          refine wpAnyH_ready (rs := [29]) (by kernel_rfl) (by simp) ?_
                          refine AllReadyH.cons (o := { dst := some 104, op := Op.call { callee := Callee.value (Operand.func 20), args := #[Operand.tmp 103], argTypes := #[78] }, type := 24, pos := "law.go:165", after := #[{ on := 28, ground := Ground.data }, { on := 25, ground := Ground.chain }, { on := 25, ground := Ground.guard }], guard := some (25, false) }) rfl (fun K hK => ?_) AllReadyH.nil
                          go_simp
                          go_wp2_with (go_at_call 20; refine (HEf.out).mono ?_; rintro e w' ⟨rfl, hw⟩; have hw' := hw.symm; clear hw; subst hw')
                          refine hK.out _ _ ?_ (fun hHeld => ?_)
                          · exact HSS4.out
                          clear hK K
                          (try simp only [Act.put, List.setIfInBounds_toArray, List.set_cons_zero, List.set_cons_succ])
                          refine wpAnyH_ready (rs := [30]) (by kernel_rfl) (by simp) ?_
                          refine AllReadyH.cons (o := { dst := some 105, op := Op.call { callee := Callee.value (Operand.func 19), args := #[Operand.tmp 104], argTypes := #[24] }, type := 3, pos := "law.go:165", after := #[{ on := 29, ground := Ground.data }, { on := 29, ground := Ground.chain }, { on := 25, ground := Ground.guard }], guard := some (25, false) }) rfl (fun K hK => ?_) AllReadyH.nil
                          go_simp
                          go_wp2_with (go_at_call 19; refine (num19_any _ _).mono ?_; rintro e w' ⟨rfl, hw⟩; have hw' := hw.symm; clear hw; subst hw')
                          refine hK.out _ _ ?_ (fun hHeld => ?_)
                          · exact HSS4.out
                          clear hK K
                          (try simp only [Act.put, List.setIfInBounds_toArray, List.set_cons_zero, List.set_cons_succ])
                          refine wpAnyH_ready (rs := [34]) (by kernel_rfl) (by simp) ?_
                          refine AllReadyH.cons (o := { dst := some 109, op := Op.call { callee := Callee.value (Operand.func 21), args := #[Operand.tmp 108], argTypes := #[80] }, type := 3, pos := "law.go:165", after := #[{ on := 33, ground := Ground.data }, { on := 30, ground := Ground.chain }, { on := 25, ground := Ground.guard }], guard := some (25, false) }) rfl (fun K hK => ?_) AllReadyH.nil
                          go_simp
                          go_wp2_with (go_at_call 21; refine (HEv.out).mono ?_; rintro e w' ⟨rfl, hw⟩; have hw' := hw.symm; clear hw; subst hw')
                          refine hK.out _ _ ?_ (fun hHeld => ?_)
                          · exact HSS4.out
                          clear hK K
                          (try simp only [Act.put, List.setIfInBounds_toArray, List.set_cons_zero, List.set_cons_succ])
                          as_aux_lemma =>
                            refine wpAnyH_take (i := 35) (oi := { dst := some 110, op := Op.binOp BinOp.neq 3 (Operand.tmp 105) (Operand.tmp 109) 3, type := 4, pos := "law.go:165", after := #[{ on := 30, ground := Ground.data }, { on := 34, ground := Ground.data }, { on := 25, ground := Ground.guard }], guard := some (25, false) }) (v := (.bool false)) rfl (by kernel_rfl) (by kernel_rfl) (by kernel_rfl) (fun _ _ _ h => h) (Or.inl ⟨by rfl, by intro u hSu; (try dsimp only at hSu); go_simp⟩) (by assumption) ?_
                            (try simp only [Act.put, List.setIfInBounds_toArray, List.set_cons_zero, List.set_cons_succ])
                            refine wpAnyH_take (i := 36) (oi := { dst := some 111, op := Op.pick (Operand.tmp 100) (Operand.const (Value.bool true)) (Operand.tmp 110), type := 4, pos := "law.go:165", after := #[{ on := 25, ground := Ground.data }, { on := 35, ground := Ground.data }], guard := none }) (v := (.bool false)) rfl (by kernel_rfl) (by kernel_rfl) (by kernel_rfl) (fun _ _ _ h => h) (Or.inl ⟨by rfl, by intro u hSu; (try dsimp only at hSu); go_simp⟩) (by assumption) ?_
                            (try simp only [Act.put, List.setIfInBounds_toArray, List.set_cons_zero, List.set_cons_succ])
                            refine wpAnyH_take (i := 37) (oi := { dst := some 112, op := Op.move (Operand.tmp 111), type := 4, pos := "law.go:165", after := #[{ on := 36, ground := Ground.data }, { on := 34, ground := Ground.chain }], guard := none }) (v := (.bool false)) rfl (by kernel_rfl) (by kernel_rfl) (by kernel_rfl) (fun _ _ _ h => h) (Or.inl ⟨by rfl, by intro u hSu; (try dsimp only at hSu); go_simp⟩) (by assumption) ?_
                            (try simp only [Act.put, List.setIfInBounds_toArray, List.set_cons_zero, List.set_cons_succ])
                            refine wpAnyH_take (i := 38) (oi := { dst := some 113, op := Op.move (Operand.tmp 8), type := 60, pos := "law.go:165", after := #[{ on := 37, ground := Ground.guard }], guard := some (37, false) }) (v := (.pointer (some ⟨B + 1, 0, none⟩))) rfl (by kernel_rfl) (by kernel_rfl) (by kernel_rfl) (fun _ _ _ h => h) (Or.inl ⟨by rfl, by intro u hSu; (try dsimp only at hSu); go_simp⟩) (by assumption) ?_
                            (try simp only [Act.put, List.setIfInBounds_toArray, List.set_cons_zero, List.set_cons_succ])
                            refine wpAnyH_take (i := 39) (oi := { dst := some 114, op := Op.move (Operand.tmp 7), type := 32, pos := "law.go:165", after := #[{ on := 37, ground := Ground.guard }], guard := some (37, false) }) (v := (.pointer (some ⟨B, 0, none⟩))) rfl (by kernel_rfl) (by kernel_rfl) (by kernel_rfl) (fun _ _ _ h => h) (Or.inl ⟨by rfl, by intro u hSu; (try dsimp only at hSu); go_simp⟩) (by assumption) ?_
                            (try simp only [Act.put, List.setIfInBounds_toArray, List.set_cons_zero, List.set_cons_succ])
                            as_aux_lemma =>
                              refine wpAnyH_ready (rs := [40]) (by kernel_rfl) (by simp) ?_
                              refine AllReadyH.cons (o := { dst := some 115, op := Op.call { callee := Callee.value (Operand.func 8), args := #[Operand.tmp 113, Operand.tmp 114, Operand.const (Value.int IntKind.i64 6)], argTypes := #[60, 32, 3] }, type := 4, pos := "law.go:165", after := #[{ on := 38, ground := Ground.data }, { on := 39, ground := Ground.data }, { on := 37, ground := Ground.chain }, { on := 37, ground := Ground.guard }], guard := some (37, false) }) rfl (fun K hK => ?_) AllReadyH.nil
                              go_simp
                              go_wp2_with (go_at_call 8; refine (HSe.out).mono ?_; rintro e w5 ⟨rfl, hb5, hc5⟩; have HB5 := hid hb5; have HC5 := hid hc5; have HSS5 := hid (HSK.out w5 (HK4.out.trans (KB.bel hb5))); clear hb5 hc5)
                              refine hK.out _ _ ?_ (fun hHeld => ?_)
                              · exact HSS5.out
                              clear hK K
                              (try simp only [Act.put, List.setIfInBounds_toArray, List.set_cons_zero, List.set_cons_succ])
                              refine wpAnyH_take (i := 41) (oi := { dst := some 116, op := Op.unOp UnOp.not 4 (Operand.tmp 115), type := 4, pos := "law.go:165", after := #[{ on := 40, ground := Ground.data }, { on := 37, ground := Ground.guard }], guard := some (37, false) }) (v := (.bool false)) rfl (by kernel_rfl) (by kernel_rfl) (by kernel_rfl) (fun _ _ _ h => h) (Or.inl ⟨by rfl, by intro u hSu; (try dsimp only at hSu); go_simp⟩) (by assumption) ?_
                              (try simp only [Act.put, List.setIfInBounds_toArray, List.set_cons_zero, List.set_cons_succ])
                              refine wpAnyH_take (i := 42) (oi := { dst := some 117, op := Op.pick (Operand.tmp 112) (Operand.const (Value.bool true)) (Operand.tmp 116), type := 4, pos := "law.go:165", after := #[{ on := 37, ground := Ground.data }, { on := 41, ground := Ground.data }], guard := none }) (v := (.bool false)) rfl (by kernel_rfl) (by kernel_rfl) (by kernel_rfl) (fun _ _ _ h => h) (Or.inl ⟨by rfl, by intro u hSu; (try dsimp only at hSu); go_simp⟩) (by assumption) ?_
                              (try simp only [Act.put, List.setIfInBounds_toArray, List.set_cons_zero, List.set_cons_succ])
                              refine wpAnyH_done (by kernel_rfl) ?_ _
                              as_aux_lemma =>
                                go_wp2_with fail
                                go_roundw
                                case rel => exact ⟨i + 1, by go_num, by omega, by omega, hid (by
                                  have h6 := HBK.out
                                  have h7 := HHiK.out
                                  have k5 : KB wq w5 B bK dK := HK4.out.trans (KB.bel HB5.out)
                                  have rk : RQ w5 loK hiK bK dK FK GK l' bad' := (RQ.of HRQK.out HP4.out).kb (KB.bel (b := 0) (d := 0) HB5.out) (by omega) (.inl (by omega)) (.inl (by omega))
                                  obtain ⟨l0, e0, l1, e1, r0, r1⟩ := HRE.out w5 l' bad' k5 rk
                                  have ht := HTps.out
                                  have hti := HTi.out
                                  have hp := HPS4.out
                                  rcases HC5.out with ⟨c1, c2⟩ | ⟨T2, c1, c2⟩
                                  · exact ⟨l0, e0, l1, e1, T, ps', r0, r1, by rw [c2]; exact HS4.out, by have := c1.out; omega, by omega⟩
                                  · exact ⟨l0, e0, l1, e1, T2, [], r0, r1, c2, by simp, by have := c1.out; simp only [List.length_nil]; omega⟩), hid ((HK4.out.trans (KB.bel HB5.out)).blk (by have h1 := HPw.out; have h2 := HBK.out; omega) (by have h1 := HPw.out; have h2 := HBK.out; omega) (by have h1 := HPw.out; have h2 := HBK.out; omega) HB.out), hid ((HK4.out.trans (KB.bel HB5.out)).blk (by have h1 := HPw.out; have h2 := HBK.out; omega) (by have h1 := HPw.out; have h2 := HBK.out; omega) (by have h1 := HPw.out; have h2 := HBK.out; omega) HQ.out), hid ((HK4.out.trans (KB.bel HB5.out)).blk (by have h1 := HPw.out; have h2 := HBK.out; omega) (by have h1 := HPw.out; have h2 := HBK.out; omega) (by have h1 := HPw.out; have h2 := HBK.out; omega) HX.out), hid (HBw.out.trans ((HK4.out.trans (KB.bel HB5.out)).below (by have h1 := HPw.out; have h2 := HBK.out; omega) (by have h1 := HPw.out; have h2 := HBK.out; omega) (by have h1 := HPw.out; have h2 := HBK.out; omega))), hid (Nat.le_trans HBq.out (HK4.out.trans (KB.bel HB5.out)).size)⟩
                                case measure => simp [intOf]; omega
          · have h300' : ¬ (i : Int) < 300 := by omega
            obtain ⟨l0, e0, l1, e1, T, ps, hq0, hq1, hst, hps, hTT⟩ := HSt.out
            have HSE := hid (settle_any wq B B (B + 1) T ps hst (by omega) (by omega) 0)
            clear hst hps hTT hq0 hq1
            go_wp2_with fail
            refine HSE.out.mono ?_
            rintro e w4 ⟨rfl, hb, hcase⟩
            have HST4 : Hid (∃ T', ST w4 B B (B + 1) T' [] 0) := hid (by
              rcases hcase with ⟨h1, h2⟩ | ⟨T', h1, h2⟩
              · have := h1.out; omega
              · exact ⟨T', h2⟩)
            have HB4 := hid (HBw.out.trans (hb.mono (by have := HPw.out; omega)))
            clear hb hcase HSE
            obtain ⟨T', hst4⟩ := HST4.out
            have HLK := hid hst4.look
            clear hst4 HST4
            go_wp2_with fail
            refine HLK.out.mono ?_
            rintro e w5 ⟨rfl, hb⟩
            have HB5 := hid (HB4.out.trans (hb.mono (by have := HPw.out; omega)))
            have HWk := hid (works_any w5 (HT.out.keep (gof HB5.out none)))
            clear hb HLK HB4
            go_wp2_with fail
            refine HWk.out.mono ?_
            rintro e w6 ⟨rfl, hg⟩
            have HB6 := hid (HB5.out.trans ((gbelow hg).mono HB5.out.size))
            clear hg HWk
            go_wp2_with fail
            go_ret
            exact ⟨rfl, HB6.out⟩
        · have hlt' : ¬ (i : Int) < (on : Int) := by omega
          obtain ⟨l0, e0, l1, e1, T, ps, hq0, hq1, hst, hps, hTT⟩ := HSt.out
          have HSE := hid (settle_any wq B B (B + 1) T ps hst (by omega) (by omega) 0)
          clear hst hps hTT hq0 hq1
          go_wp2_with fail
          refine HSE.out.mono ?_
          rintro e w4 ⟨rfl, hb, hcase⟩
          have HST4 : Hid (∃ T', ST w4 B B (B + 1) T' [] 0) := hid (by
            rcases hcase with ⟨h1, h2⟩ | ⟨T', h1, h2⟩
            · have := h1.out; omega
            · exact ⟨T', h2⟩)
          have HB4 := hid (HBw.out.trans (hb.mono (by have := HPw.out; omega)))
          clear hb hcase HSE
          obtain ⟨T', hst4⟩ := HST4.out
          have HLK := hid hst4.look
          clear hst4 HST4
          go_wp2_with fail
          refine HLK.out.mono ?_
          rintro e w5 ⟨rfl, hb⟩
          have HB5 := hid (HB4.out.trans (hb.mono (by have := HPw.out; omega)))
          have HWk := hid (works_any w5 (HT.out.keep (gof HB5.out none)))
          clear hb HLK HB4
          go_wp2_with fail
          refine HWk.out.mono ?_
          rintro e w6 ⟨rfl, hg⟩
          have HB6 := hid (HB5.out.trans ((gbelow hg).mono HB5.out.size))
          clear hg HWk
          go_wp2_with fail
          go_ret
          exact ⟨rfl, HB6.out⟩
end Go.Proofs.YtfalgjdhdgkbfaaGreatDoor.Bk
