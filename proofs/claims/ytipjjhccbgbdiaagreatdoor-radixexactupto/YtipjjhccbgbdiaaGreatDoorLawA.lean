/- The walk of lies. -/
import Derived.Test.YtipjjhccbgbdiaaGreatDoorLay
namespace Go.Proofs.YtipjjhccbgbdiaaGreatDoor
open Go Go.RowKit
open Go.RowKit (wrap32 wrap64)

theorem layOut_len (n : Nat) (wd : Int) : (layOut n wd).1.length ≤ 1048576 := by
  unfold layOut
  split
  · split
    · rw [layL_length]; omega
    · simp
  · simp

set_option maxRecDepth 100000 in
set_option maxHeartbeats 1600000 in
theorem lies_any (w : World) (B bk lt T : Nat) (ps : List Item) (n : Nat) (wd : Int) (hn : n < 18446744073709551616) (h0 : -9223372036854775808 ≤ wd) (h1 : wd ≤ 9223372036854775807) (h : ST w B bk lt T ps ps.length) (hps : ps.length ≤ 8388607) (hBw : B ≤ w.heap.size) :
    Calls Tryz.prog 13 #[.agg #[.int .u64 n, .int .i64 wd], .pointer (some ⟨lt, 0, none⟩)] w fun e w' => e = .returned (.bool true) ∧ ∃ v, ST w' B bk lt T (ps ++ [(v, (layOut n wd).1)]) (ps.length + 1) ∧ Below B w w' := by
  obtain ⟨l, HL⟩ : ∃ l, Hid ((layOut n wd).1 = l) := ⟨_, hid rfl⟩
  obtain ⟨k, HK⟩ : ∃ k, Hid ((layOut n wd).2 = k) := ⟨_, hid rfl⟩
  have hll := layOut_len n wd
  have C1 := hid (fun w => layAll n wd w h0 h1)
  have C2 := hid (fun w => refLayAll n wd w hn h0 h1)
  rw [HL.out, HK.out] at C1 C2
  rw [HL.out] at hll ⊢
  obtain ⟨N, hN⟩ : ∃ N : Int, (n : Int) = N := ⟨_, rfl⟩
  rw [hN] at C1 C2 ⊢
  have H := hid h
  have HLL := hid hll
  clear h hN hll hn h0 h1
  go_enter Tryz.func13, Tryz.ntmps13
  go_wp2_with fail
  have hal : Below w.heap.size w (w.alloc (.cells #[.int .u64 N, .int .i64 wd] 68)) := (Below.refl _ _).alloc (Nat.le_refl _) _
  have HST0 := hid (H.out.below hal)
  have HB0 : Hid (Below B w (w.alloc (.cells #[.int .u64 N, .int .i64 wd] 68))) := hid (hal.mono hBw)
  have q0 : (w.alloc (.cells #[.int .u64 N, .int .i64 wd] 68)).cell? ⟨w.heap.size, 0, none⟩ = some (.int .u64 N) := news_new w _ _ 0 _ rfl
  have q1 : (w.alloc (.cells #[.int .u64 N, .int .i64 wd] 68)).cell? ⟨w.heap.size, 1, none⟩ = some (.int .i64 wd) := news_new w _ _ 1 _ rfl
  have hs0 : w.heap.size < (w.alloc (.cells #[.int .u64 N, .int .i64 wd] 68)).heap.size := by simp
  have HQ := hid (And.intro q0 (And.intro q1 hs0))
  clear q0 q1 hal hs0 H
  generalize w.alloc (.cells #[.int .u64 N, .int .i64 wd] 68) = w0 at HST0 HB0 HQ ⊢
  refine (C1.out w0).mono ?_
  rintro e w1 ⟨v1, rfl, hb1, ho1⟩
  have HST1 := hid (HST0.out.item hb1 ho1 HLL.out)
  have HA1 := hid (own_rd5 ho1)
  have HB1 : Hid (Below B w w1) := hid (HB0.out.trans (hb1.mono (Nat.le_trans hBw HB0.out.size)))
  have q0 : w1.cell? ⟨w.heap.size, 0, none⟩ = some (.int .u64 N) := by rw [hb1.cell (p := ⟨w.heap.size, 0, none⟩) HQ.out.2.2]; exact HQ.out.1
  have q1 : w1.cell? ⟨w.heap.size, 1, none⟩ = some (.int .i64 wd) := by rw [hb1.cell (p := ⟨w.heap.size, 1, none⟩) HQ.out.2.2]; exact HQ.out.2.1
  have hs1 : w.heap.size < w1.heap.size := Nat.lt_of_lt_of_le HQ.out.2.2 hb1.size
  clear hb1 ho1 HST0 HB0 HQ
  go_wp2_with fail
  refine (C2.out w1).mono ?_
  rintro e w2 ⟨v2, rfl, hb2, ho2⟩
  have HST2 := hid (HST1.out.below hb2)
  have HA2 := hid (HA1.out.same (Same.below hb2) hb2.size)
  have HX2 := hid (own_rd5 ho2)
  have HB2 : Hid (Below B w w2) := hid (HB1.out.trans (hb2.mono (Nat.le_trans hBw HB1.out.size)))
  clear hb2 ho2 HST1 HA1 HB1 q0 q1 hs1 C1 C2
  have HAD := hid (HST2.out.add (p := (v1, l)) (by rw [List.getElem?_append_right (Nat.le_refl _)]; simp) HX2.out hps)
  go_wp2_with (go_at_call 34; refine HAD.out.mono ?_; rintro e w3 ⟨rfl, hst, hb3, h5⟩; have k1 := (HA2.out.same h5 hb3.size).convert; have k2 := (HX2.out.same h5 hb3.size).convert; have HST3 := hid hst; have HB3 := hid (HB2.out.trans hb3); clear hst hb3 h5)
  go_wp2_with (go_at_call 25; refine (num_any _ _).mono ?_; rintro e w' ⟨rfl, hw⟩; have hw' := hw.symm; clear hw; subst hw')
  go_ret
  exact ⟨rfl, v1, HST3.out, HB3.out⟩
end Go.Proofs.YtipjjhccbgbdiaaGreatDoor

/- The reference's Number10 at every text; the walk of reads. -/
namespace Go.Proofs.YtipjjhccbgbdiaaGreatDoor
open Go Go.RowKit
open Go.RowKit (wrap32 wrap64)

set_option maxRecDepth 100000 in
set_option maxHeartbeats 800000 in
/-- The reference's Number10. -/
theorem refNumber10_any (s : ByteArray) (l : List UInt8) (w : World) (hl : s.data.toList = l) (hll : l.length ≤ 1048576) :
    Calls Tryz.prog 33 #[.string s] w fun e w' => e = .returned (.tuple #[.int .i64 (num10 (Lib.hasPrefix l [45]) (Lib.trimPrefix l [45])).1, .int .i64 (num10 (Lib.hasPrefix l [45]) (Lib.trimPrefix l [45])).2]) ∧ w' = w := by
  have hsz : s.size = l.length := by rw [← hl, size_list]
  rcases Nat.eq_zero_or_pos s.size with h0 | h0
  · have hl0 : l = [] := by cases l with | nil => rfl | cons _ _ => simp at hsz; omega
    subst hl0
    have e : num10 (Lib.hasPrefix [] [45]) (Lib.trimPrefix [] [45]) = (0, 13) := by decide +kernel
    have HD := hid (fun w => decimal_any s [] w hl (by simp))
    rw [show plainB [] = false from rfl] at HD
    rw [e]
    have hz : (s.size : Int) = 0 := by omega
    clear hl hsz h0 e
    go_enter Tryz.func33, Tryz.ntmps33
    go_wp2_with (go_at_call 55; refine (HD.out _).mono ?_; rintro e w' ⟨rfl, hw⟩; have hw' := hw.symm; clear hw; subst hw')
    go_ret2
    exact ⟨rfl, rfl⟩
  · have hat := at_list s 0 h0
    rw [hl] at hat
    rcases prefix_split l with ⟨hp, hq⟩ | ⟨hp, hq⟩
    · rw [hp]
      have hc0 : s[0] = 45 := by rw [hat, hq]; rfl
      have hD : (s.extract 1 s.size).data.toList = Lib.trimPrefix l [45] := by
        rw [Lib.extract_data, hl]
        conv => lhs; rw [hq]
        simp only [List.drop_succ_cons, List.drop_zero]
        rw [List.take_of_length_le]
        have := congrArg List.length hq
        simp at this
        omega
      have hlen : l.length = (Lib.trimPrefix l [45]).length + 1 := by have := congrArg List.length hq; simpa using this
      exact refNumber_neg s (s.extract 1 s.size) (Lib.trimPrefix l [45]) w hD (by omega) h0 (by omega) rfl (by rw [ByteArray.size_extract]; omega) hc0
    · rw [hp]
      have hc45 : s[0] ≠ 45 := by
        intro h
        rw [hat] at h
        cases hl' : l with
        | nil => exact absurd (show s.size = 0 by rw [hsz, hl']; rfl) (by omega)
        | cons c r =>
          rw [hl'] at h hp
          simp at h
          subst h
          exact absurd hp (by simp [Lib.hasPrefix])
      rw [← hq]
      by_cases hz : l = [48]
      · exact refNumber_pos1 s s l w hl hll h0 (by omega) rfl _ rfl hc45 hz
      · exact refNumber_pos0 s s l w hl hll h0 (by omega) rfl _ rfl hc45 hz

theorem own_if {w : World} {B c : Nat} {v : Value} {d : List UInt8} (h1 : c = 0 → w.ownsRow B 5 1 v d.length (cb d)) (h2 : c ≠ 0 → v = .slice none 0 0) : w.ownsRow B 5 1 v (if c = 0 then d else []).length (cb (if c = 0 then d else [])) := by
  by_cases h : c = 0
  · rw [if_pos h]; exact h1 h
  · rw [if_neg h, h2 h]; exact World.ownsRow_nil _ _ _ _

theorem if_len {c : Nat} {d : List UInt8} (h : d.length ≤ 1048576) : (if c = 0 then d else []).length ≤ 1048576 := by
  split
  · exact h
  · simp

set_option maxRecDepth 100000 in
set_option maxHeartbeats 3200000 in
theorem reads_any (s : ByteArray) (l : List UInt8) (w : World) (B bk lt T : Nat) (ps : List Item) (hl : s.data.toList = l) (hll : l.length ≤ 1048576) (h : ST w B bk lt T ps ps.length) (hps : ps.length ≤ 8388600) (hBw : B ≤ w.heap.size) :
    Calls Tryz.prog 9 #[.string s, .pointer (some ⟨lt, 0, none⟩)] w fun e w' => e = .returned (.bool true) ∧ ∃ q : List Item, q.length = 3 ∧ ST w' B bk lt T (ps ++ q) (ps.length + 3) ∧ Below B w w' := by
  have C26 := hid (fun w => bytes64_any s l w hl hll)
  have C27 := hid (fun w => refBytes64_any s l w hl hll)
  have C28 := hid (fun w => bytesPad_any s l w hl hll)
  have C29 := hid (fun w => refBytesPad_any s l w hl hll)
  have C30 := hid (fun w => bytes16_any s l w hl hll)
  have C31 := hid (fun w => refBytes16_any s l w hl hll)
  have C32 := hid (fun w => number10_any s l w hl hll)
  have C33 := hid (fun w => refNumber10_any s l w hl hll)
  obtain ⟨N, HN⟩ : ∃ N, Hid ((num10 (Lib.hasPrefix l [45]) (Lib.trimPrefix l [45])).1 = N) := ⟨_, hid rfl⟩
  obtain ⟨K, HK⟩ : ∃ K, Hid ((num10 (Lib.hasPrefix l [45]) (Lib.trimPrefix l [45])).2 = K) := ⟨_, hid rfl⟩
  rw [HN.out, HK.out] at C32 C33
  have H := hid h
  clear h hl
  go_enter Tryz.func9, Tryz.ntmps9
  go_wp2_with fail
  refine (C26.out _).mono ?_
  rintro e w1 ⟨v1, rfl, hb1, ho1, hn1⟩
  have o1 := own_if ho1 hn1
  have t1 : (if code64 l = 0 then dec urlL l else []).length ≤ 1048576 := if_len (by rw [dec_length]; omega)
  obtain ⟨l1, HL1⟩ : ∃ l1, Hid ((if code64 l = 0 then dec urlL l else []) = l1) := ⟨_, hid rfl⟩
  rw [HL1.out] at o1 t1
  have HST := hid (H.out.item hb1 o1 t1)
  have HB := hid (hb1.mono hBw)
  have A1 := hid (own_rd5 o1)
  clear hb1 ho1 hn1 o1 t1 H C26
  go_wp2_with fail
  refine (C27.out _).mono ?_
  rintro e w2 ⟨x1, rfl, hb2, ho2, hn2⟩
  have o2 := own_if ho2 hn2
  rw [HL1.out] at o2
  replace HST := hid (HST.out.below hb2)
  replace A1 := hid (A1.out.same (Same.below hb2) hb2.size)
  have X1 := hid (own_rd5 o2)
  replace HB := hid (HB.out.trans (hb2.mono (Nat.le_trans hBw HB.out.size)))
  clear hb2 ho2 hn2 o2 C27
  go_wp2_with fail
  refine (C28.out _).mono ?_
  rintro e w3 ⟨m, v2, hp, rfl, hb3, ho3, hn3⟩
  have o3 := own_if ho3 hn3
  have t3 : (if codePad l (l.take (l.length - m)) = 0 then dec padL (l.take (l.length - m)) else []).length ≤ 1048576 := if_len (by rw [dec_length, List.length_take]; omega)
  obtain ⟨l2, HL2⟩ : ∃ l2, Hid ((if codePad l (l.take (l.length - m)) = 0 then dec padL (l.take (l.length - m)) else []) = l2) := ⟨_, hid rfl⟩
  obtain ⟨k2, HK2⟩ : ∃ k2, Hid (codePad l (l.take (l.length - m)) = k2) := ⟨_, hid rfl⟩
  rw [HL2.out] at o3 t3
  replace HST := hid (HST.out.item hb3 o3 t3)
  replace A1 := hid (A1.out.same (Same.below hb3) hb3.size)
  replace X1 := hid (X1.out.same (Same.below hb3) hb3.size)
  have A2 := hid (own_rd5 o3)
  have HP := hid hp
  replace HB := hid (HB.out.trans (hb3.mono (Nat.le_trans hBw HB.out.size)))
  rw [HK2.out]
  clear hb3 ho3 hn3 o3 t3 hp C28
  go_wp2_with fail
  refine (C29.out _).mono ?_
  rintro e w4 ⟨m', x2, hp', rfl, hb4, ho4, hn4⟩
  have hmm : m' = m := pads_one hp' HP.out
  subst hmm
  have o4 := own_if ho4 hn4
  rw [HL2.out] at o4
  replace HST := hid (HST.out.below hb4)
  replace A1 := hid (A1.out.same (Same.below hb4) hb4.size)
  replace X1 := hid (X1.out.same (Same.below hb4) hb4.size)
  replace A2 := hid (A2.out.same (Same.below hb4) hb4.size)
  have X2 := hid (own_rd5 o4)
  replace HB := hid (HB.out.trans (hb4.mono (Nat.le_trans hBw HB.out.size)))
  rw [HK2.out]
  clear hb4 ho4 hn4 o4 hp' C29 HP
  go_wp2_with fail
  refine (C30.out _).mono ?_
  rintro e w5 ⟨v3, rfl, hb5, ho5, hn5⟩
  have o5 := own_if ho5 hn5
  have t5 : (if code16 l = 0 then dec16 l else []).length ≤ 1048576 := if_len (by rw [dec16_length]; omega)
  obtain ⟨l3, HL3⟩ : ∃ l3, Hid ((if code16 l = 0 then dec16 l else []) = l3) := ⟨_, hid rfl⟩
  rw [HL3.out] at o5 t5
  replace HST := hid (HST.out.item hb5 o5 t5)
  replace A1 := hid (A1.out.same (Same.below hb5) hb5.size)
  replace X1 := hid (X1.out.same (Same.below hb5) hb5.size)
  replace A2 := hid (A2.out.same (Same.below hb5) hb5.size)
  replace X2 := hid (X2.out.same (Same.below hb5) hb5.size)
  have A3 := hid (own_rd5 o5)
  replace HB := hid (HB.out.trans (hb5.mono (Nat.le_trans hBw HB.out.size)))
  clear hb5 ho5 hn5 o5 t5 C30
  go_wp2_with fail
  refine (C31.out _).mono ?_
  rintro e w6 ⟨x3, rfl, hb6, ho6, hn6⟩
  have o6 := own_if ho6 hn6
  rw [HL3.out] at o6
  replace HST := hid (HST.out.below hb6)
  replace A1 := hid (A1.out.same (Same.below hb6) hb6.size)
  replace X1 := hid (X1.out.same (Same.below hb6) hb6.size)
  replace A2 := hid (A2.out.same (Same.below hb6) hb6.size)
  replace X2 := hid (X2.out.same (Same.below hb6) hb6.size)
  replace A3 := hid (A3.out.same (Same.below hb6) hb6.size)
  have X3 := hid (own_rd5 o6)
  replace HB := hid (HB.out.trans (hb6.mono (Nat.le_trans hBw HB.out.size)))
  clear hb6 ho6 hn6 o6 C31
  go_wp2_with (first | (go_at_call 32; refine (C32.out _).mono ?_; rintro e w' ⟨rfl, hw⟩; have hw' := hw.symm; clear hw; subst hw') | (go_at_call 33; refine (C33.out _).mono ?_; rintro e w' ⟨rfl, hw⟩; have hw' := hw.symm; clear hw; subst hw'))
  have e1 : (ps ++ [(v1, l1)] ++ [(v2, l2)] ++ [(v3, l3)])[ps.length]? = some (v1, l1) := by simp
  refine (HST.out.add (p := (v1, l1)) e1 X1.out (by omega)).mono ?_
  rintro e w7 ⟨rfl, hst, hb7, h5⟩
  replace HST := hid hst
  replace A1 := hid (A1.out.same h5 hb7.size)
  replace X1 := hid (X1.out.same h5 hb7.size)
  replace A2 := hid (A2.out.same h5 hb7.size)
  replace X2 := hid (X2.out.same h5 hb7.size)
  replace A3 := hid (A3.out.same h5 hb7.size)
  replace X3 := hid (X3.out.same h5 hb7.size)
  replace HB := hid (HB.out.trans hb7)
  clear hst hb7 h5 e1
  go_wp2_with fail
  have e2 : (ps ++ [(v1, l1)] ++ [(v2, l2)] ++ [(v3, l3)])[ps.length + 1]? = some (v2, l2) := by simp
  refine (HST.out.add (p := (v2, l2)) e2 X2.out (by omega)).mono ?_
  rintro e w8 ⟨rfl, hst, hb8, h5⟩
  replace HST := hid hst
  replace A1 := hid (A1.out.same h5 hb8.size)
  replace X1 := hid (X1.out.same h5 hb8.size)
  replace A2 := hid (A2.out.same h5 hb8.size)
  replace X2 := hid (X2.out.same h5 hb8.size)
  replace A3 := hid (A3.out.same h5 hb8.size)
  replace X3 := hid (X3.out.same h5 hb8.size)
  replace HB := hid (HB.out.trans hb8)
  clear hst hb8 h5 e2
  go_wp2_with fail
  have e3 : (ps ++ [(v1, l1)] ++ [(v2, l2)] ++ [(v3, l3)])[ps.length + 1 + 1]? = some (v3, l3) := by simp only [List.append_assoc]; rw [List.getElem?_append_right (by omega), show ps.length + 1 + 1 - ps.length = 2 by omega]; rfl
  refine (HST.out.add (p := (v3, l3)) e3 X3.out (by omega)).mono ?_
  rintro e w9 ⟨rfl, hst, hb9, h5⟩
  replace HST := hid hst
  have r1 := (A1.out.same h5 hb9.size).convert
  have r2 := (X1.out.same h5 hb9.size).convert
  have r3 := (A2.out.same h5 hb9.size).convert
  have r4 := (X2.out.same h5 hb9.size).convert
  have r5 := (A3.out.same h5 hb9.size).convert
  have r6 := (X3.out.same h5 hb9.size).convert
  replace HB := hid (HB.out.trans hb9)
  clear hst hb9 h5 e3 A1 A2 A3 X1 X2 X3
  go_wp2_with (go_at_call 25; refine (num_any _ _).mono ?_; rintro e w' ⟨rfl, hw⟩; have hw' := hw.symm; clear hw; subst hw')
  go_ret
  refine ⟨rfl, [(v1, l1), (v2, l2), (v3, l3)], rfl, ?_, HB.out⟩
  have := HST.out
  simp only [List.append_assoc, List.cons_append, List.nil_append] at this
  exact this
end Go.Proofs.YtipjjhccbgbdiaaGreatDoor
