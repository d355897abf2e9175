/- The walks of texts and markAt. -/
import Derived.Test.YtfalgjdhdgkbfaaGreatDoorX10
import Derived.Laws.Tables
import Derived.Test.YtfalgjdhdgkbfaaGreatDoorX04
namespace Go.Proofs.YtfalgjdhdgkbfaaGreatDoor.Bk
open Go Go.RowKit
open Go.RowKit (wrap32 wrap64)

/-- Mark i behind what is lent. -/
def mkA (i : Nat) : UInt8 := UInt8.ofNat (165 - i)

set_option maxRecDepth 100000 in
theorem markAt_any (i : Nat) (w : World) (hi : i < 70) : Calls Tryz.prog 49 #[.int .i64 i] w fun e w' => e = .returned (.int .u8 (mkA i).toNat) ∧ w' = w := by
  have e : ((mkA i).toNat : Int) = 165 - (i : Int) := by
    unfold mkA
    rw [UInt8.toNat_ofNat']
    omega
  rw [e]
  clear e
  go_enter Tryz.func49, Tryz.ntmps49
  go_wp2
  go_ret
  exact ⟨rfl, rfl⟩

def mkL (n : Nat) : List UInt8 := (List.range n).map mkA
theorem mkL_length (n : Nat) : (mkL n).length = n := by simp [mkL]
theorem mkL_succ (n : Nat) : mkL (n + 1) = mkL n ++ [mkA n] := by simp [mkL, List.range_succ]

/-- What is lent: the bytes, marks behind them, in a row of one's own. -/
def Lent (w : World) (B : Nat) (v : Value) (l : List UInt8) : Prop :=
  ∃ (b c : Nat), v = .slice (some ⟨b, 0, none⟩) l.length c ∧ B ≤ b ∧ ∃ cs : Array Value, w.heap[b]? = some (.cells cs 5 (0, 0)) ∧ cs.size = c ∧ l.length + 70 ≤ c ∧ c ≤ maxLen ∧ cs.toList.take (l.length + 70) = cb (l ++ mkL 70)

theorem Lent.rd {w : World} {B : Nat} {v : Value} {l : List UInt8} (h : Lent w B v l) : Rd w v l := by
  obtain ⟨b, c, rfl, _, cs, hb, hs, hc, _, ht⟩ := h
  refine ⟨_, b, 0, c, rfl, by omega, (fun h => by cases h), fun _ => ⟨rfl, (Array.getElem?_eq_some_iff.1 hb).1⟩, fun i hi => ?_⟩
  rw [Nat.zero_add]
  refine cell_of hb ?_
  have h1 : (cb (l ++ mkL 70))[i]? = some (.int .u8 l[i].toNat) := by
    simp only [cb, List.map_append]
    rw [List.getElem?_append_left (by simpa using hi)]
    simp [List.getElem?_eq_getElem hi]
  rw [← ht, List.getElem?_take, if_pos (by omega)] at h1
  simpa using h1

theorem Lent.mark {w : World} {B : Nat} {v : Value} {l : List UInt8} (h : Lent w B v l) : ∃ (b c : Nat), v = .slice (some ⟨b, 0, none⟩) l.length c ∧ b < w.heap.size ∧ l.length + 70 ≤ c ∧ ∀ i, i < 70 → w.cell? ⟨b, l.length + i, none⟩ = some (.int .u8 (mkA i).toNat) := by
  obtain ⟨b, c, rfl, _, cs, hb, hs, hc, _, ht⟩ := h
  refine ⟨b, c, rfl, (Array.getElem?_eq_some_iff.1 hb).1, hc, fun i hi => cell_of hb ?_⟩
  have h1 : (cb (l ++ mkL 70))[l.length + i]? = some (.int .u8 (mkA i).toNat) := by
    simp [cb, mkL, hi]
  rw [← ht, List.getElem?_take, if_pos (by omega)] at h1
  simpa using h1

theorem Lent.below {w w' : World} {B : Nat} {v : Value} {l : List UInt8} (h : Lent w B v l) (hb : Below w.heap.size w w') : Lent w' B v l := by
  obtain ⟨b, c, rfl, hB, cs, hbk, r⟩ := h
  exact ⟨b, c, rfl, hB, cs, by rw [hb.block b (Array.getElem?_eq_some_iff.1 hbk).1]; exact hbk, r⟩
end Go.Proofs.YtfalgjdhdgkbfaaGreatDoor.Bk

/- The walks of Lend, Intact, Other and Into. -/
namespace Go.Proofs.YtfalgjdhdgkbfaaGreatDoor.Bk
open Go Go.RowKit
open Go.RowKit (wrap32 wrap64)

set_option maxRecDepth 100000 in
set_option maxHeartbeats 1600000 in
theorem lend_any (w : World) (b : Value) (l : List UInt8) (hb : Rd w b l) (hl : l.length ≤ 2097152) :
    Calls Tryz.prog 11 #[b] w fun e w' => ∃ v, e = .returned v ∧ Lent w' w.heap.size v l ∧ Below w.heap.size w w' := by
  obtain ⟨inf, hi, hz0, hz1, hz2⟩ := info_parts Tryz.info5
  have R := hid hb
  obtain ⟨ab, bb, offb, cbb, hbv, _⟩ := hb
  subst hbv
  obtain ⟨m, HM⟩ : ∃ m : Nat, Hid (l.length = m) := ⟨_, hid rfl⟩
  rw [HM.out] at hl ⊢
  have HR := R
  rw [HM.out] at HR
  clear R
  go_enter Tryz.func11, Tryz.ntmps11
  go_wp2_with (at_make; refine wpList_make_own _ rfl _ _ 28 rfl w.heap.size 5 inf (.int .u8 0) 1 Tryz.underlying28 hi hz0 hz1 _ _ _ (m + 70) rfl rfl (by omega) (by rw [hz2]; omega) (by unfold maxLen; omega) (Nat.le_refl _) ?_)
  intro w1 hown1 hg1
  have hb1 : Below w.heap.size w w1 := (Below.refl _ _).grown hg1 (Nat.le_refl _) (fun k h => by cases h)
  have R1 := hid (HR.out.below hb1)
  have HB1 := hid hb1
  have hs1 := hb1.size
  clear hb1 hg1 HR
  go_wp2_with (at_builtin; refine wpList_append_rd rfl (.tmp 9) (.tmp 10) rfl w.heap.size _ 0 _ rfl hown1 l R1.out (by have := HM.out; omega) hs1 ?_)
  intro v2 w2 hown2 hg2
  have HO : Hid (w2.ownsRow w.heap.size 5 1 v2 (m + 0) (cb (l ++ mkL 0))) := hid (by
    have h9 := hown2
    rw [HM.out] at h9
    simpa [mkL, Nat.add_comm] using h9)
  have HB : Hid (Below w.heap.size w w2) := hid (HB1.out.grown hg2 hs1 (fun k hk => (hown1.lt k hk).1))
  clear hown1 hown2 hg2 R1 HB1 hs1
  go_wp2
  go_loopw [3, 4] (fun tv iv wr => ∃ i : Nat, iv = .int .i64 i ∧ i ≤ 70 ∧ Hid (wr.ownsRow w.heap.size 5 1 tv (m + i) (cb (l ++ mkL i))) ∧ Hid (Below w.heap.size w wr)) (fun _ iv _ => 70 - (intOf iv).toNat)
  case atStart => exact ⟨0, rfl, by omega, HO, HB⟩
  case round =>
    as_aux_lemma =>
    clear HO HB
    obtain ⟨i, rfl, hi70, HO, HB⟩ := hrel
    by_cases hlt : i < 70
    · have hlt' : (i : Int) < 70 := by omega
      have hat := fun w => markAt_any i w hlt
      obtain ⟨u, HU⟩ : ∃ u : UInt8, Hid (mkA i = u) := ⟨_, hid rfl⟩
      rw [HU.out] at hat
      have HAT := hid hat
      have hown := HO.out
      have hsz := HB.out.size
      clear hat
      go_wp2_with (first | (go_at_call 49; refine (HAT.out _).mono ?_; rintro e w' ⟨rfl, hw⟩; have hw' := hw.symm; clear hw; subst hw') | (at_builtin; refine wpList_append_own _ rfl _ _ 28 rfl w.heap.size 5 inf (.int .u8 0) 1 1 Tryz.underlying28 hi hz0 hz1 hz2 rfl (by decide) u3 (m + i) _ rfl (hown.alloc _) ⟨wr.heap.size, 0, none⟩ 1 1 (cb [u]) rfl rfl ?hnews ?hone ?h63 ?hbytes ?hbase ?_))
      case hnews => exact fun j u hu => news_new wr _ _ j u hu
      case hone => intro u hu; simp [cb] at hu; rcases hu with rfl; rfl
      case h63 => unfold maxLen; omega
      case hbytes => omega
      case hbase => simp; omega
      intro v' w3 hown3 hg3 hnil
      go_wp2
      refine ⟨⟨i + 1, by go_num, by omega, hid ?_, hid ((HB.out.alloc hsz _).grown hg3 (by simp; omega) (fun j hj => (hown.lt j hj).1))⟩, by simp [intOf]; omega⟩
      rw [mkL_succ, ← List.append_assoc, cb_append, HU.out]
      exact hown3
    · have hge : (70 : Int) ≤ i := by omega
      have he : i = 70 := by omega
      subst he
      obtain ⟨b, cap, cur, hv, hBb, hg, hle, hmx, hs, ht⟩ : ∃ b cap cur, u3 = .slice (some ⟨b, 0, none⟩) (m + 70) cap ∧ w.heap.size ≤ b ∧ wr.heap[b]? = some (.cells cur 5 (0, 0)) ∧ m + 70 ≤ cap ∧ cap ≤ maxLen ∧ cur.size = cap * 1 ∧ cur.toList.take ((m + 70) * 1) = cb (l ++ mkL 70) := by
        rcases HO.out.2 with ⟨_, h9⟩ | h9
        · omega
        · exact h9
      subst hv
      have hcm : (m : Int) ≤ (cap : Int) := by omega
      have HF := hid (And.intro hBb (And.intro hg (And.intro hle (And.intro hmx (And.intro hs ht)))))
      clear hBb hg hmx hs ht
      go_wp2
      go_ret
      obtain ⟨hBb, hg, hle, hmx, hs, ht⟩ := HF.out
      refine ⟨.slice (some ⟨b, 0, none⟩) m cap, rfl, ⟨b, cap, by rw [HM.out], hBb, cur, hg, by omega, by rw [HM.out]; exact hle, hmx, ?_⟩, HB.out⟩
      rw [HM.out]
      rw [Nat.mul_one] at ht
      exact ht

set_option maxRecDepth 100000 in
set_option maxHeartbeats 1600000 in
theorem intact_any (w : World) (B : Nat) (v b : Value) (l : List UInt8) (hv : Lent w B v l) (hb : Rd w b l) (hl : l.length ≤ 2097152) :
    Calls Tryz.prog 14 #[v, b] w fun e w' => e = .returned (.bool true) ∧ ∃ k, w' = w.drewN k := by
  have k1 := hv.rd.convert
  have k2 := hb.convert
  obtain ⟨s, HS⟩ : ∃ s, Hid ((⟨l.toArray⟩ : ByteArray) = s) := ⟨_, hid rfl⟩
  rw [HS.out] at k1 k2
  obtain ⟨bb, c, rfl, hbb, hc, hm⟩ := hv.mark
  obtain ⟨m, HM⟩ : ∃ m : Nat, Hid (l.length = m) := ⟨_, hid rfl⟩
  rw [HM.out] at hl hc hm k1 ⊢
  have HMK := hid hm
  have hc' : (m : Int) + 70 ≤ (c : Int) := by omega
  clear hm hv hb
  go_enter Tryz.func14, Tryz.ntmps14
  go_wp2
  go_loopw [6] (fun iv wr => ∃ i : Nat, iv = .int .i64 i ∧ i ≤ 70 ∧ ∃ k, Hid (wr = w.drewN k)) (fun iv _ => 70 - (intOf iv).toNat)
  case atStart => exact ⟨0, rfl, by omega, 0, hid rfl⟩
  case round =>
    as_aux_lemma =>
    obtain ⟨i, rfl, hi, d, HD⟩ := hrel
    by_cases hlt : i < 70
    · have hlt' : (i : Int) < 70 := by omega
      have q : wr.cell? ⟨bb, m + i, none⟩ = some (.int .u8 (mkA i).toNat) := by rw [HD.out]; exact HMK.out i hlt
      have hat := fun w => markAt_any i w hlt
      obtain ⟨y, HY⟩ : ∃ y : Int, Hid (((mkA i).toNat : Int) = y) := ⟨_, hid rfl⟩
      rw [HY.out] at q hat
      have HAT := hid hat
      have rb : bb < wr.heap.size := by rw [HD.out]; exact hbb
      clear hat
      go_wp2
      go_quiet ((go_at_call 49; exact Calls.quiet_of_same (HAT.out _)))
      rename_i nq
      go_wp2
      refine ⟨⟨i + 1, by go_num, by omega, d + nq, hid (by rw [HD.out, World.drewN_drewN])⟩, by simp [intOf]; omega⟩
    · have hge : (70 : Int) ≤ i := by omega
      go_wp2
      go_ret
      exact ⟨rfl, d, HD.out⟩
end Go.Proofs.YtfalgjdhdgkbfaaGreatDoor.Bk

namespace Go.Proofs.YtfalgjdhdgkbfaaGreatDoor.Bk
open Go Go.RowKit
open Go.RowKit (wrap32 wrap64)

theorem xor_u8 (x : UInt8) : ∃ u : UInt8, Go.bits .xor .u8 (x.toNat : Int) 1 = (u.toNat : Int) := by
  have h : ∀ n : Fin 256, 0 ≤ Go.bits .xor .u8 (n.val : Int) 1 ∧ Go.bits .xor .u8 (n.val : Int) 1 < 256 := by decide +kernel
  have h2 := h ⟨x.toNat, x.toNat_lt⟩
  refine ⟨UInt8.ofNat (Go.bits .xor .u8 (x.toNat : Int) 1).toNat, ?_⟩
  rw [UInt8.toNat_ofNat']
  simp only at h2
  omega

theorem cb_set (l : List UInt8) (j : Nat) (u : UInt8) : (cb l).set j (.int .u8 u.toNat) = cb (l.set j u) := by
  simp [cb, List.map_set]

set_option maxRecDepth 100000 in
set_option maxHeartbeats 1600000 in
theorem other_any (w : World) (b : Value) (l : List UInt8) (hb : Rd w b l) (hl : l.length ≤ 2097152) :
    Calls Tryz.prog 23 #[b] w fun e w' => ∃ v, e = .returned v ∧ Hid (∃ l', l'.length = l.length ∧ w'.ownsRow w.heap.size 5 1 v l'.length (cb l') ∧ Below w.heap.size w w') := by
  obtain ⟨inf, hi, hz0, hz1, hz2⟩ := info_parts Tryz.info5
  have R := hid hb
  obtain ⟨ab, bb, offb, cbb, hbv, _, _, ha, hcell⟩ := hb
  subst hbv
  obtain ⟨m, HM⟩ : ∃ m : Nat, Hid (l.length = m) := ⟨_, hid rfl⟩
  have HA := hid ha
  have HC := hid hcell
  rw [HM.out] at hl ⊢
  rw [HM.out] at R
  clear ha hcell
  obtain ⟨x, hx⟩ : ∃ x : Int, (m : Int) = x := ⟨_, rfl⟩
  have hx0 : 0 ≤ x := by omega
  have hx1 : x ≤ 2097152 := by omega
  have HX := hid hx
  go_enter Tryz.func23, Tryz.ntmps23
  go_wp2
  go_loopw [3, 4] (fun tv iv wr => ∃ (i : Nat) (z : Int) (l' : List UInt8), iv = .int .i64 z ∧ -1 ≤ z ∧ z < x ∧ i ≤ 2097152 ∧ Hid (z + 1 + (i : Int) = x ∧ l'.length = i) ∧ Hid (wr.ownsRow w.heap.size 5 1 tv i (cb l')) ∧ Hid (Below w.heap.size w wr)) (fun _ iv _ => (intOf iv + 1).toNat)
  case atStart => exact ⟨0, x - 1, [], by go_num, by omega, by omega, by omega, hid ⟨by omega, rfl⟩, hid (World.ownsRow_nil w _ 5 1), hid (Below.refl _ _)⟩
  case round =>
    as_aux_lemma =>
    obtain ⟨i, z, l', rfl, hz0', hz1', hi1, HI, HO, HB⟩ := hrel
    by_cases hz : 0 ≤ z
    · obtain ⟨j, rfl⟩ : ∃ j : Nat, z = (j : Int) := ⟨z.toNat, by omega⟩
      have hjl : j < l.length := by have := HM.out; have := HX.out; omega
      obtain ⟨rfl, hbw⟩ := HA.out (by omega)
      have hck := HC.out j hjl
      rw [← HB.out.cell (p := ⟨bb, offb + j, none⟩) hbw] at hck
      have hbw2 : bb < wr.heap.size := Nat.lt_of_lt_of_le hbw HB.out.size
      obtain ⟨u, HU⟩ : ∃ u : UInt8, Hid (l[j] = u) := ⟨_, hid rfl⟩
      rw [HU.out] at hck
      have hown := HO.out
      have hsz := HB.out.size
      go_wp2_with (at_builtin; refine wpList_append_own _ rfl _ _ 28 rfl w.heap.size 5 inf (.int .u8 0) 1 1 Tryz.underlying28 hi hz0 hz1 hz2 rfl (by decide) u3 i _ rfl (hown.alloc _) ⟨wr.heap.size, 0, none⟩ 1 1 (cb [u]) rfl rfl ?hnews ?hone ?h63 ?hbytes ?hbase ?_)
      case hnews => first | exact fun j u hu => news_new wr _ _ j u hu | exact fun j u hu => hu
      case hone => intro u hu; simp [cb] at hu; rcases hu with rfl; rfl
      case h63 => unfold maxLen; omega
      case hbytes => omega
      case hbase => first | (simp; omega) | omega
      intro v' w3 hown3 hg3 hnil
      go_wp2
      refine ⟨⟨i + 1, (j : Int) - 1, l' ++ [u], by go_num, by omega, by omega, by have := HI.out; omega, hid ⟨by have := HI.out; omega, by rw [List.length_append, HI.out.2]; rfl⟩, hid ?_, hid ((HB.out.alloc hsz _).grown hg3 (by simp; omega) (fun j hj => (hown.lt j hj).1))⟩, by simp [intOf]⟩
      rw [cb_append]
      exact hown3
    · have hz3 : z = -1 := by omega
      subst hz3
      have him : i = m := by have := HI.out; have := HX.out; omega
      subst him
      obtain ⟨a3, c3, hv3⟩ := own_shape' HO.out
      subst hv3
      rcases Nat.eq_zero_or_pos i with h0 | h0
      · have hx00 : x = 0 := by have := HX.out; omega
        clear h0
        go_wp2
        go_ret
        exact ⟨.slice a3 i c3, rfl, hid ⟨l', HI.out.2, by rw [HI.out.2]; exact HO.out, HB.out⟩⟩
      · have hxp : 0 < x := by have := HX.out; omega
        have k1 := (Rd.own HO.out).convert
        have k2 : (convert 28 9 (.slice ab i cbb)).run Tryz.prog wr = .ok (.string ⟨l.toArray⟩) wr := (R.out.below HB.out).convert
        obtain ⟨s1, HS1⟩ : ∃ s, Hid ((⟨l'.toArray⟩ : ByteArray) = s) := ⟨_, hid rfl⟩
        obtain ⟨s2, HS2⟩ : ∃ s, Hid ((⟨l.toArray⟩ : ByteArray) = s) := ⟨_, hid rfl⟩
        rw [HS1.out] at k1
        rw [HS2.out] at k2
        cases hq : (s1.toList == s2.toList) with
        | false =>
          go_wp2
          go_ret
          exact ⟨.slice a3 i c3, rfl, hid ⟨l', HI.out.2, by rw [HI.out.2]; exact HO.out, HB.out⟩⟩
        | true =>
          obtain ⟨b3, ha3, hb3, hB3, _, hcell3⟩ := own_cells HO.out h0
          subst ha3
          obtain ⟨j, rfl⟩ : ∃ j : Nat, i = j + 1 := ⟨i - 1, by omega⟩
          have hj : j < l'.length := by have := HI.out.2; omega
          have hck : wr.cell? ⟨b3, j, none⟩ = some (.int .u8 (l'[j].toNat : Int)) := by
            rw [hcell3 j (by omega)]
            simp [cb, List.getElem?_eq_getElem hj]
          obtain ⟨u, hxu⟩ := xor_u8 l'[j]
          obtain ⟨y, HY⟩ : ∃ y : Int, Hid ((l'[j].toNat : Int) = y) := ⟨_, hid rfl⟩
          rw [HY.out] at hck hxu
          have hfz := HO.out.frozenAt j
          clear hcell3
          have hxj : x = (j : Int) + 1 := by have := HX.out; omega
          clear hx
          subst hxj
          go_wp2
          go_ret
          have hst := HO.out.stored j (.int .u8 u.toNat)
          refine ⟨_, rfl, hid ⟨l'.set j u, by rw [List.length_set]; exact HI.out.2, ?_, HB.out.setCell hB3 _⟩⟩
          rw [← cb_set, List.length_set, HI.out.2]
          exact hst.1
end Go.Proofs.YtfalgjdhdgkbfaaGreatDoor.Bk

/- The walk of Into. -/
namespace Go.Proofs.YtfalgjdhdgkbfaaGreatDoor.Bk
open Go Go.RowKit
open Go.RowKit (wrap32 wrap64)

theorem set_step (l l' : List UInt8) (i : Nat) (hi : i < l.length) (hl : l'.length = l.length) : (l'.take i ++ l.drop i).set i (l'[i]'(by omega)) = l'.take (i + 1) ++ l.drop (i + 1) := by
  have hi' : i < l'.length := by omega
  rw [List.drop_eq_getElem_cons hi, List.take_succ_eq_append_getElem hi', List.append_assoc]
  rw [List.set_append_right _ _ (by rw [List.length_take]; omega)]
  have e : i - (List.take i l').length = 0 := by rw [List.length_take]; omega
  rw [e]
  rfl

theorem Lent.set {w : World} {B b c i : Nat} {l : List UInt8} (h : Lent w B (.slice (some ⟨b, 0, none⟩) l.length c) l) (hi : i < l.length) (u : UInt8) : Lent (w.setCell ⟨b, i, none⟩ (.int .u8 u.toNat)) B (.slice (some ⟨b, 0, none⟩) (l.set i u).length c) (l.set i u) := by
  obtain ⟨b', c', hv, hB, cs, hb, hs, hc, hm, ht⟩ := h
  have hv2 : b = b' ∧ c = c' := by simpa using hv
  obtain ⟨rfl, rfl⟩ := hv2
  refine ⟨b, c, rfl, hB, cs.setIfInBounds i (.int .u8 u.toNat), ?_, by simpa using hs, by rw [List.length_set]; exact hc, hm, ?_⟩
  · simp [World.setCell, Array.getElem?_modify, hb]
  · rw [List.length_set, Array.toList_setIfInBounds, List.take_set, ht, cb_set, List.set_append_left _ _ hi]

set_option maxRecDepth 100000 in
set_option maxHeartbeats 1600000 in
theorem into_any (w : World) (B H : Nat) (v b : Value) (l l' : List UInt8) (hv : Lent w B v l) (ho : w.ownsRow H 5 1 b l'.length (cb l')) (hne : Apart b v) (hl' : l'.length = l.length) (hl : l.length ≤ 2097152) :
    Calls Tryz.prog 24 #[v, b] w fun e w' => e = .returned (.tuple #[]) ∧ Hid (Lent w' B v l' ∧ w'.ownsRow H 5 1 b l'.length (cb l') ∧ Below B w w' ∧ ∀ e, e ≠ 5 → Same e w w') := by
  have hv0 := hv
  obtain ⟨bv, cv, hvv, hBv, _⟩ := hv
  subst hvv
  obtain ⟨ab, cbb, hbv⟩ := own_shape' ho
  subst hbv
  have hv : Lent w B (.slice (some ⟨bv, 0, none⟩) l.length cv) l := hv0
  clear hv0
  obtain ⟨m, HM⟩ : ∃ m : Nat, Hid (l.length = m) := ⟨_, hid rfl⟩
  have hm2 : l'.length = m := by rw [hl', HM.out]
  have HV := hid hv
  have HO := hid ho
  have HNE := hid hne
  have HL := hid hl'
  rw [HM.out] at hl ⊢ 
  rw [hm2]
  have HM2 := hid hm2
  obtain ⟨x, hx⟩ : ∃ x : Int, (m : Int) = x := ⟨_, rfl⟩
  have hx0 : 0 ≤ x := by omega
  have hx1 : x ≤ 2097152 := by omega
  have HX := hid hx
  clear hv ho hne hl' hm2
  go_enter Tryz.func24, Tryz.ntmps24
  go_wp2
  go_loopw [4] (fun iv wr => ∃ i : Nat, iv = .int .i64 i ∧ i ≤ 2097152 ∧ Hid (i ≤ m) ∧ Hid (Lent wr B (.slice (some ⟨bv, 0, none⟩) (l'.take i ++ l.drop i).length cv) (l'.take i ++ l.drop i)) ∧ Hid (wr.ownsRow H 5 1 (.slice ab m cbb) m (cb l')) ∧ Hid (Below B w wr ∧ ∀ e, e ≠ 5 → Same e w wr)) (fun iv _ => m - (intOf iv).toNat)
  case atStart => exact ⟨0, rfl, by omega, hid (Nat.zero_le _), hid (by simpa using HV.out), hid (by have := HO.out; rw [HM2.out] at this; exact this), hid ⟨Below.refl _ _, fun e _ => Same.refl _ _⟩⟩
  case round =>
    as_aux_lemma =>
    clear HV HO
    obtain ⟨i, rfl, hi, HI, HV, HO, HF⟩ := hrel
    have hlen : (l'.take i ++ l.drop i).length = m := by rw [List.length_append, List.length_take, List.length_drop]; have := HI.out; have := HM.out; have := HM2.out; omega
    have HLEN := hid hlen
    clear hlen
    by_cases hlt : i < m
    · have hlt' : (i : Int) < x := by have := HX.out; omega
      have hil : i < l.length := by have := HM.out; omega
      have hil' : i < l'.length := by have := HM2.out; omega
      obtain ⟨bb, hab, hbb, hHb, _, hcell⟩ := own_cells HO.out (by omega)
      subst hab
      have hck := hcell i hlt
      have hck2 : (cb l')[i]? = some (.int .u8 (l'[i].toNat : Int)) := by simp [cb, List.getElem?_eq_getElem hil']
      rw [hck2] at hck
      obtain ⟨u, HU⟩ : ∃ u : UInt8, Hid (l'[i] = u) := ⟨_, hid rfl⟩
      rw [HU.out] at hck
      have hvc : ∃ q, wr.cell? ⟨bv, i, none⟩ = some q := by
        have h9 := HV.out.rd
        obtain ⟨a9, b9, o9, c9, e9, _, _, ha9, hc9⟩ := h9
        have h10 := hc9 i (by rw [HLEN.out]; exact hlt)
        have h11 := (ha9 (by rw [HLEN.out]; omega)).1
        simp only [Value.slice.injEq] at e9
        rw [← e9.1] at h11
        have h12 : bv = b9 ∧ 0 = o9 := by simpa using h11
        obtain ⟨rfl, rfl⟩ := h12
        rw [Nat.zero_add] at h10
        exact ⟨_, h10⟩
      obtain ⟨q, hq⟩ := hvc
      have hblk : ∃ cs, wr.heap[bv]? = some (.cells cs 5 (0, 0)) := by
        obtain ⟨b9, c9, e9, _, cs, hcs, _⟩ := HV.out
        have h12 : bv = b9 := by simp at e9; exact e9.1
        subst h12
        exact ⟨cs, hcs⟩
      obtain ⟨cs, hcs⟩ := hblk
      have hfz : wr.frozen? ⟨bv, i, none⟩ = false := by simp [World.frozen?, hcs]
      have hbvl : bv < wr.heap.size := (Array.getElem?_eq_some_iff.1 hcs).1
      have HCS := hid hcs
      clear hcell hck2 hcs
      go_wp2
      have hbut : But wr (wr.setCell ⟨bv, i, none⟩ (.int .u8 u.toNat)) bv := But.setCell _ _ _ _
      have hv9 : Lent wr B (.slice (some ⟨bv, 0, none⟩) (l'.take i ++ l.drop i).length cv) (l'.take i ++ l.drop i) := HV.out
      refine ⟨⟨i + 1, by go_num, by omega, hid (by omega), hid ?_, hid ?_, hid ⟨HF.out.1.trans (hbut.below hBv), fun e he => (HF.out.2 e he).trans (Same.but HCS.out he hbut)⟩⟩, by simp [intOf]; omega⟩
      · rw [← set_step l l' i hil HL.out, HU.out]
        exact hv9.set (by rw [HLEN.out]; exact hlt) u
      · have hO := HO.out
        refine ⟨hO.1, ?_⟩
        rcases hO.2 with h9 | ⟨g, cap, cur, hg, hgB, hgh, r⟩
        · exact Or.inl h9
        · refine Or.inr ⟨g, cap, cur, hg, hgB, ?_, r⟩
          have hgb : g ≠ bv := by
            intro k
            have h12 : bb = g := by simp at hg; exact hg.1
            rcases HNE.out with h13 | h13
            · cases h13
            · exact h13 (by show some bb = some bv; rw [h12, k])
          rw [hbut.block g hgb]
          exact hgh
    · have hge : x ≤ (i : Int) := by have := HX.out; omega
      have him : i = m := by have := HI.out; omega
      go_wp2
      go_end0
      refine ⟨rfl, hid ⟨?_, ?_, HF.out⟩⟩
      · have h9 := HV.out
        rw [him] at h9
        have e1 : l'.take m ++ l.drop m = l' := by rw [← HM2.out, List.take_length, HM2.out, ← HM.out, List.drop_length, List.append_nil]
        rw [e1, HM2.out] at h9
        exact h9
      · exact HO.out
end Go.Proofs.YtfalgjdhdgkbfaaGreatDoor.Bk

namespace Go.Proofs.YtfalgjdhdgkbfaaGreatDoor.Bk
open Go Go.RowKit

def zeroB : Array Value := ((List.range 75).map (bkF (.slice none 0 0) (.slice none 0 0) 0 0 0 0)).toArray
def zeroL : Array Value := #[.slice none 0 0, .slice none 0 0]

theorem build59 (w : World) : (Instr.build 59 #[]).run Tryz.prog w = .ok (.agg zeroB) w := by kernel_rfl
theorem build62 (w : World) : (Instr.build 62 #[]).run Tryz.prog w = .ok (.agg zeroL) w := by kernel_rfl

theorem built59 : Tryz.prog.built 59 [] = some zeroB := by kernel_rfl
theorem built62 : Tryz.prog.built 62 [] = some zeroL := by kernel_rfl

theorem wp_build59 {o : Oper} {a : Act} {w : World} {K : Act → World → Prop} {Q : Exit → Act → World → Prop} (ho : o.op = .build 59 #[]) (h : K (a.put o.dst (.agg zeroB)) w) : o.wp Tryz.prog a w K Q := by
  have e0 : ((#[] : Array (Nat × Operand)).map fun (i, x) => (i, a.eval x)).toList = [] := by simp
  have e : Tryz.prog.built 59 ((#[] : Array (Nat × Operand)).map fun (i, x) => (i, a.eval x)).toList = some zeroB := by rw [e0]; exact built59
  refine wp_build 59 #[] ho (by rw [e]; rfl) ?_
  rw [e]
  exact h

theorem wp_build62 {o : Oper} {a : Act} {w : World} {K : Act → World → Prop} {Q : Exit → Act → World → Prop} (ho : o.op = .build 62 #[]) (h : K (a.put o.dst (.agg zeroL)) w) : o.wp Tryz.prog a w K Q := by
  have e0 : ((#[] : Array (Nat × Operand)).map fun (i, x) => (i, a.eval x)).toList = [] := by simp
  have e : Tryz.prog.built 62 ((#[] : Array (Nat × Operand)).map fun (i, x) => (i, a.eval x)).toList = some zeroL := by rw [e0]; exact built62
  refine wp_build 62 #[] ho (by rw [e]; rfl) ?_
  rw [e]
  exact h

theorem zeroB_row (w : World) : Bkc (w.alloc (.cells zeroB 59)) w.heap.size (.slice none 0 0) (.slice none 0 0) 0 0 0 0 :=
  ⟨zeroB, heap_alloc_new w _, by simp [zeroB], fun i hi => by simp [zeroB, hi]⟩

theorem zeroL_row (w : World) : (w.alloc (.cells zeroL 62)).rowIs w.heap.size 62 2 (ltF (.slice none 0 0) (.slice none 0 0)) :=
  ⟨zeroL, heap_alloc_new w _, rfl, fun i hi => by
    rcases (show i = 0 ∨ i = 1 by omega) with rfl | rfl <;> simp [zeroL, ltF]⟩

/-- All of it, at the beginning. -/
theorem ST.new {w : World} {B bk lt : Nat} (h1 : Bkc w bk (.slice none 0 0) (.slice none 0 0) 0 0 0 0) (h2 : w.rowIs lt 62 2 (ltF (.slice none 0 0) (.slice none 0 0))) (hB : B ≤ bk) (hL : B ≤ lt) (hw : B ≤ w.heap.size) : ST w B bk lt 0 [] 0 :=
  ⟨0, 0, .slice none 0 0, .slice none 0 0, 0, [], [], .slice none 0 0, .slice none 0 0, [], ⟨⟨⟨h1, World.ownsRow_nil _ _ _ _, World.ownsRow_nil _ _ _ _, fun i g m hg => by simp at hg, fun m hm => by simp at hm, fun i g m _ h => by simp at h, fun i g b hg => by simp at hg⟩, Nat.le_refl _, by decide, by decide, by decide, h2, World.ownsRow_nil _ _ _ _, Or.inl rfl, fun p hp => by simp at hp, List.Pairwise.nil, fun j g hg => by simp at hg, ⟨hB, hL, hw⟩⟩, World.ownsRow_nil _ _ _ _, Or.inl rfl, Or.inl rfl, fun i x p hx => by simp at hx, fun x hx => by simp at hx, fun x hx => by simp at hx, Nat.le_refl _⟩⟩

/-- Look over all of it. -/
theorem ST.look {w : World} {B bk lt T : Nat} {ps : List Item} {n : Nat} (h : ST w B bk lt T ps n) : Calls Tryz.prog 9 #[.pointer (some ⟨bk, 0, none⟩)] w fun e w' => e = .returned (.bool true) ∧ Below B w w' := by
  obtain ⟨A, D, v0, v1, U, gs, ms, vg, vw, xs, h⟩ := h
  refine (look_any w B bk A v0 v1 T D U gs ms h.sl.book h.sl.ale h.sl.use h.sl.u1 h.sl.hB.1 h.sl.hB.2.2).mono ?_
  rintro e w' ⟨rfl, _, _, _, _, _, _, _, _, _, hb, _⟩
  exact ⟨rfl, hb⟩
end Go.Proofs.YtfalgjdhdgkbfaaGreatDoor.Bk

namespace Go.Proofs.YtfalgjdhdgkbfaaGreatDoor.Bk
open Go Go.RowKit
open Go.RowKit (wrap32 wrap64)

theorem Rd.up {w : World} {v : Value} {l : List UInt8} (h : Rd w v l) : Go.Proofs.YtfalgjdhdgkbfaaGreatDoor.Rd w (fun _ => True) v l := by
  obtain ⟨a, b, off, c, hv, hc, hn, ha, hcell⟩ := h
  exact ⟨a, b, off, c, hv, hc, hn, fun hl => ⟨(ha hl).1, (ha hl).2, trivial⟩, hcell⟩
theorem out_own {B : Nat} {w : World} {v : Value} {l : List UInt8} (h : Out B w v l) : w.ownsRow B 5 1 v l.length (cb l) := h
theorem num19_any (x : Int) (w : World) : Calls Tryz.prog 19 #[.int .i64 x] w fun e w' => e = .returned (.int .i64 x) ∧ w' = w := by
  go_enter Tryz.func19, Tryz.ntmps19
  go_wp2
  go_ret
  exact ⟨rfl, rfl⟩

set_option maxRecDepth 100000 in
set_option maxHeartbeats 2000000 in
theorem framed_any (w : World) (B bk lt T : Nat) (ps : List Item) (l : List UInt8) (v b : Value) (h : ST w B bk lt T ps ps.length) (hv : ∀ u, Below B w u → Same 5 w u → Rd u v l) (hb : ∀ u, Below B w u → Same 5 w u → Rd u b l) (hT : ∀ u, Below B w u → Tab u) (hB : B ≤ w.heap.size) (hl : l.length ≤ 2097139) (hn : ps.length ≤ 8388607) :
    Calls Tryz.prog 22 #[v, b, .pointer (some ⟨lt, 0, none⟩)] w fun e w' => e = .returned (.bool true) ∧ Hid (∃ g, ST w' B bk lt T (ps ++ [(g, frameL l)]) (ps.length + 1) ∧ Below B w w' ∧ Same 5 w w') := by
  have HF1 := hid (frame_ok l _ v w (by omega) (hv w (Below.refl _ _) (Same.refl _ _)).up (hT w (Below.refl _ _)))
  have HF2 : Hid (∀ u, Below B w u → Same 5 w u → Calls Tryz.prog 62 #[b] u fun e w' => ∃ v', e = .returned (.tuple #[v', .int .i64 0]) ∧ Out u.heap.size w' v' (frameL l) ∧ u.grownBy w' none) := hid (fun u h1 h2 => frameR_ok l _ b u (by omega) (hb u h1 h2).up)
  have HS1 : Hid (∀ u, Below B w u → Same 5 w u → Calls Tryz.prog 63 #[v] u fun e w' => e = .returned (.int .u32 (sumL l)) ∧ w' = u) := hid (fun u h1 h2 => sum_any l _ v u (by omega) (hv u h1 h2).up (hT u h1))
  have HS2 : Hid (∀ u, Below B w u → Same 5 w u → Calls Tryz.prog 64 #[b] u fun e w' => e = .returned (.int .u32 (sumL l)) ∧ w' = u) := hid (fun u h1 h2 => sumR_any l _ b u (by omega) (hb u h1 h2).up)
  have hfl : (frameL l).length ≤ 2097152 := by rw [frameL_length]; omega
  have HFL := hid hfl
  have HST := hid h
  have HB0 := hid hB
  have HNn := hid hn
  obtain ⟨fl, HFl⟩ : ∃ z, Hid (frameL l = z) := ⟨_, hid rfl⟩
  obtain ⟨S, HSm⟩ : ∃ z : Nat, Hid (sumL l = z) := ⟨_, hid rfl⟩
  obtain ⟨s, HSs⟩ : ∃ z : ByteArray, Hid ((⟨fl.toArray⟩ : ByteArray) = z) := ⟨_, hid rfl⟩
  rw [HFl.out] at HF1 HF2 HFL ⊢
  rw [HSm.out] at HS1 HS2
  clear h hv hb hT hB hl hn hfl
  go_enter Tryz.func22, Tryz.ntmps22
  go_wp2_with (first
    | (go_at_call 47; (with_reducible refine HF1.out.mono ?_); rintro e w1 ⟨v1, rfl, hO1, hg1⟩; have HO1 := hid hO1; have HL1 := hid (gbelow hg1); have HB1 : Hid (Below B w w1) := hid ((gbelow hg1).mono HB0.out); have HM1 : Hid (Same 5 w w1) := hid (Same.below (gbelow hg1)); clear hO1 hg1)
    | (go_at_call 62; (refine (HF2.out w1 HB1.out HM1.out).mono ?_); rintro e w2 ⟨v2, rfl, hO2, hg2⟩; have HO2 := hid hO2; have HO1' := hid (HO1.out.keep hg2); have HL2 := hid (gbelow hg2); have HB2 : Hid (Below B w w2) := hid (HB1.out.trans ((gbelow hg2).mono (Nat.le_trans HB0.out HL1.out.size))); have HM2 : Hid (Same 5 w w2) := hid (HM1.out.trans (Same.below (gbelow hg2))); clear hO2 hg2)
    | (go_at_call 40; (refine (((HST.out.item HL1.out (out_own HO1.out) HFL.out).below HL2.out).add (p := (v1, fl)) (by simp) (own_rd5 (out_own HO2.out)) HNn.out).mono ?_); rintro e w3 ⟨rfl, hST3, hb3, hs3⟩; have HST3 := hid hST3; have HB3 : Hid (Below B w w3) := hid (HB2.out.trans hb3); have HM3 : Hid (Same 5 w w3) := hid (HM2.out.trans hs3); have k1 : (convert 28 9 v1).run Tryz.prog w3 = .ok (.string s) w3 := (by rw [← HSs.out]; exact (Rd.own (own_same (out_own HO1'.out) hs3)).convert); have k2 : (convert 28 9 v2).run Tryz.prog w3 = .ok (.string s) w3 := (by rw [← HSs.out]; exact (Rd.own (own_same (out_own HO2.out) hs3)).convert); clear hST3 hb3 hs3)
    | (go_at_call 19; (with_reducible refine (num19_any _ _).mono ?_); rintro e w4 ⟨rfl, hw⟩; have hw' := hw.symm; clear hw; subst hw')
    | (go_at_call 63; (refine (HS1.out _ HB3.out HM3.out).mono ?_); rintro e w4 ⟨rfl, hw⟩; have hw' := hw.symm; clear hw; subst hw')
    | (go_at_call 64; (refine (HS2.out _ HB3.out HM3.out).mono ?_); rintro e w4 ⟨rfl, hw⟩; have hw' := hw.symm; clear hw; subst hw'))
  go_ret
  exact ⟨rfl, hid ⟨v1, HST3.out, HB3.out, HM3.out⟩⟩
end Go.Proofs.YtfalgjdhdgkbfaaGreatDoor.Bk

namespace Go.Proofs.YtfalgjdhdgkbfaaGreatDoor.Bk
open Go Go.RowKit
open Go.RowKit (wrap32 wrap64)

theorem unfB_length (l : List UInt8) : (unfB l).length ≤ l.length := by
  unfold unfB
  split
  · unfold bodyL; rw [List.length_take, List.length_drop]; omega
  · exact Nat.zero_le _

set_option maxRecDepth 100000 in
set_option maxHeartbeats 2000000 in
theorem unframed_any (w : World) (B bk lt T : Nat) (ps : List Item) (l : List UInt8) (v b : Value) (h : ST w B bk lt T ps ps.length) (hv : ∀ u, Below B w u → Same 5 w u → Rd u v l) (hb : ∀ u, Below B w u → Same 5 w u → Rd u b l) (hT : ∀ u, Below B w u → Tab u) (hB : B ≤ w.heap.size) (hl : l.length ≤ 2097152) (hn : ps.length ≤ 8388607) :
    Calls Tryz.prog 25 #[v, b, .pointer (some ⟨lt, 0, none⟩)] w fun e w' => e = .returned (.bool true) ∧ Hid (∃ g, ST w' B bk lt T (ps ++ [(g, unfB l)]) (ps.length + 1) ∧ Below B w w' ∧ Same 5 w w') := by
  have HF1 := hid (unframe_any l _ v w (by omega) (hv w (Below.refl _ _) (Same.refl _ _)).up (hT w (Below.refl _ _)))
  have HF2 : Hid (∀ u, Below B w u → Same 5 w u → Calls Tryz.prog 65 #[b] u fun e w' => ∃ v', e = .returned (.tuple #[v', .int .i64 (if unfrE l = 0 then ((Go.Proofs.YtfalgjdhdgkbfaaGreatDoor.cnt l + 13 : Nat) : Int) else 0), .int .i64 (unfrE l)]) ∧ Out u.heap.size w' v' (unfB l) ∧ u.grownBy w' none) := hid (fun u h1 h2 => unframeR_any l _ b u (by omega) (hb u h1 h2).up)
  have HFL : Hid ((unfB l).length ≤ 2097152) := hid (Nat.le_trans (unfB_length l) hl)
  have HST := hid h
  have HB0 := hid hB
  have HNn := hid hn
  obtain ⟨fl, HFl⟩ : ∃ z, Hid (unfB l = z) := ⟨_, hid rfl⟩
  obtain ⟨E, HE⟩ : ∃ z : Int, Hid ((unfrE l : Int) = z) := ⟨_, hid rfl⟩
  obtain ⟨N, HN⟩ : ∃ z : Int, Hid ((if unfrE l = 0 then ((Go.Proofs.YtfalgjdhdgkbfaaGreatDoor.cnt l + 13 : Nat) : Int) else 0) = z) := ⟨_, hid rfl⟩
  obtain ⟨s, HSs⟩ : ∃ z : ByteArray, Hid ((⟨fl.toArray⟩ : ByteArray) = z) := ⟨_, hid rfl⟩
  rw [HFl.out] at HF1 HF2 HFL ⊢
  rw [HN.out, HE.out] at HF1 HF2
  clear h hv hb hT hB hl hn HN HE
  go_enter Tryz.func25, Tryz.ntmps25
  go_wp2_with (first
    | (go_at_call 48; (with_reducible refine HF1.out.mono ?_); rintro e w1 ⟨v1, rfl, hO1, hg1⟩; have HO1 := hid hO1; have HL1 := hid (gbelow hg1); have HB1 : Hid (Below B w w1) := hid ((gbelow hg1).mono HB0.out); have HM1 : Hid (Same 5 w w1) := hid (Same.below (gbelow hg1)); clear hO1 hg1)
    | (go_at_call 65; (refine (HF2.out w1 HB1.out HM1.out).mono ?_); rintro e w2 ⟨v2, rfl, hO2, hg2⟩; have HO2 := hid hO2; have HO1' := hid (HO1.out.keep hg2); have HL2 := hid (gbelow hg2); have HB2 : Hid (Below B w w2) := hid (HB1.out.trans ((gbelow hg2).mono (Nat.le_trans HB0.out HL1.out.size))); have HM2 : Hid (Same 5 w w2) := hid (HM1.out.trans (Same.below (gbelow hg2))); clear hO2 hg2)
    | (go_at_call 40; (refine (((HST.out.item HL1.out (out_own HO1.out) HFL.out).below HL2.out).add (p := (v1, fl)) (by simp) (own_rd5 (out_own HO2.out)) HNn.out).mono ?_); rintro e w3 ⟨rfl, hST3, hb3, hs3⟩; have HST3 := hid hST3; have HB3 : Hid (Below B w w3) := hid (HB2.out.trans hb3); have HM3 : Hid (Same 5 w w3) := hid (HM2.out.trans hs3); have k1 : (convert 28 9 v1).run Tryz.prog w3 = .ok (.string s) w3 := (by rw [← HSs.out]; exact (Rd.own (own_same (out_own HO1'.out) hs3)).convert); have k2 : (convert 28 9 v2).run Tryz.prog w3 = .ok (.string s) w3 := (by rw [← HSs.out]; exact (Rd.own (own_same (out_own HO2.out) hs3)).convert); clear hST3 hb3 hs3)
    | (go_at_call 19; (with_reducible refine (num19_any _ _).mono ?_); rintro e w4 ⟨rfl, hw⟩; have hw' := hw.symm; clear hw; subst hw'))
  go_ret
  exact ⟨rfl, hid ⟨v1, HST3.out, HB3.out, HM3.out⟩⟩
end Go.Proofs.YtfalgjdhdgkbfaaGreatDoor.Bk

namespace Go.Proofs.YtfalgjdhdgkbfaaGreatDoor.Bk
open Go Go.RowKit
open Go.RowKit (wrap32 wrap64)

/-- A row that is lent is a row of the caller's own. -/
theorem Lent.own {w : World} {B : Nat} {v : Value} {l : List UInt8} (h : Lent w B v l) : w.ownsRow B 5 1 v l.length (cb l) := by
  obtain ⟨b, c, rfl, hB, cs, hb, hs, hc, hm, ht⟩ := h
  refine ⟨by rw [cb_length, Nat.mul_one], .inr ⟨b, c, cs, rfl, hB, hb, by omega, hm, by rw [hs, Nat.mul_one], ?_⟩⟩
  have e1 := congrArg (List.take l.length) ht
  rw [List.take_take, Nat.min_eq_left (by omega), cb_append, List.take_append_of_le_length (by rw [cb_length]; exact Nat.le_refl _)] at e1
  rw [Nat.mul_one, e1]
  exact List.take_of_length_le (by rw [cb_length]; exact Nat.le_refl _)

/-- The two last rows of the caller's own, in the other order. -/
theorem ST.swap {w : World} {B bk lt T n : Nat} {a : List Item} {x y : Item} (h : ST w B bk lt T (a ++ [x, y]) n) (hn : n ≤ a.length) : ST w B bk lt T (a ++ [y, x]) n := by
  obtain ⟨A, D, v0, v1, U, gs, ms, vg, vw, xs, h⟩ := h
  have hm : ∀ p, p ∈ a ++ [y, x] → p ∈ a ++ [x, y] := fun p hp => by
    simp only [List.mem_append, List.mem_cons, List.not_mem_nil, or_false] at hp ⊢
    rcases hp with h1 | h1 | h1
    · exact .inl h1
    · exact .inr (.inr h1)
    · exact .inr (.inl h1)
  have ht : (a ++ [y, x]).take n = (a ++ [x, y]).take n := by rw [List.take_append_of_le_length hn, List.take_append_of_le_length hn]
  refine ⟨A, D, v0, v1, U, gs, ms, vg, vw, xs, ⟨⟨h.sl.book, h.sl.ale, h.sl.use, h.sl.u0, h.sl.u1, h.sl.cells, by rw [ht]; exact h.sl.row0, h.sl.ap, fun p hp => h.sl.own p (hm p hp), ?_, fun j g' hj p hp => h.sl.apart j g' hj p (hm p hp), h.sl.hB⟩, h.row1, h.apg, h.apw, ?_, fun q hq p hp => h.wap q hq p (hm p hp), h.wlow, by rw [List.length_append]; omega⟩⟩
  · have := h.sl.alone
    rw [List.pairwise_append] at this ⊢
    obtain ⟨p1, p2, p3⟩ := this
    refine ⟨p1, ?_, fun q hq p hp => p3 q hq p ?_⟩
    · simp only [List.pairwise_cons, List.mem_cons, List.not_mem_nil, or_false, forall_eq, false_imp_iff, implies_true, List.Pairwise.nil, and_true] at p2 ⊢
      exact p2.symm
    · simp only [List.mem_cons, List.not_mem_nil, or_false] at hp ⊢
      exact hp.symm
  · intro i q p hq hp
    have hi : i < xs.length := (List.getElem?_eq_some_iff.1 hq).1
    have hx := h.row1.1
    have e : (a ++ [y, x])[i]? = (a ++ [x, y])[i]? := by rw [List.getElem?_append_left (by omega), List.getElem?_append_left (by omega)]
    exact h.want i q p hq (by rw [← e]; exact hp)

theorem own_but {w w' : World} {B b n : Nat} {u : Value} {xs : List Value} (h : w.ownsRow B 5 1 u n xs) (hb : But w w' b) (hu : u.ownBlock ≠ some b) : w'.ownsRow B 5 1 u n xs := by
  refine ⟨h.1, ?_⟩
  rcases h.2 with h5 | ⟨q, cap, cur, hv, hg', hh, r⟩
  · exact Or.inl h5
  · exact Or.inr ⟨q, cap, cur, hv, hg', by rw [hb.block q (fun e => hu (by rw [hv, e]; rfl))]; exact hh, r⟩
theorem Rd5.but {w w' : World} {b : Nat} {x : Value} {l : List UInt8} (h : Rd5 w x l) (hb : But w w' b) (hx : x.ownBlock ≠ some b) : Rd5 w' x l := by
  obtain ⟨a, c, e, h1, h2⟩ := h
  refine ⟨a, c, e, fun hl => ?_, fun k hk => by rw [hb.size]; exact h2 k hk⟩
  obtain ⟨b', cs, fr, ha, hh, hc⟩ := h1 hl
  exact ⟨b', cs, fr, ha, by rw [hb.block b' (fun k => hx (by rw [e, ha, k]; rfl))]; exact hh, hc⟩

/-- A write into the last row of the caller's own: the rest stands. -/
theorem ST.poke {w w' : World} {B bk lt T n b : Nat} {ps : List Item} {v : Value} {l : List UInt8} (h : ST w B bk lt T (ps ++ [(v, l)]) n) (hn : n ≤ ps.length) (hv : v.ownBlock = some b) (hb : But w w' b) : ST w' B bk lt T ps n := by
  obtain ⟨A, D, v0, v1, U, gs, ms, vg, vw, xs, h⟩ := h
  have ho := (h.sl.own (v, l) (by simp)).1
  obtain ⟨_, _, cs, hcs⟩ := own_block ho hv
  have s : ∀ e, e ≠ 5 → Same e w w' := fun e he => Same.but hcs he hb
  have ne : ∀ u : Value, Apart u v → u.ownBlock ≠ some b := fun u hu => by
    rcases hu with h6 | h6
    · rw [h6]; exact fun k => by cases k
    · rw [hv] at h6; exact h6
  have hal := List.pairwise_append.1 h.sl.alone
  have hm : ∀ p, p ∈ ps → p ∈ ps ++ [(v, l)] := fun p hp => List.mem_append_left _ hp
  have ht : (ps ++ [(v, l)]).take n = ps.take n := by rw [List.take_append_of_le_length hn]
  refine ⟨A, D, v0, v1, U, gs, ms, vg, vw, xs, ⟨⟨h.sl.book.other hcs hb (fun j g' hj => ne g' (h.sl.apart j g' hj (v, l) (by simp))), h.sl.ale, h.sl.use, h.sl.u0, h.sl.u1, lt_same h.sl.cells (s 62 (by decide)), ?_, h.sl.ap, fun p hp => ⟨own_but (h.sl.own p (hm p hp)).1 hb (ne _ (hal.2.2 p hp (v, l) (by simp))), (h.sl.own p (hm p hp)).2⟩, hal.1, fun j g' hj p hp => h.sl.apart j g' hj p (hm p hp), ⟨h.sl.hB.1, h.sl.hB.2.1, by rw [hb.size]; exact h.sl.hB.2.2⟩⟩, own_same h.row1 (s 28 (by decide)), h.apg, h.apw, ?_, fun q hq p hp => h.wap q hq p (hm p hp), fun q hq k hk => by rw [hb.size]; exact h.wlow q hq k hk, hn⟩⟩
  · have := own_same h.sl.row0 (s 28 (by decide))
    rw [ht] at this
    exact this
  · intro i q p hq hp
    have hi : i < ps.length := (List.getElem?_eq_some_iff.1 hp).1
    exact (h.want i q p hq (by rw [List.getElem?_append_left hi]; exact hp)).but hb (ne q (h.wap q (List.mem_of_getElem? hq) (v, l) (by simp)))

set_option maxRecDepth 100000 in
set_option maxHeartbeats 1600000 in
theorem into2_any (w : World) (B H : Nat) (v b : Value) (l l' : List UInt8) (hv : Lent w B v l) (ho : w.ownsRow H 5 1 b l'.length (cb l')) (hne : Apart b v) (hl' : l'.length = l.length) (hl : l.length ≤ 2097152) :
    Calls Tryz.prog 24 #[v, b] w fun e w' => e = .returned (.tuple #[]) ∧ Hid (Lent w' B v l' ∧ w'.ownsRow H 5 1 b l'.length (cb l') ∧ ∃ q, v.ownBlock = some q ∧ But w w' q) := by
  have hv0 := hv
  obtain ⟨bv, cv, hvv, hBv, _⟩ := hv
  subst hvv
  obtain ⟨ab, cbb, hbv⟩ := own_shape' ho
  subst hbv
  have hv : Lent w B (.slice (some ⟨bv, 0, none⟩) l.length cv) l := hv0
  clear hv0
  obtain ⟨m, HM⟩ : ∃ m : Nat, Hid (l.length = m) := ⟨_, hid rfl⟩
  have hm2 : l'.length = m := by rw [hl', HM.out]
  have HV := hid hv
  have HO := hid ho
  have HNE := hid hne
  have HL := hid hl'
  rw [HM.out] at hl ⊢ 
  rw [hm2]
  have HM2 := hid hm2
  obtain ⟨x, hx⟩ : ∃ x : Int, (m : Int) = x := ⟨_, rfl⟩
  have hx0 : 0 ≤ x := by omega
  have hx1 : x ≤ 2097152 := by omega
  have HX := hid hx
  clear hv ho hne hl' hm2
  go_enter Tryz.func24, Tryz.ntmps24
  go_wp2
  go_loopw [4] (fun iv wr => ∃ i : Nat, iv = .int .i64 i ∧ i ≤ 2097152 ∧ Hid (i ≤ m) ∧ Hid (Lent wr B (.slice (some ⟨bv, 0, none⟩) (l'.take i ++ l.drop i).length cv) (l'.take i ++ l.drop i)) ∧ Hid (wr.ownsRow H 5 1 (.slice ab m cbb) m (cb l')) ∧ Hid (But w wr bv)) (fun iv _ => m - (intOf iv).toNat)
  case atStart => exact ⟨0, rfl, by omega, hid (Nat.zero_le _), hid (by simpa using HV.out), hid (by have := HO.out; rw [HM2.out] at this; exact this), hid (But.refl _ _)⟩
  case round =>
    as_aux_lemma =>
    clear HV HO
    obtain ⟨i, rfl, hi, HI, HV, HO, HF⟩ := hrel
    have hlen : (l'.take i ++ l.drop i).length = m := by rw [List.length_append, List.length_take, List.length_drop]; have := HI.out; have := HM.out; have := HM2.out; omega
    have HLEN := hid hlen
    clear hlen
    by_cases hlt : i < m
    · have hlt' : (i : Int) < x := by have := HX.out; omega
      have hil : i < l.length := by have := HM.out; omega
      have hil' : i < l'.length := by have := HM2.out; omega
      obtain ⟨bb, hab, hbb, hHb, _, hcell⟩ := own_cells HO.out (by omega)
      subst hab
      have hck := hcell i hlt
      have hck2 : (cb l')[i]? = some (.int .u8 (l'[i].toNat : Int)) := by simp [cb, List.getElem?_eq_getElem hil']
      rw [hck2] at hck
      obtain ⟨u, HU⟩ : ∃ u : UInt8, Hid (l'[i] = u) := ⟨_, hid rfl⟩
      rw [HU.out] at hck
      have hvc : ∃ q, wr.cell? ⟨bv, i, none⟩ = some q := by
        have h9 := HV.out.rd
        obtain ⟨a9, b9, o9, c9, e9, _, _, ha9, hc9⟩ := h9
        have h10 := hc9 i (by rw [HLEN.out]; exact hlt)
        have h11 := (ha9 (by rw [HLEN.out]; omega)).1
        simp only [Value.slice.injEq] at e9
        rw [← e9.1] at h11
        have h12 : bv = b9 ∧ 0 = o9 := by simpa using h11
        obtain ⟨rfl, rfl⟩ := h12
        rw [Nat.zero_add] at h10
        exact ⟨_, h10⟩
      obtain ⟨q, hq⟩ := hvc
      have hblk : ∃ cs, wr.heap[bv]? = some (.cells cs 5 (0, 0)) := by
        obtain ⟨b9, c9, e9, _, cs, hcs, _⟩ := HV.out
        have h12 : bv = b9 := by simp at e9; exact e9.1
        subst h12
        exact ⟨cs, hcs⟩
      obtain ⟨cs, hcs⟩ := hblk
      have hfz : wr.frozen? ⟨bv, i, none⟩ = false := by simp [World.frozen?, hcs]
      have hbvl : bv < wr.heap.size := (Array.getElem?_eq_some_iff.1 hcs).1
      have HCS := hid hcs
      clear hcell hck2 hcs
      go_wp2
      have hbut : But wr (wr.setCell ⟨bv, i, none⟩ (.int .u8 u.toNat)) bv := But.setCell _ _ _ _
      have hv9 : Lent wr B (.slice (some ⟨bv, 0, none⟩) (l'.take i ++ l.drop i).length cv) (l'.take i ++ l.drop i) := HV.out
      refine ⟨⟨i + 1, by go_num, by omega, hid (by omega), hid ?_, hid ?_, hid (HF.out.trans hbut)⟩, by simp [intOf]; omega⟩
      · rw [← set_step l l' i hil HL.out, HU.out]
        exact hv9.set (by rw [HLEN.out]; exact hlt) u
      · have hO := HO.out
        refine ⟨hO.1, ?_⟩
        rcases hO.2 with h9 | ⟨g, cap, cur, hg, hgB, hgh, r⟩
        · exact Or.inl h9
        · refine Or.inr ⟨g, cap, cur, hg, hgB, ?_, r⟩
          have hgb : g ≠ bv := by
            intro k
            have h12 : bb = g := by simp at hg; exact hg.1
            rcases HNE.out with h13 | h13
            · cases h13
            · exact h13 (by show some bb = some bv; rw [h12, k])
          rw [hbut.block g hgb]
          exact hgh
    · have hge : x ≤ (i : Int) := by have := HX.out; omega
      have him : i = m := by have := HI.out; omega
      go_wp2
      go_end0
      refine ⟨rfl, hid ⟨?_, ?_, bv, rfl, HF.out⟩⟩
      · have h9 := HV.out
        rw [him] at h9
        have e1 : l'.take m ++ l.drop m = l' := by rw [← HM2.out, List.take_length, HM2.out, ← HM.out, List.drop_length, List.append_nil]
        rw [e1, HM2.out] at h9
        exact h9
      · exact HO.out
end Go.Proofs.YtfalgjdhdgkbfaaGreatDoor.Bk
