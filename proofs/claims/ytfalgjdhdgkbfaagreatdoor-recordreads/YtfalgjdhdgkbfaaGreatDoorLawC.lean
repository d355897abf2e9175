/- The walks of texts and markAt. -/
import Derived.Test.YtfalgjdhdgkbfaaGreatDoorLateC
namespace Go.Proofs.YtfalgjdhdgkbfaaGreatDoor.Bk
open Go Go.RowKit
open Go.RowKit (wrap32 wrap64)

/-- Mark i behind what is lent. -/
def mkA (i : Nat) : UInt8 := UInt8.ofNat (165 - i)

set_option maxRecDepth 100000 in
theorem markAt_any (i : Nat) (w : World) (hi : i < 70) : Calls Tryz.prog 49 #[.int .i64 i] w fun e w' => e = .returned (.int .u8 (mkA i).toNat) ∧ w' = w := by
  have e : ((mkA i).toNat : Int) = 165 - (i : Int) := by
    unfold mkA
    rw [UInt8.toNat_ofNat']
    omega
  rw [e]
  clear e
  go_enter Tryz.func49, Tryz.ntmps49
  go_wp2
  go_ret
  exact ⟨rfl, rfl⟩

def mkL (n : Nat) : List UInt8 := (List.range n).map mkA
theorem mkL_length (n : Nat) : (mkL n).length = n := by simp [mkL]
theorem mkL_succ (n : Nat) : mkL (n + 1) = mkL n ++ [mkA n] := by simp [mkL, List.range_succ]

/-- What is lent: the bytes, marks behind them, in a row of one's own. -/
def Lent (w : World) (B : Nat) (v : Value) (l : List UInt8) : Prop :=
  ∃ (b c : Nat), v = .slice (some ⟨b, 0, none⟩) l.length c ∧ B ≤ b ∧ ∃ cs : Array Value, w.heap[b]? = some (.cells cs 5 (0, 0)) ∧ cs.size = c ∧ l.length + 70 ≤ c ∧ c ≤ maxLen ∧ cs.toList.take (l.length + 70) = cb (l ++ mkL 70)

theorem Lent.rd {w : World} {B : Nat} {v : Value} {l : List UInt8} (h : Lent w B v l) : Rd w v l := by
  obtain ⟨b, c, rfl, _, cs, hb, hs, hc, _, ht⟩ := h
  refine ⟨_, b, 0, c, rfl, by omega, (fun h => by cases h), fun _ => ⟨rfl, (Array.getElem?_eq_some_iff.1 hb).1⟩, fun i hi => ?_⟩
  rw [Nat.zero_add]
  refine cell_of hb ?_
  have h1 : (cb (l ++ mkL 70))[i]? = some (.int .u8 l[i].toNat) := by
    simp only [cb, List.map_append]
    rw [List.getElem?_append_left (by simpa using hi)]
    simp [List.getElem?_eq_getElem hi]
  rw [← ht, List.getElem?_take, if_pos (by omega)] at h1
  simpa using h1

theorem Lent.mark {w : World} {B : Nat} {v : Value} {l : List UInt8} (h : Lent w B v l) : ∃ (b c : Nat), v = .slice (some ⟨b, 0, none⟩) l.length c ∧ b < w.heap.size ∧ l.length + 70 ≤ c ∧ ∀ i, i < 70 → w.cell? ⟨b, l.length + i, none⟩ = some (.int .u8 (mkA i).toNat) := by
  obtain ⟨b, c, rfl, _, cs, hb, hs, hc, _, ht⟩ := h
  refine ⟨b, c, rfl, (Array.getElem?_eq_some_iff.1 hb).1, hc, fun i hi => cell_of hb ?_⟩
  have h1 : (cb (l ++ mkL 70))[l.length + i]? = some (.int .u8 (mkA i).toNat) := by
    simp [cb, mkL, hi]
  rw [← ht, List.getElem?_take, if_pos (by omega)] at h1
  simpa using h1

theorem Lent.below {w w' : World} {B : Nat} {v : Value} {l : List UInt8} (h : Lent w B v l) (hb : Below w.heap.size w w') : Lent w' B v l := by
  obtain ⟨b, c, rfl, hB, cs, hbk, r⟩ := h
  exact ⟨b, c, rfl, hB, cs, by rw [hb.block b (Array.getElem?_eq_some_iff.1 hbk).1]; exact hbk, r⟩
end Go.Proofs.YtfalgjdhdgkbfaaGreatDoor.Bk

/- The walks of Lend, Intact, Other and Into. -/
namespace Go.Proofs.YtfalgjdhdgkbfaaGreatDoor.Bk
open Go Go.RowKit
open Go.RowKit (wrap32 wrap64)

set_option maxRecDepth 100000 in
set_option maxHeartbeats 1600000 in
theorem lend_any (w : World) (b : Value) (l : List UInt8) (hb : Rd w b l) (hl : l.length ≤ 2097152) :
    Calls Tryz.prog 11 #[b] w fun e w' => ∃ v, e = .returned v ∧ Lent w' w.heap.size v l ∧ Below w.heap.size w w' := by
  obtain ⟨inf, hi, hz0, hz1, hz2⟩ := info_parts Tryz.info5
  have R := hid hb
  obtain ⟨ab, bb, offb, cbb, hbv, _⟩ := hb
  subst hbv
  obtain ⟨m, HM⟩ : ∃ m : Nat, Hid (l.length = m) := ⟨_, hid rfl⟩
  rw [HM.out] at hl ⊢
  have HR := R
  rw [HM.out] at HR
  clear R
  go_enter Tryz.func11, Tryz.ntmps11
  go_wp2_with (at_make; refine wpList_make_own _ rfl _ _ 28 rfl w.heap.size 5 inf (.int .u8 0) 1 Tryz.underlying28 hi hz0 hz1 _ _ _ (m + 70) rfl rfl (by omega) (by rw [hz2]; omega) (by unfold maxLen; omega) (Nat.le_refl _) ?_)
  intro w1 hown1 hg1
  have hb1 : Below w.heap.size w w1 := (Below.refl _ _).grown hg1 (Nat.le_refl _) (fun k h => by cases h)
  have R1 := hid (HR.out.below hb1)
  have HB1 := hid hb1
  have hs1 := hb1.size
  clear hb1 hg1 HR
  go_wp2_with (at_builtin; refine wpList_append_rd rfl (.tmp 9) (.tmp 10) rfl w.heap.size _ 0 _ rfl hown1 l R1.out (by have := HM.out; omega) hs1 ?_)
  intro v2 w2 hown2 hg2
  have HO : Hid (w2.ownsRow w.heap.size 5 1 v2 (m + 0) (cb (l ++ mkL 0))) := hid (by
    have h9 := hown2
    rw [HM.out] at h9
    simpa [mkL, Nat.add_comm] using h9)
  have HB : Hid (Below w.heap.size w w2) := hid (HB1.out.grown hg2 hs1 (fun k hk => (hown1.lt k hk).1))
  clear hown1 hown2 hg2 R1 HB1 hs1
  go_wp2
  go_loopw [3, 4] (fun tv iv wr => ∃ i : Nat, iv = .int .i64 i ∧ i ≤ 70 ∧ Hid (wr.ownsRow w.heap.size 5 1 tv (m + i) (cb (l ++ mkL i))) ∧ Hid (Below w.heap.size w wr)) (fun _ iv _ => 70 - (intOf iv).toNat)
  case atStart => exact ⟨0, rfl, by omega, HO, HB⟩
  case round =>
    as_aux_lemma =>
    clear HO HB
    obtain ⟨i, rfl, hi70, HO, HB⟩ := hrel
    by_cases hlt : i < 70
    · have hlt' : (i : Int) < 70 := by omega
      have hat := fun w => markAt_any i w hlt
      obtain ⟨u, HU⟩ : ∃ u : UInt8, Hid (mkA i = u) := ⟨_, hid rfl⟩
      rw [HU.out] at hat
      have HAT := hid hat
      have hown := HO.out
      have hsz := HB.out.size
      clear hat
      go_wp2_with (first | (go_at_call 49; refine (HAT.out _).mono ?_; rintro e w' ⟨rfl, hw⟩; have hw' := hw.symm; clear hw; subst hw') | (at_builtin; refine wpList_append_own _ rfl _ _ 28 rfl w.heap.size 5 inf (.int .u8 0) 1 1 Tryz.underlying28 hi hz0 hz1 hz2 rfl (by decide) u3 (m + i) _ rfl (hown.alloc _) ⟨wr.heap.size, 0, none⟩ 1 1 (cb [u]) rfl rfl ?hnews ?hone ?h63 ?hbytes ?hbase ?_))
      case hnews => exact fun j u hu => news_new wr _ _ j u hu
      case hone => intro u hu; simp [cb] at hu; rcases hu with rfl; rfl
      case h63 => unfold maxLen; omega
      case hbytes => omega
      case hbase => simp; omega
      intro v' w3 hown3 hg3 hnil
      go_wp2
      refine ⟨⟨i + 1, by go_num, by omega, hid ?_, hid ((HB.out.alloc hsz _).grown hg3 (by simp; omega) (fun j hj => (hown.lt j hj).1))⟩, by simp [intOf]; omega⟩
      rw [mkL_succ, ← List.append_assoc, cb_append, HU.out]
      exact hown3
    · have hge : (70 : Int) ≤ i := by omega
      have he : i = 70 := by omega
      subst he
      obtain ⟨b, cap, cur, hv, hBb, hg, hle, hmx, hs, ht⟩ : ∃ b cap cur, u3 = .slice (some ⟨b, 0, none⟩) (m + 70) cap ∧ w.heap.size ≤ b ∧ wr.heap[b]? = some (.cells cur 5 (0, 0)) ∧ m + 70 ≤ cap ∧ cap ≤ maxLen ∧ cur.size = cap * 1 ∧ cur.toList.take ((m + 70) * 1) = cb (l ++ mkL 70) := by
        rcases HO.out.2 with ⟨_, h9⟩ | h9
        · omega
        · exact h9
      subst hv
      have hcm : (m : Int) ≤ (cap : Int) := by omega
      have HF := hid (And.intro hBb (And.intro hg (And.intro hle (And.intro hmx (And.intro hs ht)))))
      clear hBb hg hmx hs ht
      go_wp2
      go_ret
      obtain ⟨hBb, hg, hle, hmx, hs, ht⟩ := HF.out
      refine ⟨.slice (some ⟨b, 0, none⟩) m cap, rfl, ⟨b, cap, by rw [HM.out], hBb, cur, hg, by omega, by rw [HM.out]; exact hle, hmx, ?_⟩, HB.out⟩
      rw [HM.out]
      rw [Nat.mul_one] at ht
      exact ht

set_option maxRecDepth 100000 in
set_option maxHeartbeats 1600000 in
theorem intact_any (w : World) (B : Nat) (v b : Value) (l : List UInt8) (hv : Lent w B v l) (hb : Rd w b l) (hl : l.length ≤ 2097152) :
    Calls Tryz.prog 14 #[v, b] w fun e w' => e = .returned (.bool true) ∧ ∃ k, w' = w.drewN k := by
  have k1 := hv.rd.convert
  have k2 := hb.convert
  obtain ⟨s, HS⟩ : ∃ s, Hid ((⟨l.toArray⟩ : ByteArray) = s) := ⟨_, hid rfl⟩
  rw [HS.out] at k1 k2
  obtain ⟨bb, c, rfl, hbb, hc, hm⟩ := hv.mark
  obtain ⟨m, HM⟩ : ∃ m : Nat, Hid (l.length = m) := ⟨_, hid rfl⟩
  rw [HM.out] at hl hc hm k1 ⊢
  have HMK := hid hm
  have hc' : (m : Int) + 70 ≤ (c : Int) := by omega
  clear hm hv hb
  go_enter Tryz.func14, Tryz.ntmps14
  go_wp2
  go_loopw [6] (fun iv wr => ∃ i : Nat, iv = .int .i64 i ∧ i ≤ 70 ∧ ∃ k, Hid (wr = w.drewN k)) (fun iv _ => 70 - (intOf iv).toNat)
  case atStart => exact ⟨0, rfl, by omega, 0, hid rfl⟩
  case round =>
    as_aux_lemma =>
    obtain ⟨i, rfl, hi, d, HD⟩ := hrel
    by_cases hlt : i < 70
    · have hlt' : (i : Int) < 70 := by omega
      have q : wr.cell? ⟨bb, m + i, none⟩ = some (.int .u8 (mkA i).toNat) := by rw [HD.out]; exact HMK.out i hlt
      have hat := fun w => markAt_any i w hlt
      obtain ⟨y, HY⟩ : ∃ y : Int, Hid (((mkA i).toNat : Int) = y) := ⟨_, hid rfl⟩
      rw [HY.out] at q hat
      have HAT := hid hat
      have rb : bb < wr.heap.size := by rw [HD.out]; exact hbb
      clear hat
      go_wp2
      go_quiet ((go_at_call 49; exact Calls.quiet_of_same (HAT.out _)))
      rename_i nq
      go_wp2
      refine ⟨⟨i + 1, by go_num, by omega, d + nq, hid (by rw [HD.out, World.drewN_drewN])⟩, by simp [intOf]; omega⟩
    · have hge : (70 : Int) ≤ i := by omega
      go_wp2
      go_ret
      exact ⟨rfl, d, HD.out⟩
end Go.Proofs.YtfalgjdhdgkbfaaGreatDoor.Bk
