/- The walks of Other and Into. -/
import Derived.Test.YtfalgjdhdgkbfaaGreatDoorLawC
namespace Go.Proofs.YtfalgjdhdgkbfaaGreatDoor.Bk
open Go Go.RowKit
open Go.RowKit (wrap32 wrap64)

theorem xor_u8 (x : UInt8) : ∃ u : UInt8, Go.bits .xor .u8 (x.toNat : Int) 1 = (u.toNat : Int) := by
  have h : ∀ n : Fin 256, 0 ≤ Go.bits .xor .u8 (n.val : Int) 1 ∧ Go.bits .xor .u8 (n.val : Int) 1 < 256 := by decide +kernel
  have h2 := h ⟨x.toNat, x.toNat_lt⟩
  refine ⟨UInt8.ofNat (Go.bits .xor .u8 (x.toNat : Int) 1).toNat, ?_⟩
  rw [UInt8.toNat_ofNat']
  simp only at h2
  omega

theorem cb_set (l : List UInt8) (j : Nat) (u : UInt8) : (cb l).set j (.int .u8 u.toNat) = cb (l.set j u) := by
  simp [cb, List.map_set]

set_option maxRecDepth 100000 in
set_option maxHeartbeats 1600000 in
theorem other_any (w : World) (b : Value) (l : List UInt8) (hb : Rd w b l) (hl : l.length ≤ 2097152) :
    Calls Tryz.prog 23 #[b] w fun e w' => ∃ v, e = .returned v ∧ Hid (∃ l', l'.length = l.length ∧ w'.ownsRow w.heap.size 5 1 v l'.length (cb l') ∧ Below w.heap.size w w') := by
  obtain ⟨inf, hi, hz0, hz1, hz2⟩ := info_parts Tryz.info5
  have R := hid hb
  obtain ⟨ab, bb, offb, cbb, hbv, _, _, ha, hcell⟩ := hb
  subst hbv
  obtain ⟨m, HM⟩ : ∃ m : Nat, Hid (l.length = m) := ⟨_, hid rfl⟩
  have HA := hid ha
  have HC := hid hcell
  rw [HM.out] at hl ⊢
  rw [HM.out] at R
  clear ha hcell
  obtain ⟨x, hx⟩ : ∃ x : Int, (m : Int) = x := ⟨_, rfl⟩
  have hx0 : 0 ≤ x := by omega
  have hx1 : x ≤ 2097152 := by omega
  have HX := hid hx
  go_enter Tryz.func23, Tryz.ntmps23
  go_wp2
  go_loopw [3, 4] (fun tv iv wr => ∃ (i : Nat) (z : Int) (l' : List UInt8), iv = .int .i64 z ∧ -1 ≤ z ∧ z < x ∧ i ≤ 2097152 ∧ Hid (z + 1 + (i : Int) = x ∧ l'.length = i) ∧ Hid (wr.ownsRow w.heap.size 5 1 tv i (cb l')) ∧ Hid (Below w.heap.size w wr)) (fun _ iv _ => (intOf iv + 1).toNat)
  case atStart => exact ⟨0, x - 1, [], by go_num, by omega, by omega, by omega, hid ⟨by omega, rfl⟩, hid (World.ownsRow_nil w _ 5 1), hid (Below.refl _ _)⟩
  case round =>
    as_aux_lemma =>
    obtain ⟨i, z, l', rfl, hz0', hz1', hi1, HI, HO, HB⟩ := hrel
    by_cases hz : 0 ≤ z
    · obtain ⟨j, rfl⟩ : ∃ j : Nat, z = (j : Int) := ⟨z.toNat, by omega⟩
      have hjl : j < l.length := by have := HM.out; have := HX.out; omega
      obtain ⟨rfl, hbw⟩ := HA.out (by omega)
      have hck := HC.out j hjl
      rw [← HB.out.cell (p := ⟨bb, offb + j, none⟩) hbw] at hck
      have hbw2 : bb < wr.heap.size := Nat.lt_of_lt_of_le hbw HB.out.size
      obtain ⟨u, HU⟩ : ∃ u : UInt8, Hid (l[j] = u) := ⟨_, hid rfl⟩
      rw [HU.out] at hck
      have hown := HO.out
      have hsz := HB.out.size
      go_wp2_with (at_builtin; refine wpList_append_own _ rfl _ _ 28 rfl w.heap.size 5 inf (.int .u8 0) 1 1 Tryz.underlying28 hi hz0 hz1 hz2 rfl (by decide) u3 i _ rfl (hown.alloc _) ⟨wr.heap.size, 0, none⟩ 1 1 (cb [u]) rfl rfl ?hnews ?hone ?h63 ?hbytes ?hbase ?_)
      case hnews => first | exact fun j u hu => news_new wr _ _ j u hu | exact fun j u hu => hu
      case hone => intro u hu; simp [cb] at hu; rcases hu with rfl; rfl
      case h63 => unfold maxLen; omega
      case hbytes => omega
      case hbase => first | (simp; omega) | omega
      intro v' w3 hown3 hg3 hnil
      go_wp2
      refine ⟨⟨i + 1, (j : Int) - 1, l' ++ [u], by go_num, by omega, by omega, by have := HI.out; omega, hid ⟨by have := HI.out; omega, by rw [List.length_append, HI.out.2]; rfl⟩, hid ?_, hid ((HB.out.alloc hsz _).grown hg3 (by simp; omega) (fun j hj => (hown.lt j hj).1))⟩, by simp [intOf]⟩
      rw [cb_append]
      exact hown3
    · have hz3 : z = -1 := by omega
      subst hz3
      have him : i = m := by have := HI.out; have := HX.out; omega
      subst him
      obtain ⟨a3, c3, hv3⟩ := own_shape' HO.out
      subst hv3
      rcases Nat.eq_zero_or_pos i with h0 | h0
      · have hx00 : x = 0 := by have := HX.out; omega
        clear h0
        go_wp2
        go_ret
        exact ⟨.slice a3 i c3, rfl, hid ⟨l', HI.out.2, by rw [HI.out.2]; exact HO.out, HB.out⟩⟩
      · have hxp : 0 < x := by have := HX.out; omega
        have k1 := (Rd.own HO.out).convert
        have k2 : (convert 28 9 (.slice ab i cbb)).run Tryz.prog wr = .ok (.string ⟨l.toArray⟩) wr := (R.out.below HB.out).convert
        obtain ⟨s1, HS1⟩ : ∃ s, Hid ((⟨l'.toArray⟩ : ByteArray) = s) := ⟨_, hid rfl⟩
        obtain ⟨s2, HS2⟩ : ∃ s, Hid ((⟨l.toArray⟩ : ByteArray) = s) := ⟨_, hid rfl⟩
        rw [HS1.out] at k1
        rw [HS2.out] at k2
        cases hq : (s1.toList == s2.toList) with
        | false =>
          go_wp2
          go_ret
          exact ⟨.slice a3 i c3, rfl, hid ⟨l', HI.out.2, by rw [HI.out.2]; exact HO.out, HB.out⟩⟩
        | true =>
          obtain ⟨b3, ha3, hb3, hB3, _, hcell3⟩ := own_cells HO.out h0
          subst ha3
          obtain ⟨j, rfl⟩ : ∃ j : Nat, i = j + 1 := ⟨i - 1, by omega⟩
          have hj : j < l'.length := by have := HI.out.2; omega
          have hck : wr.cell? ⟨b3, j, none⟩ = some (.int .u8 (l'[j].toNat : Int)) := by
            rw [hcell3 j (by omega)]
            simp [cb, List.getElem?_eq_getElem hj]
          obtain ⟨u, hxu⟩ := xor_u8 l'[j]
          obtain ⟨y, HY⟩ : ∃ y : Int, Hid ((l'[j].toNat : Int) = y) := ⟨_, hid rfl⟩
          rw [HY.out] at hck hxu
          have hfz := HO.out.frozenAt j
          clear hcell3
          have hxj : x = (j : Int) + 1 := by have := HX.out; omega
          clear hx
          subst hxj
          go_wp2
          go_ret
          have hst := HO.out.stored j (.int .u8 u.toNat)
          refine ⟨_, rfl, hid ⟨l'.set j u, by rw [List.length_set]; exact HI.out.2, ?_, HB.out.setCell hB3 _⟩⟩
          rw [← cb_set, List.length_set, HI.out.2]
          exact hst.1
end Go.Proofs.YtfalgjdhdgkbfaaGreatDoor.Bk

/- The walk of Into. -/
namespace Go.Proofs.YtfalgjdhdgkbfaaGreatDoor.Bk
open Go Go.RowKit
open Go.RowKit (wrap32 wrap64)

theorem set_step (l l' : List UInt8) (i : Nat) (hi : i < l.length) (hl : l'.length = l.length) : (l'.take i ++ l.drop i).set i (l'[i]'(by omega)) = l'.take (i + 1) ++ l.drop (i + 1) := by
  have hi' : i < l'.length := by omega
  rw [List.drop_eq_getElem_cons hi, List.take_succ_eq_append_getElem hi', List.append_assoc]
  rw [List.set_append_right _ _ (by rw [List.length_take]; omega)]
  have e : i - (List.take i l').length = 0 := by rw [List.length_take]; omega
  rw [e]
  rfl

theorem Lent.set {w : World} {B b c i : Nat} {l : List UInt8} (h : Lent w B (.slice (some ⟨b, 0, none⟩) l.length c) l) (hi : i < l.length) (u : UInt8) : Lent (w.setCell ⟨b, i, none⟩ (.int .u8 u.toNat)) B (.slice (some ⟨b, 0, none⟩) (l.set i u).length c) (l.set i u) := by
  obtain ⟨b', c', hv, hB, cs, hb, hs, hc, hm, ht⟩ := h
  have hv2 : b = b' ∧ c = c' := by simpa using hv
  obtain ⟨rfl, rfl⟩ := hv2
  refine ⟨b, c, rfl, hB, cs.setIfInBounds i (.int .u8 u.toNat), ?_, by simpa using hs, by rw [List.length_set]; exact hc, hm, ?_⟩
  · simp [World.setCell, Array.getElem?_modify, hb]
  · rw [List.length_set, Array.toList_setIfInBounds, List.take_set, ht, cb_set, List.set_append_left _ _ hi]

set_option maxRecDepth 100000 in
set_option maxHeartbeats 1600000 in
theorem into_any (w : World) (B H : Nat) (v b : Value) (l l' : List UInt8) (hv : Lent w B v l) (ho : w.ownsRow H 5 1 b l'.length (cb l')) (hne : Apart b v) (hl' : l'.length = l.length) (hl : l.length ≤ 2097152) :
    Calls Tryz.prog 24 #[v, b] w fun e w' => e = .returned (.tuple #[]) ∧ Hid (Lent w' B v l' ∧ w'.ownsRow H 5 1 b l'.length (cb l') ∧ Below B w w' ∧ ∀ e, e ≠ 5 → Same e w w') := by
  have hv0 := hv
  obtain ⟨bv, cv, hvv, hBv, _⟩ := hv
  subst hvv
  obtain ⟨ab, cbb, hbv⟩ := own_shape' ho
  subst hbv
  have hv : Lent w B (.slice (some ⟨bv, 0, none⟩) l.length cv) l := hv0
  clear hv0
  obtain ⟨m, HM⟩ : ∃ m : Nat, Hid (l.length = m) := ⟨_, hid rfl⟩
  have hm2 : l'.length = m := by rw [hl', HM.out]
  have HV := hid hv
  have HO := hid ho
  have HNE := hid hne
  have HL := hid hl'
  rw [HM.out] at hl ⊢ 
  rw [hm2]
  have HM2 := hid hm2
  obtain ⟨x, hx⟩ : ∃ x : Int, (m : Int) = x := ⟨_, rfl⟩
  have hx0 : 0 ≤ x := by omega
  have hx1 : x ≤ 2097152 := by omega
  have HX := hid hx
  clear hv ho hne hl' hm2
  go_enter Tryz.func24, Tryz.ntmps24
  go_wp2
  go_loopw [4] (fun iv wr => ∃ i : Nat, iv = .int .i64 i ∧ i ≤ 2097152 ∧ Hid (i ≤ m) ∧ Hid (Lent wr B (.slice (some ⟨bv, 0, none⟩) (l'.take i ++ l.drop i).length cv) (l'.take i ++ l.drop i)) ∧ Hid (wr.ownsRow H 5 1 (.slice ab m cbb) m (cb l')) ∧ Hid (Below B w wr ∧ ∀ e, e ≠ 5 → Same e w wr)) (fun iv _ => m - (intOf iv).toNat)
  case atStart => exact ⟨0, rfl, by omega, hid (Nat.zero_le _), hid (by simpa using HV.out), hid (by have := HO.out; rw [HM2.out] at this; exact this), hid ⟨Below.refl _ _, fun e _ => Same.refl _ _⟩⟩
  case round =>
    as_aux_lemma =>
    clear HV HO
    obtain ⟨i, rfl, hi, HI, HV, HO, HF⟩ := hrel
    have hlen : (l'.take i ++ l.drop i).length = m := by rw [List.length_append, List.length_take, List.length_drop]; have := HI.out; have := HM.out; have := HM2.out; omega
    have HLEN := hid hlen
    clear hlen
    by_cases hlt : i < m
    · have hlt' : (i : Int) < x := by have := HX.out; omega
      have hil : i < l.length := by have := HM.out; omega
      have hil' : i < l'.length := by have := HM2.out; omega
      obtain ⟨bb, hab, hbb, hHb, _, hcell⟩ := own_cells HO.out (by omega)
      subst hab
      have hck := hcell i hlt
      have hck2 : (cb l')[i]? = some (.int .u8 (l'[i].toNat : Int)) := by simp [cb, List.getElem?_eq_getElem hil']
      rw [hck2] at hck
      obtain ⟨u, HU⟩ : ∃ u : UInt8, Hid (l'[i] = u) := ⟨_, hid rfl⟩
      rw [HU.out] at hck
      have hvc : ∃ q, wr.cell? ⟨bv, i, none⟩ = some q := by
        have h9 := HV.out.rd
        obtain ⟨a9, b9, o9, c9, e9, _, _, ha9, hc9⟩ := h9
        have h10 := hc9 i (by rw [HLEN.out]; exact hlt)
        have h11 := (ha9 (by rw [HLEN.out]; omega)).1
        simp only [Value.slice.injEq] at e9
        rw [← e9.1] at h11
        have h12 : bv = b9 ∧ 0 = o9 := by simpa using h11
        obtain ⟨rfl, rfl⟩ := h12
        rw [Nat.zero_add] at h10
        exact ⟨_, h10⟩
      obtain ⟨q, hq⟩ := hvc
      have hblk : ∃ cs, wr.heap[bv]? = some (.cells cs 5 (0, 0)) := by
        obtain ⟨b9, c9, e9, _, cs, hcs, _⟩ := HV.out
        have h12 : bv = b9 := by simp at e9; exact e9.1
        subst h12
        exact ⟨cs, hcs⟩
      obtain ⟨cs, hcs⟩ := hblk
      have hfz : wr.frozen? ⟨bv, i, none⟩ = false := by simp [World.frozen?, hcs]
      have hbvl : bv < wr.heap.size := (Array.getElem?_eq_some_iff.1 hcs).1
      have HCS := hid hcs
      clear hcell hck2 hcs
      go_wp2
      have hbut : But wr (wr.setCell ⟨bv, i, none⟩ (.int .u8 u.toNat)) bv := But.setCell _ _ _ _
      have hv9 : Lent wr B (.slice (some ⟨bv, 0, none⟩) (l'.take i ++ l.drop i).length cv) (l'.take i ++ l.drop i) := HV.out
      refine ⟨⟨i + 1, by go_num, by omega, hid (by omega), hid ?_, hid ?_, hid ⟨HF.out.1.trans (hbut.below hBv), fun e he => (HF.out.2 e he).trans (Same.but HCS.out he hbut)⟩⟩, by simp [intOf]; omega⟩
      · rw [← set_step l l' i hil HL.out, HU.out]
        exact hv9.set (by rw [HLEN.out]; exact hlt) u
      · have hO := HO.out
        refine ⟨hO.1, ?_⟩
        rcases hO.2 with h9 | ⟨g, cap, cur, hg, hgB, hgh, r⟩
        · exact Or.inl h9
        · refine Or.inr ⟨g, cap, cur, hg, hgB, ?_, r⟩
          have hgb : g ≠ bv := by
            intro k
            have h12 : bb = g := by simp at hg; exact hg.1
            rcases HNE.out with h13 | h13
            · cases h13
            · exact h13 (by show some bb = some bv; rw [h12, k])
          rw [hbut.block g hgb]
          exact hgh
    · have hge : x ≤ (i : Int) := by have := HX.out; omega
      have him : i = m := by have := HI.out; omega
      go_wp2
      go_end0
      refine ⟨rfl, hid ⟨?_, ?_, HF.out⟩⟩
      · have h9 := HV.out
        rw [him] at h9
        have e1 : l'.take m ++ l.drop m = l' := by rw [← HM2.out, List.take_length, HM2.out, ← HM.out, List.drop_length, List.append_nil]
        rw [e1, HM2.out] at h9
        exact h9
      · exact HO.out
end Go.Proofs.YtfalgjdhdgkbfaaGreatDoor.Bk
