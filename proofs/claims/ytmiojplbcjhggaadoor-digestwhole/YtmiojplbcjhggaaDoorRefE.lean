/- Other: a row as long as another. -/
import Derived.Test.YtmiojplbcjhggaaDoorRefD
namespace Go.Proofs.YtmiojplbcjhggaaDoor
open Go Go.RowKit
open Go.RowKit (wrap32 wrap64)

theorem xor_one (x : UInt8) : ∃ u : UInt8, Go.bits .xor .u8 (x.toNat : Int) 1 = (u.toNat : Int) := by
  have h : ∀ n : Fin 256, 0 ≤ Go.bits .xor .u8 (n.val : Int) 1 ∧ Go.bits .xor .u8 (n.val : Int) 1 < 256 := by decide +kernel
  have h2 := h ⟨x.toNat, x.toNat_lt⟩
  refine ⟨UInt8.ofNat (Go.bits .xor .u8 (x.toNat : Int) 1).toNat, ?_⟩
  rw [UInt8.toNat_ofNat']
  simp only at h2
  omega
set_option maxRecDepth 100000 in
set_option maxHeartbeats 1600000 in
theorem other_any (w : World) (b : Value) (F : Nat → Prop) (l : List UInt8) (hb : Rd w F b l) (hl : l.length ≤ 1048576) :
    Calls Tryd.prog 13 #[b] w fun e w' => ∃ v, e = .returned v ∧ Hid (∃ l', l'.length = l.length ∧ Out w.heap.size w' v l' ∧ w.grownBy w' none) := by
  have R := hid hb
  obtain ⟨ab, bb, offb, cbb, hbv, _, _, ha, hcell⟩ := hb
  subst hbv
  obtain ⟨m, HM⟩ : ∃ m : Nat, Hid (l.length = m) := ⟨_, hid rfl⟩
  have HA := hid ha
  have HC := hid hcell
  rw [HM.out] at hl R ⊢
  clear ha hcell
  obtain ⟨x, hx⟩ : ∃ x : Int, (m : Int) = x := ⟨_, rfl⟩
  have hx0 : 0 ≤ x := by omega
  have hx1 : x ≤ 1048576 := by omega
  have HX := hid hx
  go_enter Tryd.func13, Tryd.ntmps13
  go_wp2_with fail
  go_loopw [3, 4] (fun tv iv wr => ∃ (i : Nat) (z : Int) (l' : List UInt8), iv = .int .i64 z ∧ -1 ≤ z ∧ z < x ∧ i ≤ 1048576 ∧ Hid (z + 1 + (i : Int) = x ∧ l'.length = i) ∧ Hid (Out w.heap.size wr tv l') ∧ Hid (w.grownBy wr none)) (fun _ iv _ => (intOf iv + 1).toNat)
  case atStart => exact ⟨0, x - 1, [], by go_num, by omega, by omega, by omega, hid ⟨by omega, rfl⟩, hid (Out.nil _ _), hid (grefl _ _)⟩
  case round =>
    obtain ⟨i, z, l', rfl, hz0', hz1', hi1, HI, HO, HG⟩ := hrel
    by_cases hz : 0 ≤ z
    · obtain ⟨j, rfl⟩ : ∃ j : Nat, z = (j : Int) := ⟨z.toNat, by omega⟩
      have hjl : j < l.length := by have := HM.out; have := HX.out; omega
      obtain ⟨rfl, hbw, _⟩ := HA.out (by omega)
      have hck := HC.out j hjl
      rw [← cell_at HG.out hbw (by simp)] at hck
      have hbw2 : bb < wr.heap.size := Nat.lt_of_lt_of_le hbw HG.out.size
      obtain ⟨u, HU⟩ : ∃ u : UInt8, Hid (l[j] = u) := ⟨_, hid rfl⟩
      rw [HU.out] at hck
      have hsz := HG.out.size
      go_wp2_with (at_builtin; refine wpList_append_byteW rfl _ _ rfl w.heap.size wr.heap.size l' u (HO.out.keep (galloc wr _ none)) rfl (litL wr _) (by have := HI.out; omega) (by simp; omega) ?_; intro v3 w3 hO3 hg3)
      have hge := gtrans (galloc wr _ _) hg3
      go_roundw
      case rel => exact ⟨i + 1, (j : Int) - 1, l' ++ [u], by go_num, by omega, by omega, by have := HI.out; omega, hid ⟨by have := HI.out; omega, by rw [List.length_append, HI.out.2]; rfl⟩, hid hO3, hid (HG.out.andThen hge (fun q hq => .inl (HO.out.block q hq)))⟩
      case measure => simp [intOf]
    · have hz3 : z = -1 := by omega
      subst hz3
      have him : i = m := by have := HI.out; have := HX.out; omega
      subst him
      rcases Nat.eq_zero_or_pos i with h0 | h0
      · have hx00 : x = 0 := by have := HX.out; omega
        clear h0
        go_wp2_with fail
        go_ret
        exact ⟨_, rfl, hid ⟨l', HI.out.2, HO.out, HG.out⟩⟩
      · have hxp : 0 < x := by have := HX.out; omega
        obtain ⟨g, c3, hv3, hc3, hgB, hgs, hcell3⟩ := HO.out.form (by rw [HI.out.2]; exact h0)
        subst hv3
        rw [HI.out.2] at HO hc3 ⊢
        have k1 := HO.out.rd.convert
        have k2 : (convert 23 9 (.slice ab i cbb)).run Tryd.prog wr = .ok (.string ⟨l.toArray⟩) wr := (R.out.keep HG.out).convert
        obtain ⟨s1, HS1⟩ : ∃ s, Hid ((⟨l'.toArray⟩ : ByteArray) = s) := ⟨_, hid rfl⟩
        obtain ⟨s2, HS2⟩ : ∃ s, Hid ((⟨l.toArray⟩ : ByteArray) = s) := ⟨_, hid rfl⟩
        rw [HS1.out] at k1
        rw [HS2.out] at k2
        cases hq : (s1.toList == s2.toList) with
        | false =>
          clear hcell3
          go_wp2_with fail
          go_ret
          exact ⟨_, rfl, hid ⟨l', HI.out.2, HO.out, HG.out⟩⟩
        | true =>
          obtain ⟨j, rfl⟩ : ∃ j : Nat, i = j + 1 := ⟨i - 1, by omega⟩
          have hj : j < l'.length := by have := HI.out.2; omega
          have hck := hcell3 j hj
          obtain ⟨u, hxu⟩ := xor_one l'[j]
          obtain ⟨y, HY⟩ : ∃ y : Int, Hid ((l'[j].toNat : Int) = y) := ⟨_, hid rfl⟩
          rw [HY.out] at hck hxu
          have hfz := HO.out.free j
          clear hcell3
          have hxj : x = (j : Int) + 1 := by have := HX.out; omega
          clear hx
          subst hxj
          have HS := hid (HO.out.set j u)
          go_wp2_with fail
          go_ret
          refine ⟨_, rfl, hid ⟨l'.set j u, by rw [List.length_set]; exact HI.out.2, HS.out, HG.out.andThen (gset _ _ _) (fun q hq => .inl (by have hq' : g = q := Option.some.inj hq; omega))⟩⟩
end Go.Proofs.YtmiojplbcjhggaaDoor
