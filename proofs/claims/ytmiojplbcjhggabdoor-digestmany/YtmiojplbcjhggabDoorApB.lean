/- first: what a password's first digest is made of. -/
import Derived.Test.YtmiojplbcjhggabDoorApA
namespace Go.Proofs.YtmiojplbcjhggabDoor
open Go Go.RowKit
open Go.RowKit (wrap32 wrap64)

theorem be_take (n j : Nat) (h : j < 8) : (be n 8).take (j + 1) = (be n 8).take j ++ [UInt8.ofNat (n / 256 ^ (7 - j))] := by
  have hl : (be n 8).length = 8 := be_len n 8
  rw [List.take_succ_eq_append_getElem (by omega)]
  congr 1
  have := be_get n 8 j h
  rw [List.getD_eq_getElem?_getD, List.getElem?_eq_getElem (by omega)] at this
  simp only [Option.getD_some] at this
  rw [this]
set_option maxRecDepth 100000 in
set_option maxHeartbeats 800000 in
theorem first_any (w : World) (salt : List UInt8) (s : ByteArray) (m : Int) (hs : salt.length = 16) (hn : s.size ≤ 1048576) :
    Calls Tryd.prog 17 #[.agg (Lib.byteCells salt ++ [Value.string s, Value.int .i64 m]).toArray] w fun e w' => ∃ v', e = .returned v' ∧ Out w.heap.size w' v' (salt ++ be s.size 8 ++ s.data.toList) ∧ w.grownBy w' none := by
  obtain ⟨cs, HCS⟩ : ∃ cs, Hid (Lib.byteCells salt ++ [Value.string s, Value.int .i64 m] = cs) := ⟨_, hid rfl⟩
  have HSl := hid hs
  have HNn := hid hn
  obtain ⟨N, HN⟩ : ∃ N, Hid (s.size = N) := ⟨_, hid rfl⟩
  have hNs : s.size = N := HN.out
  have HC16 : Hid (cs[16]? = some (.string s)) := hid (by rw [← HCS.out, List.getElem?_append_right (by rw [byteCells_length, hs]; exact Nat.le_refl _), byteCells_length, hs]; rfl)
  have HRS : Hid (∀ (u : World) (b : Nat), Blk u b cs 47 → Rd u (fun _ => True) (.slice (some ⟨b, 0, none⟩) 16 16) salt) := hid (fun u b hb => by
    refine ⟨some ⟨b, 0, none⟩, b, 0, 16, by rw [hs], by rw [hs]; exact Nat.le_refl _, (fun h => by cases h), fun _ => ⟨rfl, hb.lt, trivial⟩, fun i hi => ?_⟩
    rw [hb.cell, Nat.zero_add, ← HCS.out, List.getElem?_append_left (by rw [byteCells_length]; exact hi), Lib.byteCells, List.getElem?_map, List.getElem?_eq_getElem hi]
    rfl)
  rw [HCS.out, HN.out]
  clear hs hn
  go_enter Tryd.func17, Tryd.ntmps17
  go_wp2_with (first
    | (refine wpList_box_row rfl 47 _ rfl cs rfl ?_; intro w1 B1 s1 g1; have HB1 := hid B1; have HG1 := hid g1; have HZ1 := hid s1; clear B1 g1 s1)
    | (go_at_call 8; refine (copyR_any _ _ (fun _ => True) salt (HRS.out _ _ HB1.out) (by have := HSl.out; omega)).mono ?_; rintro e w2 ⟨v2, rfl, hO2, hg2⟩; have HO2 := hid hO2; have HG2 := hid hg2; clear hO2 hg2))
  obtain ⟨inf, hi, hz0, hz1, hz2⟩ := info_parts Tryd.info5
  have HB2 := hid (HB1.out.keep HG2.out)
  have HGw := hid (gtrans HG1.out HG2.out)
  obtain ⟨b1, hb1⟩ : ∃ b1, b1 = w.heap.size := ⟨_, rfl⟩
  rw [← hb1] at HB2 ⊢
  have HZ : Hid (w1.heap.size = b1 + 1) := hid (by rw [HZ1.out, hb1])
  have HO3 : Hid (Out (b1 + 1) w2 v2 (salt ++ (be N 8).take 0)) := hid (by rw [← HZ.out]; simpa using HO2.out)
  have Hb := hid hb1
  clear HB1 HG1 HZ1 HO2 HG2 hb1
  go_wp2_with fail
  go_loopw [3, 4] (fun lv iv wr => ∃ (j : Nat) (I : Int), j ≤ 8 ∧ iv = .int .i64 I ∧ Hid (I = 56 - 8 * (j : Int)) ∧ Hid (Out (b1 + 1) wr lv (salt ++ (be N 8).take j)) ∧ Hid (Blk wr b1 cs 47) ∧ Hid (w.grownBy wr none)) (fun _ iv _ => (intOf iv + 8).toNat)
  case atStart => exact ⟨0, 56, by omega, rfl, hid (by omega), HO3, HB2, HGw⟩
  case round =>
    clear HO3 HB2 HGw
    obtain ⟨j, I, hj, rfl, HI, HO, HB, HG⟩ := hrel
    have c16 : wr.cell? ⟨b1, 16, none⟩ = some (.string s) := by rw [HB.out.cell]; exact HC16.out
    have hsz := HG.out.size
    have hbl := HB.out.lt
    by_cases h8 : j < 8
    · obtain ⟨t, ht⟩ : ∃ t, t = 7 - j := ⟨_, rfl⟩
      obtain ⟨T, hT⟩ : ∃ T : Nat, T = 8 * t := ⟨_, rfl⟩
      have eI : I = (T : Int) := by have := HI.out; omega
      have T0 : (T : Int) < 64 := by omega
      have T1 : (0 : Int) ≤ (T : Int) := by omega
      obtain ⟨c, HC⟩ : ∃ c : UInt8, Hid (UInt8.ofNat (N / 256 ^ t) = c) := ⟨_, hid rfl⟩
      have hc : (N : Int) / 2 ^ T % 256 = (c.toNat : Int) := by rw [← HC.out, hT]; exact byte_int N t
      have HBt : Hid ((be N 8).take (j + 1) = (be N 8).take j ++ [c]) := hid (by rw [be_take N j h8, ← ht, HC.out])
      have hNb : (N : Int) ≤ 1048576 := by have := HNn.out; omega
      have hI8 : I - 8 = 56 - 8 * ((j + 1 : Nat) : Int) := by have := HI.out; omega
      have HI8 := hid hI8
      subst eI
      clear hT hI8
      go_wp2_with (at_builtin; refine wpList_append_byteW rfl _ _ rfl (b1 + 1) wr.heap.size _ c (HO.out.keep (galloc wr _ none)) rfl (litL wr _) (by rw [List.length_append, List.length_take, HSl.out]; omega) (by simp; omega) ?_; intro v3 w3 hO3 hg3)
      have hge : wr.grownBy w3 _ := gtrans (galloc wr _ _) hg3
      refine ⟨⟨j + 1, _, by omega, rfl, HI8, hid (by rw [HBt.out, ← List.append_assoc]; exact hO3), hid (HB.out.on hge (fun e => by have := HO.out.block b1 e; omega)), hid (HG.out.andThen hge (fun q hq => .inl (by have := HO.out.block q hq; have := Hb.out; omega)))⟩, ?_⟩
      simp only [intOf]
      omega
    · obtain rfl : j = 8 := by omega
      have eI : I = -8 := by have := HI.out; omega
      subst eI
      have hfull : (be N 8).take 8 = be N 8 := List.take_of_length_le (by rw [be_len]; exact Nat.le_refl _)
      rw [hfull] at HO
      have hstr : Lib.strCells s = Lib.byteCells s.data.toList := rfl
      go_wp2_with (at_builtin; refine Lib.wpList_append_own_string _ rfl _ _ 25 9 rfl (b1 + 1) 5 inf Tryd.underlying25 Tryd.underlying9 hi hz0 hz1 hz2 _ _ _ rfl HO.out s rfl (by rw [List.length_append, be_len, HSl.out]; unfold maxLen; have := HNn.out; omega) (by rw [List.length_append, be_len, HSl.out]; have := HNn.out; omega) (by omega) ?_; intro v3 w3 hO3 hg3 _)
      go_ret
      refine ⟨_, rfl, Out.below (Out.more hO3 (by rw [Array.length_toList]; rfl) (by rw [hstr])) (by have := Hb.out; omega), HG.out.andThen hg3 (fun q hq => .inl (by have := HO.out.block q hq; have := Hb.out; omega))⟩
end Go.Proofs.YtmiojplbcjhggabDoor
