/- The walk of AppendInt at base ten: as the library's contract, but every block stays that is not the row's own. -/
import Derived.Test.YtihbpkebknifdaaGreatDoorWalkR
import Derived.Test.YtihbpkebknifdaaGreatDoorWalkM
import Derived.Shelf.Strconv.AppendInt10
namespace Go.Proofs.YtihbpkebknifdaaGreatDoor
open Go Go.RowKit
open Go.RowKit (wrap32 wrap64)

theorem gwide {w w' : World} (h : w.grownBy w' none) (row : Option Nat) : w.grownBy w' row := ⟨h.os, h.tape, h.output, h.size, fun k hk _ => h.block k hk (by simp)⟩
theorem small_at (u : Nat) (hu : u < 100) (w : World) : Calls Tryz.prog 79 #[.int .i64 u] w fun e w' => e = .returned (.string (str (Lib.decDigits u))) ∧ w' = w :=
  Any.internal_strconv_small { Tryz.laysM176 with } u hu w
theorem numDigits_at (u : Nat) (h1 : 1 ≤ u) (h2 : u < 18446744073709551616) (w : World) (ht : Lib.TabIs Tryz.prog w "internal/strconv.uint64pow10" .u64 Lib.pow10Tab) : Calls Tryz.prog 80 #[.int .u64 u] w fun e w' => e = .returned (.int .i64 (Lib.nDigits u)) ∧ w' = w :=
  Any.internal_strconv_numDigits { Tryz.laysM176 with } u h1 h2 w ht
theorem digits_le20 (u : Nat) (h : u < 18446744073709551616) : Lib.nDigits u ≤ 20 := by
  by_cases h1 : 1 ≤ u
  · have := Lib.numDigits_eq u h1 h
    split at this <;> omega
  · rw [Lib.nDigits_small (by omega)]; omega

set_option maxRecDepth 100000 in
set_option maxHeartbeats 2000000 in
theorem appendUint_any (B : Nat) (w : World) (v : Value) (acc : List UInt8) (u : Nat) (hu : u < 18446744073709551616) (ho : Out B w v acc) (hlen : acc.length + 21 ≤ 35184372088832) (hB : B ≤ w.heap.size) (ht : Lib.TabIs Tryz.prog w "internal/strconv.uint64pow10" .u64 Lib.pow10Tab) :
    Calls Tryz.prog 64 #[v, .int .u64 u, .int .i64 10] w fun e w' => ∃ v', e = .returned v' ∧ Out B w' v' (acc ++ Lib.decDigits u) ∧ w.grownBy w' v.ownBlock := by
  obtain ⟨i0, hi, hz0, hzz, hz2⟩ := info_parts Tryz.info5
  have HO := hid ho
  have ho' : w.ownsRow B 5 1 v acc.length (Lib.byteCells acc) := ho
  have HOW := hid ho'
  obtain ⟨N, HN⟩ : ∃ N, Hid (acc.length = N) := ⟨_, hid rfl⟩
  rw [HN.out] at HOW hlen
  have hd := digits_le20 u hu
  have hdl := Lib.decDigits_length u
  have hss : (str (Lib.decDigits u)).size = Lib.nDigits u := by rw [str_size, hdl]
  clear ho ho'
  by_cases h100 : u < 100
  · have HC := hid (small_at u h100)
    have hlt : decide ((u : Int) < 100) = true := decide_eq_true (by omega)
    have hmm : N + (str (Lib.decDigits u)).size ≤ maxLen := by rw [hss]; unfold maxLen; omega
    have hmb : N + (str (Lib.decDigits u)).size ≤ 140737488355328 := by rw [hss]; omega
    have hw1 : IntKind.i64.wrap (u : Int) = (u : Int) := by rw [IntKind.wrap_i64]; omega
    have HSS := hid hss
    clear hd hdl hss
    go_enter Tryz.func64, Tryz.ntmps64
    go_wp2_with fail
    refine (HC.out w).mono ?_
    rintro e w1 ⟨rfl, rfl⟩
    go_wp2_with (at_builtin; refine Lib.wpList_append_own_string _ rfl _ _ 50 9 rfl B 5 i0 Tryz.underlying50 Tryz.underlying9 hi hz0 hzz hz2 _ _ _ rfl HOW.out (str (Lib.decDigits u)) rfl hmm hmb hB ?_; intro v' w2 hown' hgrow _)
    go_ret
    refine ⟨v', rfl, Out.more hown' (by rw [HN.out, str_size]) ?_, hgrow⟩
    unfold Lib.strCells Lib.byteCells
    rw [str_list]
  · have hlt : decide ((u : Int) < 100) = false := decide_eq_false (by omega)
    have h1 : 1 ≤ u := by omega
    have HT : Hid (∀ (W : World), _ → _) := hid (numDigits_at u h1 hu)
    have hal : Tryz.prog.arrayLen 112 = 24 := by simp [Program.arrayLen, Tryz.underlying112]
    have hsl : ∀ W, (Instr.sliceAt 112 (.pointer (some ⟨w.heap.size, 0, none⟩)) none (some (.int .i64 (Lib.nDigits u : Int))) none).run Tryz.prog W = .ok (.slice (some ⟨w.heap.size, 0, none⟩) (Lib.nDigits u) 24) W := fun W => by
      rw [run_sliceAt_array_h W 112 ⟨w.heap.size, 0, none⟩ (by simp [Program.arrayLen, Program.elem, Tryz.underlying112]) .i64 (Lib.nDigits u : Int) (by omega) (by rw [hal]; omega)]
      go_simp
    have hH0 := Lib.holds_zero0 w 112 (Lib.nDigits u) (by omega)
    have HH0 := hid hH0
    obtain ⟨W0, HW0⟩ : ∃ W0, Hid (w.alloc (.cells Lib.zeros24 112) = W0) := ⟨_, hid rfl⟩
    have hW0 : w.alloc (.cells #[.int .u8 0, .int .u8 0, .int .u8 0, .int .u8 0, .int .u8 0, .int .u8 0, .int .u8 0, .int .u8 0, .int .u8 0, .int .u8 0, .int .u8 0, .int .u8 0, .int .u8 0, .int .u8 0, .int .u8 0, .int .u8 0, .int .u8 0, .int .u8 0, .int .u8 0, .int .u8 0, .int .u8 0, .int .u8 0, .int .u8 0, .int .u8 0] 112) = W0 := HW0.out
    have HTab : Hid (Lib.TabIs Tryz.prog W0 "internal/strconv.uint64pow10" .u64 Lib.pow10Tab) := by rw [← HW0.out]; exact Lib.tabIs_alloc ht _
    have HFm : Hid (Calls Tryz.prog 81 #[.slice (some ⟨w.heap.size, 0, none⟩) (Lib.nDigits u) 24, .int .u64 u] W0 fun e w' => e = .returned (.tuple #[]) ∧ w.grownBy w' none ∧ ∀ (j : Nat) (x : Value), (Lib.byteCells (Lib.decDigits u))[j]? = some x → w'.cell? ((⟨w.heap.size, 0, none⟩ : Addr).add j) = some x) := by
      refine hid ?_
      have hf := Any.internal_strconv_formatBase10 { Tryz.laysM176 with } w.heap.size 0 24 u (Array.replicate (Lib.nDigits u) 0) (w.alloc (.cells Lib.zeros24 112)) HH0.out (by rw [Array.size_replicate]; exact Lib.lt_pow_nDigits u) hu (by rw [Array.size_replicate]; omega)
      rw [Array.size_replicate, HW0.out] at hf
      refine hf.mono ?_
      rintro e w' ⟨rfl, k, v', dk, rfl, hF⟩
      obtain ⟨os, eo⟩ := Lib.fin_at w (.cells Lib.zeros24 112) dk k 0
      rw [← HW0.out]
      refine ⟨rfl, ?_, fun j x hj => ?_⟩
      · rw [eo]; exact gof (Lib.below_grow w.heap.size w (Nat.le_refl _) k os) none
      · have hjl : j < (Lib.decDigits u).length := by
          have := (List.getElem?_eq_some_iff.1 hj).1
          rwa [Lib.byteCells_length] at this
        have ej : (Lib.byteCells (Lib.decDigits u))[j]? = some (.int .u8 ((Lib.decDigits u)[j].toNat : Int)) := by simp [Lib.byteCells, hjl]
        rw [ej] at hj
        injection hj with hj
        rw [← hj, Lib.row_is_numeral hF j hjl, Lib.add_plain, World.cell?_drewN]
        exact Go.Sort.cell?_putRow (fun (b : UInt8) => Value.int .u8 (b.toNat : Int)) _ w.heap.size 0 _ dk HH0.out (by rw [hF.size, Array.size_replicate]) j (by rw [hF.size]; omega)
    have hmm : N + Lib.nDigits u ≤ maxLen := by unfold maxLen; omega
    have hmb : (N + Lib.nDigits u) * 1 ≤ 140737488355328 := by omega
    have hbl : (Lib.byteCells (Lib.decDigits u)).length = Lib.nDigits u * 1 := by rw [Lib.byteCells_length, hdl, Nat.mul_one]
    have HBL := hid hbl
    have HDL := hid hdl
    have HMM := hid hmm
    have HMB := hid hmb
    clear hH0 hd hdl hss hal hmm hmb hbl ht
    go_enter Tryz.func64, Tryz.ntmps64
    go_wp2_with fail
    refine (HT.out W0 HTab.out).mono ?_
    rintro e w1 ⟨rfl, rfl⟩
    go_wp2_with fail
    refine HFm.out.mono ?_
    rintro e w2 ⟨rfl, hg2, hcells⟩
    have HG2 := hid hg2
    have HCe := hid hcells
    have hz2' := hg2.size
    have HO2 : Hid (Out B w2 v acc) := HO.out.none hg2
    have hO2 : w2.ownsRow B 5 1 v acc.length (Lib.byteCells acc) := HO2.out
    rw [HN.out] at hO2
    have HOW2 := hid hO2
    clear hg2 hcells hO2
    go_wp2_with (at_builtin; refine wpList_append_own _ rfl _ _ 50 rfl B 5 i0 (.int .u8 0) 1 1 Tryz.underlying50 hi hz0 hzz hz2 rfl (by decide) _ _ _ rfl HOW2.out ⟨w.heap.size, 0, none⟩ (Lib.nDigits u) 24 (Lib.byteCells (Lib.decDigits u)) rfl HBL.out HCe.out (by intro x hx; simp only [Lib.byteCells, List.mem_map] at hx; obtain ⟨b, _, rfl⟩ := hx; rfl) HMM.out HMB.out (by omega) ?_; intro v' w3 hown' hgrow _)
    go_ret
    refine ⟨v', rfl, Out.more hown' (by rw [HN.out, HDL.out]) rfl, ?_⟩
    exact gtrans (gwide HG2.out v.ownBlock) hgrow

theorem Lib.TabBelow.grown {B : Nat} {w w' : World} {row : Option Nat} (h : Lib.TabBelow Tryz.prog B w "internal/strconv.uint64pow10" .u64 Lib.pow10Tab) (hg : w.grownBy w' row) (hB : B ≤ w.heap.size) (hr : ∀ k, row = some k → B ≤ k) : Lib.TabIs Tryz.prog w' "internal/strconv.uint64pow10" .u64 Lib.pow10Tab := h w' (below_of_grown hg hB hr)
theorem Glob.tab {w : World} (h : Glob w) {B : Nat} (hB : 8 ≤ B) : Lib.TabBelow Tryz.prog B w "internal/strconv.uint64pow10" .u64 Lib.pow10Tab :=
  fun w' hb => (h.2 w' ⟨hb.os, hb.tape, hb.output, hb.size, fun k hk => hb.block k (by omega)⟩).2.2.2

set_option maxRecDepth 100000 in
set_option maxHeartbeats 2000000 in
theorem appendInt_in (B : Nat) (w : World) (v : Value) (acc : List UInt8) (i : Int) (hf : fitsN i) (ho : Out B w v acc) (hlen : acc.length + 30 ≤ 35184372088832) (hB : B ≤ w.heap.size) (hG : Glob w) (h8 : 8 ≤ B) :
    Calls Tryz.prog 54 #[v, .int .i64 i, .int .i64 10] w fun e w' => ∃ v', e = .returned v' ∧ Out B w' v' (acc ++ Lib.itoa i) ∧ KeptV B w v acc w' v' := by
  obtain ⟨i0, hi, hz0, hzz, hz2⟩ := info_parts Tryz.info5
  have HO := hid ho
  have ho' : w.ownsRow B 5 1 v acc.length (Lib.byteCells acc) := ho
  have HOW := hid ho'
  have HLen := hid hlen
  obtain ⟨N, HN⟩ : ∃ N, Hid (acc.length = N) := ⟨_, hid rfl⟩
  rw [HN.out] at HOW hlen
  have hf1 := hf.1
  have hf2 := hf.2
  have HTB := hid (hG.tab h8)
  clear ho ho' hf
  by_cases hneg : i < 0
  · obtain ⟨u, rfl⟩ : ∃ u : Nat, i = -(u : Int) := ⟨i.natAbs, by omega⟩
    have hu1 : 1 ≤ u := by omega
    have hu : u < 18446744073709551616 := by omega
    have hwr : IntKind.u64.wrap (-IntKind.u64.wrap (-(u : Int))) = (u : Int) := by rw [IntKind.wrap_u64, IntKind.wrap_u64]; omega
    have hm : N + 1 ≤ maxLen := by unfold maxLen; omega
    have HI : Hid (Lib.itoa (-(u : Int)) = 45 :: Lib.decDigits u) := hid (Lib.itoa_neg u hu1)
    clear hu1
    go_enter Tryz.func54, Tryz.ntmps54
    go_wp2_with (at_builtin; refine wpList_append_own _ rfl _ _ 50 rfl B 5 i0 (.int .u8 0) 1 1 Tryz.underlying50 hi hz0 hzz hz2 rfl (by decide) _ _ _ rfl (HOW.out.alloc _) ⟨w.heap.size, 0, none⟩ 1 1 [.int .u8 45] rfl rfl (by exact fun j u hu => newsN w _ _ j u hu) (by intro u hu; simp at hu; subst hu; rfl) hm (by omega) (by simp; omega) ?_; intro v1 w1 hown1 hg1 _)
    have hO1 : Out B w1 v1 (acc ++ [45]) := Out.more hown1 (by rw [HN.out]; rfl) rfl
    have hK1 : KeptV B w v acc w1 v1 := ((KeptV.refl B w v acc).none hB (galloc w _ none)).grown (HO.out.none (galloc w _ none)) (by simp; omega) hg1 hO1 (List.prefix_append _ _)
    have ht1 := HTB.out w1 hK1.1.1
    have hz1 := hK1.1.1.size
    refine (appendUint_any B w1 v1 (acc ++ [45]) u hu hO1 (by simp only [List.length_append, List.length_cons, List.length_nil]; have := HLen.out; omega) (by omega) ht1).mono ?_
    rintro e w2 ⟨v2, rfl, hO2, hg2⟩
    have HO1 := hid hO1
    have HK1 := hid hK1
    have HO2 := hid hO2
    have HG2 := hid hg2
    clear hO1 hK1 hO2 hg2 hown1 hg1 ht1
    go_wp2_with fail
    go_ret
    have hO : Out B w2 v2 (acc ++ Lib.itoa (-(u : Int))) := by
      rw [HI.out]
      have := HO2.out
      rw [List.append_assoc] at this
      exact this
    exact ⟨v2, rfl, hO, HK1.out.grown HO1.out (by omega) HG2.out hO (List.prefix_append _ _)⟩
  · obtain ⟨u, rfl⟩ : ∃ u : Nat, i = (u : Int) := ⟨i.toNat, by omega⟩
    have hu : u < 18446744073709551616 := by omega
    have hwr : IntKind.u64.wrap (u : Int) = (u : Int) := by rw [IntKind.wrap_u64]; omega
    have HI : Hid (Lib.itoa (u : Int) = Lib.decDigits u) := hid (Lib.itoa_nonneg u)
    have hnn : decide ((u : Int) < 0) = false := decide_eq_false (by omega)
    go_enter Tryz.func54, Tryz.ntmps54
    go_wp2_with fail
    refine (appendUint_any B w v acc u hu HO.out (by have := HLen.out; omega) hB (HTB.out w (Below.refl _ _))).mono ?_
    rintro e w2 ⟨v2, rfl, hO2, hg2⟩
    have HO2 := hid hO2
    have HG2 := hid hg2
    clear hO2 hg2
    go_wp2_with fail
    go_ret
    have hO : Out B w2 v2 (acc ++ Lib.itoa (u : Int)) := by rw [HI.out]; exact HO2.out
    exact ⟨v2, rfl, hO, (KeptV.refl B w v acc).grown HO.out hB HG2.out hO (List.prefix_append _ _)⟩
theorem appendInt_any (B : Nat) (w : World) (v : Value) (acc : List UInt8) (i : Int) (hf : fitsN i) (ho : Out B w v acc) (hlen : acc.length + 30 ≤ 35184372088832) (hB : B ≤ w.heap.size) (hG : Glob w) (h8 : 8 ≤ B) :
    Calls Tryz.prog 38 #[v, .int .i64 i, .int .i64 10] w fun e w' => ∃ v', e = .returned v' ∧ Out B w' v' (acc ++ Lib.itoa i) ∧ KeptV B w v acc w' v' := by
  have HC := hid (appendInt_in B w v acc i hf ho hlen hB hG h8)
  clear ho hf hG hlen
  go_enter Tryz.func38, Tryz.ntmps38
  go_wp2_with fail
  refine HC.out.mono ?_
  rintro e w' ⟨v', rfl, h⟩
  have H := hid h
  clear h
  go_wp2_with fail
  go_ret
  exact ⟨v', rfl, H.out⟩
end Go.Proofs.YtihbpkebknifdaaGreatDoor
