/- padding; Sum of a Hash; Sum. -/
import Derived.Test.YtmiojplbcjhggaaDoorOwn
namespace Go.Proofs.YtmiojplbcjhggaaDoor
open Go Go.RowKit
open Go.RowKit (wrap32 wrap64)

theorem Out.rdF {B : Nat} {w : World} {v : Value} {l : List UInt8} (h : Out B w v l) (F : Nat → Prop) (hF : ∀ g, B ≤ g → F g) : Rd w F v l := h.rd.mono (fun k _ hk => hF k hk)
theorem Blk.rd {w : World} {b : Nat} {x : List UInt8} {t : TypeId} (h : Blk w b (Lib.byteCells x) t) (F : Nat → Prop) (hF : F b) (n : Nat) (hn : n = x.length) : Rd w F (.slice (some ⟨b, 0, none⟩) n n) x := by
  subst hn
  refine ⟨some ⟨b, 0, none⟩, b, 0, x.length, rfl, Nat.le_refl _, (fun h => by cases h), fun _ => ⟨rfl, h.lt, hF⟩, fun i hi => ?_⟩
  rw [h.cell, Nat.zero_add, Lib.byteCells, List.getElem?_map, List.getElem?_eq_getElem hi]
  rfl

theorem Out.away {B : Nat} {w w' : World} {g n c k : Nat} {l : List UInt8} (h : Out B w (.slice (some ⟨g, 0, none⟩) n c) l) (hg : w.grownBy w' (some k)) (hk : k ≠ g) : Out B w' (.slice (some ⟨g, 0, none⟩) n c) l :=
  h.on hg (fun j hj e => hk (by injection hj with hj; rw [hj]; exact (Option.some.inj e).symm))
set_option maxRecDepth 100000 in
set_option maxHeartbeats 800000 in
theorem padding_any (n b : Nat) (hn : n < 1152921504606846976) (w : World) (hc : w.cell? ⟨b, 72, none⟩ = some (.int .u64 n)) :
    Calls Tryd.prog 36 #[.pointer (some ⟨b, 0, none⟩)] w fun e w' => ∃ v, e = .returned v ∧ Out w.heap.size w' v (padL n) ∧ w.grownBy w' none := by
  have HC := hid hc
  obtain ⟨W, hW⟩ : ∃ W, W = n % 64 := ⟨_, rfl⟩
  have HWt := hid (waiting_any n hn b w hc)
  rw [← hW] at HWt
  obtain ⟨K, hK⟩ : ∃ K, K = (119 - W) % 64 := ⟨_, rfl⟩
  obtain ⟨N8, hN8⟩ : ∃ N8, N8 = 8 * n := ⟨_, rfl⟩
  have HNB := hid (numberBytes_any N8 (by omega))
  have HPL : Hid (padL n = 0x80 :: (List.replicate K 0 ++ be N8 8)) := hid (by rw [hK, hW, hN8]; rfl)
  obtain ⟨PL, HPe⟩ : ∃ PL, Hid (padL n = PL) := ⟨_, hid rfl⟩
  rw [HPe.out] at HPL
  rw [HPe.out]
  obtain ⟨L, HLe⟩ : ∃ L, Hid (be N8 8 = L) := ⟨_, hid rfl⟩
  have HLL : Hid (L.length = 8) := hid (by rw [← HLe.out, be_length])
  rw [HLe.out] at HNB HPL
  obtain ⟨cs, HCS⟩ : ∃ cs, Hid (Lib.byteCells L = cs) := ⟨_, hid rfl⟩
  have HCL : Hid (cs.length = 8) := hid (by rw [← HCS.out, byteCells_length, HLL.out])
  have HC1 : Hid (∀ v ∈ cs, v.oneCell' = true) := hid (by rw [← HCS.out]; exact bcs_one _)
  rw [HCS.out] at HNB
  have HWL : Hid (W < 64) := hid (by omega)
  have e1 : (119 : Int) - (W : Int) = ((119 - W : Nat) : Int) := by omega
  have e2 : IntKind.i64.wrap ((119 : Int) - (W : Int)) = ((119 - W : Nat) : Int) := by rw [wrapi _ (by omega) (by omega)]; omega
  obtain ⟨F0, hF0⟩ : ∃ F0, F0 = 119 - W := ⟨_, rfl⟩
  rw [← hF0] at e1 e2
  have e3 : (F0 : Int) % 64 = (K : Int) := by omega
  have e3' : Int.tmod (F0 : Int) 64 = (K : Int) := by rw [Int.tmod_eq_emod_of_nonneg (by omega)]; exact e3
  obtain ⟨K1, hK1⟩ : ∃ K1, K1 = 1 + K := ⟨_, rfl⟩
  have e4 : (1 : Int) + (K : Int) = (K1 : Int) := by omega
  have e5 : 8 * (n : Int) = (N8 : Int) := by omega
  obtain ⟨w1, hmk, hO1, hg1, hs1⟩ := make_own w K1 (by omega)
  have HO1 := hid hO1
  have HG1 := hid hg1
  have HS1 := hid hs1
  have e6 : (N8 : Int) % 18446744073709551616 = (N8 : Int) := by omega
  have e7 : IntKind.u64.wrap (N8 : Int) = (N8 : Int) := by rw [IntKind.wrap_u64]; omega
  have e8 : IntKind.u64.wrap (8 * (n : Int)) = (N8 : Int) := by rw [IntKind.wrap_u64]; omega
  have hF0' : (F0 : Int) < 128 := by omega
  have hK' : (K : Int) < 64 := by omega
  have hK1' : 0 < (K1 : Int) := by omega
  have HK1 := hid hK1
  clear e1
  clear hc hW hK hN8 hF0 hO1 hg1 hs1 hn hK1
  have hblt : b < w.heap.size := World.block_lt_of_cell? w _ HC.out
  obtain ⟨g0, hg0⟩ : ∃ g0, g0 = w.heap.size := ⟨_, rfl⟩
  have c0 : w1.cell? ⟨g0, 0, none⟩ = some (.int .u8 0) := by
    obtain ⟨g, c, e, _, _, _, hcl⟩ := HO1.out.form (by rw [List.length_replicate]; omega)
    injection e with e1
    injection e1 with e1
    injection e1 with e1
    have := hcl 0 (by rw [List.length_replicate]; omega)
    rw [hg0, e1, this]
    simp
  have f0 : w1.frozen? ⟨g0, 0, none⟩ = false := by rw [hg0]; exact HO1.out.free 0
  rw [← hg0] at hmk HO1
  obtain ⟨w2, hw2⟩ : ∃ w2, w1.setCell ⟨g0, 0, none⟩ (.int .u8 128) = w2 := ⟨_, rfl⟩
  have HO2 : Hid (Out g0 w2 (.slice (some ⟨g0, 0, none⟩) K1 K1) ((List.replicate K1 0).set 0 0x80)) := hid (by rw [← hw2]; exact HO1.out.set 0 0x80)
  have HG2 : Hid (w.grownBy w2 none) := hid (by rw [← hw2]; exact HG1.out.andThen (gset w1 ⟨g0, 0, none⟩ _) (fun j hj => .inl (by injection hj with hj; rw [← hj, hg0]; exact Nat.le_refl _)))
  have c72 : w2.cell? ⟨b, 72, none⟩ = some (.int .u64 n) := by rw [cell_at HG2.out hblt (by simp)]; exact HC.out
  have HL2 : Hid ((List.replicate K1 (0 : UInt8)).set 0 0x80 = 0x80 :: List.replicate K 0) := hid (by rw [HK1.out, Nat.add_comm, List.replicate_succ]; rfl)
  rw [HL2.out] at HO2
  have HK := hid (show K < 64 by omega)
  have Hg0 := hid hg0
  have hK1n : K1 ≠ 0 := by omega
  clear hblt hg0
  go_enter Tryd.func36, Tryd.ntmps36
  go_wp2_with (first
    | (go_at_call 34; refine (HWt.out).mono ?_; rintro e w' ⟨rfl, hw⟩; have hw' := hw.symm; clear hw; subst hw')
    | (go_at_call 48; refine (HNB.out _).mono ?_; rintro e w3 ⟨rfl, hg3⟩; have HG3 := hid hg3; clear hg3)
    | (refine wpList_alloc_row rfl 90 rfl y8 Tryd.zero90 ?_; intro w4 B4 s4 g4; have HB4 := hid B4; have HG4 := hid g4; have HS4 := hid s4; clear B4 g4 s4)
    | (refine wpList_store_all rfl 90 _ _ rfl _ y8 cs 90 rfl rfl HB4.out (by rw [HCL.out]; rfl) (by rw [HCL.out]; exact Tryd.size90) HC1.out ?_; intro w5 B5 g5 s5; have HB5 := hid B5; have HG5 := hid g5; have HS5 := hid s5; clear B5 g5 s5; have HO3 := hid (((HO2.out.keep HG3.out).keep HG4.out).away HG5.out (by have := HG3.out.size; have := HO2.out.lt g0 rfl; omega)); have HRd := hid (Blk.rd (x := L) (by rw [HCS.out]; exact HB5.out) (fun _ => True) trivial 8 HLL.out.symm))
    | (refine wpList_append_rd rfl _ _ rfl g0 (fun _ => True) (0x80 :: List.replicate K 0) L HO3.out HRd.out (by rw [List.length_cons, List.length_replicate, HLL.out]; have := HK.out; omega) (by have := HO3.out.lt g0 rfl; omega) ?_; intro v6 w6 hO6 hg6 _; have HO6 := hid hO6; have HG6 := hid hg6; clear hO6 hg6))
  go_ret
  refine ⟨v6, rfl, ?_, ?_⟩
  · have := HO6.out
    rw [HPL.out, ← Hg0.out]
    exact this
  · have h1 := HG2.out.size
    have h3 := HG3.out.size
    exact ((gtrans HG2.out (gtrans HG3.out HG4.out)).andThen HG5.out (fun j hj => .inl (by injection hj with hj; omega))).andThen HG6.out (fun j hj => .inl (by injection hj with hj; rw [← hj, Hg0.out]; exact Nat.le_refl _))

set_option maxRecDepth 100000 in
set_option maxHeartbeats 800000 in
theorem hsum_any (w : World) (b : Nat) (l : List UInt8) (hs : Hs w b l) (hg : Glob w) (hn : l.length < 1152921504606846000) :
    Calls Tryd.prog 20 #[.pointer (some ⟨b, 0, none⟩)] w fun e w' => e = .returned (.agg (Lib.byteCells (sumL l)).toArray) ∧ w.grownBy w' none := by
  have HH := hid hs
  have HGl := hid hg
  have HPd : Hid (∀ u, w.grownBy u none → Calls Tryd.prog 36 #[.pointer (some ⟨b, 0, none⟩)] u fun e w' => ∃ v, e = .returned v ∧ Out u.heap.size w' v (padL l.length) ∧ u.grownBy w' none) := fun u hu => padding_any l.length b (by omega) u (hs.keep hu).taken
  have HPL : Hid ((padL l.length).length ≤ 72) := hid (by rw [padL_length]; omega)
  have HWr : Hid (∀ (u : World) (c : Nat) (v : Value) (F : Nat → Prop), Hs u c l → Rd u F v (padL l.length) → ¬ F c → Glob u → 2 ≤ c → Calls Tryd.prog 18 #[.pointer (some ⟨c, 0, none⟩), v] u fun e w' => e = .returned (.tuple #[]) ∧ Hs w' c (l ++ padL l.length) ∧ u.grownBy w' (some c)) := fun u c v F h1 h2 h3 h4 h5 => write_any u c l v F _ h1 h2 h3 h4 h5 (by have := HPL.out; omega)
  obtain ⟨R, HR⟩ : ∃ R, Hid (Lib.byteCells (sumL l) = R) := ⟨_, hid rfl⟩
  have HRL : Hid (R.length = 32) := hid (by rw [← HR.out, byteCells_length, sumL_length])
  have HR1 : Hid (∀ v ∈ R, v.oneCell' = true) := hid (by rw [← HR.out]; exact bcs_one _)
  have HBO : Hid (∀ u, Calls Tryd.prog 37 #[.agg (st (l ++ padL l.length)).cells.toArray] u fun e w' => e = .returned (.agg R.toArray) ∧ u.grownBy w' none) := fun u => by
    have := bytesOf_any (st (l ++ padL l.length)) (st_ok _) u
    rw [← sumL_st, HR.out] at this
    exact this
  rw [HR.out]
  generalize padL l.length = PL at HPd HPL HWr HBO
  obtain ⟨sc, HSC⟩ : ∃ sc, Hid ((st (l ++ PL)).cells = sc) := ⟨_, hid rfl⟩
  have HSL : Hid (sc.length = 8) := hid (by rw [← HSC.out]; rfl)
  rw [HSC.out] at HBO
  obtain ⟨g, hgl, hB⟩ := hs
  obtain ⟨hc, HHC⟩ : ∃ hc, Hid (hcs (st l) (rs l ++ g) l.length = hc) := ⟨_, hid rfl⟩
  rw [HHC.out] at hB
  have HB := hid hB
  have HCL : Hid (hc.length = 73) := hid (by rw [← HHC.out]; exact hcs_length _ _ _ hgl)
  have HC1 : Hid (∀ v ∈ hc, v.oneCell' = true) := hid (by
    rw [← HHC.out]
    intro v hv
    unfold hcs at hv
    rcases List.mem_append.1 hv with h | h
    · exact wcs_one _ v h
    · rcases List.mem_append.1 h with h | h
      · exact bcs_one _ v h
      · rw [List.mem_singleton] at h; rw [h]; rfl)
  have HHS : Hid (∀ (u : World) (c : Nat), Blk u c hc 75 → Hs u c l) := hid (fun u c h => ⟨g, hgl, by rw [HHC.out]; exact h⟩)
  clear hg hn hB hgl
  go_enter Tryd.func20, Tryd.ntmps20
  go_wp2_with (first
    | (refine wpList_alloc_row rfl 24 rfl y32 Tryd.zero24 ?_; intro w1 B1 s1 g1; have HB1 := hid B1; have HG1 := hid g1; have HS1 := hid s1; clear B1 g1 s1; have HBh := hid (HB.out.keep HG1.out))
    | (refine wpList_load_part rfl 75 _ rfl b 0 hc _ rfl HBh.out.whole Tryd.underlying75 rfl (by rw [HCL.out]; exact Tryd.size75) ?_)
    | (refine wpList_alloc_row rfl 75 rfl (z8 ++ (y64 ++ [Value.int .u64 0])) Tryd.zero75 ?_; intro w2 B2 s2 g2; have HB2 := hid B2; have HG2 := hid g2; have HS2 := hid s2; clear B2 g2 s2)
    | (refine wpList_store_all rfl 75 _ _ rfl _ (z8 ++ (y64 ++ [Value.int .u64 0])) hc 75 rfl rfl HB2.out (by rw [HCL.out]; rfl) (by rw [HCL.out]; exact Tryd.size75) HC1.out ?_; intro w3 B3 g3 s3; have HB3 := hid B3; have HG3 := hid g3; have HS3 := hid s3; clear B3 g3 s3; have HGa := hid ((gtrans HG1.out HG2.out).andThen HG3.out (fun j hj => .inl (by injection hj with hj; have := HS1.out; omega))); have HB13 := hid ((HB1.out.keep HG2.out).on HG3.out (by simp; have := HS1.out; omega)))
    | (go_at_call 36; refine (HPd.out _ HGa.out).mono ?_; rintro e w4 ⟨v4, rfl, hO4, hg4⟩; have HO4 := hid hO4; have HG4 := hid hg4; clear hO4 hg4; have HB14 := hid (HB13.out.keep HG4.out); have HB34 := hid (HB3.out.keep HG4.out); have HGl4 := hid (HGl.out.keep (gtrans HGa.out HG4.out)))
    | (go_at_call 18; refine (HWr.out _ _ _ _ (HHS.out _ _ HB34.out) (HO4.out.rdF (fun k => w3.heap.size ≤ k) (fun _ h => h)) (by have := HB3.out.lt; omega) HGl4.out (by have := HGl.out.sz; have := HS1.out; omega)).mono ?_; rintro e w5 ⟨rfl, hH5, hg5⟩; have HH5 := hid hH5; have HG5 := hid hg5; clear hH5 hg5; have HB15 := hid (HB14.out.on HG5.out (by simp; have := HS1.out; omega)))
    | (refine wpList_load_part rfl 72 _ rfl w1.heap.size 0 sc _ rfl (by obtain ⟨g5, h5, B5⟩ := HH5.out; exact HSC.out ▸ B5.range [] _ _ 0 rfl rfl) Tryd.underlying72 rfl (by rw [HSL.out]; exact Tryd.size72) ?_)
    | (go_at_call 37; refine (HBO.out _).mono ?_; rintro e w6 ⟨rfl, hg6⟩; have HG6 := hid hg6; clear hg6; have HB16 := hid (HB15.out.keep HG6.out))
    | (refine wpList_store_all rfl 24 _ _ rfl _ y32 R 24 rfl rfl HB16.out (by rw [HRL.out]; rfl) (by rw [HRL.out]; exact Tryd.size24) HR1.out ?_; intro w7 B7 g7 s7; have HB7 := hid B7; have HG7 := hid g7; clear B7 g7 s7))
  refine bodyPost_ret (results_blk rfl _ w.heap.size 24 R _ rfl HB7.out Tryd.underlying24 rfl (by rw [HRL.out]; exact Tryd.size24)) rfl ?_
  refine ⟨rfl, ?_⟩
  have h1 := HS1.out
  have h4 := gtrans HGa.out HG4.out
  have h5 := h4.andThen HG5.out (fun j hj => .inl (by injection hj with hj; omega))
  exact (gtrans h5 HG6.out).andThen HG7.out (fun j hj => .inl (by injection hj with hj; omega))

set_option maxRecDepth 100000 in
set_option maxHeartbeats 800000 in
theorem dsum_any (w : World) (v : Value) (F : Nat → Prop) (x : List UInt8) (hx : Rd w F v x) (hg : Glob w) (hn : x.length < 1152921504606846000) :
    Calls Tryd.prog 11 #[v] w fun e w' => e = .returned (.agg (Lib.byteCells (sumL x)).toArray) ∧ w.grownBy w' none := by
  have HX := hid (hx.mono (G := fun k => k < w.heap.size) (fun k hk _ => hk))
  have HGl := hid hg
  have HNw : Hid (∀ u, w.grownBy u none → Calls Tryd.prog 16 #[] u fun e w' => e = .returned (.pointer (some ⟨u.heap.size, 0, none⟩)) ∧ Hs w' u.heap.size [] ∧ u.grownBy w' none ∧ w'.heap.size = u.heap.size + 1) := fun u hu => new_any u (hg.keep hu)
  have HWr : Hid (∀ (u : World) (c : Nat), w.grownBy u none → Hs u c [] → w.heap.size ≤ c → Calls Tryd.prog 18 #[.pointer (some ⟨c, 0, none⟩), v] u fun e w' => e = .returned (.tuple #[]) ∧ Hs w' c x ∧ u.grownBy w' (some c)) := fun u c hu h1 h2 =>
    write_any u c [] v (fun k => k < w.heap.size) x h1 (HX.out.keep hu) (by omega) (hg.keep hu) (by have := hg.sz; omega) (by simp; omega)
  obtain ⟨R, HR⟩ : ∃ R, Hid (Lib.byteCells (sumL x) = R) := ⟨_, hid rfl⟩
  have HRL : Hid (R.length = 32) := hid (by rw [← HR.out, byteCells_length, sumL_length])
  have HR1 : Hid (∀ v ∈ R, v.oneCell' = true) := hid (by rw [← HR.out]; exact bcs_one _)
  have HSm : Hid (∀ (u : World) (c : Nat), w.grownBy u none → Hs u c x → Calls Tryd.prog 20 #[.pointer (some ⟨c, 0, none⟩)] u fun e w' => e = .returned (.agg R.toArray) ∧ u.grownBy w' none) := fun u c hu h => by
    have := hsum_any u c x h (hg.keep hu) hn
    rw [HR.out] at this
    exact this
  rw [HR.out]
  clear hx hg hn
  go_enter Tryd.func11, Tryd.ntmps11
  go_wp2_with (first
    | (refine wpList_alloc_row rfl 24 rfl y32 Tryd.zero24 ?_; intro w1 B1 s1 g1; have HB1 := hid B1; have HG1 := hid g1; have HS1 := hid s1; clear B1 g1 s1)
    | (go_at_call 16; refine (HNw.out _ HG1.out).mono ?_; rintro e w2 ⟨rfl, hH2, hg2, hs2⟩; have HH2 := hid hH2; have HG2 := hid hg2; have HS2 := hid hs2; clear hH2 hg2 hs2; have HGa := hid (gtrans HG1.out HG2.out); have HB12 := hid (HB1.out.keep HG2.out))
    | (go_at_call 18; refine (HWr.out _ _ HGa.out HH2.out (by have := HS1.out; omega)).mono ?_; rintro e w3 ⟨rfl, hH3, hg3⟩; have HH3 := hid hH3; have HG3 := hid hg3; clear hH3 hg3; have HB13 := hid (HB12.out.on HG3.out (by simp; have := HS1.out; omega)); have HGb := hid (HGa.out.andThen HG3.out (fun j hj => .inl (by injection hj with hj; have := HS1.out; omega))))
    | (go_at_call 20; refine (HSm.out _ _ HGb.out HH3.out).mono ?_; rintro e w4 ⟨rfl, hg4⟩; have HG4 := hid hg4; clear hg4; have HB14 := hid (HB13.out.keep HG4.out))
    | (refine wpList_store_all rfl 24 _ _ rfl _ y32 R 24 rfl rfl HB14.out (by rw [HRL.out]; rfl) (by rw [HRL.out]; exact Tryd.size24) HR1.out ?_; intro w7 B7 g7 s7; have HB7 := hid B7; have HG7 := hid g7; clear B7 g7 s7))
  refine bodyPost_ret (results_blk rfl _ w.heap.size 24 R _ rfl HB7.out Tryd.underlying24 rfl (by rw [HRL.out]; exact Tryd.size24)) rfl ?_
  exact ⟨rfl, (gtrans HGb.out HG4.out).andThen HG7.out (fun j hj => .inl (by injection hj with hj; omega))⟩
end Go.Proofs.YtmiojplbcjhggaaDoor
