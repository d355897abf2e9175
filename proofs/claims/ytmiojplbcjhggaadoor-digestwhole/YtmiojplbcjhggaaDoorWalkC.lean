/- The walk of changed. -/
import Derived.Test.YtmiojplbcjhggaaDoorWalkB
namespace Go.Proofs.YtmiojplbcjhggaaDoor
open Go Go.RowKit
open Go.RowKit (wrap32 wrap64)

theorem one_z8 : ∀ v ∈ z8, v.oneCell' = true := by intro v hv; rw [List.eq_of_mem_replicate hv]; rfl
theorem wcs_get (l : List Nat) (i : Nat) (h : i < l.length) : (wcs l)[i]? = some (.int .u32 (l.getD i 0 : Nat)) := by
  rw [wcs, List.getElem?_map, List.getElem?_eq_getElem h, List.getD_eq_getElem?_getD, List.getElem?_eq_getElem h]
  rfl
theorem xor_not (e : Nat) (h : e < 4294967296) : 4294967295 ^^^ e = 4294967295 - e := by
  apply Nat.eq_of_testBit_eq
  intro i
  have r : (4294967295 - e).testBit i = (decide (i < 32) && !e.testBit i) := by
    rw [show 4294967295 - e = 2 ^ 32 - (e + 1) by omega]
    exact Nat.testBit_two_pow_sub_succ (by omega) i
  have l : (4294967295 : Nat).testBit i = decide (i < 32) := Nat.testBit_two_pow_sub_one 32 i
  rw [Nat.testBit_xor, l, r]
  by_cases hi : i < 32
  · simp [hi]
  · have a1 : e < 2 ^ i := Nat.lt_of_lt_of_le (show e < 2 ^ 32 from h) (Nat.pow_le_pow_right (by decide) (by omega))
    rw [Nat.testBit_lt_two_pow a1]
    simp [hi]
theorem not_int (e : Nat) (h : e < 4294967296) : bits .xor .u32 (if IntKind.u32.signed = true then -1 else IntKind.u32.max) (e : Int) = ((4294967295 - e : Nat) : Int) := by
  have := u32_xor_nat 4294967295 e (by decide) h
  rw [xor_not e h] at this
  exact this
theorem pT_int (a b c d e f g h K W r6 r11 r25 : Nat) (h6 : rot 6 e = r6) (h11 : rot 11 e = r11) (h25 : rot 25 e = r25) (oe : e < 4294967296) (of' : f < 4294967296) (og : g < 4294967296) :
    ((h : Int) + bits .xor .u32 (bits .xor .u32 (r6 : Int) (r11 : Int)) (r25 : Int) + bits .xor .u32 (bits .and .u32 (e : Int) (f : Int)) (bits .and .u32 (bits .xor .u32 (if IntKind.u32.signed = true then -1 else IntKind.u32.max) (e : Int)) (g : Int)) + (K : Int) + (W : Int)) % 4294967296 = ((pT ⟨a, b, c, d, e, f, g, h⟩ K W : Nat) : Int) := by
  have l6 : r6 < 2 ^ 32 := by rw [← h6]; exact rot_lt _ _ (by decide) oe
  have l11 : r11 < 2 ^ 32 := by rw [← h11]; exact rot_lt _ _ (by decide) oe
  have l25 : r25 < 2 ^ 32 := by rw [← h25]; exact rot_lt _ _ (by decide) oe
  have ln : 4294967295 - e < 2 ^ 32 := by omega
  rw [not_int e oe, u32_xor_nat r6 r11 l6 l11, u32_xor_nat (r6 ^^^ r11) r25 (Nat.xor_lt_two_pow l6 l11) l25, u32_and_nat e f oe of', u32_and_nat (4294967295 - e) g ln og, u32_xor_nat (e &&& f) ((4294967295 - e) &&& g) (and_lt of') (and_lt og)]
  have e1 : r6 ^^^ r11 ^^^ r25 = bs1 e := by rw [← h6, ← h11, ← h25]; rfl
  have e2 : (e &&& f) ^^^ ((4294967295 - e) &&& g) = chf e f g := rfl
  rw [e1, e2]
  show _ = ((a32 (a32 (a32 (a32 h (bs1 e)) (chf e f g)) K) W : Nat) : Int)
  unfold a32
  omega
theorem qT_int (a b c d e f g h r2 r13 r22 : Nat) (h2 : rot 2 a = r2) (h13 : rot 13 a = r13) (h22 : rot 22 a = r22) (oa : a < 4294967296) (ob : b < 4294967296) (oc : c < 4294967296) :
    (bits .xor .u32 (bits .xor .u32 (r2 : Int) (r13 : Int)) (r22 : Int) + bits .xor .u32 (bits .xor .u32 (bits .and .u32 (a : Int) (b : Int)) (bits .and .u32 (a : Int) (c : Int))) (bits .and .u32 (b : Int) (c : Int))) % 4294967296 = ((qT ⟨a, b, c, d, e, f, g, h⟩ : Nat) : Int) := by
  have l2 : r2 < 2 ^ 32 := by rw [← h2]; exact rot_lt _ _ (by decide) oa
  have l13 : r13 < 2 ^ 32 := by rw [← h13]; exact rot_lt _ _ (by decide) oa
  have l22 : r22 < 2 ^ 32 := by rw [← h22]; exact rot_lt _ _ (by decide) oa
  rw [u32_xor_nat r2 r13 l2 l13, u32_xor_nat (r2 ^^^ r13) r22 (Nat.xor_lt_two_pow l2 l13) l22, u32_and_nat a b oa ob, u32_and_nat a c oa oc, u32_and_nat b c ob oc, u32_xor_nat (a &&& b) (a &&& c) (and_lt ob) (and_lt oc), u32_xor_nat ((a &&& b) ^^^ (a &&& c)) (b &&& c) (xor_lt (and_lt ob) (and_lt oc)) (and_lt oc)]
  have e1 : r2 ^^^ r13 ^^^ r22 = bs0 a := by rw [← h2, ← h13, ← h22]; rfl
  have e2 : (a &&& b) ^^^ (a &&& c) ^^^ (b &&& c) = maj a b c := rfl
  rw [e1, e2]
  show _ = ((a32 (bs0 a) (maj a b c) : Nat) : Int)
  unfold a32
  omega
theorem a32_int (a b : Nat) : ((a : Int) + (b : Int)) % 4294967296 = ((a32 a b : Nat) : Int) := by unfold a32; omega
theorem int_u32 {a b : Int} (h : a = b) : Value.int .u32 a = .int .u32 b := by rw [h]
set_option maxRecDepth 100000 in
set_option maxHeartbeats 1600000 in
theorem changed_any (s : S8) (hs : s.Ok) (l : List UInt8) (hl : l.length = 64) (w : World) (hg : Glob w) :
    Calls Tryd.prog 35 #[.agg s.cells.toArray, .agg (Lib.byteCells l).toArray] w fun e w' => e = .returned (.agg (comp s l).cells.toArray) ∧ w.grownBy w' none := by
  obtain ⟨cs, HCS⟩ : ∃ cs, Hid (Lib.byteCells l = cs) := ⟨_, hid rfl⟩
  obtain ⟨ss, HSS⟩ : ∃ ss, Hid (s.cells = ss) := ⟨_, hid rfl⟩
  obtain ⟨R, HR⟩ : ∃ R, Hid (∀ n, n = 64 → (addS s (rounds l s n)).cells = R) := ⟨_, hid (fun n hn => by rw [hn])⟩
  obtain ⟨ws, HWS⟩ : ∃ ws, Hid (∀ n, n = 64 → wsN l n = ws) := ⟨_, hid (fun n hn => by rw [hn])⟩
  have HWL : Hid (ws.length = 64) := hid (by rw [← HWS.out 64 rfl, wsN_length])
  have HSP : Hid (∀ u, Calls Tryd.prog 46 #[.agg cs.toArray] u fun e w' => e = .returned (.agg (wcs ws).toArray) ∧ u.grownBy w' none) := fun u => by
    have := spread_any l hl u
    rw [HCS.out, HWS.out 64 rfl] at this
    exact this
  have HL := hid hl
  have HO := hid hs
  have HGl := hid hg
  have e0 : comp s l = addS s (rounds l s 64) := rfl
  rw [e0, HCS.out, HSS.out, HR.out 64 rfl]
  have HCL : Hid (cs.length = 64) := hid (by rw [← HCS.out, byteCells_length, hl])
  clear hl hs hg e0
  obtain ⟨wcl, HWC⟩ : ∃ wcl, Hid (wcs ws = wcl) := ⟨_, hid rfl⟩
  have HWCL : Hid (wcl.length = 64) := hid (by rw [← HWC.out, wcs_length, HWL.out])
  have HWC1 : Hid (∀ v ∈ wcl, v.oneCell' = true) := hid (by rw [← HWC.out]; exact wcs_one _)
  rw [HWC.out] at HSP
  go_enter Tryd.func35, Tryd.ntmps35
  go_wp2_with (first
    | (refine wpList_box_row rfl 72 _ rfl ss rfl ?_; intro w1 B1 s1 g1; have HB1 := hid B1; have HG1 := hid g1; have HS1 := hid s1; clear B1 g1 s1)
    | (refine wpList_box_row rfl 73 _ rfl cs rfl ?_; intro w2 B2 s2 g2; have HB2 := hid B2; have HG2 := hid g2; have HS2 := hid s2; clear B2 g2 s2)
    | (refine wpList_alloc_row rfl 72 rfl z8 Tryd.zero72 ?_; intro w3 B3 s3 g3; have HB3 := hid B3; have HG3 := hid g3; have HS3 := hid s3; clear B3 g3 s3; have HB23 := hid (HB2.out.keep HG3.out))
    | (refine wpList_load_part rfl 73 _ rfl _ 0 cs _ rfl HB23.out.whole Tryd.underlying73 rfl (by rw [HCL.out]; exact Tryd.size73) ?_)
    | (go_at_call 46; refine (HSP.out _).mono ?_; rintro e w4 ⟨rfl, hg4⟩; have HG4 := hid hg4; clear hg4)
    | (refine wpList_alloc_row rfl 84 rfl z64 Tryd.zero84 ?_; intro w5 B5 s5 g5; have HB5 := hid B5; have HG5 := hid g5; have HS5 := hid s5; clear B5 g5 s5)
    | (refine wpList_store_all rfl 84 _ _ rfl _ z64 wcl 84 rfl rfl HB5.out (by rw [HWCL.out]; rfl) (by rw [HWCL.out]; exact Tryd.size84) HWC1.out ?_; intro w6 B6 g6 s6; have HB6 := hid B6; have HG6 := hid g6; have HS6 := hid s6; clear B6 g6 s6))
  obtain ⟨b1, hb1⟩ : ∃ b1, b1 = w.heap.size := ⟨_, rfl⟩
  obtain ⟨b2, hb2⟩ : ∃ b2, b2 = w1.heap.size := ⟨_, rfl⟩
  obtain ⟨b3, hb3⟩ : ∃ b3, b3 = w2.heap.size := ⟨_, rfl⟩
  obtain ⟨b4, hb4⟩ : ∃ b4, b4 = w4.heap.size := ⟨_, rfl⟩
  rw [← hb1, ← hb2, ← hb3, ← hb4]
  rw [← hb1] at HB1
  rw [← hb3] at HB3
  rw [← hb4] at HB6 HG6
  have HN := hid (show b1 ≠ b3 ∧ b1 ≠ b4 ∧ b3 ≠ b4 ∧ w.heap.size ≤ b4 ∧ w.heap.size ≤ b3 by have := HS1.out; have := HS2.out; have := HS3.out; have := HG4.out.size; omega)
  have HG := hid ((gtrans HG1.out (gtrans HG2.out (gtrans HG3.out (gtrans HG4.out HG5.out)))).andThen HG6.out (fun j hj => .inl (by injection hj with hj; have := HN.out; omega)))
  have HB16 := hid ((((((HB1.out.keep HG2.out).keep HG3.out).keep HG4.out).keep HG5.out).on HG6.out (by simp; exact fun e => HN.out.2.1 e.symm)))
  have HB36 := hid (((HB3.out.keep HG4.out).keep HG5.out).on HG6.out (by simp; exact fun e => HN.out.2.2.1 e.symm))
  have HGl6 := hid (HGl.out.keep HG.out)
  clear hb1 hb2 hb3 hb4 HG1 HG2 HG3 HG4 HG5 HG6 HS1 HS2 HS3 HS5 HS6 HB1 HB2 HB3 HB5 HB23
  have c0 : w6.cell? ⟨b1, 0, none⟩ = some (.int .u32 s.a) := by rw [HB16.out.cell, ← HSS.out]; rfl
  have c1 : w6.cell? ⟨b1, 1, none⟩ = some (.int .u32 s.b) := by rw [HB16.out.cell, ← HSS.out]; rfl
  have c2 : w6.cell? ⟨b1, 2, none⟩ = some (.int .u32 s.c) := by rw [HB16.out.cell, ← HSS.out]; rfl
  have c3 : w6.cell? ⟨b1, 3, none⟩ = some (.int .u32 s.d) := by rw [HB16.out.cell, ← HSS.out]; rfl
  have c4 : w6.cell? ⟨b1, 4, none⟩ = some (.int .u32 s.e) := by rw [HB16.out.cell, ← HSS.out]; rfl
  have c5 : w6.cell? ⟨b1, 5, none⟩ = some (.int .u32 s.f) := by rw [HB16.out.cell, ← HSS.out]; rfl
  have c6 : w6.cell? ⟨b1, 6, none⟩ = some (.int .u32 s.g) := by rw [HB16.out.cell, ← HSS.out]; rfl
  have c7 : w6.cell? ⟨b1, 7, none⟩ = some (.int .u32 s.h) := by rw [HB16.out.cell, ← HSS.out]; rfl
  go_wp2_with fail
  go_quiet (fail)
  go_wp2_with fail
  have HBs := hid (show Blk (w6.drewN nq) b1 ss 72 from HB16.out)
  have HBr := hid (show Blk (w6.drewN nq) b3 z8 72 from HB36.out)
  have HBw := hid (show Blk (w6.drewN nq) b4 wcl 84 from HB6.out)
  have HGd := hid (gtrans HG.out (gdrew w6 nq _))
  clear c0 c1 c2 c3 c4 c5 c6 c7 HB16 HB36 HB6 HG HGl6
  generalize w6.drewN nq = w7 at HBs HBr HBw HGd ⊢
  go_loopw [6, 7, 8, 9, 10, 11, 12, 13, 35] (fun va vb vc vd ve vf vg vh iv wr => ∃ (k : Nat) (r : S8), k ≤ 64 ∧ iv = .int .i64 k ∧ Hid (r = rounds l s k) ∧ va = .int .u32 r.a ∧ vb = .int .u32 r.b ∧ vc = .int .u32 r.c ∧ vd = .int .u32 r.d ∧ ve = .int .u32 r.e ∧ vf = .int .u32 r.f ∧ vg = .int .u32 r.g ∧ vh = .int .u32 r.h ∧ Hid (w7.grownBy wr none)) (fun _ _ _ _ _ _ _ _ iv _ => 64 - (intOf iv).toNat)
  case atStart => exact ⟨0, s, by omega, rfl, hid rfl, rfl, rfl, rfl, rfl, rfl, rfl, rfl, rfl, hid (grefl _ _)⟩
  case round =>
    obtain ⟨k, r, hk, rfl, Hr, rfl, rfl, rfl, rfl, rfl, rfl, rfl, rfl, HW⟩ := hrel
    by_cases hlt : k < 64
    · have ok : r.Ok := by rw [Hr.out]; exact rounds_ok l HO.out k
      obtain ⟨a, b, c, d, e, f, g, h⟩ := r
      have oa : a < 4294967296 := ok.a
      have ob : b < 4294967296 := ok.b
      have oc : c < 4294967296 := ok.c
      have od : d < 4294967296 := ok.d
      have oe : e < 4294967296 := ok.e
      have of' : f < 4294967296 := ok.f
      have og : g < 4294967296 := ok.g
      have oh : h < 4294967296 := ok.h
      have hkt : wr.cell? ⟨1, k, none⟩ = some (.int .u32 (kt k)) := ((HGl.out.keep HGd.out).keep HW.out).k0 k hlt
      have hwt : wr.cell? ⟨b4, k, none⟩ = some (.int .u32 (ws.getD k 0 : Nat)) := by
        rw [(HBw.out.keep HW.out).cell, ← HWC.out, wcs_get _ _ (by rw [HWL.out]; exact hlt)]
      have hkl := kt_lt k
      have hwl : ws.getD k 0 < 4294967296 := by rw [← HWS.out 64 rfl]; exact wsN_getD_lt _ _ _
      have HRN : Hid (rounds l s (k + 1) = rnd ⟨a, b, c, d, e, f, g, h⟩ (kt k) (ws.getD k 0)) := by rw [Hr.out, ← HWS.out 64 rfl]; exact hid rfl
      generalize kt k = K at hkt hkl HRN
      generalize ws.getD k 0 = W at hwt hwl HRN
      have HT6 : Hid (∀ u, Calls Tryd.prog 47 #[.int .u32 (e : Nat), .int .i64 6] u fun x w' => x = .returned (.int .u32 (rot 6 e : Nat)) ∧ w' = u) := fun u => turned_any e 6 oe (by decide) (by decide) u
      have HT11 : Hid (∀ u, Calls Tryd.prog 47 #[.int .u32 (e : Nat), .int .i64 11] u fun x w' => x = .returned (.int .u32 (rot 11 e : Nat)) ∧ w' = u) := fun u => turned_any e 11 oe (by decide) (by decide) u
      have HT25 : Hid (∀ u, Calls Tryd.prog 47 #[.int .u32 (e : Nat), .int .i64 25] u fun x w' => x = .returned (.int .u32 (rot 25 e : Nat)) ∧ w' = u) := fun u => turned_any e 25 oe (by decide) (by decide) u
      have HT2 : Hid (∀ u, Calls Tryd.prog 47 #[.int .u32 (a : Nat), .int .i64 2] u fun x w' => x = .returned (.int .u32 (rot 2 a : Nat)) ∧ w' = u) := fun u => turned_any a 2 oa (by decide) (by decide) u
      have HT13 : Hid (∀ u, Calls Tryd.prog 47 #[.int .u32 (a : Nat), .int .i64 13] u fun x w' => x = .returned (.int .u32 (rot 13 a : Nat)) ∧ w' = u) := fun u => turned_any a 13 oa (by decide) (by decide) u
      have HT22 : Hid (∀ u, Calls Tryd.prog 47 #[.int .u32 (a : Nat), .int .i64 22] u fun x w' => x = .returned (.int .u32 (rot 22 a : Nat)) ∧ w' = u) := fun u => turned_any a 22 oa (by decide) (by decide) u
      obtain ⟨r6, R6⟩ : ∃ x, Hid (rot 6 e = x) := ⟨_, hid rfl⟩
      obtain ⟨r11, R11⟩ : ∃ x, Hid (rot 11 e = x) := ⟨_, hid rfl⟩
      obtain ⟨r25, R25⟩ : ∃ x, Hid (rot 25 e = x) := ⟨_, hid rfl⟩
      obtain ⟨r2, R2⟩ : ∃ x, Hid (rot 2 a = x) := ⟨_, hid rfl⟩
      obtain ⟨r13, R13⟩ : ∃ x, Hid (rot 13 a = x) := ⟨_, hid rfl⟩
      obtain ⟨r22, R22⟩ : ∃ x, Hid (rot 22 a = x) := ⟨_, hid rfl⟩
      rw [R6.out] at HT6
      rw [R11.out] at HT11
      rw [R25.out] at HT25
      rw [R2.out] at HT2
      rw [R13.out] at HT13
      rw [R22.out] at HT22
      have hlt' : (k : Int) < 64 := by omega
      clear ok
      go_wp2_with fail
      go_quiet ((first | (go_at_call 47; with_reducible exact Calls.quiet_of_same (HT6.out _)) | (go_at_call 47; with_reducible exact Calls.quiet_of_same (HT11.out _)) | (go_at_call 47; with_reducible exact Calls.quiet_of_same (HT25.out _))))
      go_wp2_with (first
        | (go_at_call 47; with_reducible refine (HT2.out _).mono ?_; rintro x w' ⟨rfl, hw⟩; have hw' := hw.symm; clear hw; subst hw')
        | (go_at_call 47; with_reducible refine (HT13.out _).mono ?_; rintro x w' ⟨rfl, hw⟩; have hw' := hw.symm; clear hw; subst hw')
        | (go_at_call 47; with_reducible refine (HT22.out _).mono ?_; rintro x w' ⟨rfl, hw⟩; have hw' := hw.symm; clear hw; subst hw'))
      go_roundw
      case rel =>
        refine ⟨k + 1, rnd ⟨a, b, c, d, e, f, g, h⟩ K W, by omega, by go_num, hid HRN.out.symm, ?x1, rfl, rfl, rfl, ?x2, rfl, rfl, rfl, hid (gtrans HW.out (gdrew _ _ _))⟩
        case x1 =>
          refine int_u32 ?_
          rw [pT_int a b c d e f g h K W r6 r11 r25 R6.out R11.out R25.out oe of' og, qT_int a b c d e f g h r2 r13 r22 R2.out R13.out R22.out oa ob oc]
          exact a32_int _ _
        case x2 =>
          refine int_u32 ?_
          rw [pT_int a b c d e f g h K W r6 r11 r25 R6.out R11.out R25.out oe of' og]
          exact a32_int _ _
      case measure => simp [intOf]; omega
    · obtain rfl : k = 64 := by omega
      have HRr : Hid ((addS s r).cells = R) := by rw [Hr.out]; exact hid (HR.out 64 rfl)
      have ok : r.Ok := by rw [Hr.out]; exact rounds_ok l HO.out 64
      have HBs2 := hid (HBs.out.keep HW.out)
      have HBr2 := hid (HBr.out.keep HW.out)
      have c0 : wr.cell? ⟨b1, 0, none⟩ = some (.int .u32 s.a) := by rw [HBs2.out.cell, ← HSS.out]; rfl
      have c1 : wr.cell? ⟨b1, 1, none⟩ = some (.int .u32 s.b) := by rw [HBs2.out.cell, ← HSS.out]; rfl
      have c2 : wr.cell? ⟨b1, 2, none⟩ = some (.int .u32 s.c) := by rw [HBs2.out.cell, ← HSS.out]; rfl
      have c3 : wr.cell? ⟨b1, 3, none⟩ = some (.int .u32 s.d) := by rw [HBs2.out.cell, ← HSS.out]; rfl
      have c4 : wr.cell? ⟨b1, 4, none⟩ = some (.int .u32 s.e) := by rw [HBs2.out.cell, ← HSS.out]; rfl
      have c5 : wr.cell? ⟨b1, 5, none⟩ = some (.int .u32 s.f) := by rw [HBs2.out.cell, ← HSS.out]; rfl
      have c6 : wr.cell? ⟨b1, 6, none⟩ = some (.int .u32 s.g) := by rw [HBs2.out.cell, ← HSS.out]; rfl
      have c7 : wr.cell? ⟨b1, 7, none⟩ = some (.int .u32 s.h) := by rw [HBs2.out.cell, ← HSS.out]; rfl
      obtain ⟨sa, sb, sc, sd, se, sf, sg, sh⟩ := s
      obtain ⟨a, b, c, d, e, f, g, h⟩ := r
      clear Hr ok
      have q0 := a32_int sa a
      have q1 := a32_int sb b
      have q2 := a32_int sc c
      have q3 := a32_int sd d
      have q4 := a32_int se e
      have q5 := a32_int sf f
      have q6 := a32_int sg g
      have q7 := a32_int sh h
      have HRe : Hid (R = [.int .u32 (a32 sa a : Nat), .int .u32 (a32 sb b : Nat), .int .u32 (a32 sc c : Nat), .int .u32 (a32 sd d : Nat), .int .u32 (a32 se e : Nat), .int .u32 (a32 sf f : Nat), .int .u32 (a32 sg g : Nat), .int .u32 (a32 sh h : Nat)]) := hid HRr.out.symm
      generalize a32 sa a = x0 at q0 HRe
      generalize a32 sb b = x1 at q1 HRe
      generalize a32 sc c = x2 at q2 HRe
      generalize a32 sd d = x3 at q3 HRe
      generalize a32 se e = x4 at q4 HRe
      generalize a32 sf f = x5 at q5 HRe
      generalize a32 sg g = x6 at q6 HRe
      generalize a32 sh h = x7 at q7 HRe
      obtain ⟨RR, HRR⟩ : ∃ RR : List Value, RR = [.int .u32 (x0 : Nat), .int .u32 (x1 : Nat), .int .u32 (x2 : Nat), .int .u32 (x3 : Nat), .int .u32 (x4 : Nat), .int .u32 (x5 : Nat), .int .u32 (x6 : Nat), .int .u32 (x7 : Nat)] := ⟨_, rfl⟩
      have HR1 : ∀ v ∈ RR, v.oneCell' = true := by rw [HRR]; intro v hv; simp only [List.mem_cons, List.not_mem_nil, or_false] at hv; rcases hv with rfl | rfl | rfl | rfl | rfl | rfl | rfl | rfl <;> rfl
      rw [HRR] at HR1
      have HR2 := hid HR1
      clear HR1 HRR HRr
      go_wp2_with (refine wpList_store_all rfl 72 _ _ rfl b3 z8 [.int .u32 (x0 : Nat), .int .u32 (x1 : Nat), .int .u32 (x2 : Nat), .int .u32 (x3 : Nat), .int .u32 (x4 : Nat), .int .u32 (x5 : Nat), .int .u32 (x6 : Nat), .int .u32 (x7 : Nat)] 72 rfl rfl HBr2.out rfl Tryd.size72 HR2.out ?_; intro w8 B8 g8 s8; have HB8 := hid B8; have HG8 := hid g8; clear B8 g8 s8)
      refine bodyPost_ret (results_blk rfl _ b3 72 _ _ rfl HB8.out Tryd.underlying72 rfl Tryd.size72) rfl ?_
      exact ⟨by rw [HRe.out], ((gtrans HGd.out HW.out)).andThen HG8.out (fun j hj => .inl (by injection hj with hj; have := HN.out; omega))⟩
end Go.Proofs.YtmiojplbcjhggaaDoor
