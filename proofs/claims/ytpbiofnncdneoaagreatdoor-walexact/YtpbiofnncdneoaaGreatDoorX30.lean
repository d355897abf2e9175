/- The stage's plays. -/
import Derived.Test.YtpbiofnncdneoaaGreatDoorX29
namespace Go.Proofs.YtpbiofnncdneoaaGreatDoor
open Go Go.RowKit Go.MapKept Go.MuLone
open Go.RowKit (wrap32 wrap64)

variable {w u u' : World} {A A' D : Ab} {b0 b1 sb bk lt T n k bn bc : Nat} {s : ByteArray} {x y : Nat → Option Nat} {zs : Nat → Nat} {os : Nat → Bool} {ps : List Bq.Item} {l : List UInt8} {ba : Option Addr} {on nv kv : Int}
set_option maxRecDepth 100000 in
set_option maxHeartbeats 8000000 in
theorem plays_ap1none (h : Wx w b0 b1 sb x y A A.sr zs os bk lt T ps u) (hT : Tab w) (hw : A.wr ≤ 4611686018427387000) (hroom : A.room ≤ 4194304) (hps : ps.length < 8) (hTT : T + 208 ≤ 10000000) {Z : Nat} (hz : ∀ j, zs j ≤ Z) (hZ : 4194304 ≤ Z) (hZ2 : Z ≤ 1000000000) {F : Nat → Prop} (hB : Rd w F (.slice ba bn bc) l) (hl : l.length ≤ 524288) (hand : bits .and .i64 on 1 = 1) (hx : x 1 = none) :
  Calls Tryz.prog 10 #[.pointer (some ⟨sb, 0, none⟩), .agg [Value.int .i64 1, .int .i64 on, .slice ba bn bc, .int .i64 nv, .int .i64 kv].toArray] u fun e u' => e = .returned (.bool true) ∧ ∃ A', Opn w b0 b1 sb bk lt T 208 (Z + 600000) A' u' ∧ A'.room = A.room ∧ A'.wr ≤ A.wr + 3 := by
 have hu0 := And.intro hT (And.intro hw (And.intro hroom (And.intro hps (And.intro hTT (And.intro hz (And.intro hZ (And.intro hZ2 (And.intro hB hl))))))))
 clear hu0
 have hn : NdC A.C := (h.nn (k := 1)).1
 have HM := hid h
 have HQ : Hid (ps.length < 8 ∧ (∀ j, zs j ≤ Z) ∧ Z ≤ 1000000000) := hid ⟨hps, hz, hZ2⟩
 have hx' : pv (x 1) = .pointer none := by rw [hx]; rfl
 clear h hT hw hroom hps hTT hz hZ hZ2 hB hl hn hx
 go_enter Tryz.func10, Tryz.ntmps10
 go_upto_region 3 with ((with_reducible refine wpList_box_row (by with_unfolding_all rfl) 76 _ (by with_unfolding_all rfl) [Value.int .i64 1, .int .i64 on, .slice ba bn bc, .int .i64 nv, .int .i64 kv] (by with_unfolding_all rfl) ?_); intro w1 B1 s1 g1; have HB1 := hid B1; have HG1 := hid g1; have c0 := B1.cell 0; have c1 := B1.cell 1; clear B1 s1 g1)
 have cl := ((HM.out.keep HG1.out).cell 3).trans (show _ = some (pv (x 1)) from rfl)
 rw [hx'] at cl
 clear c1
 go_wp2_with fail
 go_ret
 exact ⟨rfl, A, ⟨x, y, zs, os, T, ps, HM.out.keep HG1.out, HQ.out.1, by omega, fun j => by have := HQ.out.2.1 j; omega⟩, rfl, by omega⟩
set_option maxRecDepth 100000 in
set_option maxHeartbeats 8000000 in
theorem plays_ap1on (h : Wx w b0 b1 sb x y A A.sr zs os bk lt T ps u) (hT : Tab w) (hw : A.wr ≤ 4611686018427387000) (hroom : A.room ≤ 4194304) (hps : ps.length < 8) (hTT : T + 208 ≤ 10000000) {Z : Nat} (hz : ∀ j, zs j ≤ Z) (hZ : 4194304 ≤ Z) (hZ2 : Z ≤ 1000000000) {F : Nat → Prop} (hB : Rd w F (.slice ba bn bc) l) (hl : l.length ≤ 524288) (hand : bits .and .i64 on 1 = 1) {lb rb : Nat} (hx : x 1 = some lb) (hy : y 1 = some rb) (ho : os 1 = false) :
  Calls Tryz.prog 10 #[.pointer (some ⟨sb, 0, none⟩), .agg [Value.int .i64 1, .int .i64 on, .slice ba bn bc, .int .i64 nv, .int .i64 kv].toArray] u fun e u' => e = .returned (.bool true) ∧ ∃ A', Opn w b0 b1 sb bk lt T 208 (Z + 600000) A' u' ∧ A'.room = A.room ∧ A'.wr ≤ A.wr + 3 := by
 have hu0 := And.intro hT (And.intro hw (And.intro hroom (And.intro hps (And.intro hTT (And.intro hz (And.intro hZ (And.intro hZ2 (And.intro hB hl))))))))
 clear hu0
 have hn : NdC A.C := (h.nn (k := 1)).1
 have HM := hid h
 have HQ : Hid (ps.length < 8 ∧ (∀ j, zs j ≤ Z) ∧ Z ≤ 1000000000) := hid ⟨hps, hz, hZ2⟩
 have HB : Hid (Rd w F (.slice ba bn bc) l) := hid hB
 have HLl : Hid (l.length ≤ 524288) := hid hl
 have hzk : zs 1 ≤ 1099511627776 := by have := hz 1; omega
 have HPa : Hid (∀ u ob cs v, Wl w b0 b1 sb x y A A.sr zs os zs os bk lt T ps ob cs v l u → Calls Tryz.prog 16 #[.pointer (some ⟨lb, 0, none⟩), v] u fun e u' => e = .returned (.int .i64 (A.appE (nm 1) (frameL l))) ∧ Wl w b0 b1 sb x y (A.app (nm 1) (frameL l)) A.sr (up zs 1 (lgZ A (nm 1) (zs 1) l)) (up os 1 (decide (A.appE (nm 1) (frameL l) ≠ 0))) zs os bk lt T ps ob cs v l u') := hid (fun u ob cs v q => q.papp (by decide) hx ho hT (by omega) hzk (by omega))
 have HRa : Hid (∀ u ob cs A' zs' os', Wn w b0 b1 sb x y A' A.sr zs' os' zs os bk lt T ps ob cs u → Calls Tryz.prog 27 #[.pointer (some ⟨rb, 0, none⟩), .slice ba bn bc] u fun e u' => e = .returned (.int .i64 (A.appE (nm 1) (frameL l))) ∧ Wn w b0 b1 sb x y A' (A.app (nm 1) (frameL l)).sr zs' os' (up zs 1 (lgZ A (nm 1) (zs 1) l)) (up os 1 (decide (A.appE (nm 1) (frameL l) ≠ 0))) bk lt T ps ob cs u') := hid (fun u ob cs A' zs' os' q => q.rapp hn (by decide) hy ho (by omega) hzk hB (by omega))
 have HA1 : Hid ((A.app (nm 1) (frameL l)).room = A.room ∧ (A.app (nm 1) (frameL l)).wr ≤ A.wr + 3) := hid (by have := app_room A (nm 1) (frameL l); omega)
 have HZ1 : Hid (lgZ A (nm 1) (zs 1) l ≤ Z + 600000) := hid (by have := hz 1; unfold lgZ; split <;> omega)
 obtain ⟨E, HE⟩ : ∃ z, Hid (A.appE (nm 1) (frameL l) = z) := ⟨_, hid rfl⟩
 rw [HE.out] at HPa HRa
 obtain ⟨A1, HAA⟩ : ∃ z, Hid (A.app (nm 1) (frameL l) = z) := ⟨_, hid rfl⟩
 rw [HAA.out] at HPa HRa HA1
 obtain ⟨z1, HZZ⟩ : ∃ z, Hid (lgZ A (nm 1) (zs 1) l = z) := ⟨_, hid rfl⟩
 rw [HZZ.out] at HPa HRa HZ1
 obtain ⟨o1, HOO⟩ : ∃ z, Hid (decide (E ≠ 0) = z) := ⟨_, hid rfl⟩
 rw [HOO.out] at HPa HRa
 obtain ⟨zs1, HZS⟩ : ∃ z, Hid (up zs 1 z1 = z) := ⟨_, hid rfl⟩
 have HZL : Hid (∀ j, zs1 j ≤ Z + 600000) := hid (by rw [← HZS.out]; exact up_le (fun j => by have := HQ.out.2.1 j; omega) HZ1.out)
 rw [HZS.out] at HPa HRa
 obtain ⟨os1, HOS⟩ : ∃ z, Hid (up os 1 o1 = z) := ⟨_, hid rfl⟩
 rw [HOS.out] at HPa HRa
 obtain ⟨D0, HD0⟩ : ∃ z, Hid (A.sr = z) := ⟨_, hid rfl⟩
 rw [HD0.out] at HPa HRa HM
 obtain ⟨D1, HD1⟩ : ∃ z, Hid (A1.sr = z) := ⟨_, hid rfl⟩
 rw [HD1.out] at HRa
 clear HE HAA HZZ HOO HZS HOS HD0 HZ1
 have hx' : pv (x 1) = .pointer (some ⟨lb, 0, none⟩) := by rw [hx]; rfl
 have hy' : pv (y 1) = .pointer (some ⟨rb, 0, none⟩) := by rw [hy]; rfl
 clear h hT hw hroom hps hTT hz hZ hZ2 hB hl hn hx hy ho hzk
 go_enter Tryz.func10, Tryz.ntmps10
 go_upto_region 3 with ((with_reducible refine wpList_box_row (by with_unfolding_all rfl) 76 _ (by with_unfolding_all rfl) [Value.int .i64 1, .int .i64 on, .slice ba bn bc, .int .i64 nv, .int .i64 kv] (by with_unfolding_all rfl) ?_); intro w1 B1 s1 g1; have HB1 := hid B1; have HG1 := hid g1; have c0 := B1.cell 0; have c1 := B1.cell 1; clear B1 s1 g1)
 obtain ⟨ob, hob⟩ : ∃ x, u.heap.size = x := ⟨_, rfl⟩
 have HO : Hid (Wo w b0 b1 sb x y A D0 zs os bk lt T ps ob [Value.int .i64 1, .int .i64 on, .slice ba bn bc, .int .i64 nv, .int .i64 kv] w1) := hid (by rw [← hob]; exact Wo.of HM.out HG1.out HB1.out)
 rw [hob] at c0 c1 ⊢
 clear hob HM HB1 HG1 c1
 have cl := (HO.out.cell 3).trans (show _ = some (pv (x 1)) from rfl)
 rw [hx'] at cl
 have c2 : w1.cell? ⟨ob, 2, none⟩ = some (.slice ba bn bc) := HO.out.at 2
 have HLe : Hid (Calls Tryz.prog 24 #[.slice ba bn bc] w1 fun e w' => ∃ v', e = .returned v' ∧ Lent w' w1.heap.size v' l ∧ w1.grownBy w' none) := hid (lend_any w1 _ F l (HB.out.keep HO.out.wx.gr) (by have := HLl.out; omega))
 go_upto_region 7 with (go_at_call 24; (with_reducible refine HLe.out.mono ?_); rintro e w2 ⟨v2, rfl, hL, hg⟩; have HL := hid (Wl.of HO.out hg hL); obtain ⟨gv, cv, hv2, -, -⟩ := hL; clear hg)
 subst hv2
 obtain ⟨ln, hln⟩ : ∃ z, l.length = z := ⟨_, rfl⟩
 rw [hln] at HL ⊢
 have HLn := hid hln
 clear hln cl c2 c0 HLe HO
 have cl := (HL.out.cell 3).trans (show _ = some (pv (x 1)) from rfl)
 rw [hx'] at cl
 go_upto_region 8 with (go_at_call 16; (with_reducible refine (HPa.out _ _ _ _ HL.out).mono ?_); rintro e w3 ⟨rfl, hm⟩; replace HL := hid hm; clear hm)
 clear cl HPa
 have c2 : w3.cell? ⟨ob, 2, none⟩ = some (.slice ba bn bc) := HL.out.at 2
 have HIn : Hid (Calls Tryz.prog 25 #[.slice (some ⟨gv, 0, none⟩) ln cv, .slice ba bn bc] w3 fun e u' => e = .returned (.bool true) ∧ Wl w b0 b1 sb x y A1 D0 zs1 os1 zs os bk lt T ps ob [Value.int .i64 1, .int .i64 on, .slice ba bn bc, .int .i64 nv, .int .i64 kv] (.slice (some ⟨gv, 0, none⟩) ln cv) l u') := hid (HL.out.intact HB.out (by have := HLl.out; omega))
 go_upto_region 9 with (go_at_call 25; (with_reducible refine HIn.out.mono ?_); rintro e w4 ⟨rfl, hm⟩; replace HL := hid hm; clear hm)
 clear c2 HIn
 have HOv := hid (HL.out.over (by have := HLl.out; omega))
 go_upto_region 10 with (go_at_call 26; (with_reducible refine HOv.out.mono ?_); rintro e w5 ⟨rfl, hm⟩; have HN := hid hm; clear hm)
 clear HOv HL
 have cy := (HN.out.cell 5).trans (show _ = some (pv (y 1)) from rfl)
 rw [hy'] at cy
 have HCy : Hid (∀ u A D zs os zr qr, Wn w b0 b1 sb x y A D zs os zr qr bk lt T ps ob [Value.int .i64 1, .int .i64 on, .slice ba bn bc, .int .i64 nv, .int .i64 kv] u → u.cell? ⟨sb, 5, none⟩ = some (.pointer (some ⟨rb, 0, none⟩)) ∧ u.cell? ⟨ob, 2, none⟩ = some (.slice ba bn bc)) := hid (fun u A D zs os zr qr q => ⟨by rw [← hy']; exact q.cell 5, q.at 2⟩)
 have c45 := HCy.out _ _ _ _ _ _ _ HN.out
 clear cy hx' hy' HB
 go_region_held3 (fun v => v.cell? ⟨sb, 5, none⟩ = some (.pointer (some ⟨rb, 0, none⟩)) ∧ v.cell? ⟨ob, 2, none⟩ = some (.slice ba bn bc)) (first | assumption | exact HCy.out _ _ _ _ _ _ _ HN.out | exact HCy.out _ _ _ _ _ _ _ (HN.out.keep (gdrew1 _ _))) (first
  | (go_at_call 7; (with_reducible refine (num_any _ _).mono ?_); rintro e v6 ⟨rfl, hw6⟩; have hw' := hw6.symm; clear hw6; subst hw')
  | (go_at_call 27; (with_reducible refine (HRa.out _ _ _ _ _ _ (by first | exact HN.out | exact HN.out.keep (gdrew1 _ _))).mono ?_); rintro e v6 ⟨rfl, hm⟩; replace HN := hid hm; clear hm))
 all_goals (go_wp2_with fail)
 all_goals (go_ret)
 all_goals (refine ⟨by first | rfl | simp, A1, ⟨x, y, zs1, os1, T, ps, ?_, HQ.out.1, by omega, HZL.out⟩, HA1.out.1, HA1.out.2⟩)
 all_goals (rw [HD1.out]; exact HN.out.wx)
set_option maxRecDepth 100000 in
set_option maxHeartbeats 8000000 in
theorem plays_ap1off (h : Wx w b0 b1 sb x y A A.sr zs os bk lt T ps u) (hT : Tab w) (hw : A.wr ≤ 4611686018427387000) (hroom : A.room ≤ 4194304) (hps : ps.length < 8) (hTT : T + 208 ≤ 10000000) {Z : Nat} (hz : ∀ j, zs j ≤ Z) (hZ : 4194304 ≤ Z) (hZ2 : Z ≤ 1000000000) {F : Nat → Prop} (hB : Rd w F (.slice ba bn bc) l) (hl : l.length ≤ 524288) (hand : bits .and .i64 on 1 = 1) {lb rb : Nat} (hx : x 1 = some lb) (hy : y 1 = some rb) (ho : os 1 = true) :
  Calls Tryz.prog 10 #[.pointer (some ⟨sb, 0, none⟩), .agg [Value.int .i64 1, .int .i64 on, .slice ba bn bc, .int .i64 nv, .int .i64 kv].toArray] u fun e u' => e = .returned (.bool true) ∧ ∃ A', Opn w b0 b1 sb bk lt T 208 (Z + 600000) A' u' ∧ A'.room = A.room ∧ A'.wr ≤ A.wr + 3 := by
 have hu0 := And.intro hT (And.intro hw (And.intro hroom (And.intro hps (And.intro hTT (And.intro hz (And.intro hZ (And.intro hZ2 (And.intro hB hl))))))))
 clear hu0
 have hn : NdC A.C := (h.nn (k := 1)).1
 have HM := hid h
 have HQ : Hid (ps.length < 8 ∧ (∀ j, zs j ≤ Z) ∧ Z ≤ 1000000000) := hid ⟨hps, hz, hZ2⟩
 have HB : Hid (Rd w F (.slice ba bn bc) l) := hid hB
 have HLl : Hid (l.length ≤ 524288) := hid hl
 have hzk : zs 1 ≤ 1099511627776 := by have := hz 1; omega
 obtain ⟨E, HE⟩ : ∃ z : Int, Hid (z = 102) := ⟨_, hid rfl⟩
 have HPa : Hid (∀ u ob cs v, Wl w b0 b1 sb x y A A.sr zs os zs os bk lt T ps ob cs v l u → Calls Tryz.prog 16 #[.pointer (some ⟨lb, 0, none⟩), v] u fun e u' => e = .returned (.int .i64 E) ∧ Wl w b0 b1 sb x y A A.sr zs os zs os bk lt T ps ob cs v l u') := hid (fun u ob cs v q => by rw [HE.out]; exact q.poff (by decide) hx ho)
 have HRa : Hid (∀ u ob cs A' zs' os', Wn w b0 b1 sb x y A' A.sr zs' os' zs os bk lt T ps ob cs u → Calls Tryz.prog 27 #[.pointer (some ⟨rb, 0, none⟩), .slice ba bn bc] u fun e u' => e = .returned (.int .i64 E) ∧ Wn w b0 b1 sb x y A' A.sr zs' os' zs os bk lt T ps ob cs u') := hid (fun u ob cs A' zs' os' q => by rw [HE.out]; exact q.roff (by decide) hy ho _)
 have HZL : Hid (∀ j, zs j ≤ Z + 600000) := hid (fun j => by have := hz j; omega)
 clear HE
 have hx' : pv (x 1) = .pointer (some ⟨lb, 0, none⟩) := by rw [hx]; rfl
 have hy' : pv (y 1) = .pointer (some ⟨rb, 0, none⟩) := by rw [hy]; rfl
 clear h hT hw hroom hps hTT hz hZ hZ2 hB hl hn hx hy ho hzk
 go_enter Tryz.func10, Tryz.ntmps10
 go_upto_region 3 with ((with_reducible refine wpList_box_row (by with_unfolding_all rfl) 76 _ (by with_unfolding_all rfl) [Value.int .i64 1, .int .i64 on, .slice ba bn bc, .int .i64 nv, .int .i64 kv] (by with_unfolding_all rfl) ?_); intro w1 B1 s1 g1; have HB1 := hid B1; have HG1 := hid g1; have c0 := B1.cell 0; have c1 := B1.cell 1; clear B1 s1 g1)
 obtain ⟨ob, hob⟩ : ∃ x, u.heap.size = x := ⟨_, rfl⟩
 have HO : Hid (Wo w b0 b1 sb x y A A.sr zs os bk lt T ps ob [Value.int .i64 1, .int .i64 on, .slice ba bn bc, .int .i64 nv, .int .i64 kv] w1) := hid (by rw [← hob]; exact Wo.of HM.out HG1.out HB1.out)
 rw [hob] at c0 c1 ⊢
 clear hob HM HB1 HG1 c1
 have cl := (HO.out.cell 3).trans (show _ = some (pv (x 1)) from rfl)
 rw [hx'] at cl
 have c2 : w1.cell? ⟨ob, 2, none⟩ = some (.slice ba bn bc) := HO.out.at 2
 have HLe : Hid (Calls Tryz.prog 24 #[.slice ba bn bc] w1 fun e w' => ∃ v', e = .returned v' ∧ Lent w' w1.heap.size v' l ∧ w1.grownBy w' none) := hid (lend_any w1 _ F l (HB.out.keep HO.out.wx.gr) (by have := HLl.out; omega))
 go_upto_region 7 with (go_at_call 24; (with_reducible refine HLe.out.mono ?_); rintro e w2 ⟨v2, rfl, hL, hg⟩; have HL := hid (Wl.of HO.out hg hL); obtain ⟨gv, cv, hv2, -, -⟩ := hL; clear hg)
 subst hv2
 obtain ⟨ln, hln⟩ : ∃ z, l.length = z := ⟨_, rfl⟩
 rw [hln] at HL ⊢
 have HLn := hid hln
 clear hln cl c2 c0 HLe HO
 have cl := (HL.out.cell 3).trans (show _ = some (pv (x 1)) from rfl)
 rw [hx'] at cl
 go_upto_region 8 with (go_at_call 16; (with_reducible refine (HPa.out _ _ _ _ HL.out).mono ?_); rintro e w3 ⟨rfl, hm⟩; replace HL := hid hm; clear hm)
 clear cl HPa
 have c2 : w3.cell? ⟨ob, 2, none⟩ = some (.slice ba bn bc) := HL.out.at 2
 have HIn : Hid (Calls Tryz.prog 25 #[.slice (some ⟨gv, 0, none⟩) ln cv, .slice ba bn bc] w3 fun e u' => e = .returned (.bool true) ∧ Wl w b0 b1 sb x y A A.sr zs os zs os bk lt T ps ob [Value.int .i64 1, .int .i64 on, .slice ba bn bc, .int .i64 nv, .int .i64 kv] (.slice (some ⟨gv, 0, none⟩) ln cv) l u') := hid (HL.out.intact HB.out (by have := HLl.out; omega))
 go_upto_region 9 with (go_at_call 25; (with_reducible refine HIn.out.mono ?_); rintro e w4 ⟨rfl, hm⟩; replace HL := hid hm; clear hm)
 clear c2 HIn
 have HOv := hid (HL.out.over (by have := HLl.out; omega))
 go_upto_region 10 with (go_at_call 26; (with_reducible refine HOv.out.mono ?_); rintro e w5 ⟨rfl, hm⟩; have HN := hid hm; clear hm)
 clear HOv HL
 have cy := (HN.out.cell 5).trans (show _ = some (pv (y 1)) from rfl)
 rw [hy'] at cy
 have HCy : Hid (∀ u A D zs os zr qr, Wn w b0 b1 sb x y A D zs os zr qr bk lt T ps ob [Value.int .i64 1, .int .i64 on, .slice ba bn bc, .int .i64 nv, .int .i64 kv] u → u.cell? ⟨sb, 5, none⟩ = some (.pointer (some ⟨rb, 0, none⟩)) ∧ u.cell? ⟨ob, 2, none⟩ = some (.slice ba bn bc)) := hid (fun u A D zs os zr qr q => ⟨by rw [← hy']; exact q.cell 5, q.at 2⟩)
 have c45 := HCy.out _ _ _ _ _ _ _ HN.out
 clear cy hx' hy' HB
 go_region_held3 (fun v => v.cell? ⟨sb, 5, none⟩ = some (.pointer (some ⟨rb, 0, none⟩)) ∧ v.cell? ⟨ob, 2, none⟩ = some (.slice ba bn bc)) (first | assumption | exact HCy.out _ _ _ _ _ _ _ HN.out | exact HCy.out _ _ _ _ _ _ _ (HN.out.keep (gdrew1 _ _))) (first
  | (go_at_call 7; (with_reducible refine (num_any _ _).mono ?_); rintro e v6 ⟨rfl, hw6⟩; have hw' := hw6.symm; clear hw6; subst hw')
  | (go_at_call 27; (with_reducible refine (HRa.out _ _ _ _ _ _ (by first | exact HN.out | exact HN.out.keep (gdrew1 _ _))).mono ?_); rintro e v6 ⟨rfl, hm⟩; replace HN := hid hm; clear hm))
 all_goals (go_wp2_with fail)
 all_goals (go_ret)
 all_goals (refine ⟨by first | rfl | simp, A, ⟨x, y, zs, os, T, ps, ?_, HQ.out.1, by omega, HZL.out⟩, rfl, by omega⟩)
 all_goals (exact HN.out.wx)
end Go.Proofs.YtpbiofnncdneoaaGreatDoor

namespace Go.Proofs.YtpbiofnncdneoaaGreatDoor
open Go Go.RowKit Go.MapKept Go.MuLone
open Go.RowKit (wrap32 wrap64)

variable {w u u' : World} {A A' D : Ab} {b0 b1 sb bk lt T n k bn bc : Nat} {s : ByteArray} {x y : Nat → Option Nat} {zs : Nat → Nat} {os : Nat → Bool} {ps : List Bq.Item} {l : List UInt8} {ba : Option Addr} {on nv kv : Int}
set_option maxRecDepth 100000 in
set_option maxHeartbeats 8000000 in
theorem plays_arm (h : Wx w b0 b1 sb x y A A.sr zs os bk lt T ps u) (hT : Tab w) (hw : A.wr ≤ 4611686018427387000) (hroom : A.room ≤ 4194304) (hps : ps.length < 8) (hTT : T + 208 ≤ 10000000) {Z : Nat} (hz : ∀ j, zs j ≤ Z) (hZ : 4194304 ≤ Z) (hZ2 : Z ≤ 1000000000) {F : Nat → Prop} (hB : Rd w F (.slice ba bn bc) l) (hl : l.length ≤ 524288) (hnv : nv ≤ 9223372036854775807) (hand : bits .and .i64 on 1 = (k : Int)) :
  Calls Tryz.prog 10 #[.pointer (some ⟨sb, 0, none⟩), .agg [Value.int .i64 2, .int .i64 on, .slice ba bn bc, .int .i64 nv, .int .i64 kv].toArray] u fun e u' => e = .returned (.bool true) ∧ ∃ A', Opn w b0 b1 sb bk lt T 208 (Z + 600000) A' u' ∧ A'.room = A.room ∧ A'.wr ≤ A.wr + 3 := by
 have hu0 := And.intro hT (And.intro hw (And.intro hroom (And.intro hps (And.intro hTT (And.intro hz (And.intro hZ (And.intro hZ2 (And.intro hB hl))))))))
 clear hu0
 have HM := hid h
 have HQ : Hid (ps.length < 8 ∧ (∀ j, zs j ≤ Z) ∧ Z ≤ 1000000000) := hid ⟨hps, hz, hZ2⟩
 have HAr : Hid (∀ u D ob cs, Wo w b0 b1 sb x y A D zs os bk lt T ps ob cs u → Calls Tryz.prog 17 #[.pointer (some ⟨b0, 0, none⟩), .int .i64 nv, .int .i64 kv] u fun e u' => e = .returned (.tuple #[]) ∧ Wo w b0 b1 sb x y (A.arm nv kv) D zs os bk lt T ps ob cs u') := hid (fun u D ob cs q => q.arm nv kv hnv)
 have HRa : Hid (∀ u A' D ob cs, Wo w b0 b1 sb x y A' D zs os bk lt T ps ob cs u → Calls Tryz.prog 28 #[.pointer (some ⟨b1, 0, none⟩), .int .i64 nv, .int .i64 kv] u fun e u' => e = .returned (.tuple #[]) ∧ Wo w b0 b1 sb x y A' (D.arm nv kv) zs os bk lt T ps ob cs u') := hid (fun u A' D ob cs q => q.rarm nv kv hnv)
 clear h hT hw hroom hps hTT hz hZ hZ2 hB hl hnv
 go_enter Tryz.func10, Tryz.ntmps10
 go_upto_region 12 with ((with_reducible refine wpList_box_row (by with_unfolding_all rfl) 76 _ (by with_unfolding_all rfl) [Value.int .i64 2, .int .i64 on, .slice ba bn bc, .int .i64 nv, .int .i64 kv] (by with_unfolding_all rfl) ?_); intro w1 B1 s1 g1; have HB1 := hid B1; have HG1 := hid g1; have c0 := B1.cell 0; have c1 := B1.cell 1; clear B1 s1 g1)
 obtain ⟨ob, hob⟩ : ∃ x, u.heap.size = x := ⟨_, rfl⟩
 have HO : Hid (Wo w b0 b1 sb x y A A.sr zs os bk lt T ps ob [Value.int .i64 2, .int .i64 on, .slice ba bn bc, .int .i64 nv, .int .i64 kv] w1) := hid (by rw [← hob]; exact Wo.of HM.out HG1.out HB1.out)
 rw [hob] at c0 c1 ⊢
 clear hob HM HB1 HG1 c0 c1
 have c3 := And.intro ((HO.out.cell 0).trans (show _ = some (Value.pointer (some ⟨b0, 0, none⟩)) from rfl)) (And.intro ((HO.out.at 3).trans (show _ = some (Value.int .i64 nv) from rfl)) ((HO.out.at 4).trans (show _ = some (Value.int .i64 kv) from rfl)))
 go_region_held3 (fun v => v.cell? ⟨sb, 0, none⟩ = some (.pointer (some ⟨b0, 0, none⟩)) ∧ v.cell? ⟨ob, 3, none⟩ = some (.int .i64 nv) ∧ v.cell? ⟨ob, 4, none⟩ = some (.int .i64 kv)) (first | assumption | exact ⟨HO.out.cell 0, HO.out.at 3, HO.out.at 4⟩ | exact ⟨(HO.out.keep (gdrew1 _ _)).cell 0, (HO.out.keep (gdrew1 _ _)).at 3, (HO.out.keep (gdrew1 _ _)).at 4⟩) (first
  | (go_at_call 17; (with_reducible refine (HAr.out _ _ _ _ (by first | exact HO.out | exact HO.out.keep (gdrew1 _ _))).mono ?_); rintro e v6 ⟨rfl, hm⟩; replace HO := hid hm; clear hm))
 clear c3
 have c3 := And.intro ((HO.out.cell 1).trans (show _ = some (Value.pointer (some ⟨b1, 0, none⟩)) from rfl)) (And.intro ((HO.out.at 3).trans (show _ = some (Value.int .i64 nv) from rfl)) ((HO.out.at 4).trans (show _ = some (Value.int .i64 kv) from rfl)))
 go_upto_region 13 with fail
 go_region_held3 (fun v => v.cell? ⟨sb, 1, none⟩ = some (.pointer (some ⟨b1, 0, none⟩)) ∧ v.cell? ⟨ob, 3, none⟩ = some (.int .i64 nv) ∧ v.cell? ⟨ob, 4, none⟩ = some (.int .i64 kv)) (first | assumption | exact ⟨HO.out.cell 1, HO.out.at 3, HO.out.at 4⟩ | exact ⟨(HO.out.keep (gdrew1 _ _)).cell 1, (HO.out.keep (gdrew1 _ _)).at 3, (HO.out.keep (gdrew1 _ _)).at 4⟩) (first
  | (go_at_call 28; (with_reducible refine (HRa.out _ _ _ _ _ (by first | exact HO.out | exact HO.out.keep (gdrew1 _ _))).mono ?_); rintro e v6 ⟨rfl, hm⟩; replace HO := hid hm; clear hm))
 go_wp2_with fail
 go_ret
 exact ⟨rfl, A.arm nv kv, ⟨x, y, zs, os, T, ps, HO.out.wx, HQ.out.1, by omega, fun j => by have := HQ.out.2.1 j; omega⟩, rfl, by show A.wr ≤ A.wr + 3; omega⟩
set_option maxRecDepth 100000 in
set_option maxHeartbeats 8000000 in
theorem plays_on (h : Wx w b0 b1 sb x y A A.sr zs os bk lt T ps u) (hT : Tab w) (hw : A.wr ≤ 4611686018427387000) (hroom : A.room ≤ 4194304) (hps : ps.length < 8) (hTT : T + 208 ≤ 10000000) {Z : Nat} (hz : ∀ j, zs j ≤ Z) (hZ : 4194304 ≤ Z) (hZ2 : Z ≤ 1000000000) {F : Nat → Prop} (hB : Rd w F (.slice ba bn bc) l) (hl : l.length ≤ 524288) (hand : bits .and .i64 on 1 = (k : Int)) :
  Calls Tryz.prog 10 #[.pointer (some ⟨sb, 0, none⟩), .agg [Value.int .i64 3, .int .i64 on, .slice ba bn bc, .int .i64 nv, .int .i64 kv].toArray] u fun e u' => e = .returned (.bool true) ∧ ∃ A', Opn w b0 b1 sb bk lt T 208 (Z + 600000) A' u' ∧ A'.room = A.room ∧ A'.wr ≤ A.wr + 3 := by
 have hu0 := And.intro hT (And.intro hw (And.intro hroom (And.intro hps (And.intro hTT (And.intro hz (And.intro hZ (And.intro hZ2 (And.intro hB hl))))))))
 clear hu0
 have HM := hid h
 have HQ : Hid (ps.length < 8 ∧ (∀ j, zs j ≤ Z) ∧ Z ≤ 1000000000) := hid ⟨hps, hz, hZ2⟩
 have HAr : Hid (∀ u D, Wx w b0 b1 sb x y A D zs os bk lt T ps u → Calls Tryz.prog 18 #[.pointer (some ⟨b0, 0, none⟩)] u fun e u' => e = .returned (.tuple #[]) ∧ Wx w b0 b1 sb x y A.on D zs os bk lt T ps u') := hid (fun u D q => q.on)
 have HRa : Hid (∀ u A' D, Wx w b0 b1 sb x y A' D zs os bk lt T ps u → Calls Tryz.prog 29 #[.pointer (some ⟨b1, 0, none⟩)] u fun e u' => e = .returned (.tuple #[]) ∧ Wx w b0 b1 sb x y A' D.on zs os bk lt T ps u') := hid (fun u A' D q => q.ron)
 clear h hT hw hroom hps hTT hz hZ hZ2 hB hl
 go_enter Tryz.func10, Tryz.ntmps10
 go_upto_region 15 with ((with_reducible refine wpList_box_row (by with_unfolding_all rfl) 76 _ (by with_unfolding_all rfl) [Value.int .i64 3, .int .i64 on, .slice ba bn bc, .int .i64 nv, .int .i64 kv] (by with_unfolding_all rfl) ?_); intro w1 B1 s1 g1; have HB1 := hid B1; have HG1 := hid g1; have c0 := B1.cell 0; have c1 := B1.cell 1; clear B1 s1 g1)
 replace HM := hid (HM.out.keep HG1.out)
 have d0 := (HM.out.cell 0).trans (show _ = some (Value.pointer (some ⟨b0, 0, none⟩)) from rfl)
 clear c0 c1
 go_upto_region 16 with (go_at_call 18; (with_reducible refine (HAr.out _ _ HM.out).mono ?_); rintro e v6 ⟨rfl, hm⟩; replace HM := hid hm; clear hm)
 clear d0
 have d1 := (HM.out.cell 1).trans (show _ = some (Value.pointer (some ⟨b1, 0, none⟩)) from rfl)
 go_wp2_with (go_at_call 29; (with_reducible refine (HRa.out _ _ _ HM.out).mono ?_); rintro e v7 ⟨rfl, hm⟩; replace HM := hid hm; clear hm)
 go_ret
 exact ⟨rfl, A.on, ⟨x, y, zs, os, T, ps, HM.out, HQ.out.1, by omega, fun j => by have := HQ.out.2.1 j; omega⟩, rfl, by show A.wr ≤ A.wr + 3; omega⟩
set_option maxRecDepth 100000 in
set_option maxHeartbeats 8000000 in
theorem plays_open (h : Wx w b0 b1 sb x y A A.sr zs os bk lt T ps u) (hT : Tab w) (hw : A.wr ≤ 4611686018427387000) (hroom : A.room ≤ 4194304) (hps : ps.length < 8) (hTT : T + 208 ≤ 10000000) {Z : Nat} (hz : ∀ j, zs j ≤ Z) (hZ : 4194304 ≤ Z) (hZ2 : Z ≤ 1000000000) {F : Nat → Prop} (hB : Rd w F (.slice ba bn bc) l) (hl : l.length ≤ 524288) (hk : k < 2) (hand : bits .and .i64 on 1 = (k : Int)) :
  Calls Tryz.prog 10 #[.pointer (some ⟨sb, 0, none⟩), .agg [Value.int .i64 4, .int .i64 on, .slice ba bn bc, .int .i64 nv, .int .i64 kv].toArray] u fun e u' => e = .returned (.bool true) ∧ ∃ A', Opn w b0 b1 sb bk lt T 208 (Z + 600000) A' u' ∧ A'.room = A.room ∧ A'.wr ≤ A.wr + 3 := by
 have hu0 := And.intro hT (And.intro hw (And.intro hroom (And.intro hps (And.intro hTT (And.intro hz (And.intro hZ (And.intro hZ2 (And.intro hB hl))))))))
 clear hu0
 have HM := hid h
 have HOp : Hid (∀ u, Wx w b0 b1 sb x y A A.sr zs os bk lt T ps u → Calls Tryz.prog 9 #[.pointer (some ⟨sb, 0, none⟩), .int .i64 (k : Nat)] u fun e u' => e = .returned (.bool true) ∧ ∃ A', Opn w b0 b1 sb bk lt T 208 (Z + 600000) A' u' ∧ A'.room = A.room ∧ A'.wr ≤ A.wr + 3) := hid (fun u q => (open_any q hk hT (by omega) hroom hps hTT (Z := Z + 600000) (fun j => by have := hz j; omega) (by omega)).mono fun e u' ⟨q1, A', q2, q3, q4⟩ => ⟨q1, A', q2, q3, by omega⟩)
 clear h hT hw hroom hps hTT hz hZ hZ2 hB hl
 go_enter Tryz.func10, Tryz.ntmps10
 go_upto_region 18 with ((with_reducible refine wpList_box_row (by with_unfolding_all rfl) 76 _ (by with_unfolding_all rfl) [Value.int .i64 4, .int .i64 on, .slice ba bn bc, .int .i64 nv, .int .i64 kv] (by with_unfolding_all rfl) ?_); intro w1 B1 s1 g1; have HB1 := hid B1; have HG1 := hid g1; have c0 := B1.cell 0; have c1 := B1.cell 1; clear B1 s1 g1)
 replace HM := hid (HM.out.keep HG1.out)
 clear c0 c1
 go_wp2_with (go_at_call 9; (with_reducible refine (HOp.out _ HM.out).mono ?_); rintro e v6 ⟨rfl, hm⟩; have HQ := hid hm; clear hm)
 go_ret
 exact ⟨rfl, HQ.out⟩
set_option maxRecDepth 100000 in
set_option maxHeartbeats 8000000 in
theorem plays_far {dv : Int} (h : Wx w b0 b1 sb x y A A.sr zs os bk lt T ps u) (hT : Tab w) (hw : A.wr ≤ 4611686018427387000) (hroom : A.room ≤ 4194304) (hps : ps.length < 8) (hTT : T + 208 ≤ 10000000) {Z : Nat} (hz : ∀ j, zs j ≤ Z) (hZ : 4194304 ≤ Z) (hZ2 : Z ≤ 1000000000) {F : Nat → Prop} (hB : Rd w F (.slice ba bn bc) l) (hl : l.length ≤ 524288) (hand : bits .and .i64 on 1 = (k : Int)) (n1 : dv ≠ 1) (n2 : dv ≠ 2) (n3 : dv ≠ 3) (n4 : dv ≠ 4) (n5 : dv ≠ 5) (n6 : dv ≠ 6) (n7 : dv ≠ 7) (n8 : dv ≠ 8) :
  Calls Tryz.prog 10 #[.pointer (some ⟨sb, 0, none⟩), .agg [Value.int .i64 dv, .int .i64 on, .slice ba bn bc, .int .i64 nv, .int .i64 kv].toArray] u fun e u' => e = .returned (.bool true) ∧ ∃ A', Opn w b0 b1 sb bk lt T 208 (Z + 600000) A' u' ∧ A'.room = A.room ∧ A'.wr ≤ A.wr + 3 := by
 have hu0 := And.intro hT (And.intro hw (And.intro hroom (And.intro hps (And.intro hTT (And.intro hz (And.intro hZ (And.intro hZ2 (And.intro hB hl))))))))
 clear hu0
 have HM := hid h
 have HQ : Hid (ps.length < 8 ∧ (∀ j, zs j ≤ Z) ∧ Z ≤ 1000000000) := hid ⟨hps, hz, hZ2⟩
 have m1 : (dv == 1) = false := beq_eq_false_iff_ne.2 n1
 have m2 : (dv == 2) = false := beq_eq_false_iff_ne.2 n2
 have m3 : (dv == 3) = false := beq_eq_false_iff_ne.2 n3
 have m4 : (dv == 4) = false := beq_eq_false_iff_ne.2 n4
 have m5 : (dv == 5) = false := beq_eq_false_iff_ne.2 n5
 have m6 : (dv == 6) = false := beq_eq_false_iff_ne.2 n6
 have m7 : (dv == 7) = false := beq_eq_false_iff_ne.2 n7
 have m8 : (dv == 8) = false := beq_eq_false_iff_ne.2 n8
 clear h hT hw hroom hps hTT hz hZ hZ2 hB hl
 go_enter Tryz.func10, Tryz.ntmps10
 go_wp2_with ((with_reducible refine wpList_box_row (by with_unfolding_all rfl) 76 _ (by with_unfolding_all rfl) [Value.int .i64 dv, .int .i64 on, .slice ba bn bc, .int .i64 nv, .int .i64 kv] (by with_unfolding_all rfl) ?_); intro w1 B1 s1 g1; have HB1 := hid B1; have HG1 := hid g1; have c0 := B1.cell 0; have c1 := B1.cell 1; clear B1 s1 g1)
 go_ret
 exact ⟨rfl, A, ⟨x, y, zs, os, T, ps, HM.out.keep HG1.out, HQ.out.1, by omega, fun j => by have := HQ.out.2.1 j; omega⟩, rfl, by omega⟩
end Go.Proofs.YtpbiofnncdneoaaGreatDoor

namespace Go.Proofs.YtpbiofnncdneoaaGreatDoor
open Go Go.RowKit Go.MapKept Go.MuLone
open Go.RowKit (wrap32 wrap64)

variable {w u u' : World} {A A' D : Ab} {b0 b1 sb bk lt T n k bn bc : Nat} {s : ByteArray} {x y : Nat → Option Nat} {zs : Nat → Nat} {os : Nat → Bool} {ps : List Bq.Item} {l : List UInt8} {ba : Option Addr} {on nv kv : Int}
set_option maxRecDepth 100000 in
set_option maxHeartbeats 8000000 in
theorem past_5y (h : Wx w b0 b1 sb x y A A.sr zs os bk lt T ps u) (hk : k < 2) (hT : Tab w) (hw : A.wr ≤ 4611686018427387000) (hroom : A.room ≤ 4194304) (hps : ps.length < 8) (hTT : T + 208 ≤ 10000000) {Z : Nat} (hz : ∀ j, zs j ≤ Z) (hZ : 4194304 ≤ Z) {F : Nat → Prop} (hB : Rd w F (.slice ba bn bc) l) (hl : l.length ≤ 524288) (hE : A.fndE (nm k) = 0) :
  Calls Tryz.prog 30 #[.pointer (some ⟨sb, 0, none⟩), .int .i64 (k : Nat), .agg [Value.int .i64 5, .int .i64 on, .slice ba bn bc, .int .i64 nv, .int .i64 kv].toArray] u fun e u' => e = .returned (.bool true) ∧ ∃ A', Opn w b0 b1 sb bk lt T 208 Z A' u' ∧ A'.room = A.room ∧ A'.wr ≤ A.wr + 3 := by
 have hn : NdC A.C := (h.nn (k := k)).1
 have HF : Hid ((A.fndB (nm k)).length ≤ 4194304) := hid (by have := (h.nn (k := k)).2; omega)
 have HM := hid h
 have HR : Hid (∀ u2, u.grownBy u2 none → Rd u2 F (.slice ba bn bc) l) := hid (fun u2 hu => hB.keep (gtrans h.gr hu))
 have HLl : Hid (l.length = bn ∧ l.length ≤ 524288) := hid ⟨by obtain ⟨_, _, _, _, e, _⟩ := hB; injection e with _ e _; exact e.symm, hl⟩
 have HLb : bn ≤ 524288 := by have := HLl.out; omega
 have hn1 : NdC (A.rem (nm k)).C := ndc_rem hn
 have HRm : Hid (∀ u D v l, Wy w b0 b1 sb x y A D zs os bk lt T ps v l u → Calls Tryz.prog 60 #[.pointer (some ⟨b0, 0, none⟩), .string (nm k)] u fun e u' => e = .returned (.int .i64 (A.remE (nm k))) ∧ Wy w b0 b1 sb x y (A.rem (nm k)) D zs os bk lt T ps v l u') := hid (fun u D v l q => q.rem k (by omega))
 have HRr : Hid (∀ u A' v l, Wy w b0 b1 sb x y A' A.sr zs os bk lt T ps v l u → Calls Tryz.prog 61 #[.pointer (some ⟨b1, 0, none⟩), .string (nm k)] u fun e u' => e = .returned (.int .i64 (A.remE (nm k))) ∧ Wy w b0 b1 sb x y A' (A.rem (nm k)).sr zs os bk lt T ps v l u') := hid (fun u A' v l q => q.rrem hn k (by omega))
 have HAp : Hid (∀ u D va vn vc l, Wy w b0 b1 sb x y (A.rem (nm k)) D zs os bk lt T ps (.slice va vn vc) l u → Calls Tryz.prog 51 #[.pointer (some ⟨b0, 0, none⟩), .string (nm k), .slice va vn vc] u fun e u' => e = .returned (.int .i64 ((A.rem (nm k)).appE (nm k) l)) ∧ Wy w b0 b1 sb x y ((A.rem (nm k)).app (nm k) l) D zs os bk lt T ps (.slice va vn vc) l u') := hid (fun u D va vn vc l q => q.app k (by have := (rem_room A (nm k)).2; omega))
 have HRa : Hid (∀ u A' va vn vc l, l.length ≤ 140737488355328 → Wy w b0 b1 sb x y A' (A.rem (nm k)).sr zs os bk lt T ps (.slice va vn vc) l u → Calls Tryz.prog 59 #[.pointer (some ⟨b1, 0, none⟩), .string (nm k), .slice va vn vc] u fun e u' => e = .returned (.int .i64 ((A.rem (nm k)).appE (nm k) l)) ∧ Wy w b0 b1 sb x y A' ((A.rem (nm k)).app (nm k) l).sr zs os bk lt T ps (.slice va vn vc) l u') := hid (fun u A' va vn vc l hl q => q.rapp hn1 k (by have := (rem_room A (nm k)).2; omega) hl)
 have HOp : Hid (∀ u l, Wx w b0 b1 sb x y ((A.rem (nm k)).app (nm k) l) ((A.rem (nm k)).app (nm k) l).sr zs os bk lt T ps u → Calls Tryz.prog 9 #[.pointer (some ⟨sb, 0, none⟩), .int .i64 (k : Nat)] u fun e u' => e = .returned (.bool true) ∧ ∃ A', Opn w b0 b1 sb bk lt T 208 Z A' u' ∧ A'.room = A.room ∧ A'.wr ≤ A.wr + 3) := hid (fun u l q => by
  have r1 := rem_room A (nm k)
  have r2 := app_room (A.rem (nm k)) (nm k) l
  exact (open_any q hk hT (by omega) (by omega) hps hTT hz hZ).mono fun e u' ⟨q1, A', q2, q3, q4⟩ => ⟨q1, A', q2, by omega, by omega⟩)
 have HRd : Hid (∀ u2, Wx w b0 b1 sb x y A A.sr zs os bk lt T ps u2 → Calls Tryz.prog 54 #[.pointer (some ⟨b1, 0, none⟩), .string (nm k)] u2 fun e u' => ∃ a c, e = .returned (.tuple #[.slice a (A.fndB (nm k)).length c, .int .i64 (A.fndE (nm k))]) ∧ Out u2.heap.size u' (.slice a (A.fndB (nm k)).length c) (A.fndB (nm k)) ∧ u2.grownBy u' none) := hid (fun u2 q => q.rread hn k)
 have HNm : Hid (∀ u, Calls Tryz.prog 20 #[.int .i64 (k : Int)] u fun e u' => e = .returned (.string (nm k)) ∧ u' = u) := hid (fun u => names_any u k hk)
 obtain ⟨f, Hf⟩ : ∃ z, Hid (A.fndB (nm k) = z) := ⟨_, hid rfl⟩
 rw [Hf.out] at HRd HF
 rw [hE] at HRd
 obtain ⟨fn, Hfn⟩ : ∃ z, Hid (f.length = z) := ⟨_, hid rfl⟩
 rw [Hfn.out] at HRd HF
 have hfn : fn ≤ 4194304 := HF.out
 obtain ⟨A1, HA1⟩ : ∃ z, Hid (A.rem (nm k) = z) := ⟨_, hid rfl⟩
 rw [HA1.out] at HRm HRr HAp HRa HOp
 obtain ⟨E1, HE1⟩ : ∃ z, Hid (A.remE (nm k) = z) := ⟨_, hid rfl⟩
 rw [HE1.out] at HRm HRr
 obtain ⟨s, HSn⟩ : ∃ z, Hid (nm k = z) := ⟨_, hid rfl⟩
 rw [HSn.out] at HRm HRr HAp HRa HOp HRd HNm
 obtain ⟨D0, HD0⟩ : ∃ z, Hid (A.sr = z) := ⟨_, hid rfl⟩
 rw [HD0.out] at HRr HRd HM
 obtain ⟨D1, HD1⟩ : ∃ z, Hid (A1.sr = z) := ⟨_, hid rfl⟩
 rw [HD1.out] at HRr HRa
 clear h hk hT hw hroom hps hTT hz hZ hB hl hn hn1 HF HA1 HE1 HSn HD0 HD1 Hf
 clear hE
 go_enter Tryz.func30, Tryz.ntmps30
 go_upto_region 1 with ((with_reducible refine wpList_box_row (by with_unfolding_all rfl) 76 _ (by with_unfolding_all rfl) [Value.int .i64 5, .int .i64 on, .slice ba bn bc, .int .i64 nv, .int .i64 kv] (by with_unfolding_all rfl) ?_); intro w1 B1 s1 g1; have HB1 := hid B1; have HG1 := hid g1; clear B1 s1 g1)
 obtain ⟨ob, hob⟩ : ∃ x, u.heap.size = x := ⟨_, rfl⟩
 rw [hob] at HB1 ⊢
 clear hob
 replace HM := hid (HM.out.keep HG1.out)
 have HR1 : Hid (∀ u2, w1.grownBy u2 none → Rd u2 F (.slice ba bn bc) l) := hid (fun u2 hu => HR.out u2 (gtrans HG1.out hu))
 clear HR
 have HBk : Hid (∀ u2, w1.grownBy u2 none → Blk u2 ob [Value.int .i64 5, .int .i64 on, .slice ba bn bc, .int .i64 nv, .int .i64 kv] 76) := hid (fun u2 hu => HB1.out.keep hu)
 clear HB1 HG1
 have HRd1 : Hid (∀ u2, w1.grownBy u2 none → Calls Tryz.prog 54 #[.pointer (some ⟨b1, 0, none⟩), .string s] u2 fun e u' => ∃ a c, e = .returned (.tuple #[.slice a fn c, .int .i64 0]) ∧ Out w1.heap.size u' (.slice a fn c) f ∧ w1.grownBy u' none) := hid (fun u2 hu => (HRd.out u2 (HM.out.keep hu)).mono fun e u' ⟨a, c, q1, q2, q3⟩ => ⟨a, c, q1, owns_base q2 hu.size, gtrans hu q3⟩)
 clear HRd
 have c1 := (HM.out.cell 1).trans (show _ = some (Value.pointer (some ⟨b1, 0, none⟩)) from rfl)
 have HC1 : Hid (∀ u2, w1.grownBy u2 none → u2.cell? ⟨sb, 1, none⟩ = some (.pointer (some ⟨b1, 0, none⟩))) := hid (fun u2 hu => (HM.out.keep hu).cell 1)
 go_region_held3 (fun v => v.cell? ⟨sb, 1, none⟩ = some (.pointer (some ⟨b1, 0, none⟩))) (first | assumption | exact HC1.out _ (gdrew1 _ _) | exact HC1.out _ HG2.out) (first
  | (go_at_call 20; (with_reducible refine (HNm.out _).mono ?_); rintro e v1 ⟨rfl, hw1⟩; subst hw1)
  | (go_at_call 54; (with_reducible refine (HRd1.out _ (by first | exact grefl _ _ | exact gdrew1 _ _)).mono ?_); rintro e v2 ⟨fa, fc, rfl, hO, hg⟩; have HO2 := hid hO; have HG2 := hid hg; clear hO hg))
 clear c1 HRd1
 have q0 : v2.cell? ⟨ob, 0, none⟩ = some (.int .i64 5) := (HBk.out v2 HG2.out).cell 0
 have q2 : v2.cell? ⟨ob, 2, none⟩ = some (.slice ba bn bc) := (HBk.out v2 HG2.out).cell 2
 have q3 : v2.cell? ⟨ob, 3, none⟩ = some (.int .i64 nv) := (HBk.out v2 HG2.out).cell 3
 go_upto_region 18 with (at_builtin; refine wpList_append_rd rfl _ _ rfl w1.heap.size F f l HO2.out (HR1.out _ HG2.out) (by have := HLl.out; have := Hfn.out; omega) HG2.out.size ?_; intro v3 w3 hown3 hg3 _; have HO3 := hid hown3; have HG3 : Hid (w1.grownBy w3 none) := hid (grown_back HG2.out hg3 (fun k hk => HO2.out.block k hk)); clear hown3 hg3)
 have HL3 : Hid ((f ++ l).length ≤ 140737488355328) := hid (by rw [List.length_append]; have := HLl.out; have := Hfn.out; omega)
 obtain ⟨l3, hl3⟩ : ∃ z, f ++ l = z := ⟨_, rfl⟩
 rw [hl3] at HO3 HL3
 clear hl3
 clear q0 q2 q3
 obtain ⟨va, vc, hv3⟩ := HO3.out.len
 obtain ⟨vn, hvn⟩ : ∃ z, l3.length = z := ⟨_, rfl⟩
 rw [hvn] at hv3
 subst hv3
 clear hvn
 have HN : Hid (Wy w b0 b1 sb x y A D0 zs os bk lt T ps (.slice va vn vc) l3 w3) := hid (Wy.of HM.out HG3.out HO3.out)
 have HAp3 : Hid (∀ u D, Wy w b0 b1 sb x y A1 D zs os bk lt T ps (.slice va vn vc) l3 u → Calls Tryz.prog 51 #[.pointer (some ⟨b0, 0, none⟩), .string s, .slice va vn vc] u fun e u' => e = .returned (.int .i64 (A1.appE s l3)) ∧ Wy w b0 b1 sb x y (A1.app s l3) D zs os bk lt T ps (.slice va vn vc) l3 u') := hid (fun u D q => HAp.out u D va vn vc l3 q)
 have HRa3 : Hid (∀ u A', Wy w b0 b1 sb x y A' D1 zs os bk lt T ps (.slice va vn vc) l3 u → Calls Tryz.prog 59 #[.pointer (some ⟨b1, 0, none⟩), .string s, .slice va vn vc] u fun e u' => e = .returned (.int .i64 (A1.appE s l3)) ∧ Wy w b0 b1 sb x y A' (A1.app s l3).sr zs os bk lt T ps (.slice va vn vc) l3 u') := hid (fun u A' q => HRa.out u A' va vn vc l3 HL3.out q)
 replace HOp := hid (fun u q => HOp.out u l3 q)
 replace HRm := hid (fun u D q => HRm.out u D (.slice va vn vc) l3 q)
 replace HRr := hid (fun u A' q => HRr.out u A' (.slice va vn vc) l3 q)
 obtain ⟨E2, HE2⟩ : ∃ z, Hid (A1.appE s l3 = z) := ⟨_, hid rfl⟩
 rw [HE2.out] at HAp3 HRa3
 obtain ⟨A2, HA2⟩ : ∃ z, Hid (A1.app s l3 = z) := ⟨_, hid rfl⟩
 rw [HA2.out] at HAp3 HRa3 HOp
 obtain ⟨D2, HD2⟩ : ∃ z, Hid (A2.sr = z) := ⟨_, hid rfl⟩
 rw [HD2.out] at HRa3 HOp
 clear HAp HRa HM HG3 HO3 HL3 HE2 HA2 HD2 HBk HR1 HC1 HO2 HG2 HLl
 have c01 := And.intro ((HN.out.cell 0).trans (show _ = some (Value.pointer (some ⟨b0, 0, none⟩)) from rfl)) ((HN.out.cell 1).trans (show _ = some (Value.pointer (some ⟨b1, 0, none⟩)) from rfl))
 go_region_held3 (fun v => v.cell? ⟨sb, 0, none⟩ = some (.pointer (some ⟨b0, 0, none⟩)) ∧ v.cell? ⟨sb, 1, none⟩ = some (.pointer (some ⟨b1, 0, none⟩))) (first | assumption | exact ⟨HN.out.cell 0, HN.out.cell 1⟩ | exact ⟨(HN.out.keep (gdrew1 _ _)).cell 0, (HN.out.keep (gdrew1 _ _)).cell 1⟩) (first
  | (go_at_call 20; (with_reducible refine (HNm.out _).mono ?_); rintro e v4 ⟨rfl, hw4⟩; subst hw4)
  | (go_at_call 7; (with_reducible refine (num_any _ _).mono ?_); rintro e v4 ⟨rfl, hw4⟩; have hw' := hw4.symm; clear hw4; subst hw')
  | (go_at_call 60; (with_reducible refine (HRm.out _ _ (by first | exact HN.out | exact HN.out.keep (gdrew1 _ _))).mono ?_); rintro e v4 ⟨rfl, hm⟩; replace HN := hid hm; clear hm)
  | (go_at_call 61; (with_reducible refine (HRr.out _ _ (by first | exact HN.out | exact HN.out.keep (gdrew1 _ _))).mono ?_); rintro e v4 ⟨rfl, hm⟩; replace HN := hid hm; clear hm)
  | (go_at_call 51; (with_reducible refine (HAp3.out _ _ (by first | exact HN.out | exact HN.out.keep (gdrew1 _ _))).mono ?_); rintro e v4 ⟨rfl, hm⟩; replace HN := hid hm; clear hm)
  | (go_at_call 59; (with_reducible refine (HRa3.out _ _ (by first | exact HN.out | exact HN.out.keep (gdrew1 _ _))).mono ?_); rintro e v4 ⟨rfl, hm⟩; replace HN := hid hm; clear hm))
 all_goals (go_wp2_with (go_at_call 9; (with_reducible refine (HOp.out _ HN.out.wx).mono ?_); rintro e v5 ⟨rfl, hm⟩; have HQ := hid hm; clear hm))
 all_goals (go_ret; exact ⟨rfl, HQ.out⟩)

end Go.Proofs.YtpbiofnncdneoaaGreatDoor
