/- The stage's past. -/
import Derived.Test.YtpbiofnncdneoaaGreatDoorX29
import Derived.Test.YtpbiofnncdneoaaGreatDoorX30
import Derived.Test.YtpbiofnncdneoaaGreatDoorX31
import Derived.Test.YtpbiofnncdneoaaGreatDoorX32
namespace Go.Proofs.YtpbiofnncdneoaaGreatDoor
open Go Go.RowKit Go.MapKept Go.MuLone
open Go.RowKit (wrap32 wrap64)

variable {w u u' : World} {A A' D : Ab} {b0 b1 sb bk lt T n k bn bc : Nat} {s : ByteArray} {x y : Nat → Option Nat} {zs : Nat → Nat} {os : Nat → Bool} {ps : List Bq.Item} {l : List UInt8} {ba : Option Addr} {on nv kv : Int}
set_option maxRecDepth 100000 in
set_option maxHeartbeats 8000000 in
theorem past_7n (h : Wx w b0 b1 sb x y A A.sr zs os bk lt T ps u) (hk : k < 2) (hT : Tab w) (hw : A.wr ≤ 4611686018427387000) (hroom : A.room ≤ 4194304) (hps : ps.length < 8) (hTT : T + 208 ≤ 10000000) {Z : Nat} (hz : ∀ j, zs j ≤ Z) (hZ : 4194304 ≤ Z) {F : Nat → Prop} (hB : Rd w F (.slice ba bn bc) l) (hl : l.length ≤ 524288) (hE : A.fndE (nm k) ≠ 0) :
  Calls Tryz.prog 30 #[.pointer (some ⟨sb, 0, none⟩), .int .i64 (k : Nat), .agg [Value.int .i64 7, .int .i64 on, .slice ba bn bc, .int .i64 nv, .int .i64 kv].toArray] u fun e u' => e = .returned (.bool true) ∧ ∃ A', Opn w b0 b1 sb bk lt T 208 Z A' u' ∧ A'.room = A.room ∧ A'.wr ≤ A.wr + 3 := by
 have hn : NdC A.C := (h.nn (k := k)).1
 have HF : Hid ((A.fndB (nm k)).length ≤ 4194304) := hid (by have := (h.nn (k := k)).2; omega)
 have HM := hid h
 have HR : Hid (∀ u2, u.grownBy u2 none → Rd u2 F (.slice ba bn bc) l) := hid (fun u2 hu => hB.keep (gtrans h.gr hu))
 have HLl : Hid (l.length = bn ∧ l.length ≤ 524288) := hid ⟨by obtain ⟨_, _, _, _, e, _⟩ := hB; injection e with _ e _; exact e.symm, hl⟩
 have HLb : bn ≤ 524288 := by have := HLl.out; omega
 have hn1 : NdC (A.rem (nm k)).C := ndc_rem hn
 have HRm : Hid (∀ u D v l, Wy w b0 b1 sb x y A D zs os bk lt T ps v l u → Calls Tryz.prog 60 #[.pointer (some ⟨b0, 0, none⟩), .string (nm k)] u fun e u' => e = .returned (.int .i64 (A.remE (nm k))) ∧ Wy w b0 b1 sb x y (A.rem (nm k)) D zs os bk lt T ps v l u') := hid (fun u D v l q => q.rem k (by omega))
 have HRr : Hid (∀ u A' v l, Wy w b0 b1 sb x y A' A.sr zs os bk lt T ps v l u → Calls Tryz.prog 61 #[.pointer (some ⟨b1, 0, none⟩), .string (nm k)] u fun e u' => e = .returned (.int .i64 (A.remE (nm k))) ∧ Wy w b0 b1 sb x y A' (A.rem (nm k)).sr zs os bk lt T ps v l u') := hid (fun u A' v l q => q.rrem hn k (by omega))
 have HAp : Hid (∀ u D va vn vc l, Wy w b0 b1 sb x y (A.rem (nm k)) D zs os bk lt T ps (.slice va vn vc) l u → Calls Tryz.prog 51 #[.pointer (some ⟨b0, 0, none⟩), .string (nm k), .slice va vn vc] u fun e u' => e = .returned (.int .i64 ((A.rem (nm k)).appE (nm k) l)) ∧ Wy w b0 b1 sb x y ((A.rem (nm k)).app (nm k) l) D zs os bk lt T ps (.slice va vn vc) l u') := hid (fun u D va vn vc l q => q.app k (by have := (rem_room A (nm k)).2; omega))
 have HRa : Hid (∀ u A' va vn vc l, l.length ≤ 140737488355328 → Wy w b0 b1 sb x y A' (A.rem (nm k)).sr zs os bk lt T ps (.slice va vn vc) l u → Calls Tryz.prog 59 #[.pointer (some ⟨b1, 0, none⟩), .string (nm k), .slice va vn vc] u fun e u' => e = .returned (.int .i64 ((A.rem (nm k)).appE (nm k) l)) ∧ Wy w b0 b1 sb x y A' ((A.rem (nm k)).app (nm k) l).sr zs os bk lt T ps (.slice va vn vc) l u') := hid (fun u A' va vn vc l hl q => q.rapp hn1 k (by have := (rem_room A (nm k)).2; omega) hl)
 have HOp : Hid (∀ u l, Wx w b0 b1 sb x y ((A.rem (nm k)).app (nm k) l) ((A.rem (nm k)).app (nm k) l).sr zs os bk lt T ps u → Calls Tryz.prog 9 #[.pointer (some ⟨sb, 0, none⟩), .int .i64 (k : Nat)] u fun e u' => e = .returned (.bool true) ∧ ∃ A', Opn w b0 b1 sb bk lt T 208 Z A' u' ∧ A'.room = A.room ∧ A'.wr ≤ A.wr + 3) := hid (fun u l q => by
  have r1 := rem_room A (nm k)
  have r2 := app_room (A.rem (nm k)) (nm k) l
  exact (open_any q hk hT (by omega) (by omega) hps hTT hz hZ).mono fun e u' ⟨q1, A', q2, q3, q4⟩ => ⟨q1, A', q2, by omega, by omega⟩)
 have HRd : Hid (∀ u2, Wx w b0 b1 sb x y A A.sr zs os bk lt T ps u2 → Calls Tryz.prog 54 #[.pointer (some ⟨b1, 0, none⟩), .string (nm k)] u2 fun e u' => ∃ a c, e = .returned (.tuple #[.slice a (A.fndB (nm k)).length c, .int .i64 (A.fndE (nm k))]) ∧ Out u2.heap.size u' (.slice a (A.fndB (nm k)).length c) (A.fndB (nm k)) ∧ u2.grownBy u' none) := hid (fun u2 q => q.rread hn k)
 have HNm : Hid (∀ u, Calls Tryz.prog 20 #[.int .i64 (k : Int)] u fun e u' => e = .returned (.string (nm k)) ∧ u' = u) := hid (fun u => names_any u k hk)
 have hf0 := fnd_no hE
 obtain ⟨f, Hf⟩ : ∃ z, Hid (A.fndB (nm k) = z) := ⟨_, hid rfl⟩
 rw [Hf.out] at HRd HF hf0
 obtain ⟨E, HE⟩ : ∃ z, Hid (A.fndE (nm k) = z) := ⟨_, hid rfl⟩
 rw [HE.out] at HRd hE
 have hEb : (E != 0) = true := bne_iff_ne.2 hE
 obtain ⟨fn, Hfn⟩ : ∃ z, Hid (f.length = z) := ⟨_, hid rfl⟩
 rw [Hfn.out] at HRd HF
 have hfn : fn ≤ 4194304 := HF.out
 obtain ⟨A1, HA1⟩ : ∃ z, Hid (A.rem (nm k) = z) := ⟨_, hid rfl⟩
 rw [HA1.out] at HRm HRr HAp HRa HOp
 obtain ⟨E1, HE1⟩ : ∃ z, Hid (A.remE (nm k) = z) := ⟨_, hid rfl⟩
 rw [HE1.out] at HRm HRr
 obtain ⟨s, HSn⟩ : ∃ z, Hid (nm k = z) := ⟨_, hid rfl⟩
 rw [HSn.out] at HRm HRr HAp HRa HOp HRd HNm
 obtain ⟨D0, HD0⟩ : ∃ z, Hid (A.sr = z) := ⟨_, hid rfl⟩
 rw [HD0.out] at HRr HRd HM
 obtain ⟨D1, HD1⟩ : ∃ z, Hid (A1.sr = z) := ⟨_, hid rfl⟩
 rw [HD1.out] at HRr HRa
 clear h hk hT hw hroom hps hTT hz hZ hB hl hn hn1 HF HA1 HE1 HSn HD0 HD1 Hf
 clear hE HE
 go_enter Tryz.func30, Tryz.ntmps30
 go_upto_region 1 with ((with_reducible refine wpList_box_row (by with_unfolding_all rfl) 76 _ (by with_unfolding_all rfl) [Value.int .i64 7, .int .i64 on, .slice ba bn bc, .int .i64 nv, .int .i64 kv] (by with_unfolding_all rfl) ?_); intro w1 B1 s1 g1; have HB1 := hid B1; have HG1 := hid g1; clear B1 s1 g1)
 obtain ⟨ob, hob⟩ : ∃ x, u.heap.size = x := ⟨_, rfl⟩
 rw [hob] at HB1 ⊢
 clear hob
 replace HM := hid (HM.out.keep HG1.out)
 have HR1 : Hid (∀ u2, w1.grownBy u2 none → Rd u2 F (.slice ba bn bc) l) := hid (fun u2 hu => HR.out u2 (gtrans HG1.out hu))
 clear HR
 have HBk : Hid (∀ u2, w1.grownBy u2 none → Blk u2 ob [Value.int .i64 7, .int .i64 on, .slice ba bn bc, .int .i64 nv, .int .i64 kv] 76) := hid (fun u2 hu => HB1.out.keep hu)
 clear HB1 HG1
 have HRd1 : Hid (∀ u2, w1.grownBy u2 none → Calls Tryz.prog 54 #[.pointer (some ⟨b1, 0, none⟩), .string s] u2 fun e u' => ∃ a c, e = .returned (.tuple #[.slice a fn c, .int .i64 E]) ∧ Out w1.heap.size u' (.slice a fn c) f ∧ w1.grownBy u' none) := hid (fun u2 hu => (HRd.out u2 (HM.out.keep hu)).mono fun e u' ⟨a, c, q1, q2, q3⟩ => ⟨a, c, q1, owns_base q2 hu.size, gtrans hu q3⟩)
 clear HRd
 have c1 := (HM.out.cell 1).trans (show _ = some (Value.pointer (some ⟨b1, 0, none⟩)) from rfl)
 have HC1 : Hid (∀ u2, w1.grownBy u2 none → u2.cell? ⟨sb, 1, none⟩ = some (.pointer (some ⟨b1, 0, none⟩))) := hid (fun u2 hu => (HM.out.keep hu).cell 1)
 go_region_held3 (fun v => v.cell? ⟨sb, 1, none⟩ = some (.pointer (some ⟨b1, 0, none⟩))) (first | assumption | exact HC1.out _ (gdrew1 _ _) | exact HC1.out _ HG2.out) (first
  | (go_at_call 20; (with_reducible refine (HNm.out _).mono ?_); rintro e v1 ⟨rfl, hw1⟩; subst hw1)
  | (go_at_call 54; (with_reducible refine (HRd1.out _ (by first | exact grefl _ _ | exact gdrew1 _ _)).mono ?_); rintro e v2 ⟨fa, fc, rfl, hO, hg⟩; have HO2 := hid hO; have HG2 := hid hg; clear hO hg))
 clear c1 HRd1
 go_upto_region 4 with fail
 have hfe : fn = 0 := by rw [← Hfn.out, hf0]; rfl
 replace HO2 : Hid (Out w1.heap.size v2 (.slice none 0 0) f) := hid (by rw [hf0]; exact ⟨by simp [Lib.byteCells], .inl ⟨rfl, rfl⟩⟩)
 have Hfn' : Hid (f.length = 0) := hid (by rw [hf0]; rfl)
 clear hEb hf0 hfe Hfn
 have q0 : v2.cell? ⟨ob, 0, none⟩ = some (.int .i64 7) := (HBk.out v2 HG2.out).cell 0
 have q2 : v2.cell? ⟨ob, 2, none⟩ = some (.slice ba bn bc) := (HBk.out v2 HG2.out).cell 2
 have q3 : v2.cell? ⟨ob, 3, none⟩ = some (.int .i64 nv) := (HBk.out v2 HG2.out).cell 3
 have HWi : Hid (∀ u : World, Calls Tryz.prog 4 #[.int .i64 nv, .int .i64 1] u fun e w' => e = .returned (.int .i64 0) ∧ w' = u) := hid (fun u => (within_any nv 1 (by omega) (by omega) u).mono fun e w' ⟨⟨r, r1, r2⟩, r3⟩ => ⟨by rw [r2, show r = 0 by omega]; rfl, r3⟩)
 have hfc : 0 ≤ 0 := by obtain ⟨_, _, _, _, e, hc, _⟩ := HO2.out.rd; injection e with _ e1 e2; have := Hfn'.out; omega
 go_upto_region 14 with (go_at_call 4; (with_reducible refine (HWi.out _).mono ?_); rintro e w3 ⟨rfl, hw3⟩; have hw3' := hw3.symm; clear hw3; subst hw3')
 clear q0 q2 q3 HWi
 obtain ⟨r, hr⟩ : ∃ r : Nat, r = 0 := ⟨_, rfl⟩
 obtain ⟨ga, go, gf, HGa⟩ : ∃ (ga go : Nat) (gf : Nat → Prop), Hid (∀ u2, w1.grownBy u2 none → ∀ i, i < bn → ba = some ⟨ga, go, none⟩ ∧ bn ≤ bc ∧ ∃ bx : UInt8, u2.cell? ⟨ga, go + i, none⟩ = some (.int .u8 bx.toNat)) := by
  obtain ⟨a, b, off, c, e, hc, hn, ha, hcell⟩ := HR1.out w1 (grefl _ _)
  injection e with e1 e2 e3
  subst e1; subst e3
  refine ⟨b, off, fun _ => True, hid (fun u2 hu i hi => ?_)⟩
  have hi' : i < l.length := by omega
  refine ⟨(ha (by omega)).1, by omega, l[i], ?_⟩
  rw [cell_at hu (ha (by omega)).2.1 (by simp)]
  exact hcell i hi'
 go_wp2_with fail
 go_loopw [12] (fun iv wr => ∃ i : Nat, iv = .int .i64 i ∧ i ≤ bn ∧ Hid (w1.grownBy wr none) ∧ Hid (∃ l', Out w1.heap.size wr (.slice none 0 0) l' ∧ l'.length = 0)) (fun iv _ => bn - (intOf iv).toNat)
 case atStart => exact ⟨0, rfl, Nat.zero_le _, HG2, hid ⟨f, HO2.out, Hfn'.out⟩⟩
 case round =>
  obtain ⟨i, rfl, hi, HG3, HOl⟩ := hrel
  obtain ⟨w3, hw3⟩ : ∃ x : World, x = wr := ⟨_, rfl⟩
  rw [← hw3] at HG3 HOl ⊢
  clear hw3
  have q2 : w3.cell? ⟨ob, 2, none⟩ = some (.slice ba bn bc) := (HBk.out w3 HG3.out).cell 2
  have hib : i ≤ 524288 := by omega
  by_cases hlt : i < bn
  ·have hlt' : (i : Int) < (bn : Int) := by omega
   by_cases hat : r + i < 0
   ·as_aux_lemma =>
    omega
   ·as_aux_lemma =>
    have hat' : ¬ (r : Int) + (i : Int) < (0 : Int) := by omega
    have hat2 : ¬ r + i < 0 := hat
    have hat3 : ¬ (i : Int) < 0 := by omega
    go_upto_region 18 with fail
    clear q2 hlt hlt' hi hib hat hat' hat2
    obtain ⟨l3, ho3, hl3⟩ := HOl.out
    have HO3 := hid ho3
    have HL3 : Hid (l3.length ≤ 140737488355328) := hid (by omega)
    clear ho3 hl3 HOl HGa
    have HN : Hid (Wy w b0 b1 sb x y A D0 zs os bk lt T ps (.slice none 0 0) l3 w3) := hid (Wy.of HM.out HG3.out HO3.out)
    have HAp3 : Hid (∀ u D, Wy w b0 b1 sb x y A1 D zs os bk lt T ps (.slice none 0 0) l3 u → Calls Tryz.prog 51 #[.pointer (some ⟨b0, 0, none⟩), .string s, .slice none 0 0] u fun e u' => e = .returned (.int .i64 (A1.appE s l3)) ∧ Wy w b0 b1 sb x y (A1.app s l3) D zs os bk lt T ps (.slice none 0 0) l3 u') := hid (fun u D q => HAp.out u D none 0 0 l3 q)
    have HRa3 : Hid (∀ u A', Wy w b0 b1 sb x y A' D1 zs os bk lt T ps (.slice none 0 0) l3 u → Calls Tryz.prog 59 #[.pointer (some ⟨b1, 0, none⟩), .string s, .slice none 0 0] u fun e u' => e = .returned (.int .i64 (A1.appE s l3)) ∧ Wy w b0 b1 sb x y A' (A1.app s l3).sr zs os bk lt T ps (.slice none 0 0) l3 u') := hid (fun u A' q => HRa.out u A' none 0 0 l3 HL3.out q)
    replace HOp := hid (fun u q => HOp.out u l3 q)
    replace HRm := hid (fun u D q => HRm.out u D (.slice none 0 0) l3 q)
    replace HRr := hid (fun u A' q => HRr.out u A' (.slice none 0 0) l3 q)
    obtain ⟨E2, HE2⟩ : ∃ z, Hid (A1.appE s l3 = z) := ⟨_, hid rfl⟩
    rw [HE2.out] at HAp3 HRa3
    obtain ⟨A2, HA2⟩ : ∃ z, Hid (A1.app s l3 = z) := ⟨_, hid rfl⟩
    rw [HA2.out] at HAp3 HRa3 HOp
    obtain ⟨D2, HD2⟩ : ∃ z, Hid (A2.sr = z) := ⟨_, hid rfl⟩
    rw [HD2.out] at HRa3 HOp
    clear HAp HRa HM HG3 HO3 HL3 HE2 HA2 HD2 HBk HR1 HC1 HO2 HG2 HLl
    have c01 := And.intro ((HN.out.cell 0).trans (show _ = some (Value.pointer (some ⟨b0, 0, none⟩)) from rfl)) ((HN.out.cell 1).trans (show _ = some (Value.pointer (some ⟨b1, 0, none⟩)) from rfl))
    go_region_held3 (fun v => v.cell? ⟨sb, 0, none⟩ = some (.pointer (some ⟨b0, 0, none⟩)) ∧ v.cell? ⟨sb, 1, none⟩ = some (.pointer (some ⟨b1, 0, none⟩))) (first | assumption | exact ⟨HN.out.cell 0, HN.out.cell 1⟩ | exact ⟨(HN.out.keep (gdrew1 _ _)).cell 0, (HN.out.keep (gdrew1 _ _)).cell 1⟩) (first
     | (go_at_call 20; (with_reducible refine (HNm.out _).mono ?_); rintro e v4 ⟨rfl, hw4⟩; subst hw4)
     | (go_at_call 7; (with_reducible refine (num_any _ _).mono ?_); rintro e v4 ⟨rfl, hw4⟩; have hw' := hw4.symm; clear hw4; subst hw')
     | (go_at_call 60; (with_reducible refine (HRm.out _ _ (by first | exact HN.out | exact HN.out.keep (gdrew1 _ _))).mono ?_); rintro e v4 ⟨rfl, hm⟩; replace HN := hid hm; clear hm)
     | (go_at_call 61; (with_reducible refine (HRr.out _ _ (by first | exact HN.out | exact HN.out.keep (gdrew1 _ _))).mono ?_); rintro e v4 ⟨rfl, hm⟩; replace HN := hid hm; clear hm)
     | (go_at_call 51; (with_reducible refine (HAp3.out _ _ (by first | exact HN.out | exact HN.out.keep (gdrew1 _ _))).mono ?_); rintro e v4 ⟨rfl, hm⟩; replace HN := hid hm; clear hm)
     | (go_at_call 59; (with_reducible refine (HRa3.out _ _ (by first | exact HN.out | exact HN.out.keep (gdrew1 _ _))).mono ?_); rintro e v4 ⟨rfl, hm⟩; replace HN := hid hm; clear hm))
    all_goals (go_wp2_with (go_at_call 9; (with_reducible refine (HOp.out _ HN.out.wx).mono ?_); rintro e v5 ⟨rfl, hm⟩; have HQ := hid hm; clear hm))
    all_goals (go_ret; exact ⟨rfl, HQ.out⟩)
  ·as_aux_lemma =>
   have hlt' : ¬ (i : Int) < (bn : Int) := by omega
   go_upto_region 18 with fail
   clear q2 hlt hlt' hi hib
   obtain ⟨l3, ho3, hl3⟩ := HOl.out
   have HO3 := hid ho3
   have HL3 : Hid (l3.length ≤ 140737488355328) := hid (by omega)
   clear ho3 hl3 HOl HGa
   have HN : Hid (Wy w b0 b1 sb x y A D0 zs os bk lt T ps (.slice none 0 0) l3 w3) := hid (Wy.of HM.out HG3.out HO3.out)
   have HAp3 : Hid (∀ u D, Wy w b0 b1 sb x y A1 D zs os bk lt T ps (.slice none 0 0) l3 u → Calls Tryz.prog 51 #[.pointer (some ⟨b0, 0, none⟩), .string s, .slice none 0 0] u fun e u' => e = .returned (.int .i64 (A1.appE s l3)) ∧ Wy w b0 b1 sb x y (A1.app s l3) D zs os bk lt T ps (.slice none 0 0) l3 u') := hid (fun u D q => HAp.out u D none 0 0 l3 q)
   have HRa3 : Hid (∀ u A', Wy w b0 b1 sb x y A' D1 zs os bk lt T ps (.slice none 0 0) l3 u → Calls Tryz.prog 59 #[.pointer (some ⟨b1, 0, none⟩), .string s, .slice none 0 0] u fun e u' => e = .returned (.int .i64 (A1.appE s l3)) ∧ Wy w b0 b1 sb x y A' (A1.app s l3).sr zs os bk lt T ps (.slice none 0 0) l3 u') := hid (fun u A' q => HRa.out u A' none 0 0 l3 HL3.out q)
   replace HOp := hid (fun u q => HOp.out u l3 q)
   replace HRm := hid (fun u D q => HRm.out u D (.slice none 0 0) l3 q)
   replace HRr := hid (fun u A' q => HRr.out u A' (.slice none 0 0) l3 q)
   obtain ⟨E2, HE2⟩ : ∃ z, Hid (A1.appE s l3 = z) := ⟨_, hid rfl⟩
   rw [HE2.out] at HAp3 HRa3
   obtain ⟨A2, HA2⟩ : ∃ z, Hid (A1.app s l3 = z) := ⟨_, hid rfl⟩
   rw [HA2.out] at HAp3 HRa3 HOp
   obtain ⟨D2, HD2⟩ : ∃ z, Hid (A2.sr = z) := ⟨_, hid rfl⟩
   rw [HD2.out] at HRa3 HOp
   clear HAp HRa HM HG3 HO3 HL3 HE2 HA2 HD2 HBk HR1 HC1 HO2 HG2 HLl
   have c01 := And.intro ((HN.out.cell 0).trans (show _ = some (Value.pointer (some ⟨b0, 0, none⟩)) from rfl)) ((HN.out.cell 1).trans (show _ = some (Value.pointer (some ⟨b1, 0, none⟩)) from rfl))
   go_region_held3 (fun v => v.cell? ⟨sb, 0, none⟩ = some (.pointer (some ⟨b0, 0, none⟩)) ∧ v.cell? ⟨sb, 1, none⟩ = some (.pointer (some ⟨b1, 0, none⟩))) (first | assumption | exact ⟨HN.out.cell 0, HN.out.cell 1⟩ | exact ⟨(HN.out.keep (gdrew1 _ _)).cell 0, (HN.out.keep (gdrew1 _ _)).cell 1⟩) (first
    | (go_at_call 20; (with_reducible refine (HNm.out _).mono ?_); rintro e v4 ⟨rfl, hw4⟩; subst hw4)
    | (go_at_call 7; (with_reducible refine (num_any _ _).mono ?_); rintro e v4 ⟨rfl, hw4⟩; have hw' := hw4.symm; clear hw4; subst hw')
    | (go_at_call 60; (with_reducible refine (HRm.out _ _ (by first | exact HN.out | exact HN.out.keep (gdrew1 _ _))).mono ?_); rintro e v4 ⟨rfl, hm⟩; replace HN := hid hm; clear hm)
    | (go_at_call 61; (with_reducible refine (HRr.out _ _ (by first | exact HN.out | exact HN.out.keep (gdrew1 _ _))).mono ?_); rintro e v4 ⟨rfl, hm⟩; replace HN := hid hm; clear hm)
    | (go_at_call 51; (with_reducible refine (HAp3.out _ _ (by first | exact HN.out | exact HN.out.keep (gdrew1 _ _))).mono ?_); rintro e v4 ⟨rfl, hm⟩; replace HN := hid hm; clear hm)
    | (go_at_call 59; (with_reducible refine (HRa3.out _ _ (by first | exact HN.out | exact HN.out.keep (gdrew1 _ _))).mono ?_); rintro e v4 ⟨rfl, hm⟩; replace HN := hid hm; clear hm))
   all_goals (go_wp2_with (go_at_call 9; (with_reducible refine (HOp.out _ HN.out.wx).mono ?_); rintro e v5 ⟨rfl, hm⟩; have HQ := hid hm; clear hm))
   all_goals (go_ret; exact ⟨rfl, HQ.out⟩)
end Go.Proofs.YtpbiofnncdneoaaGreatDoor

namespace Go.Proofs.YtpbiofnncdneoaaGreatDoor
open Go Go.RowKit Go.MapKept Go.MuLone
open Go.RowKit (wrap32 wrap64)

variable {w u u' : World} {A A' D : Ab} {b0 b1 sb bk lt T n k bn bc : Nat} {s : ByteArray} {x y : Nat → Option Nat} {zs : Nat → Nat} {os : Nat → Bool} {ps : List Bq.Item} {l : List UInt8} {ba : Option Addr} {on nv kv : Int}
set_option maxRecDepth 100000 in
set_option maxHeartbeats 8000000 in
theorem past_6n (h : Wx w b0 b1 sb x y A A.sr zs os bk lt T ps u) (hk : k < 2) (hT : Tab w) (hw : A.wr ≤ 4611686018427387000) (hroom : A.room ≤ 4194304) (hps : ps.length < 8) (hTT : T + 208 ≤ 10000000) {Z : Nat} (hz : ∀ j, zs j ≤ Z) (hZ : 4194304 ≤ Z) {F : Nat → Prop} (hB : Rd w F (.slice ba bn bc) l) (hl : l.length ≤ 524288) (hE : A.fndE (nm k) ≠ 0) :
  Calls Tryz.prog 30 #[.pointer (some ⟨sb, 0, none⟩), .int .i64 (k : Nat), .agg [Value.int .i64 6, .int .i64 on, .slice ba bn bc, .int .i64 nv, .int .i64 kv].toArray] u fun e u' => e = .returned (.bool true) ∧ ∃ A', Opn w b0 b1 sb bk lt T 208 Z A' u' ∧ A'.room = A.room ∧ A'.wr ≤ A.wr + 3 := by
 have hn : NdC A.C := (h.nn (k := k)).1
 have HF : Hid ((A.fndB (nm k)).length ≤ 4194304) := hid (by have := (h.nn (k := k)).2; omega)
 have HM := hid h
 have HR : Hid (∀ u2, u.grownBy u2 none → Rd u2 F (.slice ba bn bc) l) := hid (fun u2 hu => hB.keep (gtrans h.gr hu))
 have HLl : Hid (l.length = bn ∧ l.length ≤ 524288) := hid ⟨by obtain ⟨_, _, _, _, e, _⟩ := hB; injection e with _ e _; exact e.symm, hl⟩
 have HLb : bn ≤ 524288 := by have := HLl.out; omega
 have hn1 : NdC (A.rem (nm k)).C := ndc_rem hn
 have HRm : Hid (∀ u D v l, Wy w b0 b1 sb x y A D zs os bk lt T ps v l u → Calls Tryz.prog 60 #[.pointer (some ⟨b0, 0, none⟩), .string (nm k)] u fun e u' => e = .returned (.int .i64 (A.remE (nm k))) ∧ Wy w b0 b1 sb x y (A.rem (nm k)) D zs os bk lt T ps v l u') := hid (fun u D v l q => q.rem k (by omega))
 have HRr : Hid (∀ u A' v l, Wy w b0 b1 sb x y A' A.sr zs os bk lt T ps v l u → Calls Tryz.prog 61 #[.pointer (some ⟨b1, 0, none⟩), .string (nm k)] u fun e u' => e = .returned (.int .i64 (A.remE (nm k))) ∧ Wy w b0 b1 sb x y A' (A.rem (nm k)).sr zs os bk lt T ps v l u') := hid (fun u A' v l q => q.rrem hn k (by omega))
 have HAp : Hid (∀ u D va vn vc l, Wy w b0 b1 sb x y (A.rem (nm k)) D zs os bk lt T ps (.slice va vn vc) l u → Calls Tryz.prog 51 #[.pointer (some ⟨b0, 0, none⟩), .string (nm k), .slice va vn vc] u fun e u' => e = .returned (.int .i64 ((A.rem (nm k)).appE (nm k) l)) ∧ Wy w b0 b1 sb x y ((A.rem (nm k)).app (nm k) l) D zs os bk lt T ps (.slice va vn vc) l u') := hid (fun u D va vn vc l q => q.app k (by have := (rem_room A (nm k)).2; omega))
 have HRa : Hid (∀ u A' va vn vc l, l.length ≤ 140737488355328 → Wy w b0 b1 sb x y A' (A.rem (nm k)).sr zs os bk lt T ps (.slice va vn vc) l u → Calls Tryz.prog 59 #[.pointer (some ⟨b1, 0, none⟩), .string (nm k), .slice va vn vc] u fun e u' => e = .returned (.int .i64 ((A.rem (nm k)).appE (nm k) l)) ∧ Wy w b0 b1 sb x y A' ((A.rem (nm k)).app (nm k) l).sr zs os bk lt T ps (.slice va vn vc) l u') := hid (fun u A' va vn vc l hl q => q.rapp hn1 k (by have := (rem_room A (nm k)).2; omega) hl)
 have HOp : Hid (∀ u l, Wx w b0 b1 sb x y ((A.rem (nm k)).app (nm k) l) ((A.rem (nm k)).app (nm k) l).sr zs os bk lt T ps u → Calls Tryz.prog 9 #[.pointer (some ⟨sb, 0, none⟩), .int .i64 (k : Nat)] u fun e u' => e = .returned (.bool true) ∧ ∃ A', Opn w b0 b1 sb bk lt T 208 Z A' u' ∧ A'.room = A.room ∧ A'.wr ≤ A.wr + 3) := hid (fun u l q => by
  have r1 := rem_room A (nm k)
  have r2 := app_room (A.rem (nm k)) (nm k) l
  exact (open_any q hk hT (by omega) (by omega) hps hTT hz hZ).mono fun e u' ⟨q1, A', q2, q3, q4⟩ => ⟨q1, A', q2, by omega, by omega⟩)
 have HRd : Hid (∀ u2, Wx w b0 b1 sb x y A A.sr zs os bk lt T ps u2 → Calls Tryz.prog 54 #[.pointer (some ⟨b1, 0, none⟩), .string (nm k)] u2 fun e u' => ∃ a c, e = .returned (.tuple #[.slice a (A.fndB (nm k)).length c, .int .i64 (A.fndE (nm k))]) ∧ Out u2.heap.size u' (.slice a (A.fndB (nm k)).length c) (A.fndB (nm k)) ∧ u2.grownBy u' none) := hid (fun u2 q => q.rread hn k)
 have HNm : Hid (∀ u, Calls Tryz.prog 20 #[.int .i64 (k : Int)] u fun e u' => e = .returned (.string (nm k)) ∧ u' = u) := hid (fun u => names_any u k hk)
 have hf0 := fnd_no hE
 obtain ⟨f, Hf⟩ : ∃ z, Hid (A.fndB (nm k) = z) := ⟨_, hid rfl⟩
 rw [Hf.out] at HRd HF hf0
 obtain ⟨E, HE⟩ : ∃ z, Hid (A.fndE (nm k) = z) := ⟨_, hid rfl⟩
 rw [HE.out] at HRd hE
 have hEb : (E != 0) = true := bne_iff_ne.2 hE
 obtain ⟨fn, Hfn⟩ : ∃ z, Hid (f.length = z) := ⟨_, hid rfl⟩
 rw [Hfn.out] at HRd HF
 have hfn : fn ≤ 4194304 := HF.out
 obtain ⟨A1, HA1⟩ : ∃ z, Hid (A.rem (nm k) = z) := ⟨_, hid rfl⟩
 rw [HA1.out] at HRm HRr HAp HRa HOp
 obtain ⟨E1, HE1⟩ : ∃ z, Hid (A.remE (nm k) = z) := ⟨_, hid rfl⟩
 rw [HE1.out] at HRm HRr
 obtain ⟨s, HSn⟩ : ∃ z, Hid (nm k = z) := ⟨_, hid rfl⟩
 rw [HSn.out] at HRm HRr HAp HRa HOp HRd HNm
 obtain ⟨D0, HD0⟩ : ∃ z, Hid (A.sr = z) := ⟨_, hid rfl⟩
 rw [HD0.out] at HRr HRd HM
 obtain ⟨D1, HD1⟩ : ∃ z, Hid (A1.sr = z) := ⟨_, hid rfl⟩
 rw [HD1.out] at HRr HRa
 clear h hk hT hw hroom hps hTT hz hZ hB hl hn hn1 HF HA1 HE1 HSn HD0 HD1 Hf
 clear hE HE
 go_enter Tryz.func30, Tryz.ntmps30
 go_upto_region 1 with ((with_reducible refine wpList_box_row (by with_unfolding_all rfl) 76 _ (by with_unfolding_all rfl) [Value.int .i64 6, .int .i64 on, .slice ba bn bc, .int .i64 nv, .int .i64 kv] (by with_unfolding_all rfl) ?_); intro w1 B1 s1 g1; have HB1 := hid B1; have HG1 := hid g1; clear B1 s1 g1)
 obtain ⟨ob, hob⟩ : ∃ x, u.heap.size = x := ⟨_, rfl⟩
 rw [hob] at HB1 ⊢
 clear hob
 replace HM := hid (HM.out.keep HG1.out)
 have HR1 : Hid (∀ u2, w1.grownBy u2 none → Rd u2 F (.slice ba bn bc) l) := hid (fun u2 hu => HR.out u2 (gtrans HG1.out hu))
 clear HR
 have HBk : Hid (∀ u2, w1.grownBy u2 none → Blk u2 ob [Value.int .i64 6, .int .i64 on, .slice ba bn bc, .int .i64 nv, .int .i64 kv] 76) := hid (fun u2 hu => HB1.out.keep hu)
 clear HB1 HG1
 have HRd1 : Hid (∀ u2, w1.grownBy u2 none → Calls Tryz.prog 54 #[.pointer (some ⟨b1, 0, none⟩), .string s] u2 fun e u' => ∃ a c, e = .returned (.tuple #[.slice a fn c, .int .i64 E]) ∧ Out w1.heap.size u' (.slice a fn c) f ∧ w1.grownBy u' none) := hid (fun u2 hu => (HRd.out u2 (HM.out.keep hu)).mono fun e u' ⟨a, c, q1, q2, q3⟩ => ⟨a, c, q1, owns_base q2 hu.size, gtrans hu q3⟩)
 clear HRd
 have c1 := (HM.out.cell 1).trans (show _ = some (Value.pointer (some ⟨b1, 0, none⟩)) from rfl)
 have HC1 : Hid (∀ u2, w1.grownBy u2 none → u2.cell? ⟨sb, 1, none⟩ = some (.pointer (some ⟨b1, 0, none⟩))) := hid (fun u2 hu => (HM.out.keep hu).cell 1)
 go_region_held3 (fun v => v.cell? ⟨sb, 1, none⟩ = some (.pointer (some ⟨b1, 0, none⟩))) (first | assumption | exact HC1.out _ (gdrew1 _ _) | exact HC1.out _ HG2.out) (first
  | (go_at_call 20; (with_reducible refine (HNm.out _).mono ?_); rintro e v1 ⟨rfl, hw1⟩; subst hw1)
  | (go_at_call 54; (with_reducible refine (HRd1.out _ (by first | exact grefl _ _ | exact gdrew1 _ _)).mono ?_); rintro e v2 ⟨fa, fc, rfl, hO, hg⟩; have HO2 := hid hO; have HG2 := hid hg; clear hO hg))
 clear c1 HRd1
 go_upto_region 4 with fail
 have hfe : fn = 0 := by rw [← Hfn.out, hf0]; rfl
 replace HO2 : Hid (Out w1.heap.size v2 (.slice none 0 0) f) := hid (by rw [hf0]; exact ⟨by simp [Lib.byteCells], .inl ⟨rfl, rfl⟩⟩)
 have Hfn' : Hid (f.length = 0) := hid (by rw [hf0]; rfl)
 clear hEb hf0 hfe Hfn
 have q0 : v2.cell? ⟨ob, 0, none⟩ = some (.int .i64 6) := (HBk.out v2 HG2.out).cell 0
 have q2 : v2.cell? ⟨ob, 2, none⟩ = some (.slice ba bn bc) := (HBk.out v2 HG2.out).cell 2
 have q3 : v2.cell? ⟨ob, 3, none⟩ = some (.int .i64 nv) := (HBk.out v2 HG2.out).cell 3
 have HWi : Hid (∀ u : World, Calls Tryz.prog 4 #[.int .i64 nv, .int .i64 1] u fun e w' => e = .returned (.int .i64 0) ∧ w' = u) := hid (fun u => (within_any nv 1 (by omega) (by omega) u).mono fun e w' ⟨⟨r, r1, r2⟩, r3⟩ => ⟨by rw [r2, show r = 0 by omega]; rfl, r3⟩)
 have hfc : 0 ≤ 0 := by obtain ⟨_, _, _, _, e, hc, _⟩ := HO2.out.rd; injection e with _ e1 e2; have := Hfn'.out; omega
 go_upto_region 18 with (go_at_call 4; (with_reducible refine (HWi.out _).mono ?_); rintro e w3 ⟨rfl, hw3⟩; have hw3' := hw3.symm; clear hw3; subst hw3')
 have HO3 := HO2
 have HG3 := HG2
 have HL3 : Hid (f.length ≤ 140737488355328) := hid (by have := Hfn'.out; omega)
 clear q0 q2 q3 HWi hfc
 obtain ⟨l3, hl3⟩ : ∃ z, f = z := ⟨_, rfl⟩
 rw [hl3] at HO3 HL3
 clear hl3
 have HN : Hid (Wy w b0 b1 sb x y A D0 zs os bk lt T ps (.slice none 0 0) l3 v2) := hid (Wy.of HM.out HG3.out HO3.out)
 have HAp3 : Hid (∀ u D, Wy w b0 b1 sb x y A1 D zs os bk lt T ps (.slice none 0 0) l3 u → Calls Tryz.prog 51 #[.pointer (some ⟨b0, 0, none⟩), .string s, .slice none 0 0] u fun e u' => e = .returned (.int .i64 (A1.appE s l3)) ∧ Wy w b0 b1 sb x y (A1.app s l3) D zs os bk lt T ps (.slice none 0 0) l3 u') := hid (fun u D q => HAp.out u D none 0 0 l3 q)
 have HRa3 : Hid (∀ u A', Wy w b0 b1 sb x y A' D1 zs os bk lt T ps (.slice none 0 0) l3 u → Calls Tryz.prog 59 #[.pointer (some ⟨b1, 0, none⟩), .string s, .slice none 0 0] u fun e u' => e = .returned (.int .i64 (A1.appE s l3)) ∧ Wy w b0 b1 sb x y A' (A1.app s l3).sr zs os bk lt T ps (.slice none 0 0) l3 u') := hid (fun u A' q => HRa.out u A' none 0 0 l3 HL3.out q)
 replace HOp := hid (fun u q => HOp.out u l3 q)
 replace HRm := hid (fun u D q => HRm.out u D (.slice none 0 0) l3 q)
 replace HRr := hid (fun u A' q => HRr.out u A' (.slice none 0 0) l3 q)
 obtain ⟨E2, HE2⟩ : ∃ z, Hid (A1.appE s l3 = z) := ⟨_, hid rfl⟩
 rw [HE2.out] at HAp3 HRa3
 obtain ⟨A2, HA2⟩ : ∃ z, Hid (A1.app s l3 = z) := ⟨_, hid rfl⟩
 rw [HA2.out] at HAp3 HRa3 HOp
 obtain ⟨D2, HD2⟩ : ∃ z, Hid (A2.sr = z) := ⟨_, hid rfl⟩
 rw [HD2.out] at HRa3 HOp
 clear HAp HRa HM HG3 HO3 HL3 HE2 HA2 HD2 HBk HR1 HC1 HO2 HG2 HLl
 have c01 := And.intro ((HN.out.cell 0).trans (show _ = some (Value.pointer (some ⟨b0, 0, none⟩)) from rfl)) ((HN.out.cell 1).trans (show _ = some (Value.pointer (some ⟨b1, 0, none⟩)) from rfl))
 go_region_held3 (fun v => v.cell? ⟨sb, 0, none⟩ = some (.pointer (some ⟨b0, 0, none⟩)) ∧ v.cell? ⟨sb, 1, none⟩ = some (.pointer (some ⟨b1, 0, none⟩))) (first | assumption | exact ⟨HN.out.cell 0, HN.out.cell 1⟩ | exact ⟨(HN.out.keep (gdrew1 _ _)).cell 0, (HN.out.keep (gdrew1 _ _)).cell 1⟩) (first
  | (go_at_call 20; (with_reducible refine (HNm.out _).mono ?_); rintro e v4 ⟨rfl, hw4⟩; subst hw4)
  | (go_at_call 7; (with_reducible refine (num_any _ _).mono ?_); rintro e v4 ⟨rfl, hw4⟩; have hw' := hw4.symm; clear hw4; subst hw')
  | (go_at_call 60; (with_reducible refine (HRm.out _ _ (by first | exact HN.out | exact HN.out.keep (gdrew1 _ _))).mono ?_); rintro e v4 ⟨rfl, hm⟩; replace HN := hid hm; clear hm)
  | (go_at_call 61; (with_reducible refine (HRr.out _ _ (by first | exact HN.out | exact HN.out.keep (gdrew1 _ _))).mono ?_); rintro e v4 ⟨rfl, hm⟩; replace HN := hid hm; clear hm)
  | (go_at_call 51; (with_reducible refine (HAp3.out _ _ (by first | exact HN.out | exact HN.out.keep (gdrew1 _ _))).mono ?_); rintro e v4 ⟨rfl, hm⟩; replace HN := hid hm; clear hm)
  | (go_at_call 59; (with_reducible refine (HRa3.out _ _ (by first | exact HN.out | exact HN.out.keep (gdrew1 _ _))).mono ?_); rintro e v4 ⟨rfl, hm⟩; replace HN := hid hm; clear hm))
 all_goals (go_wp2_with (go_at_call 9; (with_reducible refine (HOp.out _ HN.out.wx).mono ?_); rintro e v5 ⟨rfl, hm⟩; have HQ := hid hm; clear hm))
 all_goals (go_ret; exact ⟨rfl, HQ.out⟩)

end Go.Proofs.YtpbiofnncdneoaaGreatDoor

namespace Go.Proofs.YtpbiofnncdneoaaGreatDoor
open Go Go.RowKit Go.MapKept Go.MuLone
open Go.RowKit (wrap32 wrap64)

variable {w u u' : World} {A A' D : Ab} {b0 b1 sb bk lt T n k bn bc : Nat} {s : ByteArray} {x y : Nat → Option Nat} {zs : Nat → Nat} {os : Nat → Bool} {ps : List Bq.Item} {l : List UInt8} {ba : Option Addr} {on nv kv : Int}
theorem past_5 (h : Wx w b0 b1 sb x y A A.sr zs os bk lt T ps u) (hk : k < 2) (hT : Tab w) (hw : A.wr ≤ 4611686018427387000) (hroom : A.room ≤ 4194304) (hps : ps.length < 8) (hTT : T + 208 ≤ 10000000) {Z : Nat} (hz : ∀ j, zs j ≤ Z) (hZ : 4194304 ≤ Z) {F : Nat → Prop} (hB : Rd w F (.slice ba bn bc) l) (hl : l.length ≤ 524288) :
  Calls Tryz.prog 30 #[.pointer (some ⟨sb, 0, none⟩), .int .i64 (k : Nat), .agg [Value.int .i64 5, .int .i64 on, .slice ba bn bc, .int .i64 nv, .int .i64 kv].toArray] u fun e u' => e = .returned (.bool true) ∧ ∃ A', Opn w b0 b1 sb bk lt T 208 Z A' u' ∧ A'.room = A.room ∧ A'.wr ≤ A.wr + 3 := by
 by_cases hE : A.fndE (nm k) = 0
 ·exact past_5y h hk hT hw hroom hps hTT hz hZ hB hl hE
 ·exact past_5n h hk hT hw hroom hps hTT hz hZ hB hl hE
theorem past_6 (h : Wx w b0 b1 sb x y A A.sr zs os bk lt T ps u) (hk : k < 2) (hT : Tab w) (hw : A.wr ≤ 4611686018427387000) (hroom : A.room ≤ 4194304) (hps : ps.length < 8) (hTT : T + 208 ≤ 10000000) {Z : Nat} (hz : ∀ j, zs j ≤ Z) (hZ : 4194304 ≤ Z) {F : Nat → Prop} (hB : Rd w F (.slice ba bn bc) l) (hl : l.length ≤ 524288) :
  Calls Tryz.prog 30 #[.pointer (some ⟨sb, 0, none⟩), .int .i64 (k : Nat), .agg [Value.int .i64 6, .int .i64 on, .slice ba bn bc, .int .i64 nv, .int .i64 kv].toArray] u fun e u' => e = .returned (.bool true) ∧ ∃ A', Opn w b0 b1 sb bk lt T 208 Z A' u' ∧ A'.room = A.room ∧ A'.wr ≤ A.wr + 3 := by
 by_cases hE : A.fndE (nm k) = 0
 ·exact past_6y h hk hT hw hroom hps hTT hz hZ hB hl hE
 ·exact past_6n h hk hT hw hroom hps hTT hz hZ hB hl hE
theorem past_7 (h : Wx w b0 b1 sb x y A A.sr zs os bk lt T ps u) (hk : k < 2) (hT : Tab w) (hw : A.wr ≤ 4611686018427387000) (hroom : A.room ≤ 4194304) (hps : ps.length < 8) (hTT : T + 208 ≤ 10000000) {Z : Nat} (hz : ∀ j, zs j ≤ Z) (hZ : 4194304 ≤ Z) {F : Nat → Prop} (hB : Rd w F (.slice ba bn bc) l) (hl : l.length ≤ 524288) :
  Calls Tryz.prog 30 #[.pointer (some ⟨sb, 0, none⟩), .int .i64 (k : Nat), .agg [Value.int .i64 7, .int .i64 on, .slice ba bn bc, .int .i64 nv, .int .i64 kv].toArray] u fun e u' => e = .returned (.bool true) ∧ ∃ A', Opn w b0 b1 sb bk lt T 208 Z A' u' ∧ A'.room = A.room ∧ A'.wr ≤ A.wr + 3 := by
 by_cases hE : A.fndE (nm k) = 0
 ·exact past_7y h hk hT hw hroom hps hTT hz hZ hB hl hE
 ·exact past_7n h hk hT hw hroom hps hTT hz hZ hB hl hE
theorem past_8 (h : Wx w b0 b1 sb x y A A.sr zs os bk lt T ps u) (hk : k < 2) (hT : Tab w) (hw : A.wr ≤ 4611686018427387000) (hroom : A.room ≤ 4194304) (hps : ps.length < 8) (hTT : T + 208 ≤ 10000000) {Z : Nat} (hz : ∀ j, zs j ≤ Z) (hZ : 4194304 ≤ Z) {F : Nat → Prop} (hB : Rd w F (.slice ba bn bc) l) (hl : l.length ≤ 524288) :
  Calls Tryz.prog 30 #[.pointer (some ⟨sb, 0, none⟩), .int .i64 (k : Nat), .agg [Value.int .i64 8, .int .i64 on, .slice ba bn bc, .int .i64 nv, .int .i64 kv].toArray] u fun e u' => e = .returned (.bool true) ∧ ∃ A', Opn w b0 b1 sb bk lt T 208 Z A' u' ∧ A'.room = A.room ∧ A'.wr ≤ A.wr + 3 := by
 by_cases hE : A.fndE (nm k) = 0
 ·exact past_8y h hk hT hw hroom hps hTT hz hZ hB hl hE
 ·exact past_8n h hk hT hw hroom hps hTT hz hZ hB hl hE
end Go.Proofs.YtpbiofnncdneoaaGreatDoor

namespace Go.Proofs.YtpbiofnncdneoaaGreatDoor
open Go Go.RowKit Go.MapKept Go.MuLone
open Go.RowKit (wrap32 wrap64)

variable {w u u' : World} {A A' D : Ab} {b0 b1 sb bk lt T n k bn bc : Nat} {s : ByteArray} {x y : Nat → Option Nat} {zs : Nat → Nat} {os : Nat → Bool} {ps : List Bq.Item} {l : List UInt8} {ba : Option Addr} {on nv kv : Int}
set_option maxRecDepth 100000 in
set_option maxHeartbeats 8000000 in
theorem plays_past5 (h : Wx w b0 b1 sb x y A A.sr zs os bk lt T ps u) (hT : Tab w) (hw : A.wr ≤ 4611686018427387000) (hroom : A.room ≤ 4194304) (hps : ps.length < 8) (hTT : T + 208 ≤ 10000000) {Z : Nat} (hz : ∀ j, zs j ≤ Z) (hZ : 4194304 ≤ Z) (hZ2 : Z ≤ 1000000000) {F : Nat → Prop} (hB : Rd w F (.slice ba bn bc) l) (hl : l.length ≤ 524288) (hk : k < 2) (hand : bits .and .i64 on 1 = (k : Int)) :
  Calls Tryz.prog 10 #[.pointer (some ⟨sb, 0, none⟩), .agg [Value.int .i64 5, .int .i64 on, .slice ba bn bc, .int .i64 nv, .int .i64 kv].toArray] u fun e u' => e = .returned (.bool true) ∧ ∃ A', Opn w b0 b1 sb bk lt T 208 (Z + 600000) A' u' ∧ A'.room = A.room ∧ A'.wr ≤ A.wr + 3 := by
 have hu0 := And.intro hT (And.intro hw (And.intro hroom (And.intro hps (And.intro hTT (And.intro hz (And.intro hZ (And.intro hZ2 (And.intro hB hl))))))))
 clear hu0
 have HM := hid h
 have HOp : Hid (∀ u, Wx w b0 b1 sb x y A A.sr zs os bk lt T ps u → Calls Tryz.prog 30 #[.pointer (some ⟨sb, 0, none⟩), .int .i64 (k : Nat), .agg [Value.int .i64 5, .int .i64 on, .slice ba bn bc, .int .i64 nv, .int .i64 kv].toArray] u fun e u' => e = .returned (.bool true) ∧ ∃ A', Opn w b0 b1 sb bk lt T 208 (Z + 600000) A' u' ∧ A'.room = A.room ∧ A'.wr ≤ A.wr + 3) := hid (fun u q => past_5 q hk hT hw hroom hps hTT (Z := Z + 600000) (fun j => by have := hz j; omega) (by omega) hB hl)
 clear h hT hw hroom hps hTT hz hZ hZ2 hB hl
 go_enter Tryz.func10, Tryz.ntmps10
 go_upto_region 23 with ((with_reducible refine wpList_box_row (by with_unfolding_all rfl) 76 _ (by with_unfolding_all rfl) [Value.int .i64 5, .int .i64 on, .slice ba bn bc, .int .i64 nv, .int .i64 kv] (by with_unfolding_all rfl) ?_); intro w1 B1 s1 g1; have HB1 := hid B1; have HG1 := hid g1; have c0 := B1.cell 0; have c1 := B1.cell 1; clear B1 s1 g1)
 replace HM := hid (HM.out.keep HG1.out)
 have c2 := HB1.out.cell 2
 have c3 := HB1.out.cell 3
 have c4 := HB1.out.cell 4
 go_wp2_with (go_at_call 30; (with_reducible refine (HOp.out _ HM.out).mono ?_); rintro e v6 ⟨rfl, hm⟩; have HQ := hid hm; clear hm)
 go_ret
 exact ⟨rfl, HQ.out⟩
set_option maxRecDepth 100000 in
set_option maxHeartbeats 8000000 in
theorem plays_past6 (h : Wx w b0 b1 sb x y A A.sr zs os bk lt T ps u) (hT : Tab w) (hw : A.wr ≤ 4611686018427387000) (hroom : A.room ≤ 4194304) (hps : ps.length < 8) (hTT : T + 208 ≤ 10000000) {Z : Nat} (hz : ∀ j, zs j ≤ Z) (hZ : 4194304 ≤ Z) (hZ2 : Z ≤ 1000000000) {F : Nat → Prop} (hB : Rd w F (.slice ba bn bc) l) (hl : l.length ≤ 524288) (hk : k < 2) (hand : bits .and .i64 on 1 = (k : Int)) :
  Calls Tryz.prog 10 #[.pointer (some ⟨sb, 0, none⟩), .agg [Value.int .i64 6, .int .i64 on, .slice ba bn bc, .int .i64 nv, .int .i64 kv].toArray] u fun e u' => e = .returned (.bool true) ∧ ∃ A', Opn w b0 b1 sb bk lt T 208 (Z + 600000) A' u' ∧ A'.room = A.room ∧ A'.wr ≤ A.wr + 3 := by
 have hu0 := And.intro hT (And.intro hw (And.intro hroom (And.intro hps (And.intro hTT (And.intro hz (And.intro hZ (And.intro hZ2 (And.intro hB hl))))))))
 clear hu0
 have HM := hid h
 have HOp : Hid (∀ u, Wx w b0 b1 sb x y A A.sr zs os bk lt T ps u → Calls Tryz.prog 30 #[.pointer (some ⟨sb, 0, none⟩), .int .i64 (k : Nat), .agg [Value.int .i64 6, .int .i64 on, .slice ba bn bc, .int .i64 nv, .int .i64 kv].toArray] u fun e u' => e = .returned (.bool true) ∧ ∃ A', Opn w b0 b1 sb bk lt T 208 (Z + 600000) A' u' ∧ A'.room = A.room ∧ A'.wr ≤ A.wr + 3) := hid (fun u q => past_6 q hk hT hw hroom hps hTT (Z := Z + 600000) (fun j => by have := hz j; omega) (by omega) hB hl)
 clear h hT hw hroom hps hTT hz hZ hZ2 hB hl
 go_enter Tryz.func10, Tryz.ntmps10
 go_upto_region 23 with ((with_reducible refine wpList_box_row (by with_unfolding_all rfl) 76 _ (by with_unfolding_all rfl) [Value.int .i64 6, .int .i64 on, .slice ba bn bc, .int .i64 nv, .int .i64 kv] (by with_unfolding_all rfl) ?_); intro w1 B1 s1 g1; have HB1 := hid B1; have HG1 := hid g1; have c0 := B1.cell 0; have c1 := B1.cell 1; clear B1 s1 g1)
 replace HM := hid (HM.out.keep HG1.out)
 have c2 := HB1.out.cell 2
 have c3 := HB1.out.cell 3
 have c4 := HB1.out.cell 4
 go_wp2_with (go_at_call 30; (with_reducible refine (HOp.out _ HM.out).mono ?_); rintro e v6 ⟨rfl, hm⟩; have HQ := hid hm; clear hm)
 go_ret
 exact ⟨rfl, HQ.out⟩
set_option maxRecDepth 100000 in
set_option maxHeartbeats 8000000 in
theorem plays_past7 (h : Wx w b0 b1 sb x y A A.sr zs os bk lt T ps u) (hT : Tab w) (hw : A.wr ≤ 4611686018427387000) (hroom : A.room ≤ 4194304) (hps : ps.length < 8) (hTT : T + 208 ≤ 10000000) {Z : Nat} (hz : ∀ j, zs j ≤ Z) (hZ : 4194304 ≤ Z) (hZ2 : Z ≤ 1000000000) {F : Nat → Prop} (hB : Rd w F (.slice ba bn bc) l) (hl : l.length ≤ 524288) (hk : k < 2) (hand : bits .and .i64 on 1 = (k : Int)) :
  Calls Tryz.prog 10 #[.pointer (some ⟨sb, 0, none⟩), .agg [Value.int .i64 7, .int .i64 on, .slice ba bn bc, .int .i64 nv, .int .i64 kv].toArray] u fun e u' => e = .returned (.bool true) ∧ ∃ A', Opn w b0 b1 sb bk lt T 208 (Z + 600000) A' u' ∧ A'.room = A.room ∧ A'.wr ≤ A.wr + 3 := by
 have hu0 := And.intro hT (And.intro hw (And.intro hroom (And.intro hps (And.intro hTT (And.intro hz (And.intro hZ (And.intro hZ2 (And.intro hB hl))))))))
 clear hu0
 have HM := hid h
 have HOp : Hid (∀ u, Wx w b0 b1 sb x y A A.sr zs os bk lt T ps u → Calls Tryz.prog 30 #[.pointer (some ⟨sb, 0, none⟩), .int .i64 (k : Nat), .agg [Value.int .i64 7, .int .i64 on, .slice ba bn bc, .int .i64 nv, .int .i64 kv].toArray] u fun e u' => e = .returned (.bool true) ∧ ∃ A', Opn w b0 b1 sb bk lt T 208 (Z + 600000) A' u' ∧ A'.room = A.room ∧ A'.wr ≤ A.wr + 3) := hid (fun u q => past_7 q hk hT hw hroom hps hTT (Z := Z + 600000) (fun j => by have := hz j; omega) (by omega) hB hl)
 clear h hT hw hroom hps hTT hz hZ hZ2 hB hl
 go_enter Tryz.func10, Tryz.ntmps10
 go_upto_region 23 with ((with_reducible refine wpList_box_row (by with_unfolding_all rfl) 76 _ (by with_unfolding_all rfl) [Value.int .i64 7, .int .i64 on, .slice ba bn bc, .int .i64 nv, .int .i64 kv] (by with_unfolding_all rfl) ?_); intro w1 B1 s1 g1; have HB1 := hid B1; have HG1 := hid g1; have c0 := B1.cell 0; have c1 := B1.cell 1; clear B1 s1 g1)
 replace HM := hid (HM.out.keep HG1.out)
 have c2 := HB1.out.cell 2
 have c3 := HB1.out.cell 3
 have c4 := HB1.out.cell 4
 go_wp2_with (go_at_call 30; (with_reducible refine (HOp.out _ HM.out).mono ?_); rintro e v6 ⟨rfl, hm⟩; have HQ := hid hm; clear hm)
 go_ret
 exact ⟨rfl, HQ.out⟩
set_option maxRecDepth 100000 in
set_option maxHeartbeats 8000000 in
theorem plays_past8 (h : Wx w b0 b1 sb x y A A.sr zs os bk lt T ps u) (hT : Tab w) (hw : A.wr ≤ 4611686018427387000) (hroom : A.room ≤ 4194304) (hps : ps.length < 8) (hTT : T + 208 ≤ 10000000) {Z : Nat} (hz : ∀ j, zs j ≤ Z) (hZ : 4194304 ≤ Z) (hZ2 : Z ≤ 1000000000) {F : Nat → Prop} (hB : Rd w F (.slice ba bn bc) l) (hl : l.length ≤ 524288) (hk : k < 2) (hand : bits .and .i64 on 1 = (k : Int)) :
  Calls Tryz.prog 10 #[.pointer (some ⟨sb, 0, none⟩), .agg [Value.int .i64 8, .int .i64 on, .slice ba bn bc, .int .i64 nv, .int .i64 kv].toArray] u fun e u' => e = .returned (.bool true) ∧ ∃ A', Opn w b0 b1 sb bk lt T 208 (Z + 600000) A' u' ∧ A'.room = A.room ∧ A'.wr ≤ A.wr + 3 := by
 have hu0 := And.intro hT (And.intro hw (And.intro hroom (And.intro hps (And.intro hTT (And.intro hz (And.intro hZ (And.intro hZ2 (And.intro hB hl))))))))
 clear hu0
 have HM := hid h
 have HOp : Hid (∀ u, Wx w b0 b1 sb x y A A.sr zs os bk lt T ps u → Calls Tryz.prog 30 #[.pointer (some ⟨sb, 0, none⟩), .int .i64 (k : Nat), .agg [Value.int .i64 8, .int .i64 on, .slice ba bn bc, .int .i64 nv, .int .i64 kv].toArray] u fun e u' => e = .returned (.bool true) ∧ ∃ A', Opn w b0 b1 sb bk lt T 208 (Z + 600000) A' u' ∧ A'.room = A.room ∧ A'.wr ≤ A.wr + 3) := hid (fun u q => past_8 q hk hT hw hroom hps hTT (Z := Z + 600000) (fun j => by have := hz j; omega) (by omega) hB hl)
 clear h hT hw hroom hps hTT hz hZ hZ2 hB hl
 go_enter Tryz.func10, Tryz.ntmps10
 go_upto_region 23 with ((with_reducible refine wpList_box_row (by with_unfolding_all rfl) 76 _ (by with_unfolding_all rfl) [Value.int .i64 8, .int .i64 on, .slice ba bn bc, .int .i64 nv, .int .i64 kv] (by with_unfolding_all rfl) ?_); intro w1 B1 s1 g1; have HB1 := hid B1; have HG1 := hid g1; have c0 := B1.cell 0; have c1 := B1.cell 1; clear B1 s1 g1)
 replace HM := hid (HM.out.keep HG1.out)
 have c2 := HB1.out.cell 2
 have c3 := HB1.out.cell 3
 have c4 := HB1.out.cell 4
 go_wp2_with (go_at_call 30; (with_reducible refine (HOp.out _ HM.out).mono ?_); rintro e v6 ⟨rfl, hm⟩; have HQ := hid hm; clear hm)
 go_ret
 exact ⟨rfl, HQ.out⟩
end Go.Proofs.YtpbiofnncdneoaaGreatDoor
