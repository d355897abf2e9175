/- The stage's open: a file that is opened. -/
import Derived.Test.YtpbiofnncdneoaaGreatDoorX26
namespace Go.Proofs.YtpbiofnncdneoaaGreatDoor
open Go Go.RowKit Go.MapKept Go.MuLone
open Go.RowKit (wrap32 wrap64)

variable {w u u' : World} {col col' : Nat → Nat} {A A' D : Ab} {b0 b1 sb bk lt T n k : Nat} {x y : Nat → Option Nat} {zs : Nat → Nat} {os : Nat → Bool} {ps : List Bq.Item} {rs : List (List UInt8)} {t : List UInt8}
theorem Y2.lens {lb rb : Nat} {v v' : Value} {vs vs' : List Value} (h : Y2 w b0 b1 sb x y A D zs os bk lt T ps n k lb rb v vs v' vs' rs u) : (∃ a c, v = .slice a rs.length c) ∧ (∃ a c, v' = .slice a rs.length c) := by
 obtain ⟨col, h1, h2, h3, h4, h5⟩ := h
 exact ⟨h4.s.len, h5.s.len⟩
theorem Opn.up {N N' Z : Nat} (h : Opn w b0 b1 sb bk lt T N Z A' u) (hn : N ≤ N') : Opn w b0 b1 sb bk lt T N' Z A' u := by
 obtain ⟨x, y, zs, os, T', ps, h1, h2, h3, h4⟩ := h
 exact ⟨x, y, zs, os, T', ps, h1, h2, by omega, h4⟩
theorem Y2.cellr {lb rb g m c i : Nat} {v' z : Value} {vs vs' : List Value} (h : Y2 w b0 b1 sb x y A D zs os bk lt T ps n k lb rb (.slice (some ⟨g, 0, none⟩) m c) vs v' vs' rs u) (hz : vs[i]? = some z) : u.cell? ⟨g, i, none⟩ = some z := by
 obtain ⟨col, h1, h2, h3, h4, h5⟩ := h
 have q := h4.row.cells (g := g) rfl i z hz
 rw [Addr.add_lit, Nat.zero_add] at q
 exact q
theorem Y2.cellq {lb rb g m c i : Nat} {v z : Value} {vs vs' : List Value} (h : Y2 w b0 b1 sb x y A D zs os bk lt T ps n k lb rb v vs (.slice (some ⟨g, 0, none⟩) m c) vs' rs u) (hz : vs'[i]? = some z) : u.cell? ⟨g, i, none⟩ = some z := by
 obtain ⟨col, h1, h2, h3, h4, h5⟩ := h
 have q := h5.row.cells (g := g) rfl i z hz
 rw [Addr.add_lit, Nat.zero_add] at q
 exact q
theorem row_some {v : Value} {vs : List Value} (h : u.ownsRow 0 74 1 v rs.length vs) (hi : 0 < rs.length) : ∃ g c, v = .slice (some ⟨g, 0, none⟩) rs.length c := by
 rcases h.2 with ⟨_, q⟩ | ⟨g, cap, cur, q, _⟩
 ·omega
 ·exact ⟨g, cap, q⟩
theorem Y2.at {lb rb : Nat} {v v' : Value} {vs vs' : List Value} (h : Y2 w b0 b1 sb x y A D zs os bk lt T ps n k lb rb v vs v' vs' rs u) {i : Nat} (hi : i < rs.length) : ∃ g c g' c' z z', v = .slice (some ⟨g, 0, none⟩) rs.length c ∧ v' = .slice (some ⟨g', 0, none⟩) rs.length c' ∧ vs[i]? = some z ∧ vs'[i]? = some z' ∧ (∃ a c, z = .slice a rs[i].length c) ∧ (∃ a c, z' = .slice a rs[i].length c) := by
 obtain ⟨col, h1, h2, h3, h4, h5⟩ := h
 obtain ⟨g, c, e1⟩ := row_some h4.row (by omega)
 obtain ⟨g', c', e2⟩ := row_some h5.row (by omega)
 obtain ⟨z, z1, z2⟩ := h4.each.get i hi
 obtain ⟨z', z1', z2'⟩ := h5.each.get i hi
 exact ⟨g, c, g', c', z, z', e1, e2, z1, z1', z2.len, z2'.len⟩
theorem Y2.adds {lb rb i : Nat} {v v' z z' : Value} {vs vs' : List Value} (h : Y2 w b0 b1 sb x y A D zs os bk lt T (ps ++ (vs.zip rs).take 200) (ps.length + i) k lb rb v vs v' vs' rs u) (hi : i < rs.length) (h2 : i < 200) (hz : vs[i]? = some z) (hz' : vs'[i]? = some z') (hn : ps.length < 8) :
  Calls Tryz.prog 23 #[.pointer (some ⟨lt, 0, none⟩), z, z'] u fun e u' => e = .returned (.tuple #[]) ∧ Y2 w b0 b1 sb x y A D zs os bk lt T (ps ++ (vs.zip rs).take 200) (ps.length + (i + 1)) k lb rb v vs v' vs' rs u' := by
 have ho : Out 0 u z' rs[i] := by
  obtain ⟨col, _, _, _, _, h5⟩ := h
  obtain ⟨y', q1, q2⟩ := h5.each.get i hi
  rw [hz'] at q1
  injection q1 with q1
  rw [q1]; exact q2
 exact h.add (p := (z, rs[i])) (by
  rw [List.getElem?_append_right (by omega), show ps.length + i - ps.length = i by omega, List.getElem?_take, if_pos h2, List.getElem?_zip_eq_some]
  exact ⟨hz, List.getElem?_eq_getElem hi⟩) ho (by omega)
theorem Y2.len {lb rb : Nat} {v v' : Value} {vs vs' : List Value} (h : Y2 w b0 b1 sb x y A D zs os bk lt T ps n k lb rb v vs v' vs' rs u) : vs.length = rs.length := by
 obtain ⟨col, h1, h2, h3, h4, h5⟩ := h
 exact h4.each.len
set_option maxRecDepth 100000 in
set_option maxHeartbeats 8000000 in
theorem open_yes (h : Wx w b0 b1 sb x y A A.sr zs os bk lt T ps u) (hk : k < 2) (hT : Tab w) (hp : Prt (A.fndB (nm k)) rs t) (hw : A.wr ≤ 4611686018427387904) (hlen : ∀ r ∈ rs, r.length ≤ 8388608) (hps : ps.length < 8) (hTT : T + 208 ≤ 10000000) (hE : opE A (nm k) rs t = 0) {Z : Nat} (hz : ∀ j, zs j ≤ Z) (hzf : flen rs ≤ Z) :
  Calls Tryz.prog 9 #[.pointer (some ⟨sb, 0, none⟩), .int .i64 (k : Nat)] u fun e u' => e = .returned (.bool true) ∧ Opn w b0 b1 sb bk lt T 208 Z (opA A (nm k) rs t) u' := by
 have hn : NdC A.C := by obtain ⟨_, h⟩ := h; exact h.d.dk.nd
 have hok : (A.fndB (nm k)).length ≤ 268435456 := by obtain ⟨_, h⟩ := h; exact fil_len h.d.dk.1
 have HM := hid h
 have HZs := hid hz
 have HZf := hid hzf
 have HPs : Hid (ps.length < 8 ∧ T + 208 ≤ 10000000) := hid ⟨hps, hTT⟩
 have HRl : Hid (rs.length ≤ 1000000) := hid hp.num
 have HPo : Hid (∀ u, Wx w b0 b1 sb x y A A.sr zs os bk lt T ps u → Calls Tryz.prog 15 #[.pointer (some ⟨b0, 0, none⟩), .string (nm k)] u fun e u' => ∃ lb v vs, e = .returned (.tuple #[.pointer (some ⟨lb, 0, none⟩), v, .int .i64 0]) ∧ Y1 w b0 b1 sb x y (opA A (nm k) rs t) A.sr zs os bk lt T ps k lb v vs rs u') := hid (fun u h => h.pyes hT hp hw hlen hE)
 have HRo : Hid (∀ u lb v vs, Y1 w b0 b1 sb x y (opA A (nm k) rs t) A.sr zs os bk lt T ps k lb v vs rs u → Calls Tryz.prog 21 #[.pointer (some ⟨b1, 0, none⟩), .string (nm k)] u fun e u' => ∃ rb v' vs', e = .returned (.tuple #[.pointer (some ⟨rb, 0, none⟩), v', .int .i64 0]) ∧ Y2 w b0 b1 sb x y (opA A (nm k) rs t) (opA A (nm k) rs t).sr zs os bk lt T (ps ++ (vs.zip rs).take 200) ps.length k lb rb v vs v' vs' rs u') := hid (fun u lb v vs h => h.ryes hn hok hp hw hE)
 have HNm : Hid (∀ u, Calls Tryz.prog 20 #[.int .i64 (k : Int)] u fun e u' => e = .returned (.string (nm k)) ∧ u' = u) := hid (fun u => names_any u k hk)
 have HRw : Hid (∀ u A D PS lb rb v vs v' vs', Y2 w b0 b1 sb x y A D zs os bk lt T PS ps.length k lb rb v vs v' vs' rs u → Calls Tryz.prog 22 #[v, v'] u fun e u' => e = .returned (.bool true) ∧ Y2 w b0 b1 sb x y A D zs os bk lt T PS ps.length k lb rb v vs v' vs' rs u') := hid (fun u A D PS lb rb v vs v' vs' h => h.rows HRl.out)
 obtain ⟨A1, HA1⟩ : ∃ z, Hid (opA A (nm k) rs t = z) := ⟨_, hid rfl⟩
 rw [HA1.out] at HPo HRo ⊢
 obtain ⟨s, HSn⟩ : ∃ z, Hid (nm k = z) := ⟨_, hid rfl⟩
 rw [HSn.out] at HPo HRo HNm
 have c0 : u.cell? ⟨sb, 0, none⟩ = some (.pointer (some ⟨b0, 0, none⟩)) := HM.out.cell 0
 clear h hp hw hlen hT hps hTT hn hok hE HA1 HSn hz hzf
 go_enter Tryz.func9, Tryz.ntmps9
 go_upto_region 1 with fail
 go_region_held3 (fun v => v.cell? ⟨sb, 0, none⟩ = some (.pointer (some ⟨b0, 0, none⟩))) (first | assumption | exact HM.out.cell 0 | exact (HM.out.keep (gdrew1 _ _)).cell 0) (first
  | (go_at_call 20; (with_reducible refine (HNm.out _).mono ?_); rintro e v1 ⟨rfl, hw1⟩; subst hw1)
  | (go_at_call 15; (with_reducible refine (HPo.out _ (by first | exact HM.out | exact HM.out.keep (gdrew1 _ _))).mono ?_); rintro e v1 ⟨lb, vr, vs, rfl, hm⟩; replace HM := hid hm; clear hm))
 have c1 := (HM.out.cell 1).trans (show _ = some (Value.pointer (some ⟨b1, 0, none⟩)) from rfl)
 clear c0
 go_upto_region 2 with fail
 go_region_held3 (fun v => v.cell? ⟨sb, 1, none⟩ = some (.pointer (some ⟨b1, 0, none⟩))) (first | assumption | exact HM.out.cell 1 | exact (HM.out.keep (gdrew1 _ _)).cell 1) (first
  | (go_at_call 20; (with_reducible refine (HNm.out _).mono ?_); rintro e v2 ⟨rfl, hw2⟩; subst hw2)
  | (go_at_call 21; (with_reducible refine (HRo.out _ _ _ _ (by first | exact HM.out | exact HM.out.keep (gdrew1 _ _))).mono ?_); rintro e v2 ⟨rb, vq, vs', rfl, hm⟩; replace HM := hid hm; clear hm))
 clear c1
 obtain ⟨ra, rc, hvr⟩ := (HM.out.lens).1
 obtain ⟨qa, qc, hvq⟩ := (HM.out.lens).2
 subst hvr
 subst hvq
 obtain ⟨rn, HRn⟩ : ∃ z, Hid (rs.length = z) := ⟨_, hid rfl⟩
 rw [HRn.out] at HM ⊢
 go_wp2_with (first
  | (go_at_call 7; (with_reducible refine (num_any _ _).mono ?_); rintro e v3 ⟨rfl, hw3⟩; subst hw3)
  | (go_at_call 22; (with_reducible refine (HRw.out _ _ _ _ _ _ _ _ _ _ HM.out).mono ?_); rintro e v4 ⟨rfl, hm⟩; replace HM := hid hm; clear hm))
 clear HRw HRo HPo HNm
 go_loopw [11] (fun iv wr => ∃ i : Nat, iv = .int .i64 i ∧ i ≤ rn ∧ i ≤ 200 ∧ Hid (Y2 w b0 b1 sb x y A1 A1.sr zs os bk lt T (ps ++ (vs.zip rs).take 200) (ps.length + i) k lb rb (.slice ra rn rc) vs (.slice qa rn qc) vs' rs wr)) (fun iv _ => 201 - (intOf iv).toNat)
 case atStart => exact ⟨0, rfl, by omega, by omega, HM⟩
 case round =>
  obtain ⟨i, rfl, hi1, hi2, HM⟩ := hrel
  obtain ⟨u5, hu5⟩ : ∃ x : World, x = wr := ⟨_, rfl⟩
  rw [← hu5] at HM ⊢
  clear hu5
  by_cases hlt : i < rn ∧ i < 200
  ·have hlt1 := hlt.1
   have hlt2 := hlt.2
   have hA : (i : Int) < (rn : Int) := by omega
   have hB : (i : Int) < 200 := by omega
   obtain ⟨g, c, g', c', z, z', e1, e2, hz, hz', ⟨za, zc, e3⟩, ⟨za', zc', e4⟩⟩ := HM.out.at (i := i) (by rw [HRn.out]; exact hlt1)
   injection e1 with e1 en1 ec1
   injection e2 with e2 en2 ec2
   subst e1
   subst e2
   subst ec1
   subst ec2
   clear en1 en2
   obtain ⟨zl, hzl⟩ : ∃ q, (rs[i]'(by rw [HRn.out]; exact hlt1)).length = q := ⟨_, rfl⟩
   rw [hzl] at e3 e4
   subst e3
   subst e4
   have HZ := hid hz
   have HZ' := hid hz'
   have HAd : Hid (∀ u, Y2 w b0 b1 sb x y A1 A1.sr zs os bk lt T (ps ++ (vs.zip rs).take 200) (ps.length + i) k lb rb (.slice (some ⟨g, 0, none⟩) rn rc) vs (.slice (some ⟨g', 0, none⟩) rn qc) vs' rs u → Calls Tryz.prog 23 #[.pointer (some ⟨lt, 0, none⟩), .slice za zl zc, .slice za' zl zc'] u fun e u' => e = .returned (.tuple #[]) ∧ Y2 w b0 b1 sb x y A1 A1.sr zs os bk lt T (ps ++ (vs.zip rs).take 200) (ps.length + (i + 1)) k lb rb (.slice (some ⟨g, 0, none⟩) rn rc) vs (.slice (some ⟨g', 0, none⟩) rn qc) vs' rs u') := hid (fun u h => h.adds (by rw [HRn.out]; exact hlt1) hlt2 HZ.out HZ'.out HPs.out.1)
   have c7 := And.intro ((HM.out.cell 7).trans (show _ = some (Value.pointer (some ⟨lt, 0, none⟩)) from rfl)) (And.intro (HM.out.cellr HZ.out) (HM.out.cellq HZ'.out))
   clear hz hz' hzl hlt
   go_upto_region 8 with fail
   go_region_held3 (fun v => v.cell? ⟨sb, 7, none⟩ = some (.pointer (some ⟨lt, 0, none⟩)) ∧ v.cell? ⟨g, i, none⟩ = some (.slice za zl zc) ∧ v.cell? ⟨g', i, none⟩ = some (.slice za' zl zc')) (first | assumption | exact ⟨HM.out.cell 7, HM.out.cellr HZ.out, HM.out.cellq HZ'.out⟩ | exact ⟨(HM.out.keep (gdrew1 _ _)).cell 7, (HM.out.keep (gdrew1 _ _)).cellr HZ.out, (HM.out.keep (gdrew1 _ _)).cellq HZ'.out⟩) (first
    | (go_at_call 23; (with_reducible refine (HAd.out _ (by first | exact HM.out | exact HM.out.keep (gdrew1 _ _))).mono ?_); rintro e v6 ⟨rfl, hm⟩; replace HM := hid hm; clear hm))
   go_wp2_with fail
   go_roundw
   ·exact ⟨i + 1, by go_num, by omega, by omega, HM⟩
   ·simp [intOf]; omega
  ·have hPL : (ps ++ (vs.zip rs).take 200).length = ps.length + i := by
    rw [List.length_append, List.length_take, List.length_zip, HM.out.len, HRn.out]
    omega
   rw [← hPL] at HM
   obtain ⟨PS, hPS⟩ : ∃ z, ps ++ (vs.zip rs).take 200 = z := ⟨_, rfl⟩
   rw [hPS] at HM hPL
   have HPl : Hid (PS.length ≤ 208 ∧ T + PS.length ≤ 10000000) := hid ⟨by have := HPs.out; omega, by have := HPs.out; omega⟩
   have HSt : Hid (∀ u x y zs os, (∀ j, zs j ≤ Z) → Wx w b0 b1 sb x y A1 A1.sr zs os bk lt T PS u → Calls Tryz.prog 12 #[.pointer (some ⟨lt, 0, none⟩), .pointer (some ⟨bk, 0, none⟩), .int .i64 8] u fun e u' => e = .returned (.bool true) ∧ Opn w b0 b1 sb bk lt T 208 Z A1 u') := hid (fun u x y zs os hz ⟨_, h⟩ => (h.opn (by have := HPl.out; omega) HPl.out.2 hz).mono fun e u' ⟨q1, q2⟩ => ⟨q1, q2.up HPl.out.1⟩)
   clear hPL hPS
   have hC : ¬ (i : Int) < (rn : Int) ∨ ((i : Int) < (rn : Int) ∧ ¬ (i : Int) < 200) := by omega
   clear hlt
   rcases hC with hC | ⟨hC1, hC2⟩
   ·rcases (show k = 0 ∨ k = 1 by omega) with rfl | rfl
    ·obtain ⟨colx, hx, -⟩ := HM.out
     have p1 : Blk u5 sb (sgc b0 b1 x y bk lt) 72 := hx.g.blk
     have k2 : u5.cell? ⟨sb, 2, none⟩ = some (pv (x 0)) := p1.cell 2
     have f2 := p1.frozen 2
     have p2 := p1.set 2 (.pointer (some ⟨lb, 0, none⟩))
     have k4 : (u5.setCell ⟨sb, 2, none⟩ (.pointer (some ⟨lb, 0, none⟩))).cell? ⟨sb, 4, none⟩ = some (pv (y 0)) := p2.cell 4
     have f4 := p2.frozen 4
     have HN : Hid (Wx w b0 b1 sb (up x 0 (some lb)) (up y 0 (some rb)) A1 A1.sr (up zs 0 (flen rs)) (up os 0 false) bk lt T PS ((u5.setCell ⟨sb, 2, none⟩ (.pointer (some ⟨lb, 0, none⟩))).setCell ⟨sb, 4, none⟩ (.pointer (some ⟨rb, 0, none⟩)))) := hid (HM.out.sto (by decide))
     clear p1 p2 hx HM
     go_upto_region 11 with fail
     obtain ⟨u6, hu6⟩ : ∃ z, (u5.setCell ⟨sb, 2, none⟩ (.pointer (some ⟨lb, 0, none⟩))).setCell ⟨sb, 4, none⟩ (.pointer (some ⟨rb, 0, none⟩)) = z := ⟨_, rfl⟩
     rw [hu6] at HN ⊢
     clear hu6 k2 k4 f2 f4
     have HM : Hid (Wx w b0 b1 sb (up x 0 (some lb)) (up y 0 (some rb)) A1 A1.sr (up zs 0 (flen rs)) (up os 0 false) bk lt T PS u6) := hid HN.out
     clear HN
     have c67 := And.intro ((HM.out.cell 6).trans (show _ = some (Value.pointer (some ⟨bk, 0, none⟩)) from rfl)) ((HM.out.cell 7).trans (show _ = some (Value.pointer (some ⟨lt, 0, none⟩)) from rfl))
     go_region_held3 (fun v => v.cell? ⟨sb, 6, none⟩ = some (.pointer (some ⟨bk, 0, none⟩)) ∧ v.cell? ⟨sb, 7, none⟩ = some (.pointer (some ⟨lt, 0, none⟩))) (first | assumption | exact ⟨HM.out.cell 6, HM.out.cell 7⟩ | exact ⟨(HM.out.keep (gdrew1 _ _)).cell 6, (HM.out.keep (gdrew1 _ _)).cell 7⟩ | exact HO.out.cells67) (first
      | (go_at_call 12; (with_reducible refine (HSt.out _ _ _ _ _ (up_le (k := 0) (z := flen rs) HZs.out HZf.out) (by first | exact HM.out | exact HM.out.keep (gdrew1 _ _))).mono ?_); rintro e v6 ⟨rfl, hm⟩; have HO := hid hm; clear hm))
     go_wp2_with fail
     go_ret
     exact ⟨rfl, HO.out⟩
    ·obtain ⟨colx, hx, -⟩ := HM.out
     have p1 : Blk u5 sb (sgc b0 b1 x y bk lt) 72 := hx.g.blk
     have k2 : u5.cell? ⟨sb, 3, none⟩ = some (pv (x 1)) := p1.cell 3
     have f2 := p1.frozen 3
     have p2 := p1.set 3 (.pointer (some ⟨lb, 0, none⟩))
     have k4 : (u5.setCell ⟨sb, 3, none⟩ (.pointer (some ⟨lb, 0, none⟩))).cell? ⟨sb, 5, none⟩ = some (pv (y 1)) := p2.cell 5
     have f4 := p2.frozen 5
     have HN : Hid (Wx w b0 b1 sb (up x 1 (some lb)) (up y 1 (some rb)) A1 A1.sr (up zs 1 (flen rs)) (up os 1 false) bk lt T PS ((u5.setCell ⟨sb, 3, none⟩ (.pointer (some ⟨lb, 0, none⟩))).setCell ⟨sb, 5, none⟩ (.pointer (some ⟨rb, 0, none⟩)))) := hid (HM.out.sto (by decide))
     clear p1 p2 hx HM
     go_upto_region 11 with fail
     obtain ⟨u6, hu6⟩ : ∃ z, (u5.setCell ⟨sb, 3, none⟩ (.pointer (some ⟨lb, 0, none⟩))).setCell ⟨sb, 5, none⟩ (.pointer (some ⟨rb, 0, none⟩)) = z := ⟨_, rfl⟩
     rw [hu6] at HN ⊢
     clear hu6 k2 k4 f2 f4
     have HM : Hid (Wx w b0 b1 sb (up x 1 (some lb)) (up y 1 (some rb)) A1 A1.sr (up zs 1 (flen rs)) (up os 1 false) bk lt T PS u6) := hid HN.out
     clear HN
     have c67 := And.intro ((HM.out.cell 6).trans (show _ = some (Value.pointer (some ⟨bk, 0, none⟩)) from rfl)) ((HM.out.cell 7).trans (show _ = some (Value.pointer (some ⟨lt, 0, none⟩)) from rfl))
     go_region_held3 (fun v => v.cell? ⟨sb, 6, none⟩ = some (.pointer (some ⟨bk, 0, none⟩)) ∧ v.cell? ⟨sb, 7, none⟩ = some (.pointer (some ⟨lt, 0, none⟩))) (first | assumption | exact ⟨HM.out.cell 6, HM.out.cell 7⟩ | exact ⟨(HM.out.keep (gdrew1 _ _)).cell 6, (HM.out.keep (gdrew1 _ _)).cell 7⟩ | exact HO.out.cells67) (first
      | (go_at_call 12; (with_reducible refine (HSt.out _ _ _ _ _ (up_le (k := 1) (z := flen rs) HZs.out HZf.out) (by first | exact HM.out | exact HM.out.keep (gdrew1 _ _))).mono ?_); rintro e v6 ⟨rfl, hm⟩; have HO := hid hm; clear hm))
     go_wp2_with fail
     go_ret
     exact ⟨rfl, HO.out⟩
   ·rcases (show k = 0 ∨ k = 1 by omega) with rfl | rfl
    ·obtain ⟨colx, hx, -⟩ := HM.out
     have p1 : Blk u5 sb (sgc b0 b1 x y bk lt) 72 := hx.g.blk
     have k2 : u5.cell? ⟨sb, 2, none⟩ = some (pv (x 0)) := p1.cell 2
     have f2 := p1.frozen 2
     have p2 := p1.set 2 (.pointer (some ⟨lb, 0, none⟩))
     have k4 : (u5.setCell ⟨sb, 2, none⟩ (.pointer (some ⟨lb, 0, none⟩))).cell? ⟨sb, 4, none⟩ = some (pv (y 0)) := p2.cell 4
     have f4 := p2.frozen 4
     have HN : Hid (Wx w b0 b1 sb (up x 0 (some lb)) (up y 0 (some rb)) A1 A1.sr (up zs 0 (flen rs)) (up os 0 false) bk lt T PS ((u5.setCell ⟨sb, 2, none⟩ (.pointer (some ⟨lb, 0, none⟩))).setCell ⟨sb, 4, none⟩ (.pointer (some ⟨rb, 0, none⟩)))) := hid (HM.out.sto (by decide))
     clear p1 p2 hx HM
     go_upto_region 11 with fail
     obtain ⟨u6, hu6⟩ : ∃ z, (u5.setCell ⟨sb, 2, none⟩ (.pointer (some ⟨lb, 0, none⟩))).setCell ⟨sb, 4, none⟩ (.pointer (some ⟨rb, 0, none⟩)) = z := ⟨_, rfl⟩
     rw [hu6] at HN ⊢
     clear hu6 k2 k4 f2 f4
     have HM : Hid (Wx w b0 b1 sb (up x 0 (some lb)) (up y 0 (some rb)) A1 A1.sr (up zs 0 (flen rs)) (up os 0 false) bk lt T PS u6) := hid HN.out
     clear HN
     have c67 := And.intro ((HM.out.cell 6).trans (show _ = some (Value.pointer (some ⟨bk, 0, none⟩)) from rfl)) ((HM.out.cell 7).trans (show _ = some (Value.pointer (some ⟨lt, 0, none⟩)) from rfl))
     go_region_held3 (fun v => v.cell? ⟨sb, 6, none⟩ = some (.pointer (some ⟨bk, 0, none⟩)) ∧ v.cell? ⟨sb, 7, none⟩ = some (.pointer (some ⟨lt, 0, none⟩))) (first | assumption | exact ⟨HM.out.cell 6, HM.out.cell 7⟩ | exact ⟨(HM.out.keep (gdrew1 _ _)).cell 6, (HM.out.keep (gdrew1 _ _)).cell 7⟩ | exact HO.out.cells67) (first
      | (go_at_call 12; (with_reducible refine (HSt.out _ _ _ _ _ (up_le (k := 0) (z := flen rs) HZs.out HZf.out) (by first | exact HM.out | exact HM.out.keep (gdrew1 _ _))).mono ?_); rintro e v6 ⟨rfl, hm⟩; have HO := hid hm; clear hm))
     go_wp2_with fail
     go_ret
     exact ⟨rfl, HO.out⟩
    ·obtain ⟨colx, hx, -⟩ := HM.out
     have p1 : Blk u5 sb (sgc b0 b1 x y bk lt) 72 := hx.g.blk
     have k2 : u5.cell? ⟨sb, 3, none⟩ = some (pv (x 1)) := p1.cell 3
     have f2 := p1.frozen 3
     have p2 := p1.set 3 (.pointer (some ⟨lb, 0, none⟩))
     have k4 : (u5.setCell ⟨sb, 3, none⟩ (.pointer (some ⟨lb, 0, none⟩))).cell? ⟨sb, 5, none⟩ = some (pv (y 1)) := p2.cell 5
     have f4 := p2.frozen 5
     have HN : Hid (Wx w b0 b1 sb (up x 1 (some lb)) (up y 1 (some rb)) A1 A1.sr (up zs 1 (flen rs)) (up os 1 false) bk lt T PS ((u5.setCell ⟨sb, 3, none⟩ (.pointer (some ⟨lb, 0, none⟩))).setCell ⟨sb, 5, none⟩ (.pointer (some ⟨rb, 0, none⟩)))) := hid (HM.out.sto (by decide))
     clear p1 p2 hx HM
     go_upto_region 11 with fail
     obtain ⟨u6, hu6⟩ : ∃ z, (u5.setCell ⟨sb, 3, none⟩ (.pointer (some ⟨lb, 0, none⟩))).setCell ⟨sb, 5, none⟩ (.pointer (some ⟨rb, 0, none⟩)) = z := ⟨_, rfl⟩
     rw [hu6] at HN ⊢
     clear hu6 k2 k4 f2 f4
     have HM : Hid (Wx w b0 b1 sb (up x 1 (some lb)) (up y 1 (some rb)) A1 A1.sr (up zs 1 (flen rs)) (up os 1 false) bk lt T PS u6) := hid HN.out
     clear HN
     have c67 := And.intro ((HM.out.cell 6).trans (show _ = some (Value.pointer (some ⟨bk, 0, none⟩)) from rfl)) ((HM.out.cell 7).trans (show _ = some (Value.pointer (some ⟨lt, 0, none⟩)) from rfl))
     go_region_held3 (fun v => v.cell? ⟨sb, 6, none⟩ = some (.pointer (some ⟨bk, 0, none⟩)) ∧ v.cell? ⟨sb, 7, none⟩ = some (.pointer (some ⟨lt, 0, none⟩))) (first | assumption | exact ⟨HM.out.cell 6, HM.out.cell 7⟩ | exact ⟨(HM.out.keep (gdrew1 _ _)).cell 6, (HM.out.keep (gdrew1 _ _)).cell 7⟩ | exact HO.out.cells67) (first
      | (go_at_call 12; (with_reducible refine (HSt.out _ _ _ _ _ (up_le (k := 1) (z := flen rs) HZs.out HZf.out) (by first | exact HM.out | exact HM.out.keep (gdrew1 _ _))).mono ?_); rintro e v6 ⟨rfl, hm⟩; have HO := hid hm; clear hm))
     go_wp2_with fail
     go_ret
     exact ⟨rfl, HO.out⟩
end Go.Proofs.YtpbiofnncdneoaaGreatDoor

namespace Go.Proofs.YtpbiofnncdneoaaGreatDoor
open Go Go.RowKit Go.MapKept Go.MuLone
open Go.RowKit (wrap32 wrap64)

variable {w u u' : World} {A A' D : Ab} {b0 b1 sb bk lt T n k : Nat} {x y : Nat → Option Nat} {zs : Nat → Nat} {os : Nat → Bool} {ps : List Bq.Item}
theorem opA_room (A : Ab) (s : ByteArray) (rs : List (List UInt8)) (t : List UInt8) : (opA A s rs t).room = A.room ∧ (opA A s rs t).wr ≤ A.wr + 1 := by
 unfold opA
 split
 ·unfold Ab.cut
  split
  ·exact ⟨rfl, Int.le_refl _⟩
  ·exact ⟨rfl, by omega⟩
 ·exact ⟨rfl, by omega⟩
theorem flat_mem : ∀ {rs : List (List UInt8)} {r : List UInt8}, r ∈ rs → r.length ≤ flen rs
 | r0 :: rs, r, h => by
  have e : flen (r0 :: rs) = r0.length + 13 + flen rs := by unfold flen flat; simp [frameL_length]
  rcases List.mem_cons.1 h with rfl | h
  ·omega
  ·have := flat_mem h; omega
theorem open_any (h : Wx w b0 b1 sb x y A A.sr zs os bk lt T ps u) (hk : k < 2) (hT : Tab w) (hw : A.wr ≤ 4611686018427387904) (hroom : A.room ≤ 4194304) (hps : ps.length < 8) (hTT : T + 208 ≤ 10000000) {Z : Nat} (hz : ∀ j, zs j ≤ Z) (hZ : 4194304 ≤ Z) :
  Calls Tryz.prog 9 #[.pointer (some ⟨sb, 0, none⟩), .int .i64 (k : Nat)] u fun e u' => e = .returned (.bool true) ∧ ∃ A', Opn w b0 b1 sb bk lt T 208 Z A' u' ∧ A'.room = A.room ∧ A'.wr ≤ A.wr + 1 := by
 have hf : (A.fndB (nm k)).length ≤ 4194304 := by
  obtain ⟨col, h⟩ := h
  have := fndB_le A (nm k)
  have := h.d.dk.1.used
  omega
 obtain ⟨rs, t, hp⟩ := prt_ex (A.fndB (nm k)) (by omega)
 have hfl : flen rs ≤ 4194304 := by have := hp.is; rw [this, List.length_append] at hf; unfold flen; omega
 have hlen : ∀ r ∈ rs, r.length ≤ 8388608 := fun r hr => by have := flat_mem hr; omega
 by_cases hE : opE A (nm k) rs t = 0
 ·exact (open_yes h hk hT hp hw hlen hps hTT hE hz (by omega)).mono fun e u' ⟨q1, q2⟩ => ⟨q1, _, q2, opA_room ..⟩
 ·exact (open_no h hk hT hp hw hlen hps (by omega) hE hz).mono fun e u' ⟨q1, q2⟩ => ⟨q1, _, q2.up (by omega), opA_room ..⟩
end Go.Proofs.YtpbiofnncdneoaaGreatDoor

namespace Go.Proofs.YtpbiofnncdneoaaGreatDoor
open Go Go.RowKit Go.MapKept Go.MuLone
open Go.RowKit (wrap32 wrap64)

variable {w u u' : World} {A A' D : Ab} {b lb b0 b1 sb bk lt T n k z : Nat} {off : Bool} {s : ByteArray} {x y : Nat → Option Nat} {zs : Nat → Nat} {os : Nat → Bool} {ps : List Bq.Item}
set_option maxRecDepth 100000 in
theorem lname_any (h : Lg u lb b s z off) (hs : s.size ≤ 64) : Calls Tryz.prog 31 #[.pointer (some ⟨lb, 0, none⟩)] u fun e u' => e = .returned (.string s) ∧ u.grownBy u' none := by
 have k1 : u.cell? ⟨lb, 1, none⟩ = some (.string s) := h.cell 1
 have HCl : Hid (∀ u, Calls Tryz.prog 49 #[.string s] u fun e w' => e = .returned (.string s) ∧ u.grownBy w' none) := hid (fun u => clone_any s u (by omega))
 clear h hs
 go_enter Tryz.func31, Tryz.ntmps31
 go_wp2_with (go_at_call 49; (with_reducible refine (HCl.out _).mono ?_); rintro e v1 ⟨rfl, hg⟩; have HG := hid hg; clear hg)
 go_ret
 exact ⟨rfl, HG.out⟩
/-- What same asks of the stage. -/
theorem Wx.nd (h : Wx w b0 b1 sb x y A D zs os bk lt T ps u) : (srtC A.C).length ≤ 1000000 ∧ ∀ p ∈ srtC A.C, p.2.length ≤ 140737488355328 := by
 obtain ⟨col, h⟩ := h
 have hx := h.d.dk
 have hok := hx.1
 have hnd := hx.nd
 refine ⟨by rw [srtC_len]; have := hok.len; omega, fun p hp => ?_⟩
 have h1 := get_mem (srt_nd hnd) hp
 have h2 := get_used (srtC A.C) p.1
 rw [h1, used_srt hnd] at h2
 have h3 := hok.used
 have h4 := hok.room
 simp only [Option.getD_some] at h2
 omega
theorem Wx.log (h : Wx w b0 b1 sb x y A D zs os bk lt T ps u) (hk : k < 2) : (x k = none ∧ y k = none) ∨ ∃ lb rb, x k = some lb ∧ y k = some rb ∧ Lg u lb b0 (nm k) (zs k) (os k) ∧ Rg u rb b1 (nm k) (zs k) (os k) := by
 obtain ⟨col, h⟩ := h
 have hl := h.l k hk
 cases hx : x k with
 | none =>
  cases hy : y k with
  | none => exact .inl ⟨rfl, rfl⟩
  | some rb => have := hl.both; rw [hx, hy] at this; cases this
 | some lb =>
  cases hy : y k with
  | none => have := hl.both; rw [hx, hy] at this; cases this
  | some rb => exact .inr ⟨lb, rb, rfl, rfl, (hl.p lb hx).1, (hl.r rb hy).1⟩
theorem Wx.rcells (h : Wx w b0 b1 sb x y A D zs os bk lt T ps u) : u.cell? ⟨b1, 4, none⟩ = some (.bool D.off) ∧ u.cell? ⟨b1, 5, none⟩ = some (.int .i64 D.wr) := by
 obtain ⟨col, h⟩ := h
 obtain ⟨sv, E, q, _⟩ := h.r.dk
 exact ⟨q.blk.cell 4, q.blk.cell 5⟩
theorem ArF.mono {w : World} {F G : Nat → Prop} {a : Option Addr} {g off : Nat} {L : Cn} (h : ArF w F a g off L) (hf : ∀ k, F k → G k) : ArF w G a g off L := by
 refine ⟨fun h0 => ⟨(h.at_ h0).1, (h.at_ h0).2.1, hf _ (h.at_ h0).2.2⟩, fun i hi => ?_⟩
 obtain ⟨h1, v, h2, h3⟩ := h.each i hi
 obtain ⟨q1, q2, q3, q4, q5, q6, q7, q8, q9⟩ := h3
 exact ⟨h1, v, h2, q1, q2, q3, q4, q5, q6, q7, fun h0 => ⟨(q8 h0).1, (q8 h0).2.1, hf _ (q8 h0).2.2⟩, q9⟩
theorem Wx.fs (h : Wx w b0 b1 sb x y A D zs os bk lt T ps u) : Calls Tryz.prog 33 #[.pointer (some ⟨b0, 0, none⟩)] u fun e w' => (∃ a g c, e = .returned (.slice a (srtC A.C).length c) ∧ ArF w' (fun _ => True) a g 0 (srtC A.C)) ∧ u.grownBy w' none := by
 obtain ⟨col, h⟩ := h
 exact (files_p h.d.dk).mono fun e w' ⟨⟨a, g, c', q1, q2⟩, q3⟩ => ⟨⟨a, g, c', q1, q2.mono (fun _ _ => trivial)⟩, q3⟩
theorem Wx.rfs (h : Wx w b0 b1 sb x y A A.sr zs os bk lt T ps u) : Calls Tryz.prog 34 #[.pointer (some ⟨b1, 0, none⟩)] u fun e w' => (∃ a g c, e = .returned (.slice a (srtC A.C).length c) ∧ ArF w' (fun _ => True) a g 0 (srtC A.C)) ∧ u.grownBy w' none := by
 obtain ⟨col, h⟩ := h
 exact (sr_files h.r).mono fun e w' ⟨⟨a, g, c', q1, q2⟩, q3⟩ => ⟨⟨a, g, c', q1, q2.mono (fun _ _ => trivial)⟩, q3⟩
theorem Wx.of (h : Wx w b0 b1 sb x y A D zs os bk lt T ps u) : Calls Tryz.prog 36 #[.pointer (some ⟨b0, 0, none⟩)] u fun e w' => e = .returned (.bool A.off) ∧ u.grownBy w' none := by
 obtain ⟨col, h⟩ := h
 exact off_p h.d.dk
theorem Wx.ws (h : Wx w b0 b1 sb x y A D zs os bk lt T ps u) : Calls Tryz.prog 35 #[.pointer (some ⟨b0, 0, none⟩)] u fun e w' => e = .returned (.int .i64 A.wr) ∧ u.grownBy w' none := by
 obtain ⟨col, h⟩ := h
 exact writes_p h.d.dk
end Go.Proofs.YtpbiofnncdneoaaGreatDoor
