/- Open of both sides, whatever the file holds. -/
import Derived.Test.YtpbiofnncdneoaaGreatDoorX24
namespace Go.Proofs.YtpbiofnncdneoaaGreatDoor
open Go Go.RowKit Go.MapKept Go.MuLone
open Go.RowKit (wrap32 wrap64)

/-- A file's bytes as frames and an end. -/
structure Prt (f : List UInt8) (rs : List (List UInt8)) (t : List UInt8) : Prop where
 is : f = flat rs ++ t
 each : ∀ r ∈ rs, r.length ≤ 16777216
 num : rs.length ≤ 1000000
 tail : t ≠ [] → unfrE t ≠ 0
theorem prt_ex (f : List UInt8) (h : f.length ≤ 13000000) : ∃ rs t, Prt f rs t := by
 obtain ⟨rs, t, h1, h2, h3, h4⟩ := frames_ex f.length f (Nat.le_refl _)
 exact ⟨rs, t, h1, h2, by omega, h3⟩
def opG (A : Ab) (s : ByteArray) (t : List UInt8) : Prop := (A.fndE s = 0 ∨ A.fndE s = 92) ∧ t ≠ [] ∧ unfrE t = 30
open Classical in
/-- What Open tells. -/
noncomputable def opE (A : Ab) (s : ByteArray) (rs : List (List UInt8)) (t : List UInt8) : Int := if ¬ (A.fndE s = 0 ∨ A.fndE s = 92) then A.fndE s else if t = [] then 0 else if unfrE t = 30 then A.cutE s (flen rs : Nat) else 101
open Classical in
/-- The disk behind Open. -/
noncomputable def opA (A : Ab) (s : ByteArray) (rs : List (List UInt8)) (t : List UInt8) : Ab := if opG A s t then A.cut s (flen rs : Nat) else A
variable {w u u' : World} {b lb : Nat} {A A' : Ab} {P P' : Nat → Prop} {s : ByteArray} {z : Nat} {rs : List (List UInt8)} {t : List UInt8}
theorem popen (h : Sd w u b A P) (hT : Tab w) (hs : s.size ≤ 64) (hp : Prt (A.fndB s) rs t) (hw : A.wr ≤ 4611686018427387904) :
  Calls Tryz.prog 15 #[.pointer (some ⟨b, 0, none⟩), .string s] u fun e u' => ∃ P' H, Sd w u' b (opA A s rs t) P' ∧ DF u u' P ∧ (∀ k, P' k → P k ∨ H ≤ k) ∧ u.heap.size ≤ H ∧
   ((opE A s rs t ≠ 0 ∧ e = .returned (.tuple #[.pointer none, .slice none 0 0, .int .i64 (opE A s rs t)])) ∨
    (opE A s rs t = 0 ∧ ∃ lb v, e = .returned (.tuple #[.pointer (some ⟨lb, 0, none⟩), v, .int .i64 0]) ∧ OutD u.heap.size H u' v rs ∧ Lg u' lb b s (flen rs) false ∧ H ≤ lb ∧ ¬ P' lb)) := by
 by_cases hr : A.fndE s = 0 ∨ A.fndE s = 92
 ·have hF : Fil A s rs t := ⟨hr, hp.is, hp.each, hp.num, hp.tail⟩
  by_cases ht : t = []
  ·have e1 : opE A s rs t = 0 := by unfold opE; rw [if_neg (fun q => q hr), if_pos ht]
   have e2 : opA A s rs t = A := by unfold opA; rw [if_neg (fun q => q.2.1 ht)]
   rw [e1, e2]
   subst ht
   exact (open_wholeD h.dk (h.tab hT) hs hF).mono fun e u' ⟨lb, v, q1, q2, q3, q4, q5⟩ => ⟨P, lb, h.keep q5, DF.of q5, fun k hk => .inl hk, q4, .inr ⟨rfl, lb, v, q1, q2, q3, Nat.le_refl _, fun hk => by have := h.lt _ hk; omega⟩⟩
  ·by_cases h30 : unfrE t = 30
   ·have e1 : opE A s rs t = A.cutE s (flen rs : Nat) := by unfold opE; rw [if_neg (fun q => q hr), if_neg ht, if_pos h30]
    have e2 : opA A s rs t = A.cut s (flen rs : Nat) := by unfold opA; rw [if_pos ⟨hr, ht, h30⟩]
    rw [e1, e2]
    exact (open_tornD h.dk h.lt (h.tab hT) hs hF ht h30 hw).mono fun e u' ⟨q1, P', q2, q3, H, q4, q5, q6⟩ => ⟨P', H, h.step q2 q3 (fun k hk => (q4 k hk).imp id (fun x => Nat.le_trans q5 x)) q1 h.ge, q1, q4, q5, q6⟩
   ·have e1 : opE A s rs t = 101 := by unfold opE; rw [if_neg (fun q => q hr), if_neg ht, if_neg h30]
    have e2 : opA A s rs t = A := by unfold opA; rw [if_neg (fun q => h30 q.2.2)]
    rw [e1, e2]
    exact (open_hurt h.dk (h.tab hT) hF ht h30).mono fun e u' ⟨q1, q2⟩ => ⟨P, u.heap.size, h.keep q2, DF.of q2, fun k hk => .inl hk, Nat.le_refl _, .inl ⟨by decide, q1⟩⟩
 ·have e1 : opE A s rs t = A.fndE s := by unfold opE; rw [if_pos hr]
  have e2 : opA A s rs t = A := by unfold opA; rw [if_neg (fun q => hr q.1)]
  rw [e1, e2]
  exact (open_ref h.dk (fun q => hr (.inl q)) (fun q => hr (.inr q))).mono fun e u' ⟨q1, q2⟩ => ⟨P, u.heap.size, h.keep q2, DF.of q2, fun k hk => .inl hk, Nat.le_refl _, .inl ⟨fun q => hr (.inl q), q1⟩⟩

/-- The reference's log. -/
def Rg (w : World) (lb b : Nat) (s : ByteArray) (z : Nat) (off : Bool) : Prop := Blk w lb (lgc b s z off) 107
theorem Tryz.built107 (b : Nat) (s : ByteArray) (z : Nat) : Tryz.prog.built 107 [(0, .pointer (some ⟨b, 0, none⟩)), (1, .string s), (2, .int .i64 (z : Int))] = some (lgc b s z false).toArray := by kernel_rfl
set_option maxRecDepth 100000 in
set_option maxHeartbeats 4000000 in
theorem ropen_no (h : Sr w u b A P) (hs : s.size ≤ 64) (h0 : A.fndE s ≠ 0) (h9 : A.fndE s ≠ 92) :
  Calls Tryz.prog 21 #[.pointer (some ⟨b, 0, none⟩), .string s] u fun e u' => e = .returned (.tuple #[.pointer none, .slice none 0 0, .int .i64 (A.fndE s)]) ∧ u.grownBy u' none := by
 have HRd := hid (sr_read h s (by omega))
 obtain ⟨E, HE⟩ : ∃ x, Hid (A.fndE s = x) := ⟨_, hid rfl⟩
 rw [HE.out] at HRd h0 h9 ⊢
 have e1 : (E != 0) = true := bne_iff_ne.2 h0
 have e2 : (E != 92) = true := bne_iff_ne.2 h9
 clear h HE h0 h9
 go_enter Tryz.func21, Tryz.ntmps21
 go_wp2_with (go_at_call 54; (with_reducible refine HRd.out.mono ?_); rintro e w2 ⟨fa, fc, rfl, hO, hg⟩; have HG2 := hid hg; clear hO hg)
 go_ret3
 exact ⟨rfl, HG2.out⟩
set_option maxRecDepth 100000 in
set_option maxHeartbeats 4000000 in
theorem ropen_hurt (h : Sr w u b A P) (hs : s.size ≤ 64) (hok : (A.fndB s).length ≤ 268435456) (hr : A.fndE s = 0 ∨ A.fndE s = 92) (hp : Prt (A.fndB s) rs t) (htn : t ≠ []) (ht3 : unfrE t ≠ 30) :
  Calls Tryz.prog 21 #[.pointer (some ⟨b, 0, none⟩), .string s] u fun e u' => e = .returned (.tuple #[.pointer none, .slice none 0 0, .int .i64 101]) ∧ u.grownBy u' none := by
 have HRd := hid (sr_read h s (by omega))
 obtain ⟨E, HE⟩ : ∃ x, Hid (A.fndE s = x) := ⟨_, hid rfl⟩
 rw [HE.out] at HRd hr
 obtain ⟨f, HFf⟩ : ∃ x, Hid (A.fndB s = x) := ⟨_, hid rfl⟩
 rw [HFf.out] at HRd hp hok
 obtain ⟨n, HLn⟩ : ∃ x, Hid (f.length = x) := ⟨_, hid rfl⟩
 rw [HLn.out] at HRd
 have HTk : Hid (∀ u v (F : Nat → Prop), Rd u F v f → Calls Tryz.prog 55 #[v] u fun e w' => e = .returned (.tuple #[.slice none 0 0, .int .i64 0, .int .i64 101]) ∧ u.grownBy w' none) := hid (fun u v F hr => by
  refine (recR_any u F v f rs t hr hp.is hp.each hok hp.num hp.tail).mono fun e w' ⟨q1, _, q2⟩ => ⟨q2 (fun h => h.elim htn ht3), q1⟩)
 clear h HE HFf hp htn ht3 hok
 go_enter Tryz.func21, Tryz.ntmps21
 rcases hr with rfl | rfl
 ·go_wp2_with (first
   | (go_at_call 55; (with_reducible refine (HTk.out _ _ _ HR2.out).mono ?_); rintro e w3 ⟨rfl, hg⟩; have HG3 := hid (gtrans HG2.out hg); clear hg)
   | (go_at_call 54; (with_reducible refine HRd.out.mono ?_); rintro e w2 ⟨fa, fc, rfl, hO, hg⟩; have HG2 := hid hg; have HR2 := hid hO.rd; clear hO hg))
  go_ret3
  exact ⟨rfl, HG3.out⟩
 ·go_wp2_with (first
   | (go_at_call 55; (with_reducible refine (HTk.out _ _ _ HR2.out).mono ?_); rintro e w3 ⟨rfl, hg⟩; have HG3 := hid (gtrans HG2.out hg); clear hg)
   | (go_at_call 54; (with_reducible refine HRd.out.mono ?_); rintro e w2 ⟨fa, fc, rfl, hO, hg⟩; have HG2 := hid hg; have HR2 := hid hO.rd; clear hO hg))
  go_ret3
  exact ⟨rfl, HG3.out⟩
set_option maxRecDepth 100000 in
set_option maxHeartbeats 4000000 in
theorem ropen_whole (h : Sr w u b A P) (hs : s.size ≤ 64) (hok : (A.fndB s).length ≤ 268435456) (hr : A.fndE s = 0 ∨ A.fndE s = 92) (hp : Prt (A.fndB s) rs []) :
  Calls Tryz.prog 21 #[.pointer (some ⟨b, 0, none⟩), .string s] u fun e u' => ∃ lb v, e = .returned (.tuple #[.pointer (some ⟨lb, 0, none⟩), v, .int .i64 0]) ∧ OutE u.heap.size u' v rs ∧ Rg u' lb b s (flen rs) false ∧ u.heap.size ≤ lb ∧ u.grownBy u' none := by
 have HRd := hid (sr_read h s (by omega))
 obtain ⟨E, HE⟩ : ∃ x, Hid (A.fndE s = x) := ⟨_, hid rfl⟩
 rw [HE.out] at HRd hr
 obtain ⟨f, HFf⟩ : ∃ x, Hid (A.fndB s = x) := ⟨_, hid rfl⟩
 rw [HFf.out] at HRd hp hok
 have HLn : Hid (f.length = flen rs) := hid (by rw [hp.is, List.append_nil]; rfl)
 have HTk : Hid (∀ u v (F : Nat → Prop), Rd u F v f → Calls Tryz.prog 55 #[v] u fun e w' => u.grownBy w' none ∧ ∃ v', e = .returned (.tuple #[v', .int .i64 (flen rs : Nat), .int .i64 0]) ∧ OutE u.heap.size w' v' rs) := hid (fun u v F hr => by
  refine (recR_D u F v f rs [] hr hp.is hp.each hok hp.num hp.tail).mono fun e w' ⟨q1, q2, _⟩ => ⟨q1, by obtain ⟨v', r1, r2⟩ := q2 (.inl rfl); exact ⟨v', r1, r2.e⟩⟩)
 obtain ⟨z, HZ⟩ : ∃ x, Hid (flen rs = x) := ⟨_, hid rfl⟩
 rw [HZ.out] at HTk HLn ⊢
 rw [HLn.out] at HRd
 clear h HE HFf hp hok
 go_enter Tryz.func21, Tryz.ntmps21
 rcases hr with rfl | rfl
 ·go_wp2_with (first
   | ((with_reducible refine wpList_box_row (by with_unfolding_all rfl) 107 _ (by with_unfolding_all rfl) (lgc b s z false) (by with_unfolding_all rfl) ?_); intro w6 B6 s6 g6; have HB6 := hid B6; have HG6 := hid g6; clear B6 s6 g6)
   | ((with_reducible refine wpList_build_of (by with_unfolding_all rfl) 107 _ (by with_unfolding_all rfl) [(0, .pointer (some ⟨b, 0, none⟩)), (1, .string s), (2, .int .i64 (z : Int))] (by with_unfolding_all rfl) (lgc b s z false) (Tryz.built107 b s z) ?_))
   | (go_at_call 55; (with_reducible refine (HTk.out _ _ _ HR2.out).mono ?_); rintro e w3 ⟨hg, v3, rfl, hO⟩; have HG3 := hid (gtrans HG2.out hg); have HO3 := hid hO; have HG2' := hid HG2.out.size; clear hO hg)
   | (go_at_call 54; (with_reducible refine HRd.out.mono ?_); rintro e w2 ⟨fa, fc, rfl, hO, hg⟩; have HG2 := hid hg; have HR2 := hid hO.rd; clear hO hg))
  go_ret3
  exact ⟨_, _, rfl, (HO3.out.base HG2'.out).keep HG6.out, HB6.out, HG3.out.size, gtrans HG3.out HG6.out⟩
 ·go_wp2_with (first
   | ((with_reducible refine wpList_box_row (by with_unfolding_all rfl) 107 _ (by with_unfolding_all rfl) (lgc b s z false) (by with_unfolding_all rfl) ?_); intro w6 B6 s6 g6; have HB6 := hid B6; have HG6 := hid g6; clear B6 s6 g6)
   | ((with_reducible refine wpList_build_of (by with_unfolding_all rfl) 107 _ (by with_unfolding_all rfl) [(0, .pointer (some ⟨b, 0, none⟩)), (1, .string s), (2, .int .i64 (z : Int))] (by with_unfolding_all rfl) (lgc b s z false) (Tryz.built107 b s z) ?_))
   | (go_at_call 55; (with_reducible refine (HTk.out _ _ _ HR2.out).mono ?_); rintro e w3 ⟨hg, v3, rfl, hO⟩; have HG3 := hid (gtrans HG2.out hg); have HO3 := hid hO; have HG2' := hid HG2.out.size; clear hO hg)
   | (go_at_call 54; (with_reducible refine HRd.out.mono ?_); rintro e w2 ⟨fa, fc, rfl, hO, hg⟩; have HG2 := hid hg; have HR2 := hid hO.rd; clear hO hg))
  go_ret3
  exact ⟨_, _, rfl, (HO3.out.base HG2'.out).keep HG6.out, HB6.out, HG3.out.size, gtrans HG3.out HG6.out⟩
set_option maxRecDepth 100000 in
set_option maxHeartbeats 4000000 in
theorem ropen_torn (h : Sr w u b A P) (hs : s.size ≤ 64) (hok : (A.fndB s).length ≤ 268435456) (hr : A.fndE s = 0 ∨ A.fndE s = 92) (hp : Prt (A.fndB s) rs t) (htn : t ≠ []) (ht3 : unfrE t = 30) (hw : A.wr ≤ 4611686018427387904) :
  Calls Tryz.prog 21 #[.pointer (some ⟨b, 0, none⟩), .string s] u fun e u' => ∃ P', Sr w u' b (A.cut s (flen rs : Nat)).sr P' ∧ DF u u' P ∧ (∀ k, P' k → P k ∨ u.heap.size ≤ k) ∧
   ((A.cutE s (flen rs : Nat) ≠ 0 ∧ e = .returned (.tuple #[.pointer none, .slice none 0 0, .int .i64 (A.cutE s (flen rs : Nat))])) ∨ (A.cutE s (flen rs : Nat) = 0 ∧ ∃ lb v, e = .returned (.tuple #[.pointer (some ⟨lb, 0, none⟩), v, .int .i64 0]) ∧ OutE u.heap.size u' v rs ∧ Rg u' lb b s (flen rs) false ∧ u.heap.size ≤ lb ∧ ¬ P' lb)) := by
 have HRd := hid (sr_read h s (by omega))
 have HE0 : Hid (A.fndE s = 0) := hid (fil_cut (⟨hr, hp.is, hp.each, hp.num, hp.tail⟩ : Fil A s rs t) htn).1
 have hkn := (fil_cut (⟨hr, hp.is, hp.each, hp.num, hp.tail⟩ : Fil A s rs t) htn).2.1
 rw [HE0.out] at HRd
 have HCt : Hid (∀ u2, u.grownBy u2 none → Calls Tryz.prog 56 #[.pointer (some ⟨b, 0, none⟩), .string s, .int .i64 (flen rs : Nat)] u2 fun e w' => e = .returned (.int .i64 (A.cutE s (flen rs : Nat))) ∧ Sr w w' b (A.cut s (flen rs : Nat)).sr (newP P u2 w') ∧ DF u2 w' P) := hid (fun u2 hu => sr_cut (h.keep hu) s _ (by omega) hw)
 have HPw := hid h.lt
 obtain ⟨f, HFf⟩ : ∃ x, Hid (A.fndB s = x) := ⟨_, hid rfl⟩
 rw [HFf.out] at HRd hp hok hkn
 obtain ⟨n, HLn⟩ : ∃ x, Hid (f.length = x) := ⟨_, hid rfl⟩
 rw [HLn.out] at HRd hkn
 have HTk : Hid (∀ u v (F : Nat → Prop), Rd u F v f → Calls Tryz.prog 55 #[v] u fun e w' => u.grownBy w' none ∧ ∃ v', e = .returned (.tuple #[v', .int .i64 (flen rs : Nat), .int .i64 0]) ∧ OutE u.heap.size w' v' rs) := hid (fun u v F hr => by
  refine (recR_D u F v f rs t hr hp.is hp.each hok hp.num hp.tail).mono fun e w' ⟨q1, q2, _⟩ => ⟨q1, by obtain ⟨v', r1, r2⟩ := q2 (.inr ht3); exact ⟨v', r1, r2.e⟩⟩)
 obtain ⟨z, HZ⟩ : ∃ x, Hid (flen rs = x) := ⟨_, hid rfl⟩
 rw [HZ.out] at HTk HCt hkn ⊢
 have hkn' : (z : Int) < (n : Int) := by omega
 obtain ⟨X, HX⟩ : ∃ x, Hid (A.cutE s (z : Nat) = x) := ⟨_, hid rfl⟩
 rw [HX.out] at HCt ⊢
 obtain ⟨A', HA'⟩ : ∃ x, Hid ((A.cut s (z : Nat)).sr = x) := ⟨_, hid rfl⟩
 rw [HA'.out] at HCt ⊢
 clear h hr hp hok hs htn ht3 hw HX HA' HFf hkn HE0
 go_enter Tryz.func21, Tryz.ntmps21
 go_upto_region 9 with (first
  | (go_at_call 56; (with_reducible refine (HCt.out _ HG3.out).mono ?_); rintro e w4 ⟨rfl, hd, hf⟩; have HD4 := hid hd; have HF4 := hid hf; clear hd hf)
  | (go_at_call 55; (with_reducible refine (HTk.out _ _ _ HR2.out).mono ?_); rintro e w3 ⟨hg, v3, rfl, hO⟩; have HG3 := hid (gtrans HG2.out hg); have HO3 := hid hO; have HG2' := hid HG2.out.size; clear hO hg)
  | (go_at_call 54; (with_reducible refine HRd.out.mono ?_); rintro e w2 ⟨fa, fc, rfl, hO, hg⟩; have HG2 := hid hg; have HR2 := hid hO.rd; clear hO hg))
 have HDF : Hid (DF u w4 P) := hid ((DF.of HG3.out).trans HF4.out (fun _ _ q => q))
 have HPf : Hid (∀ k, newP P w3 w4 k → k < w4.heap.size) := hid (fun k hk => by
  rcases hk with hk | hk
  ·have := HPw.out k hk; have := HDF.out.size; omega
  ·exact hk.2)
 have HPg : Hid (∀ k, newP P w3 w4 k → P k ∨ u.heap.size ≤ k) := hid (fun k hk => by
  rcases hk with hk | hk
  ·exact .inl hk
  ·right; have := HG3.out.size; omega)
 by_cases hX : X = 0
 ·subst hX
  go_wp2_with (first
   | ((with_reducible refine wpList_box_row (by with_unfolding_all rfl) 107 _ (by with_unfolding_all rfl) (lgc b s z false) (by with_unfolding_all rfl) ?_); intro w6 B6 s6 g6; have HB6 := hid B6; have HG6 := hid g6; clear B6 s6 g6)
   | ((with_reducible refine wpList_build_of (by with_unfolding_all rfl) 107 _ (by with_unfolding_all rfl) [(0, .pointer (some ⟨b, 0, none⟩)), (1, .string s), (2, .int .i64 (z : Int))] (by with_unfolding_all rfl) (lgc b s z false) (Tryz.built107 b s z) ?_)))
  go_ret3
  refine ⟨_, HD4.out.keep HG6.out, HDF.out.trans (DF.of HG6.out) (fun _ _ q => q), HPg.out, ⟨_, _, rfl, ?_, HB6.out, HDF.out.size, ?_⟩⟩
  ·exact ((HO3.out.df HF4.out (fun k hk hp => by have := HPw.out k hp; have := HG2'.out; omega)).base HG2'.out).keep HG6.out
  ·intro hk; have := HPf.out _ hk; omega
 ·go_wp2_with fail
  go_ret3
  exact ⟨_, HD4.out, HDF.out, HPg.out, .inl ⟨hX, rfl⟩⟩
end Go.Proofs.YtpbiofnncdneoaaGreatDoor

namespace Go.Proofs.YtpbiofnncdneoaaGreatDoor
open Go Go.RowKit Go.MapKept Go.MuLone
open Go.RowKit (wrap32 wrap64)

variable {w0 w : World} {b lb : Nat} {A : Ab} {P : Nat → Prop} {s : ByteArray} {z : Nat} {off : Bool}
theorem ld30r (b i : Nat) (p : Addr) (u : World) (h : u.cell? ⟨b, i, none⟩ = some (.pointer (some p))) : (Instr.loadAt 30 (.pointer (some ⟨b, i, none⟩))).run Tryz.prog u = .ok (.pointer (some p)) u := by go_simp
set_option maxHeartbeats 400000 in
theorem rlapp_off (h : Rg w lb b s z true) (v : Value) : Calls Tryz.prog 27 #[.pointer (some ⟨lb, 0, none⟩), v] w fun e w' => e = .returned (.int .i64 102) ∧ w' = w := by
 have k3 : w.cell? ⟨lb, 3, none⟩ = some (.bool true) := h.cell 3
 clear h
 go_enter Tryz.func27, Tryz.ntmps27
 go_wp2_with fail
 go_ret
 exact ⟨rfl, rfl⟩
set_option maxRecDepth 100000 in
set_option maxHeartbeats 4000000 in
theorem rlapp_any (h : Rg w lb b s z false) (hd : Sr w0 w b A P) (hlb : ¬ P lb) (hge : w0.heap.size ≤ lb) (hs : s.size ≤ 64) (hw : A.wr ≤ 4611686018427387904) (hz : z ≤ 1099511627776) (F : Nat → Prop) (v : Value) (l : List UInt8) (hr : Rd w F v l) (hl : l.length ≤ 16777216) :
  Calls Tryz.prog 27 #[.pointer (some ⟨lb, 0, none⟩), v] w fun e w' => e = .returned (.int .i64 (A.appE s (frameL l))) ∧ Rg w' lb b s (lgZ A s z l) (decide (A.appE s (frameL l) ≠ 0)) ∧ ∃ P', Sr w0 w' b (A.app s (frameL l)).sr P' ∧ (∀ k, P' k → P k ∨ w.heap.size ≤ k) ∧ DF w w' (fun k => P k ∨ k = lb) := by
 have k3 : w.cell? ⟨lb, 3, none⟩ = some (.bool false) := h.cell 3
 have HLg := hid h
 have HDk := hid hd
 have HP := hid hd.lt
 have HGe := hid hge
 have HSs := hid hs
 have HLb := hid hlb
 have HLt : Hid (lb < w.heap.size) := hid h.lt
 have HFr := hid (frameR_ok l F v w hl hr)
 have HL : Hid (l.length + 13 ≤ 16777229) := hid (by omega)
 have HWr := hid hw
 have hz1 := hz
 obtain ⟨va, vn, vc, hv⟩ : ∃ a n c, v = .slice a n c := by obtain ⟨a, _, _, c, e, _⟩ := hr; exact ⟨a, _, c, e⟩
 subst hv
 obtain ⟨E, HE⟩ : ∃ x, Hid (A.appE s (frameL l) = x) := ⟨_, hid rfl⟩
 rw [HE.out]
 clear h hd hlb hl hr hw hz hge hs
 go_enter Tryz.func27, Tryz.ntmps27
 go_upto_region 6 with (go_at_call 58; (with_reducible refine HFr.out.mono ?_); rintro e w2 ⟨v2, rfl, hO, hg⟩; have HO2 := hid hO; have HG2 := hid hg; obtain ⟨fa, fc, hv2⟩ := hO.len; clear hO hg)
 obtain ⟨fn, hfn⟩ : ∃ x, (frameL l).length = x := ⟨_, rfl⟩
 rw [hfn] at hv2 ⊢
 subst hv2
 have HFn : Hid (fn = l.length + 13) := hid (by rw [← hfn, frameL_length])
 clear hfn HFr
 have HLg2 : Hid (∀ u, w2.grownBy u none → Rg u lb b s z false) := hid (fun u hu => Blk.keep (Blk.keep HLg.out HG2.out) hu)
 have HC0 : Hid (∀ u, w2.grownBy u none → u.cell? ⟨lb, 0, none⟩ = some (.pointer (some ⟨b, 0, none⟩))) := hid (fun u hu => (HLg2.out u hu).cell 0)
 have HC1 : Hid (∀ u, w2.grownBy u none → u.cell? ⟨lb, 1, none⟩ = some (.string s)) := hid (fun u hu => (HLg2.out u hu).cell 1)
 have HAp : Hid (∀ u, w2.grownBy u none → Calls Tryz.prog 59 #[.pointer (some ⟨b, 0, none⟩), .string s, .slice fa fn fc] u fun e w' => e = .returned (.int .i64 (A.appE s (frameL l))) ∧ Sr w0 w' b (A.app s (frameL l)).sr (newP P u w') ∧ DF u w' P) := hid (fun u hu => by
  have ho := HO2.out.keep hu
  refine sr_app ((HDk.out.keep HG2.out).keep hu) s _ fa fn fc (frameL l) ho.rd (fun k hk hp => ?_) (by rw [frameL_length]; have := HL.out; omega) (by have := HSs.out; omega) HWr.out
  have h1 := HP.out k hp
  have h2 := hk
  omega)
 rw [HE.out] at HAp
 have HZ1 : Hid (E = 0 → lgZ A s z l = z + fn) := hid (fun e => by unfold lgZ; rw [HE.out, if_pos e, HFn.out])
 have HZ2 : Hid (E ≠ 0 → lgZ A s z l = z) := hid (fun e => by unfold lgZ; rw [HE.out, if_neg e])
 clear HE
 refine wp_region_listX (by kernel_rfl) [fun v _ => v = (Value.pointer (some ⟨lb, 0, none⟩)), fun v _ => v = (Value.pointer (some ⟨lb, 0, none⟩)), fun v _ => v = (Value.pointer (some ⟨lb, 0, none⟩)), fun v _ => v = (Value.pointer (some ⟨b, 0, none⟩)), fun v _ => v = (Value.pointer (some ⟨lb, 0, none⟩)), fun v _ => v = (Value.pointer (some ⟨lb, 0, none⟩)), fun v _ => v = (Value.pointer (some ⟨lb, 1, none⟩)), fun v _ => v = (Value.string s), fun v _ => v = (Value.slice fa fn fc)] (none) (fun _ => none) 9 (by kernel_rfl) (by kernel_rfl) (by kernel_rfl) (by kernel_rfl) (by decide) noRow_one (fun _ => .inl rfl) ⟨fun i v u u' hki h hg => h, fun i v u u' hki h hg => h, fun i v u u' hki h hg => h, fun i v u u' hki h hg => h, fun i v u u' hki h hg => h, fun i v u u' hki h hg => h, fun i v u u' hki h hg => h, fun i v u u' hki h hg => h, fun i v u u' hki h hg => h, trivial⟩ ⟨?_, ?_, ?_, ?_, ?_, ?_, ?_, ?_, ?_, trivial⟩ ?_
 ·intro A u hu hpu hsz hout hdeps
  have e0 : A.eval (.tmp 0) = (.pointer (some ⟨lb, 0, none⟩)) := (hout 0 (by kernel_rfl)).trans rfl
  refine ifw_none rfl ?_
  with_reducible refine shown_q (Value.pointer (some ⟨lb, 0, none⟩)) ?qq_1_0 (fun _ _ => ?qr_1_0)
  case qr_1_0 => exact (rfl : (Value.pointer (some ⟨lb, 0, none⟩)) = (Value.pointer (some ⟨lb, 0, none⟩)))
  with_reducible refine quietAt_mv (.tmp 0) (Value.pointer (some ⟨lb, 0, none⟩)) ?h0_1_0 ?h1_1_0
  case h0_1_0 => rfl
  case h1_1_0 => exact e0
 ·intro A u hu hpu hsz hout hdeps
  have e18 : A.eval (.tmp 18) = (.pointer (some ⟨lb, 0, none⟩)) := by have h := depL hdeps 0 (by kernel_rfl) 18 (by kernel_rfl); exact h
  refine ifw_none rfl ?_
  with_reducible refine shown_q (Value.pointer (some ⟨lb, 0, none⟩)) ?qq_1_1 (fun _ _ => ?qr_1_1)
  case qr_1_1 => exact (rfl : (Value.pointer (some ⟨lb, 0, none⟩)) = (Value.pointer (some ⟨lb, 0, none⟩)))
  with_reducible refine quietAt_nil (.tmp 18) ?h0_1_1 ⟨lb, 0, none⟩ ?h1_1_1
  case h0_1_1 => rfl
  case h1_1_1 => exact e18
 ·intro A u hu hpu hsz hout hdeps
  have e19 : A.eval (.tmp 19) = (.pointer (some ⟨lb, 0, none⟩)) := by have h := depL hdeps 1 (by kernel_rfl) 19 (by kernel_rfl); exact h
  refine ifw_none rfl ?_
  with_reducible refine shown_q (Value.pointer (some ⟨lb, 0, none⟩)) ?qq_1_2 (fun _ _ => ?qr_1_2)
  case qr_1_2 => exact (rfl : (Value.pointer (some ⟨lb, 0, none⟩)) = (Value.pointer (some ⟨lb, 0, none⟩)))
  with_reducible refine quietAt_field 107 (.tmp 19) 0 ?h0_1_2 ⟨lb, 0, none⟩ ⟨lb, 0, none⟩ ?h1_1_2 ?h2_1_2
  case h0_1_2 => rfl
  case h1_1_2 => exact e19
  case h2_1_2 => kernel_rfl
 ·intro A u hu hpu hsz hout hdeps
  have e20 : A.eval (.tmp 20) = (.pointer (some ⟨lb, 0, none⟩)) := by have h := depL hdeps 2 (by kernel_rfl) 20 (by kernel_rfl); exact h
  refine ifw_none rfl ?_
  with_reducible refine shown_q (Value.pointer (some ⟨b, 0, none⟩)) ?qq_1_3 (fun _ _ => ?qr_1_3)
  case qr_1_3 => exact (rfl : (Value.pointer (some ⟨b, 0, none⟩)) = (Value.pointer (some ⟨b, 0, none⟩)))
  with_reducible refine quietAt_ld 30 (.tmp 20) (Value.pointer (some ⟨lb, 0, none⟩)) (Value.pointer (some ⟨b, 0, none⟩)) ?h0_1_3 ?h1_1_3 ?h2_1_3
  case h0_1_3 => rfl
  case h1_1_3 => exact e20
  case h2_1_3 => exact ld30r lb 0 ⟨b, 0, none⟩ u (HC0.out u hu)
 ·intro A u hu hpu hsz hout hdeps
  have e0 : A.eval (.tmp 0) = (.pointer (some ⟨lb, 0, none⟩)) := (hout 0 (by kernel_rfl)).trans rfl
  refine ifw_none rfl ?_
  with_reducible refine shown_q (Value.pointer (some ⟨lb, 0, none⟩)) ?qq_1_4 (fun _ _ => ?qr_1_4)
  case qr_1_4 => exact (rfl : (Value.pointer (some ⟨lb, 0, none⟩)) = (Value.pointer (some ⟨lb, 0, none⟩)))
  with_reducible refine quietAt_mv (.tmp 0) (Value.pointer (some ⟨lb, 0, none⟩)) ?h0_1_4 ?h1_1_4
  case h0_1_4 => rfl
  case h1_1_4 => exact e0
 ·intro A u hu hpu hsz hout hdeps
  have e22 : A.eval (.tmp 22) = (.pointer (some ⟨lb, 0, none⟩)) := by have h := depL hdeps 4 (by kernel_rfl) 22 (by kernel_rfl); exact h
  refine ifw_none rfl ?_
  with_reducible refine shown_q (Value.pointer (some ⟨lb, 0, none⟩)) ?qq_1_5 (fun _ _ => ?qr_1_5)
  case qr_1_5 => exact (rfl : (Value.pointer (some ⟨lb, 0, none⟩)) = (Value.pointer (some ⟨lb, 0, none⟩)))
  with_reducible refine quietAt_nil (.tmp 22) ?h0_1_5 ⟨lb, 0, none⟩ ?h1_1_5
  case h0_1_5 => rfl
  case h1_1_5 => exact e22
 ·intro A u hu hpu hsz hout hdeps
  have e23 : A.eval (.tmp 23) = (.pointer (some ⟨lb, 0, none⟩)) := by have h := depL hdeps 5 (by kernel_rfl) 23 (by kernel_rfl); exact h
  refine ifw_none rfl ?_
  with_reducible refine shown_q (Value.pointer (some ⟨lb, 1, none⟩)) ?qq_1_6 (fun _ _ => ?qr_1_6)
  case qr_1_6 => exact (rfl : (Value.pointer (some ⟨lb, 1, none⟩)) = (Value.pointer (some ⟨lb, 1, none⟩)))
  with_reducible refine quietAt_field 107 (.tmp 23) 1 ?h0_1_6 ⟨lb, 0, none⟩ ⟨lb, 1, none⟩ ?h1_1_6 ?h2_1_6
  case h0_1_6 => rfl
  case h1_1_6 => exact e23
  case h2_1_6 => kernel_rfl
 ·intro A u hu hpu hsz hout hdeps
  have e24 : A.eval (.tmp 24) = (.pointer (some ⟨lb, 1, none⟩)) := by have h := depL hdeps 6 (by kernel_rfl) 24 (by kernel_rfl); exact h
  refine ifw_none rfl ?_
  with_reducible refine shown_q (Value.string s) ?qq_1_7 (fun _ _ => ?qr_1_7)
  case qr_1_7 => exact (rfl : (Value.string s) = (Value.string s))
  with_reducible refine quietAt_ld 9 (.tmp 24) (Value.pointer (some ⟨lb, 1, none⟩)) (Value.string s) ?h0_1_7 ?h1_1_7 ?h2_1_7
  case h0_1_7 => rfl
  case h1_1_7 => exact e24
  case h2_1_7 => exact ld9 lb 1 s u (HC1.out u hu)
 ·intro A u hu hpu hsz hout hdeps
  have e5 : A.eval (.tmp 5) = (.slice fa fn fc) := (hout 5 (by kernel_rfl)).trans rfl
  refine ifw_none rfl ?_
  with_reducible refine shown_q (Value.slice fa fn fc) ?qq_1_8 (fun _ _ => ?qr_1_8)
  case qr_1_8 => exact (rfl : (Value.slice fa fn fc) = (Value.slice fa fn fc))
  with_reducible refine quietAt_mv (.tmp 5) (Value.slice fa fn fc) ?h0_1_8 ?h1_1_8
  case h0_1_8 => rfl
  case h1_1_8 => exact e5
 ·intro A u8 listed hh hall
  have hA := hh.frame
  have HU := hid hh.grown
  obtain ⟨x18, hx18⟩ : ∃ x, A.eval (.tmp 18) = x := ⟨_, rfl⟩
  have f18 : (fun v _ => v = (Value.pointer (some ⟨lb, 0, none⟩))) x18 u8 := by rw [← hx18]; exact hh.got 0 _ 18 rfl rfl (hall 0 (by decide))
  obtain ⟨x19, hx19⟩ : ∃ x, A.eval (.tmp 19) = x := ⟨_, rfl⟩
  have f19 : (fun v _ => v = (Value.pointer (some ⟨lb, 0, none⟩))) x19 u8 := by rw [← hx19]; exact hh.got 1 _ 19 rfl rfl (hall 1 (by decide))
  obtain ⟨x20, hx20⟩ : ∃ x, A.eval (.tmp 20) = x := ⟨_, rfl⟩
  have f20 : (fun v _ => v = (Value.pointer (some ⟨lb, 0, none⟩))) x20 u8 := by rw [← hx20]; exact hh.got 2 _ 20 rfl rfl (hall 2 (by decide))
  obtain ⟨x21, hx21⟩ : ∃ x, A.eval (.tmp 21) = x := ⟨_, rfl⟩
  have f21 : (fun v _ => v = (Value.pointer (some ⟨b, 0, none⟩))) x21 u8 := by rw [← hx21]; exact hh.got 3 _ 21 rfl rfl (hall 3 (by decide))
  obtain ⟨x22, hx22⟩ : ∃ x, A.eval (.tmp 22) = x := ⟨_, rfl⟩
  have f22 : (fun v _ => v = (Value.pointer (some ⟨lb, 0, none⟩))) x22 u8 := by rw [← hx22]; exact hh.got 4 _ 22 rfl rfl (hall 4 (by decide))
  obtain ⟨x23, hx23⟩ : ∃ x, A.eval (.tmp 23) = x := ⟨_, rfl⟩
  have f23 : (fun v _ => v = (Value.pointer (some ⟨lb, 0, none⟩))) x23 u8 := by rw [← hx23]; exact hh.got 5 _ 23 rfl rfl (hall 5 (by decide))
  obtain ⟨x24, hx24⟩ : ∃ x, A.eval (.tmp 24) = x := ⟨_, rfl⟩
  have f24 : (fun v _ => v = (Value.pointer (some ⟨lb, 1, none⟩))) x24 u8 := by rw [← hx24]; exact hh.got 6 _ 24 rfl rfl (hall 6 (by decide))
  obtain ⟨x25, hx25⟩ : ∃ x, A.eval (.tmp 25) = x := ⟨_, rfl⟩
  have f25 : (fun v _ => v = (Value.string s)) x25 u8 := by rw [← hx25]; exact hh.got 7 _ 25 rfl rfl (hall 7 (by decide))
  obtain ⟨x26, hx26⟩ : ∃ x, A.eval (.tmp 26) = x := ⟨_, rfl⟩
  have f26 : (fun v _ => v = (Value.slice fa fn fc)) x26 u8 := by rw [← hx26]; exact hh.got 8 _ 26 rfl rfl (hall 8 (by decide))
  obtain ⟨x27, hx27⟩ : ∃ x, A.eval (.tmp 27) = x := ⟨_, rfl⟩
  obtain ⟨x6, hx6⟩ : ∃ x, A.eval (.tmp 6) = x := ⟨_, rfl⟩
  dsimp only [wrote, List.foldl] at hA
  rw [hx18, hx19, hx20, hx21, hx22, hx23, hx24, hx25, hx26, hx27, hx6] at hA
  clear hh hall hx18 hx19 hx20 hx21 hx22 hx23 hx24 hx25 hx26 hx27 hx6
  replace f18 := (f18 : x18 = (.pointer (some ⟨lb, 0, none⟩)))
  subst f18
  replace f19 := (f19 : x19 = (.pointer (some ⟨lb, 0, none⟩)))
  subst f19
  replace f20 := (f20 : x20 = (.pointer (some ⟨lb, 0, none⟩)))
  subst f20
  replace f21 := (f21 : x21 = (.pointer (some ⟨b, 0, none⟩)))
  subst f21
  replace f22 := (f22 : x22 = (.pointer (some ⟨lb, 0, none⟩)))
  subst f22
  replace f23 := (f23 : x23 = (.pointer (some ⟨lb, 0, none⟩)))
  subst f23
  replace f24 := (f24 : x24 = (.pointer (some ⟨lb, 1, none⟩)))
  subst f24
  replace f25 := (f25 : x25 = (.string s))
  subst f25
  replace f26 := (f26 : x26 = (.slice fa fn fc))
  subst f26
  subst hA
  show wpList _ _ _ [_, _] _ _
  simp only [Act.put, List.setIfInBounds_toArray, List.set_cons_succ, List.set_cons_zero]
  go_upto_region 7 with (go_at_call 59; (with_reducible refine (HAp.out _ HU.out).mono ?_); rintro e w4 ⟨rfl, hd, hf⟩; have HD4 := hid hd; have HF4 := hid hf; clear hd hf)
  have HLg4 : Hid (Rg w4 lb b s z false) := hid (Blk.df (HLg2.out _ HU.out) HF4.out HLb.out)
  have HGs := hid (gtrans HG2.out HU.out)
  have HPf : Hid (∀ k, newP P u8 w4 k → k < w4.heap.size) := hid (fun k hk => by
   rcases hk with hk | hk
   ·have := HP.out k hk; have := HGs.out.size; have := HF4.out.size; omega
   ·exact hk.2)
  have HPg : Hid (∀ k, newP P u8 w4 k → P k ∨ w.heap.size ≤ k) := hid (fun k hk => by
   rcases hk with hk | hk
   ·exact .inl hk
   ·right; have := HGs.out.size; omega)
  have HDF : Hid (DF w w4 P) := hid ((DF.of HGs.out).trans HF4.out (fun _ _ q => q))
  have HLbs : Hid (¬ newP P u8 w4 lb) := hid (fun hk => by
   rcases hk with hk | hk
   ·exact HLb.out hk
   ·have := HLt.out; have := HGs.out.size; omega)
  have k2 : w4.cell? ⟨lb, 2, none⟩ = some (.int .i64 (z : Int)) := HLg4.out.cell 2
  have k3 : w4.cell? ⟨lb, 3, none⟩ = some (.bool false) := HLg4.out.cell 3
  have f2 : w4.frozen? ⟨lb, 2, none⟩ = false := HLg4.out.frozen 2
  have f3 : w4.frozen? ⟨lb, 3, none⟩ = false := HLg4.out.frozen 3
  by_cases hE : E = 0
  ·subst hE
   have hfn1 : fn ≤ 16777229 := by have := HL.out; have := HFn.out; omega
   have HS := hid (HLg4.out.set 2 (.int .i64 ((z + fn : Nat) : Int)))
   have HSg := hid (gset w4 ⟨lb, 2, none⟩ (.int .i64 ((z + fn : Nat) : Int)))
   go_wp2_with fail
   go_ret
   have hsum : (z : Int) + (fn : Int) = ((z + fn : Nat) : Int) := by omega
   rw [hsum]
   refine ⟨rfl, ?_, _, HD4.out.df (DF.one HSg.out (P := fun k => k = lb) rfl) (fun k hk e => HLbs.out (e ▸ hk)) (fun k e => by rw [e]; exact HGe.out), HPg.out, (HDF.out.mono (fun k hk => .inl hk)).trans (DF.one HSg.out (P := fun k => P k ∨ k = lb) (.inr rfl)) (fun _ _ q => q)⟩
   rw [HZ1.out trivial]
   exact HS.out
  ·have HS := hid (HLg4.out.set 3 (.bool true))
   have HSg := hid (gset w4 ⟨lb, 3, none⟩ (.bool true))
   go_wp2_with fail
   go_ret
   refine ⟨rfl, ?_, _, HD4.out.df (DF.one HSg.out (P := fun k => k = lb) rfl) (fun k hk e => HLbs.out (e ▸ hk)) (fun k e => by rw [e]; exact HGe.out), HPg.out, (HDF.out.mono (fun k hk => .inl hk)).trans (DF.one HSg.out (P := fun k => P k ∨ k = lb) (.inr rfl)) (fun _ _ q => q)⟩
   rw [HZ2.out hE]
   exact HS.out
end Go.Proofs.YtpbiofnncdneoaaGreatDoor

namespace Go.Proofs.YtpbiofnncdneoaaGreatDoor.Bq
open Go Go.RowKit Go.Proofs.YtpbiofnncdneoaaGreatDoor.Bk
open Go.RowKit (wrap32 wrap64)
variable {w u u' : World} {B B' : Nat → Prop}
theorem STx.oth {bk lt T : Nat} {ps : List Item} {n A : Nat} {D : Int} {v0 v1 : Value} {U : Int} {gs : List Value} {ms : List Nat} {vg vw : Value} {xs : List Value} (h : STx u B bk lt T ps n A D v0 v1 U gs ms vg vw xs) (k : Oth B B' u u') : STx u' B' bk lt T ps n A D v0 v1 U gs ms vg vw xs := by
 have hb := h.sl.book
 refine ⟨⟨⟨rowIs_oth hb.cells h.sl.hB.1 k, hb.row0.oth k, hb.row1.oth k, fun i g m hg hm => held_oth (hb.held i g m hg hm) (fun b q => (hb.lowb i g b hg q).2) k, hb.mle, fun i g m h1 h2 hg hm => ?_, fun i g b hg q => ⟨Nat.lt_of_lt_of_le (hb.low i g b hg q) k.size, k.sub b (hb.low i g b hg q) (hb.lowb i g b hg q).2⟩⟩, h.sl.ale, h.sl.use, h.sl.u0, h.sl.u1, rowIs_oth h.sl.cells h.sl.hB.2.1 k, h.sl.row0.oth k, h.sl.ap, fun p hp => ⟨(h.sl.own p hp).1.oth k, (h.sl.own p hp).2⟩, h.sl.alone, h.sl.apart, ⟨k.sub bk hb.cells.lt h.sl.hB.1, k.sub lt h.sl.cells.lt h.sl.hB.2.1, k.new⟩⟩, h.row1.oth k, h.apg, h.apw, fun i x p hx hp => (h.want i x p hx hp).oth (fun b q => (h.wlowb x (List.mem_of_getElem? hx) b q).2) k, h.wap, fun x hx b q => ⟨Nat.lt_of_lt_of_le (h.wlow x hx b q) k.size, k.sub b (h.wlow x hx b q) (h.wlowb x hx b q).2⟩, h.nle⟩
 obtain ⟨⟨nn, hnn, ho⟩, h4⟩ := hb.fresh i g m h1 h2 hg hm
 exact ⟨⟨nn, hnn, ho.oth k⟩, h4⟩
theorem ST.items2 {bk lt T : Nat} {ps qs : List Item} {n : Nat} (h : ST u B bk lt T ps n) (k : Oth B B' u u') (hq : ∀ p ∈ qs, OwnR u' (fun b => u.heap.size ≤ b ∧ B' b) 5 p.1 p.2.length (cb p.2) ∧ p.2.length ≤ 8388608) (hap : qs.Pairwise (fun a b => Apart a.1 b.1)) : ST u' B' bk lt T (ps ++ qs) n := by
 obtain ⟨A, D, v0, v1, U, gs, ms, vg, vw, xs, h0⟩ := h
 have h := h0.oth k
 have hgl : ∀ p ∈ qs, ∀ x, p.1.ownBlock = some x → u.heap.size ≤ x := fun p hp x hx => ((hq p hp).1.lt x hx).1.1
 have hnle := h.nle
 refine ⟨A, D, v0, v1, U, gs, ms, vg, vw, xs, ⟨⟨h.sl.book, h.sl.ale, h.sl.use, h.sl.u0, h.sl.u1, h.sl.cells, ?_, h.sl.ap, ?_, ?_, ?_, h.sl.hB⟩, h.row1, h.apg, h.apw, ?_, ?_, h.wlowb, by rw [List.length_append]; omega⟩⟩
 ·rw [List.take_append_of_le_length hnle]
  exact h.sl.row0
 ·intro p hp
  rcases List.mem_append.1 hp with h1 | h1
  ·exact h.sl.own p h1
  ·exact ⟨(hq p h1).1.mono (fun b _ hb => hb.2), (hq p h1).2⟩
 ·rw [List.pairwise_append]
  exact ⟨h.sl.alone, hap, fun a ha b hb' => apart_new (own_low (h0.sl.own a ha).1) (hgl b hb')⟩
 ·intro j g' hj p hp
  rcases List.mem_append.1 hp with h1 | h1
  ·exact h.sl.apart j g' hj p h1
  ·exact apart_new (fun x hx => h0.sl.book.low j g' x hj hx) (hgl p h1)
 ·intro i x p hx hp
  by_cases hi : i < ps.length
  ·rw [List.getElem?_append_left hi] at hp
   exact h.want i x p hx hp
  ·have h1 := (List.getElem?_eq_some_iff.1 hx).1
   have h2 := h.row1.1
   omega
 ·intro x hx p hp
  rcases List.mem_append.1 hp with h1 | h1
  ·exact h.wap x hx p h1
  ·exact apart_new (fun y hy => h0.wlow x hx y hy) (hgl p h1)
end Go.Proofs.YtpbiofnncdneoaaGreatDoor.Bq

namespace Go.Proofs.YtpbiofnncdneoaaGreatDoor
open Go Go.RowKit Go.MapKept Go.MuLone
open Go.RowKit (wrap32 wrap64)

variable {w u u' : World} {col col' : Nat → Nat} {S : Nat → Prop} {b i : Nat} {A A' : Ab} {P' : Nat → Prop}
theorem Stp.df (h : Stp w S u col u' col') : DF u u' (fun k => w.heap.size ≤ k ∧ S (col k)) := ⟨h.os, h.tape, h.output, h.size, fun k hk q => h.block k hk (by
 by_cases hw : k < w.heap.size
 ·exact .inl hw
 ·exact .inr (fun r => q ⟨by omega, r⟩))⟩
theorem Sd.stp (h : Sd w u b A (Co w u col i)) (s : Stp w S u col u' col') (hi : ¬ S i) : Sd w u' b A (Co w u' col' i) := by
 have h1 := h.df s.df (fun k hk q => hi (by rw [← hk.1]; exact q.2)) (fun k q => q.1)
 exact ⟨h1.dk.mono (fun _ _ _ hk => hk.stp s), fun _ hk => hk.2.2, fun _ hk => hk.2.1, h1.gr⟩
theorem Sr.stp (h : Sr w u b A (Co w u col i)) (s : Stp w S u col u' col') (hi : ¬ S i) : Sr w u' b A (Co w u' col' i) := by
 have h1 := h.df s.df (fun k hk q => hi (by rw [← hk.1]; exact q.2)) (fun k q => q.1)
 obtain ⟨sv, E, q1, q2⟩ := h1.dk
 exact ⟨⟨sv, E, q1, fun k hk => (q2 k hk).stp s⟩, fun _ hk => hk.2.2, fun _ hk => hk.2.1, h1.gr⟩
/-- Any painting of what is new. -/
theorem Stp.paint (hf : DF u u' (Co w u col i)) (hc : ∀ x, x < u.heap.size → col' x = col x) : Stp w (fun j => j = i) u col u' col' :=
 ⟨hc, hf.os, hf.tape, hf.output, hf.size, fun x hx q => hf.block x hx (fun r => q.elim (fun h => by have := r.2.1; omega) (fun h => h r.1))⟩
theorem sd_paint (hd : Sd w u' b A' P') (hP : ∀ k, P' k → col' k = i) : Sd w u' b A' (Co w u' col' i) :=
 ⟨hd.dk.mono (fun k hB hk hp => ⟨hP k hp, hB, hk⟩), fun _ hk => hk.2.2, fun _ hk => hk.2.1, hd.gr⟩
theorem sr_paint (hd : Sr w u' b A' P') (hP : ∀ k, P' k → col' k = i) : Sr w u' b A' (Co w u' col' i) := by
 obtain ⟨sv, E, q1, q2⟩ := hd.dk
 exact ⟨⟨sv, E, q1, fun k hk => ⟨hP k (q2 k hk), hd.ge k (q2 k hk), hd.lt k (q2 k hk)⟩⟩, fun _ hk => hk.2.2, fun _ hk => hk.2.1, hd.gr⟩
/-- Where what is told for a footprint is new, it is dyed in one colour. -/
theorem dye_of {P' : Nat → Prop} (hp : ∀ k, P' k → Co w u col i k ∨ u.heap.size ≤ k) : ∀ k, P' k → dye u col i k = i := fun k hk => by
 rcases hp k hk with q | q
 ·rw [dye_old q.2.2]; exact q.1
 ·exact dye_new q

def nm (k : Nat) : ByteArray := if k = 0 then ⟨#[108, 111, 103]⟩ else ⟨#[108, 46, 50]⟩
theorem nm_size (k : Nat) : (nm k).size ≤ 64 := by unfold nm; split <;> decide
theorem names_any (u : World) (k : Nat) (hk : k < 2) : Calls Tryz.prog 20 #[.int .i64 (k : Int)] u fun e u' => e = .returned (.string (nm k)) ∧ u' = u := by
 rcases (show k = 0 ∨ k = 1 by omega) with rfl | rfl
 ·go_enter Tryz.func20, Tryz.ntmps20
  go_wp2_with fail
  go_ret
  exact ⟨rfl, rfl⟩
 ·go_enter Tryz.func20, Tryz.ntmps20
  go_wp2_with fail
  go_ret
  exact ⟨rfl, rfl⟩
def pv : Option Nat → Value
 | none => .pointer none
 | some b => .pointer (some ⟨b, 0, none⟩)
def sgc (b0 b1 : Nat) (x y : Nat → Option Nat) (bk lt : Nat) : List Value := [.pointer (some ⟨b0, 0, none⟩), .pointer (some ⟨b1, 0, none⟩), pv (x 0), pv (x 1), pv (y 0), pv (y 1), .pointer (some ⟨bk, 0, none⟩), .pointer (some ⟨lt, 0, none⟩)]
/-- One log of both sides. -/
structure Lo (w u : World) (col : Nat → Nat) (b0 b1 k : Nat) (x y : Option Nat) (z : Nat) (off : Bool) : Prop where
 p : ∀ lb, x = some lb → Lg u lb b0 (nm k) z off ∧ Co w u col (5 + k) lb
 r : ∀ rb, y = some rb → Rg u rb b1 (nm k) z off ∧ Co w u col (7 + k) rb
 both : x.isSome = y.isSome
theorem blk_at {b t : Nat} {cs : List Value} (h : Blk u b cs t) (e : u'.heap[b]? = u.heap[b]?) : Blk u' b cs t := by
 have h' : u.heap[b]? = some (.cells cs.toArray t (0, 0)) := h
 exact (e.trans h' : u'.heap[b]? = some (.cells cs.toArray t (0, 0)))
theorem Lo.stp {b0 b1 k : Nat} {x y : Option Nat} {z : Nat} {off : Bool} (h : Lo w u col b0 b1 k x y z off) (s : Stp w S u col u' col') (h5 : ¬ S (5 + k)) (h7 : ¬ S (7 + k)) : Lo w u' col' b0 b1 k x y z off :=
 ⟨fun lb e => ⟨blk_at (h.p lb e).1 ((h.p lb e).2.at s h5), (h.p lb e).2.stp s⟩, fun rb e => ⟨blk_at (h.r rb e).1 ((h.r rb e).2.at s h7), (h.r rb e).2.stp s⟩, h.both⟩
/-- The stage. -/
structure Ws (w u : World) (col : Nat → Nat) (b0 b1 sb : Nat) (x y : Nat → Option Nat) (A D : Ab) (zs : Nat → Nat) (os : Nat → Bool) (bk lt T : Nat) (ps : List Bq.Item) (n : Nat) : Prop where
 d : Sd w u b0 A (Co w u col 1)
 r : Sr w u b1 D (Co w u col 2)
 g : Pl w u col 9 sb (sgc b0 b1 x y bk lt) 72
 l : ∀ k, k < 2 → Lo w u col b0 b1 k (x k) (y k) (zs k) (os k)
 b : Bq.ST u (Bt w u col) bk lt T ps n
variable {D : Ab} {b0 b1 sb bk lt T n : Nat} {x y : Nat → Option Nat} {zs : Nat → Nat} {os : Nat → Bool} {ps : List Bq.Item}
theorem Ws.stp (h : Ws w u col b0 b1 sb x y A D zs os bk lt T ps n) (s : Stp w S u col u' col') (hS : ∀ i, S i → i = 0 ∨ 9 < i) : Ws w u' col' b0 b1 sb x y A D zs os bk lt T ps n :=
 ⟨h.d.stp s (fun q => by have := hS _ q; omega), h.r.stp s (fun q => by have := hS _ q; omega), h.g.stp s (fun q => by have := hS _ q; omega), fun k hk => (h.l k hk).stp s (fun q => by have := hS _ q; omega) (fun q => by have := hS _ q; omega), st_stp h.b s (fun q => by have := hS _ q; omega)⟩
theorem Ws.keep (h : Ws w u col b0 b1 sb x y A D zs os bk lt T ps n) (hg : u.grownBy u' none) : Ws w u' (dye u col 0) b0 b1 sb x y A D zs os bk lt T ps n := h.stp (S := fun i => i = 0) (Stp.new hg 0) (fun _ e => .inl e)
end Go.Proofs.YtpbiofnncdneoaaGreatDoor
