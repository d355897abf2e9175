/- The log: cut, Open. -/
import Derived.Test.YtpbiofnncdneoaaGreatDoorX09
namespace Go.Proofs.YtpbiofnncdneoaaGreatDoor
open Go Go.RowKit Go.MapKept Go.MuLone
open Go.RowKit (wrap32 wrap64)

theorem own_df {w w' : World} {P : Nat → Prop} {B e q n : Nat} {v : Value} {xs : List Value} (h : w.ownsRow B e q v n xs) (hd : DF w w' P) (hp : ∀ k, v.ownBlock = some k → ¬ P k) : w'.ownsRow B e q v n xs := by
 refine ⟨h.1, ?_⟩
 rcases h.2 with h1 | ⟨g, cap, cur, hv, hB, hg, hle, hm, hs, ht⟩
 ·exact .inl h1
 ·refine .inr ⟨g, cap, cur, hv, hB, ?_, hle, hm, hs, ht⟩
  rw [hd.block g (Array.getElem?_eq_some_iff.1 hg).1 (hp g (by rw [hv]; rfl))]
  exact hg
theorem Rb.df {B C : Nat} {w w' : World} {v : Value} {l : List UInt8} {Q : Nat → Prop} (h : Rb B C w v l) (hd : DF w w' Q) (hq : ∀ k, B ≤ k → ¬ Q k) (hc : ∀ k, k < C → ¬ Q k) : Rb B C w' v l := by
 rcases h with h | h
 ·exact .inl (h.df hd hc)
 ·exact .inr (Out.df h hd (fun k hk => hq k (h.block k hk)))
theorem OutS.df {B C : Nat} {w w' : World} {v : Value} {ls : List (List UInt8)} {Q : Nat → Prop} (h : OutS B C w v ls) (hd : DF w w' Q) (hq : ∀ k, B ≤ k → ¬ Q k) (hc : ∀ k, k < C → ¬ Q k) : OutS B C w' v ls := by
 obtain ⟨vs, h1, h2⟩ := h.ex
 exact ⟨vs, own_df h1 hd (fun k hk => hq k (own_low h1 k hk)), h2.mono (fun v l h => h.df hd hq hc)⟩
variable {w : World} {B b lb : Nat} {A : Ab} {P : Nat → Prop} {s : ByteArray}
set_option maxRecDepth 100000 in
theorem lcut_same (v : Value) (k : Nat) : Calls Tryz.prog 48 #[v, .string s, .int .i64 (k : Int), .int .i64 (k : Int)] w fun e w' => e = .returned (.int .i64 0) ∧ w' = w := by
 go_enter Tryz.func48, Tryz.ntmps48
 go_wp2_with fail
 go_ret
 exact ⟨rfl, rfl⟩
set_option maxRecDepth 100000 in
theorem lcut_any (hd : DkP w B b A P) (k n : Nat) (hkn : k < n) (hw : A.wr ≤ 4611686018427387904) : Calls Tryz.prog 48 #[.pointer (some ⟨b, 0, none⟩), .string s, .int .i64 (k : Int), .int .i64 (n : Int)] w fun e w' => e = .returned (.int .i64 (A.cutE s k)) ∧ DkP w' B b (A.cut s k) (newP P w w') ∧ DF w w' P := by
 have HC := hid (cut_p hd s (k : Int) hw)
 have h1 : ¬ ((k : Int) = (n : Int)) := by omega
 have h2 : ¬ (k = n) := by omega
 clear hd hw hkn
 go_enter Tryz.func48, Tryz.ntmps48
 go_wp2_with (go_at_call 103; (with_reducible refine HC.out.mono ?_); rintro e w2 ⟨rfl, hd, hf⟩; have HD := hid hd; have HF := hid hf; clear hd hf)
 go_ret
 exact ⟨rfl, HD.out, HF.out⟩
theorem Tryz.built76 (b : Nat) (s : ByteArray) (z : Nat) : Tryz.prog.built 128 [(0, .pointer (some ⟨b, 0, none⟩)), (1, .string s), (2, .int .i64 (z : Int))] = some (lgc b s z false).toArray := by kernel_rfl
/-- What Open needs of a file: whole frames, and what is behind them. -/
structure Fil (A : Ab) (s : ByteArray) (rs : List (List UInt8)) (t : List UInt8) : Prop where
 ref : A.fndE s = 0 ∨ A.fndE s = 92
 is : A.fndB s = flat rs ++ t
 each : ∀ r ∈ rs, r.length ≤ 16777216
 num : rs.length ≤ 1000000
 tail : t ≠ [] → unfrE t ≠ 0
theorem fil_len (hok : A.ok) : (A.fndB s).length ≤ 268435456 := by
 have := fndB_le A s
 have := hok.used
 have := hok.room.2
 omega
theorem fil_cut {rs : List (List UInt8)} {t : List UInt8} (h : Fil A s rs t) (ht : t ≠ []) : A.fndE s = 0 ∧ flen rs < (A.fndB s).length ∧ flen rs ≤ (A.old s).length := by
 have hl : (A.fndB s).length = flen rs + t.length := by rw [h.is, List.length_append]; rfl
 have ht' : 0 < t.length := List.length_pos_iff.2 ht
 have h0 : A.fndE s = 0 := by
  rcases h.ref with q | q
  ·exact q
  ·exfalso
   have : A.fndB s = [] := by unfold Ab.fndB; rw [if_neg (by rw [q]; decide)]
   rw [this] at hl
   simp at hl
   omega
 refine ⟨h0, by omega, ?_⟩
 have : A.fndB s = A.old s := by unfold Ab.fndB Ab.old; rw [if_pos h0]
 rw [← this]
 omega
set_option maxRecDepth 100000 in
set_option maxHeartbeats 4000000 in
/-- A file of whole frames. -/
theorem open_whole {rs : List (List UInt8)} (hd : DkP w B b A P) (hT : Tab w) (hs : s.size ≤ 64) (hF : Fil A s rs []) :
  Calls Tryz.prog 15 #[.pointer (some ⟨b, 0, none⟩), .string s] w fun e w' => ∃ lb v, e = .returned (.tuple #[.pointer (some ⟨lb, 0, none⟩), v, .int .i64 0]) ∧ OutS w.heap.size 0 w' v rs ∧ Lg w' lb b s (flen rs) false ∧ w.heap.size ≤ lb ∧ w.grownBy w' none := by
 have HRd := hid (read_p hd s)
 obtain ⟨E, HE⟩ : ∃ x, Hid (A.fndE s = x) := ⟨_, hid rfl⟩
 rw [HE.out] at HRd
 have HRf : Hid (E = 0 ∨ E = 92) := hid (by rw [← HE.out]; exact hF.ref)
 obtain ⟨f, HFf⟩ : ∃ x, Hid (A.fndB s = x) := ⟨_, hid rfl⟩
 rw [HFf.out] at HRd
 have hff : f = flat rs ++ [] := by rw [← HFf.out, hF.is]
 have HLn : Hid (f.length = flen rs) := hid (by rw [hff, List.append_nil]; rfl)
 have HTk : Hid (∀ u v (F : Nat → Prop), w.grownBy u none → Rd u F v f → Calls Tryz.prog 47 #[v] u fun e w' => u.grownBy w' none ∧ ∃ v', e = .returned (.tuple #[v', .int .i64 (flen rs : Nat), .int .i64 0]) ∧ OutS u.heap.size 0 w' v' rs) := hid (fun u v F hu hr => by
  refine (take_any u F v f rs [] hr hff hF.each (by rw [← HFf.out]; exact fil_len hd.1) (hT.keep hu) hF.num hF.tail).mono fun e w' ⟨q1, q2, _⟩ => ⟨q1, q2 (.inl rfl)⟩)
 have HCl : Hid (∀ u, Calls Tryz.prog 49 #[.string s] u fun e w' => e = .returned (.string s) ∧ u.grownBy w' none) := hid (fun u => clone_any s u (by omega))
 have HCt : Hid (∀ (k : Nat) u, Calls Tryz.prog 48 #[.pointer (some ⟨b, 0, none⟩), .string s, .int .i64 (k : Int), .int .i64 (k : Int)] u fun e w' => e = .returned (.int .i64 0) ∧ w' = u) := hid (fun k u => lcut_same _ k)
 obtain ⟨z, HZ⟩ : ∃ x, Hid (flen rs = x) := ⟨_, hid rfl⟩
 rw [HZ.out] at HTk HLn ⊢
 clear hd hT hs hF hff HE HFf
 go_enter Tryz.func15, Tryz.ntmps15
 rcases HRf.out with rfl | rfl
 ·go_upto_region 10 with (first
   | (go_at_call 48; (with_reducible refine (HCt.out _ _).mono ?_); rintro e w4 ⟨rfl, hw4⟩; have hw4' := hw4.symm; clear hw4; subst hw4')
   | (go_at_call 47; (with_reducible refine (HTk.out _ _ _ HG2.out HR2.out).mono ?_); rintro e w3 ⟨hg, v3, rfl, hO⟩; have HG3 := hid (gtrans HG2.out hg); have HO3 := hid hO; have HG2' := hid HG2.out.size; clear hO hg)
   | (go_at_call 46; (with_reducible refine HRd.out.mono ?_); rintro e w2 ⟨v2, rfl, hO, hg⟩; have HG2 := hid hg; obtain ⟨fa, fc, hv2⟩ := hO.len; rw [HLn.out] at hv2; subst hv2; have HR2 := hid hO.rd; clear hO hg))
  go_wp2_with (first
   | ((with_reducible refine wpList_box_row (by with_unfolding_all rfl) 128 _ (by with_unfolding_all rfl) (lgc b s z false) (by with_unfolding_all rfl) ?_); intro w6 B6 s6 g6; have HB6 := hid B6; have HG6 := hid g6; clear B6 s6 g6)
   | ((with_reducible refine wpList_build_of (by with_unfolding_all rfl) 128 _ (by with_unfolding_all rfl) [(0, .pointer (some ⟨b, 0, none⟩)), (1, .string s), (2, .int .i64 (z : Int))] (by with_unfolding_all rfl) (lgc b s z false) (Tryz.built76 b s z) ?_))
   | (go_at_call 49; (with_reducible refine (HCl.out _).mono ?_); rintro e w5 ⟨rfl, hg⟩; have HG5 := hid hg; clear hg))
  go_ret3
  exact ⟨_, _, rfl, ((HO3.out.base HG2'.out).keep HG5.out).keep HG6.out, HB6.out, by have := HG3.out.size; have := HG5.out.size; omega, gtrans HG3.out (gtrans HG5.out HG6.out)⟩
 ·go_upto_region 10 with (first
   | (go_at_call 48; (with_reducible refine (HCt.out _ _).mono ?_); rintro e w4 ⟨rfl, hw4⟩; have hw4' := hw4.symm; clear hw4; subst hw4')
   | (go_at_call 47; (with_reducible refine (HTk.out _ _ _ HG2.out HR2.out).mono ?_); rintro e w3 ⟨hg, v3, rfl, hO⟩; have HG3 := hid (gtrans HG2.out hg); have HO3 := hid hO; have HG2' := hid HG2.out.size; clear hO hg)
   | (go_at_call 46; (with_reducible refine HRd.out.mono ?_); rintro e w2 ⟨v2, rfl, hO, hg⟩; have HG2 := hid hg; obtain ⟨fa, fc, hv2⟩ := hO.len; rw [HLn.out] at hv2; subst hv2; have HR2 := hid hO.rd; clear hO hg))
  go_wp2_with (first
   | ((with_reducible refine wpList_box_row (by with_unfolding_all rfl) 128 _ (by with_unfolding_all rfl) (lgc b s z false) (by with_unfolding_all rfl) ?_); intro w6 B6 s6 g6; have HB6 := hid B6; have HG6 := hid g6; clear B6 s6 g6)
   | ((with_reducible refine wpList_build_of (by with_unfolding_all rfl) 128 _ (by with_unfolding_all rfl) [(0, .pointer (some ⟨b, 0, none⟩)), (1, .string s), (2, .int .i64 (z : Int))] (by with_unfolding_all rfl) (lgc b s z false) (Tryz.built76 b s z) ?_))
   | (go_at_call 49; (with_reducible refine (HCl.out _).mono ?_); rintro e w5 ⟨rfl, hg⟩; have HG5 := hid hg; clear hg))
  go_ret3
  exact ⟨_, _, rfl, ((HO3.out.base HG2'.out).keep HG5.out).keep HG6.out, HB6.out, by have := HG3.out.size; have := HG5.out.size; omega, gtrans HG3.out (gtrans HG5.out HG6.out)⟩
set_option maxRecDepth 100000 in
set_option maxHeartbeats 4000000 in
/-- A file with a torn end. -/
theorem open_torn {rs : List (List UInt8)} {t : List UInt8} (hd : DkP w B b A P) (hP : ∀ k, P k → k < w.heap.size) (hT : Tab w) (hs : s.size ≤ 64) (hF : Fil A s rs t) (htn : t ≠ []) (ht3 : unfrE t = 30) (hw : A.wr ≤ 4611686018427387904) :
  Calls Tryz.prog 15 #[.pointer (some ⟨b, 0, none⟩), .string s] w fun e w' => DF w w' P ∧ ∃ P', DkP w' B b (A.cut s (flen rs : Nat)) P' ∧ (∀ k, P' k → k < w'.heap.size) ∧ (∀ k, P' k → P k ∨ w.heap.size ≤ k) ∧
   ((A.cutE s (flen rs : Nat) ≠ 0 ∧ e = .returned (.tuple #[.pointer none, .slice none 0 0, .int .i64 (A.cutE s (flen rs : Nat))])) ∨ (A.cutE s (flen rs : Nat) = 0 ∧ ∃ lb v, e = .returned (.tuple #[.pointer (some ⟨lb, 0, none⟩), v, .int .i64 0]) ∧ OutS w.heap.size 0 w' v rs ∧ Lg w' lb b s (flen rs) false ∧ w.heap.size ≤ lb ∧ ¬ P' lb)) := by
 have HRd := hid (read_p hd s)
 obtain ⟨E, HE⟩ : ∃ x, Hid (A.fndE s = x) := ⟨_, hid rfl⟩
 rw [HE.out] at HRd
 have HE0 : Hid (E = 0) := hid (by rw [← HE.out]; exact (fil_cut hF htn).1)
 obtain ⟨f, HFf⟩ : ∃ x, Hid (A.fndB s = x) := ⟨_, hid rfl⟩
 rw [HFf.out] at HRd
 have hff : f = flat rs ++ t := by rw [← HFf.out, hF.is]
 obtain ⟨n, HLn⟩ : ∃ x, Hid (f.length = x) := ⟨_, hid rfl⟩
 have HTk : Hid (∀ u v (F : Nat → Prop), w.grownBy u none → Rd u F v f → Calls Tryz.prog 47 #[v] u fun e w' => u.grownBy w' none ∧ ∃ v', e = .returned (.tuple #[v', .int .i64 (flen rs : Nat), .int .i64 0]) ∧ OutS u.heap.size 0 w' v' rs) := hid (fun u v F hu hr => by
  refine (take_any u F v f rs t hr hff hF.each (by rw [← HFf.out]; exact fil_len hd.1) (hT.keep hu) hF.num hF.tail).mono fun e w' ⟨q1, q2, _⟩ => ⟨q1, q2 (.inr ht3)⟩)
 have HCl : Hid (∀ u, Calls Tryz.prog 49 #[.string s] u fun e w' => e = .returned (.string s) ∧ u.grownBy w' none) := hid (fun u => clone_any s u (by omega))
 have HKn : Hid (flen rs < n) := hid (by rw [← HLn.out, ← HFf.out]; exact (fil_cut hF htn).2.1)
 have HPw := hid hP
 have HCt : Hid (∀ u, w.grownBy u none → Calls Tryz.prog 48 #[.pointer (some ⟨b, 0, none⟩), .string s, .int .i64 (flen rs : Nat), .int .i64 (n : Nat)] u fun e w' => e = .returned (.int .i64 (A.cutE s (flen rs : Nat))) ∧ DkP w' B b (A.cut s (flen rs : Nat)) (newP P u w') ∧ DF u w' P) := hid (fun u hu => lcut_any (hd.keep hu) _ _ HKn.out hw)
 obtain ⟨z, HZ⟩ : ∃ x, Hid (flen rs = x) := ⟨_, hid rfl⟩
 rw [HZ.out] at HTk HCt ⊢
 obtain ⟨X, HX⟩ : ∃ x, Hid (A.cutE s (z : Nat) = x) := ⟨_, hid rfl⟩
 rw [HX.out] at HCt ⊢
 obtain ⟨A', HA'⟩ : ∃ x, Hid (A.cut s (z : Nat) = x) := ⟨_, hid rfl⟩
 rw [HA'.out] at HCt ⊢
 have hE0 := HE0.out
 subst hE0
 clear hd hP hT hs hF hff HE HFf htn ht3 hw HX HA' HKn
 go_enter Tryz.func15, Tryz.ntmps15
 go_upto_region 8 with (first
  | (go_at_call 48; (with_reducible refine (HCt.out _ HG3.out).mono ?_); rintro e w4 ⟨rfl, hd, hf⟩; have HD4 := hid hd; have HF4 := hid hf; clear hd hf)
  | (go_at_call 47; (with_reducible refine (HTk.out _ _ _ HG2.out HR2.out).mono ?_); rintro e w3 ⟨hg, v3, rfl, hO⟩; have HG3 := hid (gtrans HG2.out hg); have HO3 := hid hO; have HG2' := hid HG2.out.size; clear hO hg)
  | (go_at_call 46; (with_reducible refine HRd.out.mono ?_); rintro e w2 ⟨v2, rfl, hO, hg⟩; have HG2 := hid hg; obtain ⟨fa, fc, hv2⟩ := hO.len; rw [HLn.out] at hv2; subst hv2; have HR2 := hid hO.rd; clear hO hg))
 have HDF : Hid (DF w w4 P) := hid ((DF.of HG3.out).trans HF4.out (fun _ _ q => q))
 have HPf : Hid (∀ k, newP P w3 w4 k → k < w4.heap.size) := hid (fun k hk => by
  rcases hk with hk | hk
  ·have := HPw.out k hk; have := HDF.out.size; omega
  ·exact hk.2)
 have HPg : Hid (∀ k, newP P w3 w4 k → P k ∨ w.heap.size ≤ k) := hid (fun k hk => by
  rcases hk with hk | hk
  ·exact .inl hk
  ·right; have := HG3.out.size; omega)
 by_cases hX : X = 0
 ·subst hX
  go_wp2_with (first
   | ((with_reducible refine wpList_box_row (by with_unfolding_all rfl) 128 _ (by with_unfolding_all rfl) (lgc b s z false) (by with_unfolding_all rfl) ?_); intro w6 B6 s6 g6; have HB6 := hid B6; have HG6 := hid g6; clear B6 s6 g6)
   | ((with_reducible refine wpList_build_of (by with_unfolding_all rfl) 128 _ (by with_unfolding_all rfl) [(0, .pointer (some ⟨b, 0, none⟩)), (1, .string s), (2, .int .i64 (z : Int))] (by with_unfolding_all rfl) (lgc b s z false) (Tryz.built76 b s z) ?_))
   | (go_at_call 49; (with_reducible refine (HCl.out _).mono ?_); rintro e w5 ⟨rfl, hg⟩; have HG5 := hid hg; clear hg))
  go_ret3
  have HG6' := gtrans HG5.out HG6.out
  refine ⟨HDF.out.trans (DF.of HG6') (fun _ _ q => q), _, HD4.out.keep HG6', fun k hk => Nat.lt_of_lt_of_le (HPf.out k hk) HG6'.size, HPg.out, ⟨_, _, rfl, ?_, HB6.out, ?_, ?_⟩⟩
  ·exact ((HO3.out.df HF4.out (fun k hk hp => by have := HPw.out k hp; have := HG2'.out; omega) (fun k hk _ => by omega)).base HG2'.out).keep HG6'
  ·have := HDF.out.size; have := HG5.out.size; omega
  ·intro hk; have := HPf.out _ hk; have := HG5.out.size; omega
 ·go_wp2_with fail
  go_ret3
  exact ⟨HDF.out, _, HD4.out, HPf.out, HPg.out, .inl ⟨hX, rfl⟩⟩
set_option maxRecDepth 100000 in
set_option maxHeartbeats 4000000 in
/-- A damaged file. -/
theorem open_hurt {rs : List (List UInt8)} {t : List UInt8} (hd : DkP w B b A P) (hT : Tab w) (hF : Fil A s rs t) (htn : t ≠ []) (ht3 : unfrE t ≠ 30) :
  Calls Tryz.prog 15 #[.pointer (some ⟨b, 0, none⟩), .string s] w fun e w' => e = .returned (.tuple #[.pointer none, .slice none 0 0, .int .i64 101]) ∧ w.grownBy w' none := by
 have HRd := hid (read_p hd s)
 obtain ⟨E, HE⟩ : ∃ x, Hid (A.fndE s = x) := ⟨_, hid rfl⟩
 rw [HE.out] at HRd
 have HE0 : Hid (E = 0) := hid (by rw [← HE.out]; exact (fil_cut hF htn).1)
 obtain ⟨f, HFf⟩ : ∃ x, Hid (A.fndB s = x) := ⟨_, hid rfl⟩
 rw [HFf.out] at HRd
 have hff : f = flat rs ++ t := by rw [← HFf.out, hF.is]
 obtain ⟨n, HLn⟩ : ∃ x, Hid (f.length = x) := ⟨_, hid rfl⟩
 have HTk : Hid (∀ u v (F : Nat → Prop), w.grownBy u none → Rd u F v f → Calls Tryz.prog 47 #[v] u fun e w' => e = .returned (.tuple #[.slice none 0 0, .int .i64 0, .int .i64 101]) ∧ u.grownBy w' none) := hid (fun u v F hu hr => by
  refine (take_any u F v f rs t hr hff hF.each (by rw [← HFf.out]; exact fil_len hd.1) (hT.keep hu) hF.num hF.tail).mono fun e w' ⟨q1, _, q2⟩ => ⟨q2 (fun h => h.elim htn ht3), q1⟩)
 have hE0 := HE0.out
 subst hE0
 clear hd hT hF hff HE HFf htn ht3
 go_enter Tryz.func15, Tryz.ntmps15
 go_wp2_with (first
  | (go_at_call 47; (with_reducible refine (HTk.out _ _ _ HG2.out HR2.out).mono ?_); rintro e w3 ⟨rfl, hg⟩; have HG3 := hid (gtrans HG2.out hg); clear hg)
  | (go_at_call 46; (with_reducible refine HRd.out.mono ?_); rintro e w2 ⟨v2, rfl, hO, hg⟩; have HG2 := hid hg; obtain ⟨fa, fc, hv2⟩ := hO.len; rw [HLn.out] at hv2; subst hv2; have HR2 := hid hO.rd; clear hO hg))
 go_ret3
 exact ⟨rfl, HG3.out⟩
end Go.Proofs.YtpbiofnncdneoaaGreatDoor

namespace Go.Proofs.YtpbiofnncdneoaaGreatDoor
open Go Go.RowKit Go.MapKept Go.MuLone
open Go.RowKit (wrap32 wrap64)

structure RowS (w : World) (F : Nat → Prop) (a : Option Addr) (g off : Nat) (ls : List (List UInt8)) : Prop where
 at_ : 0 < ls.length → a = some ⟨g, off, none⟩ ∧ g < w.heap.size ∧ F g
 each : ∀ i (h : i < ls.length), ∃ v, w.cell? ⟨g, off + i, none⟩ = some v ∧ Rd w F v ls[i]
theorem RowS.keep {w w' : World} {F : Nat → Prop} {a : Option Addr} {g off : Nat} {ls : List (List UInt8)} (h : RowS w F a g off ls) (hg : w.grownBy w' none) : RowS w' F a g off ls :=
 ⟨fun h0 => ⟨(h.at_ h0).1, Nat.lt_of_lt_of_le (h.at_ h0).2.1 hg.size, (h.at_ h0).2.2⟩, fun i hi => by
  obtain ⟨v, h1, h2⟩ := h.each i hi
  exact ⟨v, (cell_at hg (h.at_ (by omega)).2.1 (by simp)).trans h1, h2.keep hg⟩⟩
theorem RowS.df {w w' : World} {F P : Nat → Prop} {a : Option Addr} {g off : Nat} {ls : List (List UInt8)} (h : RowS w F a g off ls) (hd : DF w w' P) (hp : ∀ k, F k → ¬ P k) : RowS w' F a g off ls :=
 ⟨fun h0 => ⟨(h.at_ h0).1, Nat.lt_of_lt_of_le (h.at_ h0).2.1 hd.size, (h.at_ h0).2.2⟩, fun i hi => by
  obtain ⟨v, h1, h2⟩ := h.each i hi
  have hb := h.at_ (by omega)
  exact ⟨v, (World.cell?_of_block (hd.block g hb.2.1 (hp g hb.2.2))).trans h1, h2.df hd hp⟩⟩
theorem Rd.wide {w : World} {F G : Nat → Prop} {v : Value} {l : List UInt8} (h : Rd w F v l) (hf : ∀ k, F k → G k) : Rd w G v l := by
 obtain ⟨a, b, o, c, e, hc, hn, ha, hcell⟩ := h
 exact ⟨a, b, o, c, e, hc, hn, fun h0 => ⟨(ha h0).1, (ha h0).2.1, hf _ (ha h0).2.2⟩, hcell⟩
theorem RowS.mono {w : World} {F G : Nat → Prop} {a : Option Addr} {g off : Nat} {ls : List (List UInt8)} (h : RowS w F a g off ls) (hf : ∀ k, F k → G k) : RowS w G a g off ls :=
 ⟨fun h0 => ⟨(h.at_ h0).1, (h.at_ h0).2.1, hf _ (h.at_ h0).2.2⟩, fun i hi => by
  obtain ⟨v, h1, h2⟩ := h.each i hi
  exact ⟨v, h1, h2.wide hf⟩⟩
theorem OutS.row {B C : Nat} {w : World} {v : Value} {ls : List (List UInt8)} (h : OutS B C w v ls) : ∃ a g c, v = .slice a ls.length c ∧ RowS w (fun k => B ≤ k ∨ k < C) a g 0 ls := by
 obtain ⟨vs, h1, h2⟩ := h.ex
 rcases h1.2 with ⟨e1, e2⟩ | ⟨g, cap, cur, e1, hB, hg, hle, hm, hs, ht⟩
 ·have : ls = [] := List.eq_nil_of_length_eq_zero e2
  subst this
  exact ⟨none, 0, 0, e1, (fun h => absurd h (by decide)), (fun i hi => absurd hi (by simp))⟩
 ·have hlt := (Array.getElem?_eq_some_iff.1 hg).1
  refine ⟨_, g, cap, e1, fun _ => ⟨rfl, hlt, .inl hB⟩, fun i hi => ?_⟩
  obtain ⟨x, h3, h4⟩ := h2.get i hi
  refine ⟨x, ?_, ?_⟩
  ·have h5 := h3
   rw [← ht] at h5
   have hj : i < ls.length * 1 := by omega
   rw [List.getElem?_take, if_pos hj] at h5
   have h6 : cur[i]? = some x := by rw [← Array.getElem?_toList]; exact h5
   simp [World.cell?, hg, h6]
  ·rcases h4 with q | q
   ·exact q.wide (fun k hk => .inr hk)
   ·exact q.rd.wide (fun k hk => .inl hk)
theorem idx22 (b o n c i : Nat) (h : i < n) (u : World) : (Instr.indexAt 37 (.slice (some ⟨b, o, none⟩) n c) (.int .i64 (i : Nat))).run Tryz.prog u = .ok (.pointer (some ⟨b, o + i, none⟩)) u := by
 have h' : (i : Int) < (n : Int) := by omega
 go_simp
theorem ld36 (b i n c : Nat) (a : Option Addr) (u : World) (h : u.cell? ⟨b, i, none⟩ = some (.slice a n c)) : (Instr.loadAt 74 (.pointer (some ⟨b, i, none⟩))).run Tryz.prog u = .ok (.slice a n c) u := by go_simp
theorem neqS (s : ByteArray) (x y : Operand) (u : World) : (do eqGuard .neq 9 x y (.string s) (.string s); binOp .neq 9 (.string s) (.string s) : Sem Value).run Tryz.prog u = .ok (.bool false) u := by
 have hb : (s.toList == s.toList) = true := by simp
 go_simp
set_option maxRecDepth 100000 in
set_option maxHeartbeats 4000000 in
theorem rows_same (w : World) (F G : Nat → Prop) (a a' : Option Addr) (g o c g' o' c' : Nat) (ls : List (List UInt8)) (hA : RowS w F a g o ls) (hB : RowS w G a' g' o' ls) (hl : ls.length ≤ 1000000) :
  Calls Tryz.prog 22 #[.slice a ls.length c, .slice a' ls.length c'] w fun e w' => e = .returned (.bool true) ∧ w.grownBy w' none := by
 have HA := hid hA
 have HB := hid hB
 obtain ⟨n, HN⟩ : ∃ n, Hid (ls.length = n) := ⟨_, hid rfl⟩
 rw [HN.out] at hl ⊢
 clear hA hB
 go_enter Tryz.func22, Tryz.ntmps22
 go_wp2_with fail
 go_loopw [5] (fun iv wr => ∃ i : Nat, iv = .int .i64 i ∧ i ≤ n ∧ Hid (w.grownBy wr none)) (fun iv _ => n - (intOf iv).toNat)
 case atStart => exact ⟨0, rfl, by omega, hid (grefl _ _)⟩
 case round =>
  obtain ⟨i, rfl, hi, HG⟩ := hrel
  obtain ⟨w0, hw0⟩ : ∃ x : World, x = wr := ⟨_, rfl⟩
  rw [← hw0] at HG ⊢
  clear hw0
  by_cases hlt : i < n
  ·have hlt' : (i : Int) < (n : Int) := by omega
   obtain ⟨l, hl1⟩ : ∃ l, ls[i]'(by rw [HN.out]; exact hlt) = l := ⟨_, rfl⟩
   obtain ⟨rfl, -, -⟩ := HA.out.at_ (by rw [HN.out]; omega)
   obtain ⟨rfl, -, -⟩ := HB.out.at_ (by rw [HN.out]; omega)
   obtain ⟨vx, -, hx⟩ := HA.out.each i (by rw [HN.out]; exact hlt)
   obtain ⟨vy, -, hy⟩ := HB.out.each i (by rw [HN.out]; exact hlt)
   obtain ⟨vx, hx1, hx2⟩ := (HA.out.keep HG.out).each i (by rw [HN.out]; exact hlt)
   obtain ⟨vy, hy1, hy2⟩ := (HB.out.keep HG.out).each i (by rw [HN.out]; exact hlt)
   have hga := ((HA.out.keep HG.out).at_ (by rw [HN.out]; omega)).2.1
   have hgb := ((HB.out.keep HG.out).at_ (by rw [HN.out]; omega)).2.1
   rw [hl1] at hx2 hy2
   have HX2 := hid hx2
   have HY2 := hid hy2
   obtain ⟨xa, xb, xo, xc, rfl, -⟩ := hx2
   obtain ⟨ya, yb, yo, yc, rfl, -⟩ := hy2
   obtain ⟨yn, hyn⟩ : ∃ x, l.length = x := ⟨_, rfl⟩
   rw [hyn] at hx1 hy1 HX2 HY2
   have HCa : Hid (∀ u, w0.grownBy u none → u.cell? ⟨g, o + i, none⟩ = some (.slice xa yn xc)) := hid (fun u hu => (cell_at hu hga (by simp)).trans hx1)
   have HCb : Hid (∀ u, w0.grownBy u none → u.cell? ⟨g', o' + i, none⟩ = some (.slice ya yn yc)) := hid (fun u hu => (cell_at hu hgb (by simp)).trans hy1)
   have HVa : Hid (∀ u, w0.grownBy u none → (convert 74 9 (.slice xa yn xc)).run Tryz.prog u = .ok (.string ⟨l.toArray⟩) u) := hid (fun u hu => (HX2.out.keep hu).convert)
   have HVb : Hid (∀ u, w0.grownBy u none → (convert 74 9 (.slice ya yn yc)).run Tryz.prog u = .ok (.string ⟨l.toArray⟩) u) := hid (fun u hu => (HY2.out.keep hu).convert)
   clear hx1 hy1 hl1 hyn hx hy hga hgb
   go_upto_region 6 with fail
   refine wp_region_listX (by kernel_rfl) [fun v _ => v = (Value.slice (some ⟨g, o, none⟩) n c), fun v _ => v = (Value.int .i64 (i : Nat)), fun v _ => v = (Value.pointer (some ⟨g, o + i, none⟩)), fun v _ => v = (Value.slice xa yn xc), fun v _ => v = (Value.string ⟨l.toArray⟩), fun v _ => v = (Value.slice (some ⟨g', o', none⟩) n c'), fun v _ => v = (Value.int .i64 (i : Nat)), fun v _ => v = (Value.pointer (some ⟨g', o' + i, none⟩)), fun v _ => v = (Value.slice ya yn yc), fun v _ => v = (Value.string ⟨l.toArray⟩), fun v _ => v = (Value.bool false)] (none) (fun _ => none) 11 (by kernel_rfl) (by kernel_rfl) (by kernel_rfl) (by kernel_rfl) (by decide) noRow_one (fun _ => .inl rfl) ⟨fun i v u u' hki h hg => h, fun i v u u' hki h hg => h, fun i v u u' hki h hg => h, fun i v u u' hki h hg => h, fun i v u u' hki h hg => h, fun i v u u' hki h hg => h, fun i v u u' hki h hg => h, fun i v u u' hki h hg => h, fun i v u u' hki h hg => h, fun i v u u' hki h hg => h, fun i v u u' hki h hg => h, trivial⟩ ⟨?_, ?_, ?_, ?_, ?_, ?_, ?_, ?_, ?_, ?_, ?_, trivial⟩ ?_
   ·intro A u hu hpu hsz hout hdeps
    have e0 : A.eval (.tmp 0) = (.slice (some ⟨g, o, none⟩) n c) := (hout 0 (by kernel_rfl)).trans rfl
    refine ifw_none rfl ?_
    with_reducible refine shown_q (Value.slice (some ⟨g, o, none⟩) n c) ?qq_1_0 (fun _ _ => ?qr_1_0)
    case qr_1_0 => exact (rfl : (Value.slice (some ⟨g, o, none⟩) n c) = (Value.slice (some ⟨g, o, none⟩) n c))
    with_reducible refine quietAt_mv (.tmp 0) (Value.slice (some ⟨g, o, none⟩) n c) ?h0_1_0 ?h1_1_0
    case h0_1_0 => rfl
    case h1_1_0 => exact e0
   ·intro A u hu hpu hsz hout hdeps
    have e5 : A.eval (.tmp 5) = (.int .i64 (i : Nat)) := (hout 5 (by kernel_rfl)).trans rfl
    refine ifw_none rfl ?_
    with_reducible refine shown_q (Value.int .i64 (i : Nat)) ?qq_1_1 (fun _ _ => ?qr_1_1)
    case qr_1_1 => exact (rfl : (Value.int .i64 (i : Nat)) = (Value.int .i64 (i : Nat)))
    with_reducible refine quietAt_mv (.tmp 5) (Value.int .i64 (i : Nat)) ?h0_1_1 ?h1_1_1
    case h0_1_1 => rfl
    case h1_1_1 => exact e5
   ·intro A u hu hpu hsz hout hdeps
    have e17 : A.eval (.tmp 17) = (.slice (some ⟨g, o, none⟩) n c) := by have h := depL hdeps 0 (by kernel_rfl) 17 (by kernel_rfl); exact h
    have e18 : A.eval (.tmp 18) = (.int .i64 (i : Nat)) := by have h := depL hdeps 1 (by kernel_rfl) 18 (by kernel_rfl); exact h
    refine ifw_none rfl ?_
    with_reducible refine shown_q (Value.pointer (some ⟨g, o + i, none⟩)) ?qq_1_2 (fun _ _ => ?qr_1_2)
    case qr_1_2 => exact (rfl : (Value.pointer (some ⟨g, o + i, none⟩)) = (Value.pointer (some ⟨g, o + i, none⟩)))
    with_reducible refine quietAt_idx 37 (.tmp 17) (.tmp 18) (Value.slice (some ⟨g, o, none⟩) n c) (Value.int .i64 (i : Nat)) (Value.pointer (some ⟨g, o + i, none⟩)) ?h0_1_2 ?h1_1_2 ?h2_1_2 ?h3_1_2
    case h0_1_2 => rfl
    case h1_1_2 => exact e17
    case h2_1_2 => exact e18
    case h3_1_2 => exact idx22 g o n c i hlt u
   ·intro A u hu hpu hsz hout hdeps
    have e19 : A.eval (.tmp 19) = (.pointer (some ⟨g, o + i, none⟩)) := by have h := depL hdeps 2 (by kernel_rfl) 19 (by kernel_rfl); exact h
    refine ifw_none rfl ?_
    with_reducible refine shown_q (Value.slice xa yn xc) ?qq_1_3 (fun _ _ => ?qr_1_3)
    case qr_1_3 => exact (rfl : (Value.slice xa yn xc) = (Value.slice xa yn xc))
    with_reducible refine quietAt_ld 74 (.tmp 19) (Value.pointer (some ⟨g, o + i, none⟩)) (Value.slice xa yn xc) ?h0_1_3 ?h1_1_3 ?h2_1_3
    case h0_1_3 => rfl
    case h1_1_3 => exact e19
    case h2_1_3 => exact ld36 g (o + i) yn xc xa u (HCa.out u hu)
   ·intro A u hu hpu hsz hout hdeps
    have e20 : A.eval (.tmp 20) = (.slice xa yn xc) := by have h := depL hdeps 3 (by kernel_rfl) 20 (by kernel_rfl); exact h
    refine ifw_none rfl ?_
    with_reducible refine shown_q (Value.string ⟨l.toArray⟩) ?qq_1_4 (fun _ _ => ?qr_1_4)
    case qr_1_4 => exact (rfl : (Value.string ⟨l.toArray⟩) = (Value.string ⟨l.toArray⟩))
    with_reducible refine quietAt_cv 74 9 (.tmp 20) (Value.slice xa yn xc) (Value.string ⟨l.toArray⟩) ?h0_1_4 ?h1_1_4 ?h2_1_4
    case h0_1_4 => rfl
    case h1_1_4 => exact e20
    case h2_1_4 => exact (HVa.out u hu)
   ·intro A u hu hpu hsz hout hdeps
    have e1 : A.eval (.tmp 1) = (.slice (some ⟨g', o', none⟩) n c') := (hout 1 (by kernel_rfl)).trans rfl
    refine ifw_none rfl ?_
    with_reducible refine shown_q (Value.slice (some ⟨g', o', none⟩) n c') ?qq_1_5 (fun _ _ => ?qr_1_5)
    case qr_1_5 => exact (rfl : (Value.slice (some ⟨g', o', none⟩) n c') = (Value.slice (some ⟨g', o', none⟩) n c'))
    with_reducible refine quietAt_mv (.tmp 1) (Value.slice (some ⟨g', o', none⟩) n c') ?h0_1_5 ?h1_1_5
    case h0_1_5 => rfl
    case h1_1_5 => exact e1
   ·intro A u hu hpu hsz hout hdeps
    have e5 : A.eval (.tmp 5) = (.int .i64 (i : Nat)) := (hout 5 (by kernel_rfl)).trans rfl
    refine ifw_none rfl ?_
    with_reducible refine shown_q (Value.int .i64 (i : Nat)) ?qq_1_6 (fun _ _ => ?qr_1_6)
    case qr_1_6 => exact (rfl : (Value.int .i64 (i : Nat)) = (Value.int .i64 (i : Nat)))
    with_reducible refine quietAt_mv (.tmp 5) (Value.int .i64 (i : Nat)) ?h0_1_6 ?h1_1_6
    case h0_1_6 => rfl
    case h1_1_6 => exact e5
   ·intro A u hu hpu hsz hout hdeps
    have e22 : A.eval (.tmp 22) = (.slice (some ⟨g', o', none⟩) n c') := by have h := depL hdeps 5 (by kernel_rfl) 22 (by kernel_rfl); exact h
    have e23 : A.eval (.tmp 23) = (.int .i64 (i : Nat)) := by have h := depL hdeps 6 (by kernel_rfl) 23 (by kernel_rfl); exact h
    refine ifw_none rfl ?_
    with_reducible refine shown_q (Value.pointer (some ⟨g', o' + i, none⟩)) ?qq_1_7 (fun _ _ => ?qr_1_7)
    case qr_1_7 => exact (rfl : (Value.pointer (some ⟨g', o' + i, none⟩)) = (Value.pointer (some ⟨g', o' + i, none⟩)))
    with_reducible refine quietAt_idx 37 (.tmp 22) (.tmp 23) (Value.slice (some ⟨g', o', none⟩) n c') (Value.int .i64 (i : Nat)) (Value.pointer (some ⟨g', o' + i, none⟩)) ?h0_1_7 ?h1_1_7 ?h2_1_7 ?h3_1_7
    case h0_1_7 => rfl
    case h1_1_7 => exact e22
    case h2_1_7 => exact e23
    case h3_1_7 => exact idx22 g' o' n c' i hlt u
   ·intro A u hu hpu hsz hout hdeps
    have e24 : A.eval (.tmp 24) = (.pointer (some ⟨g', o' + i, none⟩)) := by have h := depL hdeps 7 (by kernel_rfl) 24 (by kernel_rfl); exact h
    refine ifw_none rfl ?_
    with_reducible refine shown_q (Value.slice ya yn yc) ?qq_1_8 (fun _ _ => ?qr_1_8)
    case qr_1_8 => exact (rfl : (Value.slice ya yn yc) = (Value.slice ya yn yc))
    with_reducible refine quietAt_ld 74 (.tmp 24) (Value.pointer (some ⟨g', o' + i, none⟩)) (Value.slice ya yn yc) ?h0_1_8 ?h1_1_8 ?h2_1_8
    case h0_1_8 => rfl
    case h1_1_8 => exact e24
    case h2_1_8 => exact ld36 g' (o' + i) yn yc ya u (HCb.out u hu)
   ·intro A u hu hpu hsz hout hdeps
    have e25 : A.eval (.tmp 25) = (.slice ya yn yc) := by have h := depL hdeps 8 (by kernel_rfl) 25 (by kernel_rfl); exact h
    refine ifw_none rfl ?_
    with_reducible refine shown_q (Value.string ⟨l.toArray⟩) ?qq_1_9 (fun _ _ => ?qr_1_9)
    case qr_1_9 => exact (rfl : (Value.string ⟨l.toArray⟩) = (Value.string ⟨l.toArray⟩))
    with_reducible refine quietAt_cv 74 9 (.tmp 25) (Value.slice ya yn yc) (Value.string ⟨l.toArray⟩) ?h0_1_9 ?h1_1_9 ?h2_1_9
    case h0_1_9 => rfl
    case h1_1_9 => exact e25
    case h2_1_9 => exact (HVb.out u hu)
   ·intro A u hu hpu hsz hout hdeps
    have e21 : A.eval (.tmp 21) = (.string ⟨l.toArray⟩) := by have h := depL hdeps 4 (by kernel_rfl) 21 (by kernel_rfl); exact h
    have e26 : A.eval (.tmp 26) = (.string ⟨l.toArray⟩) := by have h := depL hdeps 9 (by kernel_rfl) 26 (by kernel_rfl); exact h
    refine ifw_none rfl ?_
    with_reducible refine shown_q (Value.bool false) ?qq_1_10 (fun _ _ => ?qr_1_10)
    case qr_1_10 => exact (rfl : (Value.bool false) = (Value.bool false))
    with_reducible refine quietAt_bin .neq 9 (.tmp 21) (.tmp 26) 9 (Value.string ⟨l.toArray⟩) (Value.string ⟨l.toArray⟩) (Value.bool false) ?h0_1_10 ?h1_1_10 ?h2_1_10 ?h3_1_10
    case h0_1_10 => rfl
    case h1_1_10 => exact e21
    case h2_1_10 => exact e26
    case h3_1_10 => exact neqS _ _ _ u
   ·intro A u8 listed hh hall
    have hA := hh.frame
    have HU := hid hh.grown
    obtain ⟨x17, hx17⟩ : ∃ x, A.eval (.tmp 17) = x := ⟨_, rfl⟩
    have f17 : (fun v _ => v = (Value.slice (some ⟨g, o, none⟩) n c)) x17 u8 := by rw [← hx17]; exact hh.got 0 _ 17 rfl rfl (hall 0 (by decide))
    obtain ⟨x18, hx18⟩ : ∃ x, A.eval (.tmp 18) = x := ⟨_, rfl⟩
    have f18 : (fun v _ => v = (Value.int .i64 (i : Nat))) x18 u8 := by rw [← hx18]; exact hh.got 1 _ 18 rfl rfl (hall 1 (by decide))
    obtain ⟨x19, hx19⟩ : ∃ x, A.eval (.tmp 19) = x := ⟨_, rfl⟩
    have f19 : (fun v _ => v = (Value.pointer (some ⟨g, o + i, none⟩))) x19 u8 := by rw [← hx19]; exact hh.got 2 _ 19 rfl rfl (hall 2 (by decide))
    obtain ⟨x20, hx20⟩ : ∃ x, A.eval (.tmp 20) = x := ⟨_, rfl⟩
    have f20 : (fun v _ => v = (Value.slice xa yn xc)) x20 u8 := by rw [← hx20]; exact hh.got 3 _ 20 rfl rfl (hall 3 (by decide))
    obtain ⟨x21, hx21⟩ : ∃ x, A.eval (.tmp 21) = x := ⟨_, rfl⟩
    have f21 : (fun v _ => v = (Value.string ⟨l.toArray⟩)) x21 u8 := by rw [← hx21]; exact hh.got 4 _ 21 rfl rfl (hall 4 (by decide))
    obtain ⟨x22, hx22⟩ : ∃ x, A.eval (.tmp 22) = x := ⟨_, rfl⟩
    have f22 : (fun v _ => v = (Value.slice (some ⟨g', o', none⟩) n c')) x22 u8 := by rw [← hx22]; exact hh.got 5 _ 22 rfl rfl (hall 5 (by decide))
    obtain ⟨x23, hx23⟩ : ∃ x, A.eval (.tmp 23) = x := ⟨_, rfl⟩
    have f23 : (fun v _ => v = (Value.int .i64 (i : Nat))) x23 u8 := by rw [← hx23]; exact hh.got 6 _ 23 rfl rfl (hall 6 (by decide))
    obtain ⟨x24, hx24⟩ : ∃ x, A.eval (.tmp 24) = x := ⟨_, rfl⟩
    have f24 : (fun v _ => v = (Value.pointer (some ⟨g', o' + i, none⟩))) x24 u8 := by rw [← hx24]; exact hh.got 7 _ 24 rfl rfl (hall 7 (by decide))
    obtain ⟨x25, hx25⟩ : ∃ x, A.eval (.tmp 25) = x := ⟨_, rfl⟩
    have f25 : (fun v _ => v = (Value.slice ya yn yc)) x25 u8 := by rw [← hx25]; exact hh.got 8 _ 25 rfl rfl (hall 8 (by decide))
    obtain ⟨x26, hx26⟩ : ∃ x, A.eval (.tmp 26) = x := ⟨_, rfl⟩
    have f26 : (fun v _ => v = (Value.string ⟨l.toArray⟩)) x26 u8 := by rw [← hx26]; exact hh.got 9 _ 26 rfl rfl (hall 9 (by decide))
    obtain ⟨x27, hx27⟩ : ∃ x, A.eval (.tmp 27) = x := ⟨_, rfl⟩
    have f27 : (fun v _ => v = (Value.bool false)) x27 u8 := by rw [← hx27]; exact hh.got 10 _ 27 rfl rfl (hall 10 (by decide))
    dsimp only [wrote, List.foldl] at hA
    rw [hx17, hx18, hx19, hx20, hx21, hx22, hx23, hx24, hx25, hx26, hx27] at hA
    clear hh hall hx17 hx18 hx19 hx20 hx21 hx22 hx23 hx24 hx25 hx26 hx27
    replace f17 := (f17 : x17 = (.slice (some ⟨g, o, none⟩) n c))
    subst f17
    replace f18 := (f18 : x18 = (.int .i64 (i : Nat)))
    subst f18
    replace f19 := (f19 : x19 = (.pointer (some ⟨g, o + i, none⟩)))
    subst f19
    replace f20 := (f20 : x20 = (.slice xa yn xc))
    subst f20
    replace f21 := (f21 : x21 = (.string ⟨l.toArray⟩))
    subst f21
    replace f22 := (f22 : x22 = (.slice (some ⟨g', o', none⟩) n c'))
    subst f22
    replace f23 := (f23 : x23 = (.int .i64 (i : Nat)))
    subst f23
    replace f24 := (f24 : x24 = (.pointer (some ⟨g', o' + i, none⟩)))
    subst f24
    replace f25 := (f25 : x25 = (.slice ya yn yc))
    subst f25
    replace f26 := (f26 : x26 = (.string ⟨l.toArray⟩))
    subst f26
    replace f27 := (f27 : x27 = (.bool false))
    subst f27
    subst hA
    show wpList _ _ _ [] _ _
    unfold wpList
    simp only [Act.put, List.setIfInBounds_toArray, List.set_cons_succ, List.set_cons_zero]
    go_wp2_with fail
    go_roundw
    case rel => exact ⟨i + 1, by go_num, by omega, hid (gtrans HG.out HU.out)⟩
    case measure => simp [intOf]; omega
  ·have hge : ¬ (i : Int) < (n : Int) := by omega
   go_wp2_with fail
   go_ret
   exact ⟨rfl, HG.out⟩
end Go.Proofs.YtpbiofnncdneoaaGreatDoor
