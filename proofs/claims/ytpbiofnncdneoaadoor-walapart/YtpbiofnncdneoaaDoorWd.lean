/- The log: cut, Open. -/
import Derived.Test.YtpbiofnncdneoaaDoorWc
namespace Go.Proofs.YtpbiofnncdneoaaDoor
open Go Go.RowKit Go.MapKept Go.MuLone
open Go.RowKit (wrap32 wrap64)

theorem own_df {w w' : World} {P : Nat → Prop} {B e q n : Nat} {v : Value} {xs : List Value} (h : w.ownsRow B e q v n xs) (hd : DF w w' P) (hp : ∀ k, v.ownBlock = some k → ¬ P k) : w'.ownsRow B e q v n xs := by
  refine ⟨h.1, ?_⟩
  rcases h.2 with h1 | ⟨g, cap, cur, hv, hB, hg, hle, hm, hs, ht⟩
  · exact .inl h1
  · refine .inr ⟨g, cap, cur, hv, hB, ?_, hle, hm, hs, ht⟩
    rw [hd.block g (Array.getElem?_eq_some_iff.1 hg).1 (hp g (by rw [hv]; rfl))]
    exact hg
theorem Rb.df {B C : Nat} {w w' : World} {v : Value} {l : List UInt8} {Q : Nat → Prop} (h : Rb B C w v l) (hd : DF w w' Q) (hq : ∀ k, B ≤ k → ¬ Q k) (hc : ∀ k, k < C → ¬ Q k) : Rb B C w' v l := by
  rcases h with h | h
  · exact .inl (h.df hd hc)
  · exact .inr (Out.df h hd (fun k hk => hq k (h.block k hk)))
theorem OutS.df {B C : Nat} {w w' : World} {v : Value} {ls : List (List UInt8)} {Q : Nat → Prop} (h : OutS B C w v ls) (hd : DF w w' Q) (hq : ∀ k, B ≤ k → ¬ Q k) (hc : ∀ k, k < C → ¬ Q k) : OutS B C w' v ls := by
  obtain ⟨vs, h1, h2⟩ := h.ex
  exact ⟨vs, own_df h1 hd (fun k hk => hq k (own_low h1 k hk)), h2.mono (fun v l h => h.df hd hq hc)⟩
variable {w : World} {B b lb : Nat} {A : Ab} {P : Nat → Prop} {s : ByteArray}
set_option maxRecDepth 100000 in
theorem lcut_same (v : Value) (k : Nat) : Calls Tryd.prog 27 #[v, .string s, .int .i64 (k : Int), .int .i64 (k : Int)] w fun e w' => e = .returned (.int .i64 0) ∧ w' = w := by
  go_enter Tryd.func27, Tryd.ntmps27
  go_wp2_with fail
  go_ret
  exact ⟨rfl, rfl⟩
set_option maxRecDepth 100000 in
theorem lcut_any (hd : DkP w B b A P) (k n : Nat) (hkn : k < n) (hw : A.wr ≤ 4611686018427387904) : Calls Tryd.prog 27 #[.pointer (some ⟨b, 0, none⟩), .string s, .int .i64 (k : Int), .int .i64 (n : Int)] w fun e w' => e = .returned (.int .i64 (A.cutE s k)) ∧ DkP w' B b (A.cut s k) (newP P w w') ∧ DF w w' P := by
  have HC := hid (cut_p hd s (k : Int) hw)
  have h1 : ¬ ((k : Int) = (n : Int)) := by omega
  have h2 : ¬ (k = n) := by omega
  clear hd hw hkn
  go_enter Tryd.func27, Tryd.ntmps27
  go_wp2_with (go_at_call 41; (with_reducible refine HC.out.mono ?_); rintro e w2 ⟨rfl, hd, hf⟩; have HD := hid hd; have HF := hid hf; clear hd hf)
  go_ret
  exact ⟨rfl, HD.out, HF.out⟩
theorem Tryd.built76 (b : Nat) (s : ByteArray) (z : Nat) : Tryd.prog.built 76 [(0, .pointer (some ⟨b, 0, none⟩)), (1, .string s), (2, .int .i64 (z : Int))] = some (lgc b s z false).toArray := by kernel_rfl
/-- What Open needs of a file: whole frames, and what is behind them. -/
structure Fil (A : Ab) (s : ByteArray) (rs : List (List UInt8)) (t : List UInt8) : Prop where
  ref : A.fndE s = 0 ∨ A.fndE s = 92
  is : A.fndB s = flat rs ++ t
  each : ∀ r ∈ rs, r.length ≤ 16777216
  num : rs.length ≤ 1000000
  tail : t ≠ [] → unfrE t ≠ 0
theorem fil_len (hok : A.ok) : (A.fndB s).length ≤ 268435456 := by
  have := fndB_le A s
  have := hok.used
  have := hok.room.2
  omega
theorem fil_cut {rs : List (List UInt8)} {t : List UInt8} (h : Fil A s rs t) (ht : t ≠ []) : A.fndE s = 0 ∧ flen rs < (A.fndB s).length ∧ flen rs ≤ (A.old s).length := by
  have hl : (A.fndB s).length = flen rs + t.length := by rw [h.is, List.length_append]; rfl
  have ht' : 0 < t.length := List.length_pos_iff.2 ht
  have h0 : A.fndE s = 0 := by
    rcases h.ref with q | q
    · exact q
    · exfalso
      have : A.fndB s = [] := by unfold Ab.fndB; rw [if_neg (by rw [q]; decide)]
      rw [this] at hl
      simp at hl
      omega
  refine ⟨h0, by omega, ?_⟩
  have : A.fndB s = A.old s := by unfold Ab.fndB Ab.old; rw [if_pos h0]
  rw [← this]
  omega
set_option maxRecDepth 100000 in
set_option maxHeartbeats 4000000 in
/-- A file of whole frames. -/
theorem open_whole {rs : List (List UInt8)} (hd : DkP w B b A P) (hT : Tab w) (hs : s.size ≤ 64) (hF : Fil A s rs []) :
    Calls Tryd.prog 11 #[.pointer (some ⟨b, 0, none⟩), .string s] w fun e w' => ∃ lb v, e = .returned (.tuple #[.pointer (some ⟨lb, 0, none⟩), v, .int .i64 0]) ∧ OutS w.heap.size 0 w' v rs ∧ Lg w' lb b s (flen rs) false ∧ w.heap.size ≤ lb ∧ w.grownBy w' none := by
  have HRd := hid (read_p hd s)
  obtain ⟨E, HE⟩ : ∃ x, Hid (A.fndE s = x) := ⟨_, hid rfl⟩
  rw [HE.out] at HRd
  have HRf : Hid (E = 0 ∨ E = 92) := hid (by rw [← HE.out]; exact hF.ref)
  obtain ⟨f, HFf⟩ : ∃ x, Hid (A.fndB s = x) := ⟨_, hid rfl⟩
  rw [HFf.out] at HRd
  have hff : f = flat rs ++ [] := by rw [← HFf.out, hF.is]
  have HLn : Hid (f.length = flen rs) := hid (by rw [hff, List.append_nil]; rfl)
  have HTk : Hid (∀ u v (F : Nat → Prop), w.grownBy u none → Rd u F v f → Calls Tryd.prog 26 #[v] u fun e w' => u.grownBy w' none ∧ ∃ v', e = .returned (.tuple #[v', .int .i64 (flen rs : Nat), .int .i64 0]) ∧ OutS u.heap.size 0 w' v' rs) := hid (fun u v F hu hr => by
    refine (take_any u F v f rs [] hr hff hF.each (by rw [← HFf.out]; exact fil_len hd.1) (hT.keep hu) hF.num hF.tail).mono fun e w' ⟨q1, q2, _⟩ => ⟨q1, q2 (.inl rfl)⟩)
  have HCl : Hid (∀ u, Calls Tryd.prog 28 #[.string s] u fun e w' => e = .returned (.string s) ∧ u.grownBy w' none) := hid (fun u => clone_any s u (by omega))
  have HCt : Hid (∀ (k : Nat) u, Calls Tryd.prog 27 #[.pointer (some ⟨b, 0, none⟩), .string s, .int .i64 (k : Int), .int .i64 (k : Int)] u fun e w' => e = .returned (.int .i64 0) ∧ w' = u) := hid (fun k u => lcut_same _ k)
  obtain ⟨z, HZ⟩ : ∃ x, Hid (flen rs = x) := ⟨_, hid rfl⟩
  rw [HZ.out] at HTk HLn ⊢
  clear hd hT hs hF hff HE HFf
  go_enter Tryd.func11, Tryd.ntmps11
  rcases HRf.out with rfl | rfl
  · go_upto_region 10 with (first
      | (go_at_call 27; (with_reducible refine (HCt.out _ _).mono ?_); rintro e w4 ⟨rfl, hw4⟩; have hw4' := hw4.symm; clear hw4; subst hw4')
      | (go_at_call 26; (with_reducible refine (HTk.out _ _ _ HG2.out HR2.out).mono ?_); rintro e w3 ⟨hg, v3, rfl, hO⟩; have HG3 := hid (gtrans HG2.out hg); have HO3 := hid hO; have HG2' := hid HG2.out.size; clear hO hg)
      | (go_at_call 21; (with_reducible refine HRd.out.mono ?_); rintro e w2 ⟨v2, rfl, hO, hg⟩; have HG2 := hid hg; obtain ⟨fa, fc, hv2⟩ := hO.len; rw [HLn.out] at hv2; subst hv2; have HR2 := hid hO.rd; clear hO hg))
    go_wp2_with (first
      | ((with_reducible refine wpList_box_row (by with_unfolding_all rfl) 76 _ (by with_unfolding_all rfl) (lgc b s z false) (by with_unfolding_all rfl) ?_); intro w6 B6 s6 g6; have HB6 := hid B6; have HG6 := hid g6; clear B6 s6 g6)
      | ((with_reducible refine wpList_build_of (by with_unfolding_all rfl) 76 _ (by with_unfolding_all rfl) [(0, .pointer (some ⟨b, 0, none⟩)), (1, .string s), (2, .int .i64 (z : Int))] (by with_unfolding_all rfl) (lgc b s z false) (Tryd.built76 b s z) ?_))
      | (go_at_call 28; (with_reducible refine (HCl.out _).mono ?_); rintro e w5 ⟨rfl, hg⟩; have HG5 := hid hg; clear hg))
    go_ret3
    exact ⟨_, _, rfl, ((HO3.out.base HG2'.out).keep HG5.out).keep HG6.out, HB6.out, by have := HG3.out.size; have := HG5.out.size; omega, gtrans HG3.out (gtrans HG5.out HG6.out)⟩
  · go_upto_region 10 with (first
      | (go_at_call 27; (with_reducible refine (HCt.out _ _).mono ?_); rintro e w4 ⟨rfl, hw4⟩; have hw4' := hw4.symm; clear hw4; subst hw4')
      | (go_at_call 26; (with_reducible refine (HTk.out _ _ _ HG2.out HR2.out).mono ?_); rintro e w3 ⟨hg, v3, rfl, hO⟩; have HG3 := hid (gtrans HG2.out hg); have HO3 := hid hO; have HG2' := hid HG2.out.size; clear hO hg)
      | (go_at_call 21; (with_reducible refine HRd.out.mono ?_); rintro e w2 ⟨v2, rfl, hO, hg⟩; have HG2 := hid hg; obtain ⟨fa, fc, hv2⟩ := hO.len; rw [HLn.out] at hv2; subst hv2; have HR2 := hid hO.rd; clear hO hg))
    go_wp2_with (first
      | ((with_reducible refine wpList_box_row (by with_unfolding_all rfl) 76 _ (by with_unfolding_all rfl) (lgc b s z false) (by with_unfolding_all rfl) ?_); intro w6 B6 s6 g6; have HB6 := hid B6; have HG6 := hid g6; clear B6 s6 g6)
      | ((with_reducible refine wpList_build_of (by with_unfolding_all rfl) 76 _ (by with_unfolding_all rfl) [(0, .pointer (some ⟨b, 0, none⟩)), (1, .string s), (2, .int .i64 (z : Int))] (by with_unfolding_all rfl) (lgc b s z false) (Tryd.built76 b s z) ?_))
      | (go_at_call 28; (with_reducible refine (HCl.out _).mono ?_); rintro e w5 ⟨rfl, hg⟩; have HG5 := hid hg; clear hg))
    go_ret3
    exact ⟨_, _, rfl, ((HO3.out.base HG2'.out).keep HG5.out).keep HG6.out, HB6.out, by have := HG3.out.size; have := HG5.out.size; omega, gtrans HG3.out (gtrans HG5.out HG6.out)⟩
set_option maxRecDepth 100000 in
set_option maxHeartbeats 4000000 in
/-- A file with a torn end. -/
theorem open_torn {rs : List (List UInt8)} {t : List UInt8} (hd : DkP w B b A P) (hP : ∀ k, P k → k < w.heap.size) (hT : Tab w) (hs : s.size ≤ 64) (hF : Fil A s rs t) (htn : t ≠ []) (ht3 : unfrE t = 30) (hw : A.wr ≤ 4611686018427387904) :
    Calls Tryd.prog 11 #[.pointer (some ⟨b, 0, none⟩), .string s] w fun e w' => DF w w' P ∧ ∃ P', DkP w' B b (A.cut s (flen rs : Nat)) P' ∧ (∀ k, P' k → k < w'.heap.size) ∧ (∀ k, P' k → P k ∨ w.heap.size ≤ k) ∧
      ((A.cutE s (flen rs : Nat) ≠ 0 ∧ e = .returned (.tuple #[.pointer none, .slice none 0 0, .int .i64 (A.cutE s (flen rs : Nat))])) ∨ (A.cutE s (flen rs : Nat) = 0 ∧ ∃ lb v, e = .returned (.tuple #[.pointer (some ⟨lb, 0, none⟩), v, .int .i64 0]) ∧ OutS w.heap.size 0 w' v rs ∧ Lg w' lb b s (flen rs) false ∧ w.heap.size ≤ lb ∧ ¬ P' lb)) := by
  have HRd := hid (read_p hd s)
  obtain ⟨E, HE⟩ : ∃ x, Hid (A.fndE s = x) := ⟨_, hid rfl⟩
  rw [HE.out] at HRd
  have HE0 : Hid (E = 0) := hid (by rw [← HE.out]; exact (fil_cut hF htn).1)
  obtain ⟨f, HFf⟩ : ∃ x, Hid (A.fndB s = x) := ⟨_, hid rfl⟩
  rw [HFf.out] at HRd
  have hff : f = flat rs ++ t := by rw [← HFf.out, hF.is]
  obtain ⟨n, HLn⟩ : ∃ x, Hid (f.length = x) := ⟨_, hid rfl⟩
  have HTk : Hid (∀ u v (F : Nat → Prop), w.grownBy u none → Rd u F v f → Calls Tryd.prog 26 #[v] u fun e w' => u.grownBy w' none ∧ ∃ v', e = .returned (.tuple #[v', .int .i64 (flen rs : Nat), .int .i64 0]) ∧ OutS u.heap.size 0 w' v' rs) := hid (fun u v F hu hr => by
    refine (take_any u F v f rs t hr hff hF.each (by rw [← HFf.out]; exact fil_len hd.1) (hT.keep hu) hF.num hF.tail).mono fun e w' ⟨q1, q2, _⟩ => ⟨q1, q2 (.inr ht3)⟩)
  have HCl : Hid (∀ u, Calls Tryd.prog 28 #[.string s] u fun e w' => e = .returned (.string s) ∧ u.grownBy w' none) := hid (fun u => clone_any s u (by omega))
  have HKn : Hid (flen rs < n) := hid (by rw [← HLn.out, ← HFf.out]; exact (fil_cut hF htn).2.1)
  have HPw := hid hP
  have HCt : Hid (∀ u, w.grownBy u none → Calls Tryd.prog 27 #[.pointer (some ⟨b, 0, none⟩), .string s, .int .i64 (flen rs : Nat), .int .i64 (n : Nat)] u fun e w' => e = .returned (.int .i64 (A.cutE s (flen rs : Nat))) ∧ DkP w' B b (A.cut s (flen rs : Nat)) (newP P u w') ∧ DF u w' P) := hid (fun u hu => lcut_any (hd.keep hu) _ _ HKn.out hw)
  obtain ⟨z, HZ⟩ : ∃ x, Hid (flen rs = x) := ⟨_, hid rfl⟩
  rw [HZ.out] at HTk HCt ⊢
  obtain ⟨X, HX⟩ : ∃ x, Hid (A.cutE s (z : Nat) = x) := ⟨_, hid rfl⟩
  rw [HX.out] at HCt ⊢
  obtain ⟨A', HA'⟩ : ∃ x, Hid (A.cut s (z : Nat) = x) := ⟨_, hid rfl⟩
  rw [HA'.out] at HCt ⊢
  have hE0 := HE0.out
  subst hE0
  clear hd hP hT hs hF hff HE HFf htn ht3 hw HX HA' HKn
  go_enter Tryd.func11, Tryd.ntmps11
  go_upto_region 8 with (first
    | (go_at_call 27; (with_reducible refine (HCt.out _ HG3.out).mono ?_); rintro e w4 ⟨rfl, hd, hf⟩; have HD4 := hid hd; have HF4 := hid hf; clear hd hf)
    | (go_at_call 26; (with_reducible refine (HTk.out _ _ _ HG2.out HR2.out).mono ?_); rintro e w3 ⟨hg, v3, rfl, hO⟩; have HG3 := hid (gtrans HG2.out hg); have HO3 := hid hO; have HG2' := hid HG2.out.size; clear hO hg)
    | (go_at_call 21; (with_reducible refine HRd.out.mono ?_); rintro e w2 ⟨v2, rfl, hO, hg⟩; have HG2 := hid hg; obtain ⟨fa, fc, hv2⟩ := hO.len; rw [HLn.out] at hv2; subst hv2; have HR2 := hid hO.rd; clear hO hg))
  have HDF : Hid (DF w w4 P) := hid ((DF.of HG3.out).trans HF4.out (fun _ _ q => q))
  have HPf : Hid (∀ k, newP P w3 w4 k → k < w4.heap.size) := hid (fun k hk => by
    rcases hk with hk | hk
    · have := HPw.out k hk; have := HDF.out.size; omega
    · exact hk.2)
  have HPg : Hid (∀ k, newP P w3 w4 k → P k ∨ w.heap.size ≤ k) := hid (fun k hk => by
    rcases hk with hk | hk
    · exact .inl hk
    · right; have := HG3.out.size; omega)
  by_cases hX : X = 0
  · subst hX
    go_wp2_with (first
      | ((with_reducible refine wpList_box_row (by with_unfolding_all rfl) 76 _ (by with_unfolding_all rfl) (lgc b s z false) (by with_unfolding_all rfl) ?_); intro w6 B6 s6 g6; have HB6 := hid B6; have HG6 := hid g6; clear B6 s6 g6)
      | ((with_reducible refine wpList_build_of (by with_unfolding_all rfl) 76 _ (by with_unfolding_all rfl) [(0, .pointer (some ⟨b, 0, none⟩)), (1, .string s), (2, .int .i64 (z : Int))] (by with_unfolding_all rfl) (lgc b s z false) (Tryd.built76 b s z) ?_))
      | (go_at_call 28; (with_reducible refine (HCl.out _).mono ?_); rintro e w5 ⟨rfl, hg⟩; have HG5 := hid hg; clear hg))
    go_ret3
    have HG6' := gtrans HG5.out HG6.out
    refine ⟨HDF.out.trans (DF.of HG6') (fun _ _ q => q), _, HD4.out.keep HG6', fun k hk => Nat.lt_of_lt_of_le (HPf.out k hk) HG6'.size, HPg.out, ⟨_, _, rfl, ?_, HB6.out, ?_, ?_⟩⟩
    · exact ((HO3.out.df HF4.out (fun k hk hp => by have := HPw.out k hp; have := HG2'.out; omega) (fun k hk _ => by omega)).base HG2'.out).keep HG6'
    · have := HDF.out.size; have := HG5.out.size; omega
    · intro hk; have := HPf.out _ hk; have := HG5.out.size; omega
  · go_wp2_with fail
    go_ret3
    exact ⟨HDF.out, _, HD4.out, HPf.out, HPg.out, .inl ⟨hX, rfl⟩⟩
set_option maxRecDepth 100000 in
set_option maxHeartbeats 4000000 in
/-- A damaged file. -/
theorem open_hurt {rs : List (List UInt8)} {t : List UInt8} (hd : DkP w B b A P) (hT : Tab w) (hF : Fil A s rs t) (htn : t ≠ []) (ht3 : unfrE t ≠ 30) :
    Calls Tryd.prog 11 #[.pointer (some ⟨b, 0, none⟩), .string s] w fun e w' => e = .returned (.tuple #[.pointer none, .slice none 0 0, .int .i64 101]) ∧ w.grownBy w' none := by
  have HRd := hid (read_p hd s)
  obtain ⟨E, HE⟩ : ∃ x, Hid (A.fndE s = x) := ⟨_, hid rfl⟩
  rw [HE.out] at HRd
  have HE0 : Hid (E = 0) := hid (by rw [← HE.out]; exact (fil_cut hF htn).1)
  obtain ⟨f, HFf⟩ : ∃ x, Hid (A.fndB s = x) := ⟨_, hid rfl⟩
  rw [HFf.out] at HRd
  have hff : f = flat rs ++ t := by rw [← HFf.out, hF.is]
  obtain ⟨n, HLn⟩ : ∃ x, Hid (f.length = x) := ⟨_, hid rfl⟩
  have HTk : Hid (∀ u v (F : Nat → Prop), w.grownBy u none → Rd u F v f → Calls Tryd.prog 26 #[v] u fun e w' => e = .returned (.tuple #[.slice none 0 0, .int .i64 0, .int .i64 101]) ∧ u.grownBy w' none) := hid (fun u v F hu hr => by
    refine (take_any u F v f rs t hr hff hF.each (by rw [← HFf.out]; exact fil_len hd.1) (hT.keep hu) hF.num hF.tail).mono fun e w' ⟨q1, _, q2⟩ => ⟨q2 (fun h => h.elim htn ht3), q1⟩)
  have hE0 := HE0.out
  subst hE0
  clear hd hT hF hff HE HFf htn ht3
  go_enter Tryd.func11, Tryd.ntmps11
  go_wp2_with (first
    | (go_at_call 26; (with_reducible refine (HTk.out _ _ _ HG2.out HR2.out).mono ?_); rintro e w3 ⟨rfl, hg⟩; have HG3 := hid (gtrans HG2.out hg); clear hg)
    | (go_at_call 21; (with_reducible refine HRd.out.mono ?_); rintro e w2 ⟨v2, rfl, hO, hg⟩; have HG2 := hid hg; obtain ⟨fa, fc, hv2⟩ := hO.len; rw [HLn.out] at hv2; subst hv2; have HR2 := hid hO.rd; clear hO hg))
  go_ret3
  exact ⟨rfl, HG3.out⟩
end Go.Proofs.YtpbiofnncdneoaaDoor
