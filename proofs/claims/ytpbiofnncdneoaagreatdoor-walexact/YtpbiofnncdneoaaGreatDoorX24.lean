/- take tells slices that are apart. -/
import Derived.Test.YtpbiofnncdneoaaGreatDoorX23
namespace Go.Proofs.YtpbiofnncdneoaaGreatDoor
open Go Go.RowKit
open Go.RowKit (wrap32 wrap64)

/-- What holds at the labels of take. -/
def takeJD (w : World) (a : Option Addr) (n c : Nat) (rs : List (List UInt8)) (D0 D2 : Prop) (l : Nat) (a' : Act) (w' : World) : Prop :=
 (l = 1 ∧ ∃ (i k : Nat) (rv x1 u6 u7 u9 u10 u11 u12 u13 u14 u15 u16 u17 u18 u19 u20 u21 u22 u23 u24 u25 u26 u27 u28 u29 u30 u31 u32 u33 u34 : Value), a' = { tmps := #[.slice a n c, x1, .slice none 0 0, .int .i64 0, .int .i64 0, rv, u6, u7, .int .i64 k, u9, u10, u11, u12, u13, u14, u15, u16, u17, u18, u19, u20, u21, u22, u23, u24, u25, u26, u27, u28, u29, u30, u31, u32, u33, u34], defers := [] } ∧ i ≤ rs.length ∧ Hid (flen (rs.take i) = k) ∧ Hid (OutD w.heap.size w'.heap.size w' rv (rs.take i) ∧ w.grownBy w' none)) ∨
 (l = 0 ∧ D0 ∧ ∃ (k : Nat) (rv x1 u6 u7 u9 u10 u11 u12 u13 u14 u15 u16 u17 u18 u19 u20 u21 u22 u23 u24 u25 u26 u27 u28 u29 u30 u31 u32 u33 u34 : Value), a' = { tmps := #[.slice a n c, x1, .slice none 0 0, .int .i64 0, .int .i64 0, rv, u6, u7, .int .i64 k, u9, u10, u11, u12, u13, u14, u15, u16, u17, u18, u19, u20, u21, u22, u23, u24, u25, u26, u27, u28, u29, u30, u31, u32, u33, u34], defers := [] } ∧ Hid (flen rs = k) ∧ Hid (OutD w.heap.size w'.heap.size w' rv rs ∧ w.grownBy w' none)) ∨
 (l = 2 ∧ D2 ∧ ∃ (k : Nat) (rv x1 u6 u7 u9 u10 u11 u12 u13 u14 u15 u16 u17 u18 u19 u20 u21 u22 u23 u24 u25 u26 u27 u28 u29 u30 u31 u32 u33 u34 : Value), a' = { tmps := #[.slice a n c, x1, .slice none 0 0, .int .i64 0, .int .i64 0, rv, u6, u7, .int .i64 k, u9, u10, u11, u12, u13, u14, u15, u16, u17, u18, u19, u20, u21, u22, u23, u24, u25, u26, u27, u28, u29, u30, u31, u32, u33, u34], defers := [] } ∧ Hid (w.grownBy w' none))
set_option maxRecDepth 100000 in
set_option maxHeartbeats 4000000 in
theorem take_D (w : World) (F : Nat → Prop) (v : Value) (f : List UInt8) (rs : List (List UInt8)) (t : List UInt8) (hr : Rd w F v f) (hf : f = flat rs ++ t) (hrs : ∀ r ∈ rs, r.length ≤ 16777216) (hl : f.length ≤ 268435456) (hT : Tab w) (hrl : rs.length ≤ 1000000) (hnz : t ≠ [] → unfrE t ≠ 0) :
  Calls Tryz.prog 47 #[v] w fun e w' => w.grownBy w' none ∧ ((t = [] ∨ unfrE t = 30) → ∃ v', e = .returned (.tuple #[v', .int .i64 (flen rs : Nat), .int .i64 0]) ∧ OutD w.heap.size w'.heap.size w' v' rs) ∧ (¬ (t = [] ∨ unfrE t = 30) → e = .returned (.tuple #[.slice none 0 0, .int .i64 0, .int .i64 101])) := by
 obtain ⟨a, b, off, c, rfl, hc, hnn, ha, hcell⟩ := hr
 obtain ⟨n, HN⟩ : ∃ x, Hid (f.length = x) := ⟨_, hid rfl⟩
 rw [HN.out] at hc ⊢
 have HA := hid ha
 have HC := hid hcell
 have HF := hid hf
 have HRs := hid hrs
 have HT : Hid (∀ u, w.grownBy u none → Tab u) := hid (fun u hu => hT.keep hu)
 have HL : Hid (n ≤ 268435456 ∧ rs.length ≤ 1000000) := hid ⟨by rw [← HN.out]; exact hl, hrl⟩
 have HNz := hid hnz
 have HLn : Hid (flen rs + t.length = n) := hid (by rw [← HN.out, hf, List.length_append]; rfl)
 obtain ⟨D, hD⟩ : ∃ D : Prop, (t = [] ∨ unfrE t = 30) = D := ⟨_, rfl⟩
 have HD := hid hD
 rw [hD]
 clear ha hcell hf hrs hT hl hrl hnz hD
 go_enter Tryz.func47, Tryz.ntmps47
 go_wp2
 refine wp_scope_from 1 (takeJD w a n c rs D (¬ D)) (fun l a' _ => if l = 1 then n + 1 - (intOf (a'.tmps.getD 8 undef)).toNat else 0) rfl ?first ?pass0 ?pass
 case first =>
  intro hy
  go_wp2
  go_step3
  simp only [Exit.then]
  exact (‹∀ a w, Code.wp _ _ _ a w → _› : ∀ a w, Code.wp Tryz.prog _ _ a w → _) _ _ (hy _ _ (.inl ⟨rfl, 0, 0, _, _, _, _, _, _, _, _, _, _, _, _, _, _, _, _, _, _, _, _, _, _, _, _, _, _, _, _, _, _, rfl, Nat.zero_le _, hid rfl, hid ⟨OutD.nil _ _ _, grefl _ _⟩⟩))
 case pass0 =>
  rintro a' w' (⟨-, i, k, rv, x1, u6, u7, u9, u10, u11, u12, u13, u14, u15, u16, u17, u18, u19, u20, u21, u22, u23, u24, u25, u26, u27, u28, u29, u30, u31, u32, u33, u34, rfl, hi, HK, HS⟩ | ⟨h, -⟩ | ⟨h, -⟩)
  ·by_cases hlt : i < rs.length
   ·as_aux_lemma =>
    obtain ⟨z, hz⟩ : ∃ z, rs[i] = z := ⟨_, rfl⟩
    have HZ := hid hz
    have HZl : Hid (z.length ≤ 16777216) := hid (by rw [← hz]; exact HRs.out _ (List.getElem_mem _))
    obtain ⟨s, HSf⟩ : ∃ s, Hid (f = flat (rs.take i) ++ (frameL z ++ s)) := ⟨flat (rs.drop (i + 1)) ++ t, hid (by rw [HF.out, flat_split hlt, hz]; simp [List.append_assoc])⟩
    have hfl : (flat (rs.take i)).length = k := HK.out
    have HDr : Hid (f.drop k = frameL z ++ s) := hid (by rw [HSf.out, ← hfl, List.drop_left])
    have HLe : Hid (k + (z.length + 13) + s.length = n) := hid (by rw [← HN.out, HSf.out, ← hfl]; simp [frameL_length]; omega)
    have hkn : k < n := by have := HLe.out; omega
    have hkn' : ¬ ((k : Int) = (n : Int)) := by omega
    have hk0 : ¬ (n < k) := by omega
    have hkc : ¬ (c - k = 0) := by omega
    obtain ⟨rfl, hb1, hb2⟩ := HA.out (by rw [HN.out]; omega)
    have HRd : Hid (Rd w F (.slice (some ⟨b, off + k, none⟩) (n - k) (c - k)) (frameL z ++ s)) := hid (by
     have q := Rd.part HA.out HC.out k (n - k) (c - k) (by rw [HN.out]; omega) (by omega) (by omega)
     rw [List.take_of_length_le (by rw [List.length_drop, HN.out]; omega), HDr.out] at q
     exact q)
    have hu := unfr_frame z s HZl.out
    have HUn : Hid (∀ u, w.grownBy u none → Calls Tryz.prog 102 #[.slice (some ⟨b, off + k, none⟩) (n - k) (c - k)] u fun e w' => ∃ v', e = .returned (.tuple #[v', .int .i64 ((z.length + 13 : Nat) : Int), .int .i64 0]) ∧ Out u.heap.size w' v' z ∧ u.grownBy w' none) := hid (fun u hg => by
     have q := unframe_any (frameL z ++ s) F _ u (by simp [frameL_length]; have := HLe.out; have := HL.out.1; omega) (HRd.out.keep hg) (HT.out u hg)
     unfold unfB at q
     rw [hu.1, hu.2.1, hu.2.2] at q
     exact q)
    obtain ⟨zz, hzz⟩ : ∃ x : Nat, z.length + 13 = x := ⟨_, rfl⟩
    rw [hzz] at HUn
    have HZz : Hid (z.length + 13 = zz) := hid hzz
    have hk1 : k ≤ 268435456 := by have := HLe.out; have := HL.out.1; omega
    have hz1 : zz ≤ 268435456 := by have := HLe.out; have := HL.out.1; omega
    clear hz hfl hu hzz hnn
    go_upto_region 9 with (go_at_call 102; (with_reducible refine (HUn.out _ HS.out.2).mono ?_); rintro e w2 ⟨v2, rfl, hO, hg⟩; have HO2 := hid hO; have HG2 := hid hg; obtain ⟨va, vc, hv2⟩ := hO.len; clear hO hg)
    obtain ⟨zl, hzl⟩ : ∃ x, z.length = x := ⟨_, rfl⟩
    rw [hzl] at hv2 ⊢
    subst hv2
    have HOw : Hid (∀ q, rv.ownBlock = some q → w.heap.size ≤ q) := hid (fun q hq => by obtain ⟨xs, h1, -, -⟩ := HS.out.1.ex; exact own_low h1 q hq)
    have HB2 := hid (Blk.new w2 [Value.slice va zl vc] 74)
    have HG2' := hid (gtrans HS.out.2 HG2.out)
    have HOS : Hid (OutD w.heap.size w'.heap.size (w2.alloc (.cells #[Value.slice va zl vc] 74)) rv (rs.take i)) := hid ((HS.out.1.keep HG2.out).keep (galloc _ _ _))
    have HRB : Hid (Out w'.heap.size (w2.alloc (.cells #[Value.slice va zl vc] 74)) (.slice va zl vc) z) := hid (HO2.out.keep (galloc _ _ _))
    have HSz : Hid (w.heap.size ≤ (w2.alloc (.cells #[Value.slice va zl vc] 74)).heap.size) := hid (gtrans HG2'.out (galloc _ _ _)).size
    have HSw : Hid (w.heap.size ≤ w'.heap.size) := hid HS.out.2.size
    have HTk : Hid ((rs.take i).length ≤ 1000000) := hid (by rw [List.length_take]; have := HL.out.2; omega)
    go_wp2_with (at_builtin; refine wpList_append_rowD rfl _ _ rfl w.heap.size w'.heap.size _ (rs.take i) _ z HOS.out rfl HB2.out HRB.out HTk.out HSz.out HSw.out ?_; intro v4 w4 hO4 hg4 _; have HO4 := hid hO4; have HG4 := hid hg4; clear hO4 hg4)
    go_step3
    have HGn : Hid (w.grownBy w4 none) := hid ((gtrans HG2'.out (galloc _ _ none)).andThen HG4.out (fun q hq => .inl (HOw.out q hq)))
    have hsum : (k : Int) + (zz : Int) = ((k + zz : Nat) : Int) := by omega
    rw [hsum]
    refine And.intro (show takeJD w _ n c rs D (¬ D) 1 _ _ from .inl ⟨rfl, i + 1, k + zz, v4, x1, _, _, _, _, _, _, _, _, _, _, _, _, _, _, _, _, _, _, _, _, _, _, _, _, _, _, _, _, rfl, by omega, hid ?_, hid ⟨?_, HGn.out⟩⟩) ?_
    ·rw [flen_at hlt, HK.out, HZ.out, HZz.out]
    ·rw [List.take_succ_eq_append_getElem hlt, HZ.out]; exact HO4.out
    ·simp [intOf]; have := HZz.out; omega
   ·as_aux_lemma =>
    have hie : i = rs.length := by omega
    subst hie
    rw [List.take_length] at HK HS
    have HD' := HD
    by_cases ht0 : t = []
    ·have hkn : k = n := by have := HLn.out; rw [ht0] at this; have := HK.out; simp at *; omega
     have hkn' : (k : Int) = (n : Int) := by omega
     have hD : D := by rw [← HD.out]; exact .inl ht0
     clear ht0 HD HD'
     subst hkn
     clear hkn'
     go_wp2
     go_step3
     refine And.intro (show takeJD w _ _ c rs D (¬ D) 0 _ _ from .inr (.inl ⟨rfl, hD, _, rv, x1, _, _, _, _, _, _, _, _, _, _, _, _, _, _, _, _, _, _, _, _, _, _, _, _, _, _, _, _, rfl, HK, hid HS.out⟩)) ?_
     simp [intOf]
    ·have htl : 0 < t.length := List.length_pos_iff.2 ht0
     have hkn : k < n := by have := HLn.out; have := HK.out; omega
     have hkn' : ¬ ((k : Int) = (n : Int)) := by omega
     have hk0 : ¬ (n < k) := by omega
     have hkc : ¬ (c - k = 0) := by omega
     obtain ⟨rfl, hb1, hb2⟩ := HA.out (by rw [HN.out]; omega)
     have HDr : Hid (f.drop k = t) := hid (by rw [HF.out, ← HK.out]; exact List.drop_left ..)
     have HRd : Hid (Rd w F (.slice (some ⟨b, off + k, none⟩) (n - k) (c - k)) t) := hid (by
      have q := Rd.part HA.out HC.out k (n - k) (c - k) (by rw [HN.out]; omega) (by omega) (by omega)
      rw [List.take_of_length_le (by rw [List.length_drop, HN.out]; omega), HDr.out] at q
      exact q)
     obtain ⟨E, hE⟩ : ∃ x, unfrE t = x := ⟨_, rfl⟩
     have hnz : E ≠ 0 := by rw [← hE]; exact HNz.out ht0
     have HUn : Hid (∀ u, w.grownBy u none → Calls Tryz.prog 102 #[.slice (some ⟨b, off + k, none⟩) (n - k) (c - k)] u fun e w' => ∃ v', e = .returned (.tuple #[v', .int .i64 0, .int .i64 E]) ∧ u.grownBy w' none) := hid (fun u hg => by
      have q := unframe_any t F _ u (by have := HLn.out; have := HL.out.1; omega) (HRd.out.keep hg) (HT.out u hg)
      rw [hE, if_neg hnz] at q
      exact q.mono fun e w' ⟨v', q1, _, q3⟩ => ⟨v', q1, q3⟩)
     have HDE : Hid (D ↔ E = 30) := hid (by rw [← HD.out, hE]; exact ⟨fun h => h.resolve_left ht0, .inr⟩)
     clear HD HD' hE htl hnn ht0
     by_cases hE3 : E = 30
     ·have hD : D := HDE.out.2 hE3
      subst hE3
      go_wp2_with (go_at_call 102; (with_reducible refine (HUn.out _ HS.out.2).mono ?_); rintro e w2 ⟨v2, rfl, hg⟩; have HG2 := hid hg; clear hg)
      go_step3
      refine And.intro (show takeJD w _ _ c rs D (¬ D) 0 _ _ from .inr (.inl ⟨rfl, hD, _, rv, x1, _, _, _, _, _, _, _, _, _, _, _, _, _, _, _, _, _, _, _, _, _, _, _, _, _, _, _, _, rfl, HK, hid ⟨(HS.out.1.keep HG2.out).up HG2.out.size, gtrans HS.out.2 HG2.out⟩⟩)) ?_
      simp [intOf]; have := HK.out; omega
     ·have hD : ¬ D := fun q => hE3 (HDE.out.1 q)
      go_wp2_with (go_at_call 102; (with_reducible refine (HUn.out _ HS.out.2).mono ?_); rintro e w2 ⟨v2, rfl, hg⟩; have HG2 := hid hg; clear hg)
      go_step3
      refine And.intro (show takeJD w _ _ c rs D (¬ D) 2 _ _ from .inr (.inr ⟨rfl, hD, k, rv, x1, _, _, _, _, _, _, _, _, _, _, _, _, _, _, _, _, _, _, _, _, _, _, _, _, _, _, _, _, rfl, hid (gtrans HS.out.2 HG2.out)⟩)) ?_
      simp [intOf]; omega
  ·cases h
  ·cases h
 case pass =>
  rintro l a' w' hne (⟨rfl, -⟩ | ⟨rfl, hD0, k, rv, x1, u6, u7, u9, u10, u11, u12, u13, u14, u15, u16, u17, u18, u19, u20, u21, u22, u23, u24, u25, u26, u27, u28, u29, u30, u31, u32, u33, u34, rfl, HK, HS⟩ | ⟨rfl, hD2, k, rv, x1, u6, u7, u9, u10, u11, u12, u13, u14, u15, u16, u17, u18, u19, u20, u21, u22, u23, u24, u25, u26, u27, u28, u29, u30, u31, u32, u33, u34, rfl, HS⟩)
  ·exact absurd rfl hne
  ·refine ⟨_, rfl, ?_⟩
   go_wp2
   refine jumps_ret ?_
   go_ret3
   exact ⟨HS.out.2, fun _ => ⟨_, by rw [HK.out]; rfl, HS.out.1⟩, fun h => absurd hD0 h⟩
  ·refine ⟨_, rfl, ?_⟩
   go_wp2
   refine jumps_ret ?_
   go_ret3
   exact ⟨HS.out, fun h => absurd h hD2, fun _ => rfl⟩
end Go.Proofs.YtpbiofnncdneoaaGreatDoor

namespace Go.Proofs.YtpbiofnncdneoaaGreatDoor
open Go Go.RowKit Go.MapKept Go.MuLone
open Go.RowKit (wrap32 wrap64)

variable {w : World} {B b lb : Nat} {A : Ab} {P : Nat → Prop} {s : ByteArray}
theorem OutD.df {B H : Nat} {w w' : World} {v : Value} {ls : List (List UInt8)} {Q : Nat → Prop} (h : OutD B H w v ls) (hd : DF w w' Q) (hq : ∀ k, B ≤ k → ¬ Q k) : OutD B H w' v ls := by
 obtain ⟨vs, h1, h2, h3⟩ := h.ex
 exact ⟨vs, own_df h1 hd (fun k hk => hq k (own_low h1 k hk)), h2.mono (fun v l q => own_df q hd (fun k hk => hq k (own_low q k hk))), h3⟩
set_option maxRecDepth 100000 in
set_option maxHeartbeats 4000000 in
/-- A file of whole frames. -/
theorem open_wholeD {rs : List (List UInt8)} (hd : DkP w B b A P) (hT : Tab w) (hs : s.size ≤ 64) (hF : Fil A s rs []) :
  Calls Tryz.prog 15 #[.pointer (some ⟨b, 0, none⟩), .string s] w fun e w' => ∃ lb v, e = .returned (.tuple #[.pointer (some ⟨lb, 0, none⟩), v, .int .i64 0]) ∧ OutD w.heap.size lb w' v rs ∧ Lg w' lb b s (flen rs) false ∧ w.heap.size ≤ lb ∧ w.grownBy w' none := by
 have HRd := hid (read_p hd s)
 obtain ⟨E, HE⟩ : ∃ x, Hid (A.fndE s = x) := ⟨_, hid rfl⟩
 rw [HE.out] at HRd
 have HRf : Hid (E = 0 ∨ E = 92) := hid (by rw [← HE.out]; exact hF.ref)
 obtain ⟨f, HFf⟩ : ∃ x, Hid (A.fndB s = x) := ⟨_, hid rfl⟩
 rw [HFf.out] at HRd
 have hff : f = flat rs ++ [] := by rw [← HFf.out, hF.is]
 have HLn : Hid (f.length = flen rs) := hid (by rw [hff, List.append_nil]; rfl)
 have HTk : Hid (∀ u v (F : Nat → Prop), w.grownBy u none → Rd u F v f → Calls Tryz.prog 47 #[v] u fun e w' => u.grownBy w' none ∧ ∃ v', e = .returned (.tuple #[v', .int .i64 (flen rs : Nat), .int .i64 0]) ∧ OutD u.heap.size w'.heap.size w' v' rs) := hid (fun u v F hu hr => by
  refine (take_D u F v f rs [] hr hff hF.each (by rw [← HFf.out]; exact fil_len hd.1) (hT.keep hu) hF.num hF.tail).mono fun e w' ⟨q1, q2, _⟩ => ⟨q1, q2 (.inl rfl)⟩)
 have HCl : Hid (∀ u, Calls Tryz.prog 49 #[.string s] u fun e w' => e = .returned (.string s) ∧ u.grownBy w' none) := hid (fun u => clone_any s u (by omega))
 have HCt : Hid (∀ (k : Nat) u, Calls Tryz.prog 48 #[.pointer (some ⟨b, 0, none⟩), .string s, .int .i64 (k : Int), .int .i64 (k : Int)] u fun e w' => e = .returned (.int .i64 0) ∧ w' = u) := hid (fun k u => lcut_same _ k)
 obtain ⟨z, HZ⟩ : ∃ x, Hid (flen rs = x) := ⟨_, hid rfl⟩
 rw [HZ.out] at HTk HLn ⊢
 clear hd hT hs hF hff HE HFf
 go_enter Tryz.func15, Tryz.ntmps15
 rcases HRf.out with rfl | rfl
 ·go_upto_region 10 with (first
   | (go_at_call 48; (with_reducible refine (HCt.out _ _).mono ?_); rintro e w4 ⟨rfl, hw4⟩; have hw4' := hw4.symm; clear hw4; subst hw4')
   | (go_at_call 47; (with_reducible refine (HTk.out _ _ _ HG2.out HR2.out).mono ?_); rintro e w3 ⟨hg, v3, rfl, hO⟩; have HG3 := hid (gtrans HG2.out hg); have HO3 := hid hO; have HG2' := hid HG2.out.size; clear hO hg)
   | (go_at_call 46; (with_reducible refine HRd.out.mono ?_); rintro e w2 ⟨v2, rfl, hO, hg⟩; have HG2 := hid hg; obtain ⟨fa, fc, hv2⟩ := hO.len; rw [HLn.out] at hv2; subst hv2; have HR2 := hid hO.rd; clear hO hg))
  go_wp2_with (first
   | ((with_reducible refine wpList_box_row (by with_unfolding_all rfl) 128 _ (by with_unfolding_all rfl) (lgc b s z false) (by with_unfolding_all rfl) ?_); intro w6 B6 s6 g6; have HB6 := hid B6; have HG6 := hid g6; clear B6 s6 g6)
   | ((with_reducible refine wpList_build_of (by with_unfolding_all rfl) 128 _ (by with_unfolding_all rfl) [(0, .pointer (some ⟨b, 0, none⟩)), (1, .string s), (2, .int .i64 (z : Int))] (by with_unfolding_all rfl) (lgc b s z false) (Tryz.built76 b s z) ?_))
   | (go_at_call 49; (with_reducible refine (HCl.out _).mono ?_); rintro e w5 ⟨rfl, hg⟩; have HG5 := hid hg; clear hg))
  go_ret3
  exact ⟨_, _, rfl, (((HO3.out.base HG2'.out).keep HG5.out).keep HG6.out).up HG5.out.size, HB6.out, by have := HG3.out.size; have := HG5.out.size; omega, gtrans HG3.out (gtrans HG5.out HG6.out)⟩
 ·go_upto_region 10 with (first
   | (go_at_call 48; (with_reducible refine (HCt.out _ _).mono ?_); rintro e w4 ⟨rfl, hw4⟩; have hw4' := hw4.symm; clear hw4; subst hw4')
   | (go_at_call 47; (with_reducible refine (HTk.out _ _ _ HG2.out HR2.out).mono ?_); rintro e w3 ⟨hg, v3, rfl, hO⟩; have HG3 := hid (gtrans HG2.out hg); have HO3 := hid hO; have HG2' := hid HG2.out.size; clear hO hg)
   | (go_at_call 46; (with_reducible refine HRd.out.mono ?_); rintro e w2 ⟨v2, rfl, hO, hg⟩; have HG2 := hid hg; obtain ⟨fa, fc, hv2⟩ := hO.len; rw [HLn.out] at hv2; subst hv2; have HR2 := hid hO.rd; clear hO hg))
  go_wp2_with (first
   | ((with_reducible refine wpList_box_row (by with_unfolding_all rfl) 128 _ (by with_unfolding_all rfl) (lgc b s z false) (by with_unfolding_all rfl) ?_); intro w6 B6 s6 g6; have HB6 := hid B6; have HG6 := hid g6; clear B6 s6 g6)
   | ((with_reducible refine wpList_build_of (by with_unfolding_all rfl) 128 _ (by with_unfolding_all rfl) [(0, .pointer (some ⟨b, 0, none⟩)), (1, .string s), (2, .int .i64 (z : Int))] (by with_unfolding_all rfl) (lgc b s z false) (Tryz.built76 b s z) ?_))
   | (go_at_call 49; (with_reducible refine (HCl.out _).mono ?_); rintro e w5 ⟨rfl, hg⟩; have HG5 := hid hg; clear hg))
  go_ret3
  exact ⟨_, _, rfl, (((HO3.out.base HG2'.out).keep HG5.out).keep HG6.out).up HG5.out.size, HB6.out, by have := HG3.out.size; have := HG5.out.size; omega, gtrans HG3.out (gtrans HG5.out HG6.out)⟩
set_option maxRecDepth 100000 in
set_option maxHeartbeats 4000000 in
/-- A file with a torn end. -/
theorem open_tornD {rs : List (List UInt8)} {t : List UInt8} (hd : DkP w B b A P) (hP : ∀ k, P k → k < w.heap.size) (hT : Tab w) (hs : s.size ≤ 64) (hF : Fil A s rs t) (htn : t ≠ []) (ht3 : unfrE t = 30) (hw : A.wr ≤ 4611686018427387904) :
  Calls Tryz.prog 15 #[.pointer (some ⟨b, 0, none⟩), .string s] w fun e w' => DF w w' P ∧ ∃ P', DkP w' B b (A.cut s (flen rs : Nat)) P' ∧ (∀ k, P' k → k < w'.heap.size) ∧ ∃ H, (∀ k, P' k → P k ∨ H ≤ k) ∧ w.heap.size ≤ H ∧
   ((A.cutE s (flen rs : Nat) ≠ 0 ∧ e = .returned (.tuple #[.pointer none, .slice none 0 0, .int .i64 (A.cutE s (flen rs : Nat))])) ∨ (A.cutE s (flen rs : Nat) = 0 ∧ ∃ lb v, e = .returned (.tuple #[.pointer (some ⟨lb, 0, none⟩), v, .int .i64 0]) ∧ OutD w.heap.size H w' v rs ∧ Lg w' lb b s (flen rs) false ∧ H ≤ lb ∧ ¬ P' lb)) := by
 have HRd := hid (read_p hd s)
 obtain ⟨E, HE⟩ : ∃ x, Hid (A.fndE s = x) := ⟨_, hid rfl⟩
 rw [HE.out] at HRd
 have HE0 : Hid (E = 0) := hid (by rw [← HE.out]; exact (fil_cut hF htn).1)
 obtain ⟨f, HFf⟩ : ∃ x, Hid (A.fndB s = x) := ⟨_, hid rfl⟩
 rw [HFf.out] at HRd
 have hff : f = flat rs ++ t := by rw [← HFf.out, hF.is]
 obtain ⟨n, HLn⟩ : ∃ x, Hid (f.length = x) := ⟨_, hid rfl⟩
 have HTk : Hid (∀ u v (F : Nat → Prop), w.grownBy u none → Rd u F v f → Calls Tryz.prog 47 #[v] u fun e w' => u.grownBy w' none ∧ ∃ v', e = .returned (.tuple #[v', .int .i64 (flen rs : Nat), .int .i64 0]) ∧ OutD u.heap.size w'.heap.size w' v' rs) := hid (fun u v F hu hr => by
  refine (take_D u F v f rs t hr hff hF.each (by rw [← HFf.out]; exact fil_len hd.1) (hT.keep hu) hF.num hF.tail).mono fun e w' ⟨q1, q2, _⟩ => ⟨q1, q2 (.inr ht3)⟩)
 have HCl : Hid (∀ u, Calls Tryz.prog 49 #[.string s] u fun e w' => e = .returned (.string s) ∧ u.grownBy w' none) := hid (fun u => clone_any s u (by omega))
 have HKn : Hid (flen rs < n) := hid (by rw [← HLn.out, ← HFf.out]; exact (fil_cut hF htn).2.1)
 have HPw := hid hP
 have HCt : Hid (∀ u, w.grownBy u none → Calls Tryz.prog 48 #[.pointer (some ⟨b, 0, none⟩), .string s, .int .i64 (flen rs : Nat), .int .i64 (n : Nat)] u fun e w' => e = .returned (.int .i64 (A.cutE s (flen rs : Nat))) ∧ DkP w' B b (A.cut s (flen rs : Nat)) (newP P u w') ∧ DF u w' P) := hid (fun u hu => lcut_any (hd.keep hu) _ _ HKn.out hw)
 obtain ⟨z, HZ⟩ : ∃ x, Hid (flen rs = x) := ⟨_, hid rfl⟩
 rw [HZ.out] at HTk HCt ⊢
 obtain ⟨X, HX⟩ : ∃ x, Hid (A.cutE s (z : Nat) = x) := ⟨_, hid rfl⟩
 rw [HX.out] at HCt ⊢
 obtain ⟨A', HA'⟩ : ∃ x, Hid (A.cut s (z : Nat) = x) := ⟨_, hid rfl⟩
 rw [HA'.out] at HCt ⊢
 have hE0 := HE0.out
 subst hE0
 clear hd hP hT hs hF hff HE HFf htn ht3 hw HX HA' HKn
 go_enter Tryz.func15, Tryz.ntmps15
 go_upto_region 8 with (first
  | (go_at_call 48; (with_reducible refine (HCt.out _ HG3.out).mono ?_); rintro e w4 ⟨rfl, hd, hf⟩; have HD4 := hid hd; have HF4 := hid hf; clear hd hf)
  | (go_at_call 47; (with_reducible refine (HTk.out _ _ _ HG2.out HR2.out).mono ?_); rintro e w3 ⟨hg, v3, rfl, hO⟩; have HG3 := hid (gtrans HG2.out hg); have HO3 := hid hO; have HG2' := hid HG2.out.size; clear hO hg)
  | (go_at_call 46; (with_reducible refine HRd.out.mono ?_); rintro e w2 ⟨v2, rfl, hO, hg⟩; have HG2 := hid hg; obtain ⟨fa, fc, hv2⟩ := hO.len; rw [HLn.out] at hv2; subst hv2; have HR2 := hid hO.rd; clear hO hg))
 have HDF : Hid (DF w w4 P) := hid ((DF.of HG3.out).trans HF4.out (fun _ _ q => q))
 have HPf : Hid (∀ k, newP P w3 w4 k → k < w4.heap.size) := hid (fun k hk => by
  rcases hk with hk | hk
  ·have := HPw.out k hk; have := HDF.out.size; omega
  ·exact hk.2)
 have HPg : Hid (∀ k, newP P w3 w4 k → P k ∨ w3.heap.size ≤ k) := hid (fun k hk => by
  rcases hk with hk | hk
  ·exact .inl hk
  ·right; omega)
 have HSz3 : Hid (w.heap.size ≤ w3.heap.size ∧ w3.heap.size ≤ w4.heap.size) := hid ⟨HG3.out.size, HF4.out.size⟩
 by_cases hX : X = 0
 ·subst hX
  go_wp2_with (first
   | ((with_reducible refine wpList_box_row (by with_unfolding_all rfl) 128 _ (by with_unfolding_all rfl) (lgc b s z false) (by with_unfolding_all rfl) ?_); intro w6 B6 s6 g6; have HB6 := hid B6; have HG6 := hid g6; clear B6 s6 g6)
   | ((with_reducible refine wpList_build_of (by with_unfolding_all rfl) 128 _ (by with_unfolding_all rfl) [(0, .pointer (some ⟨b, 0, none⟩)), (1, .string s), (2, .int .i64 (z : Int))] (by with_unfolding_all rfl) (lgc b s z false) (Tryz.built76 b s z) ?_))
   | (go_at_call 49; (with_reducible refine (HCl.out _).mono ?_); rintro e w5 ⟨rfl, hg⟩; have HG5 := hid hg; clear hg))
  go_ret3
  have HG6' := gtrans HG5.out HG6.out
  refine ⟨HDF.out.trans (DF.of HG6') (fun _ _ q => q), _, HD4.out.keep HG6', fun k hk => Nat.lt_of_lt_of_le (HPf.out k hk) HG6'.size, _, HPg.out, HSz3.out.1, ⟨_, _, rfl, ?_, HB6.out, ?_, ?_⟩⟩
  ·exact ((HO3.out.df HF4.out (fun k hk hp => by have := HPw.out k hp; have := HG2'.out; omega)).base HG2'.out).keep HG6'
  ·have := HSz3.out.2; have := HG5.out.size; omega
  ·intro hk; have := HPf.out _ hk; have := HG5.out.size; omega
 ·go_wp2_with fail
  go_ret3
  exact ⟨HDF.out, _, HD4.out, HPf.out, _, HPg.out, HSz3.out.1, .inl ⟨hX, rfl⟩⟩
set_option maxRecDepth 100000 in
set_option maxHeartbeats 4000000 in
/-- A file that is not to be read. -/
theorem open_ref (hd : DkP w B b A P) (h0 : A.fndE s ≠ 0) (h9 : A.fndE s ≠ 92) :
  Calls Tryz.prog 15 #[.pointer (some ⟨b, 0, none⟩), .string s] w fun e w' => e = .returned (.tuple #[.pointer none, .slice none 0 0, .int .i64 (A.fndE s)]) ∧ w.grownBy w' none := by
 have HRd := hid (read_p hd s)
 obtain ⟨E, HE⟩ : ∃ x, Hid (A.fndE s = x) := ⟨_, hid rfl⟩
 rw [HE.out] at HRd h0 h9 ⊢
 have e1 : (E != 0) = true := bne_iff_ne.2 h0
 have e2 : (E != 92) = true := bne_iff_ne.2 h9
 clear hd HE h0 h9
 go_enter Tryz.func15, Tryz.ntmps15
 go_wp2_with (go_at_call 46; (with_reducible refine HRd.out.mono ?_); rintro e w2 ⟨v2, rfl, hO, hg⟩; have HG2 := hid hg; clear hO hg)
 go_ret3
 exact ⟨rfl, HG2.out⟩
end Go.Proofs.YtpbiofnncdneoaaGreatDoor

namespace Go.Proofs.YtpbiofnncdneoaaGreatDoor
open Go Go.RowKit
open Go.RowKit (wrap32 wrap64)

set_option maxRecDepth 100000 in
set_option maxHeartbeats 4000000 in
theorem recR_D (w : World) (F : Nat → Prop) (v : Value) (f : List UInt8) (rs : List (List UInt8)) (t : List UInt8) (hr : Rd w F v f) (hf : f = flat rs ++ t) (hrs : ∀ r ∈ rs, r.length ≤ 16777216) (hl : f.length ≤ 268435456) (hrl : rs.length ≤ 1000000) (hnz : t ≠ [] → unfrE t ≠ 0) :
  Calls Tryz.prog 55 #[v] w fun e w' => w.grownBy w' none ∧ ((t = [] ∨ unfrE t = 30) → ∃ v', e = .returned (.tuple #[v', .int .i64 (flen rs : Nat), .int .i64 0]) ∧ OutD w.heap.size w'.heap.size w' v' rs) ∧ (¬ (t = [] ∨ unfrE t = 30) → e = .returned (.tuple #[.slice none 0 0, .int .i64 0, .int .i64 101])) := by
 obtain ⟨a, b, off, c, rfl, hc, hnn, ha, hcell⟩ := hr
 obtain ⟨n, HN⟩ : ∃ x, Hid (f.length = x) := ⟨_, hid rfl⟩
 rw [HN.out] at hc ⊢
 have HA := hid ha
 have HC := hid hcell
 have HF := hid hf
 have HRs := hid hrs
 have HL : Hid (n ≤ 268435456 ∧ rs.length ≤ 1000000) := hid ⟨by rw [← HN.out]; exact hl, hrl⟩
 have HNz := hid hnz
 have HLn : Hid (flen rs + t.length = n) := hid (by rw [← HN.out, hf, List.length_append]; rfl)
 obtain ⟨D, hD⟩ : ∃ D : Prop, (t = [] ∨ unfrE t = 30) = D := ⟨_, rfl⟩
 have HD := hid hD
 rw [hD]
 clear ha hcell hf hrs hl hrl hnz hD
 go_enter Tryz.func55, Tryz.ntmps55
 go_wp2_with fail
 go_loopw [5, 6] (fun rv kv wr => ∃ i k : Nat, kv = .int .i64 k ∧ i ≤ rs.length ∧ Hid (flen (rs.take i) = k) ∧ Hid (OutD w.heap.size wr.heap.size wr rv (rs.take i) ∧ w.grownBy wr none)) (fun _ kv _ => n + 1 - (intOf kv).toNat)
 case atStart => exact ⟨0, 0, rfl, Nat.zero_le _, hid rfl, hid ⟨OutD.nil _ _ _, grefl _ _⟩⟩
 case round =>
  obtain ⟨i, k, rfl, hi, HK, HS⟩ := hrel
  by_cases hlt : i < rs.length
  ·obtain ⟨z, hz⟩ : ∃ z, rs[i] = z := ⟨_, rfl⟩
   have HZ := hid hz
   have HZl : Hid (z.length ≤ 16777216) := hid (by rw [← hz]; exact HRs.out _ (List.getElem_mem _))
   obtain ⟨s, HSf⟩ : ∃ s, Hid (f = flat (rs.take i) ++ (frameL z ++ s)) := ⟨flat (rs.drop (i + 1)) ++ t, hid (by rw [HF.out, flat_split hlt, hz]; simp [List.append_assoc])⟩
   have hfl : (flat (rs.take i)).length = k := HK.out
   have HDr : Hid (f.drop k = frameL z ++ s) := hid (by rw [HSf.out, ← hfl, List.drop_left])
   have HLe : Hid (k + (z.length + 13) + s.length = n) := hid (by rw [← HN.out, HSf.out, ← hfl]; simp [frameL_length]; omega)
   have hkn : k < n := by have := HLe.out; omega
   have hkn' : (k : Int) < (n : Int) := by omega
   have hk0 : ¬ (n < k) := by omega
   have hkc : ¬ (c - k = 0) := by omega
   obtain ⟨rfl, hb1, hb2⟩ := HA.out (by rw [HN.out]; omega)
   have HRd : Hid (Rd w F (.slice (some ⟨b, off + k, none⟩) (n - k) (c - k)) (frameL z ++ s)) := hid (by
    have q := Rd.part HA.out HC.out k (n - k) (c - k) (by rw [HN.out]; omega) (by omega) (by omega)
    rw [List.take_of_length_le (by rw [List.length_drop, HN.out]; omega), HDr.out] at q
    exact q)
   have hu := unfr_frame z s HZl.out
   have HUn : Hid (∀ u, w.grownBy u none → Calls Tryz.prog 115 #[.slice (some ⟨b, off + k, none⟩) (n - k) (c - k)] u fun e w' => ∃ v', e = .returned (.tuple #[v', .int .i64 ((z.length + 13 : Nat) : Int), .int .i64 0]) ∧ Out u.heap.size w' v' z ∧ u.grownBy w' none) := hid (fun u hg => by
    have q := unframeR_any (frameL z ++ s) F _ u (by simp [frameL_length]; have := HLe.out; have := HL.out.1; omega) (HRd.out.keep hg)
    unfold unfB at q
    rw [hu.1, hu.2.1, hu.2.2] at q
    exact q)
   obtain ⟨zz, hzz⟩ : ∃ x : Nat, z.length + 13 = x := ⟨_, rfl⟩
   rw [hzz] at HUn
   have HZz : Hid (z.length + 13 = zz) := hid hzz
   have hk1 : k ≤ 268435456 := by have := HLe.out; have := HL.out.1; omega
   have hz1 : zz ≤ 268435456 := by have := HLe.out; have := HL.out.1; omega
   clear hz hfl hu hzz hnn
   go_upto_region 9 with (go_at_call 115; (with_reducible refine (HUn.out _ HS.out.2).mono ?_); rintro e w2 ⟨v2, rfl, hO, hg⟩; have HO2 := hid hO; have HG2 := hid hg; obtain ⟨va, vc, hv2⟩ := hO.len; clear hO hg)
   obtain ⟨zl, hzl⟩ : ∃ x, z.length = x := ⟨_, rfl⟩
   rw [hzl] at hv2 ⊢
   subst hv2
   have HOw : Hid (∀ q, u5.ownBlock = some q → w.heap.size ≤ q) := hid (fun q hq => by obtain ⟨xs, h1, -, -⟩ := HS.out.1.ex; exact own_low h1 q hq)
   have HB2 := hid (Blk.new w2 [Value.slice va zl vc] 74)
   have HG2' := hid (gtrans HS.out.2 HG2.out)
   have HOS : Hid (OutD w.heap.size wr.heap.size (w2.alloc (.cells #[Value.slice va zl vc] 74)) u5 (rs.take i)) := hid ((HS.out.1.keep HG2.out).keep (galloc _ _ _))
   have HRB : Hid (Out wr.heap.size (w2.alloc (.cells #[Value.slice va zl vc] 74)) (.slice va zl vc) z) := hid (HO2.out.keep (galloc _ _ _))
   have HSz : Hid (w.heap.size ≤ (w2.alloc (.cells #[Value.slice va zl vc] 74)).heap.size) := hid (gtrans HG2'.out (galloc _ _ _)).size
   have HSw : Hid (w.heap.size ≤ wr.heap.size) := hid HS.out.2.size
   have HTk : Hid ((rs.take i).length ≤ 1000000) := hid (by rw [List.length_take]; have := HL.out.2; omega)
   go_wp2_with (at_builtin; refine wpList_append_rowD rfl _ _ rfl w.heap.size wr.heap.size _ (rs.take i) _ z HOS.out rfl HB2.out HRB.out HTk.out HSz.out HSw.out ?_; intro v4 w4 hO4 hg4 _; have HO4 := hid hO4; have HG4 := hid hg4; clear hO4 hg4)
   have HGn : Hid (w.grownBy w4 none) := hid ((gtrans HG2'.out (galloc _ _ none)).andThen HG4.out (fun q hq => .inl (HOw.out q hq)))
   have hsum : (k : Int) + (zz : Int) = ((k + zz : Nat) : Int) := by omega
   rw [hsum]
   go_roundw
   ·refine ⟨i + 1, k + zz, rfl, by omega, hid ?_, hid ⟨?_, HGn.out⟩⟩
    ·rw [flen_at hlt, HK.out, HZ.out, HZz.out]
    ·rw [List.take_succ_eq_append_getElem hlt, HZ.out]; exact HO4.out
   ·simp [intOf]; have := HZz.out; omega
  ·have hie : i = rs.length := by omega
   subst hie
   rw [List.take_length] at HK HS
   by_cases ht0 : t = []
   ·have hkn : k = n := by have := HLn.out; rw [ht0] at this; have := HK.out; simp at *; omega
    have hD : D := by rw [← HD.out]; exact .inl ht0
    subst hkn
    go_wp2_with fail
    go_ret3
    exact ⟨HS.out.2, fun _ => ⟨_, by rw [HK.out]; rfl, HS.out.1⟩, fun h => absurd hD h⟩
   ·have htl : 0 < t.length := List.length_pos_iff.2 ht0
    have hkn : k < n := by have := HLn.out; have := HK.out; omega
    have hkn' : (k : Int) < (n : Int) := by omega
    have hk0 : ¬ (n < k) := by omega
    have hkc : ¬ (c - k = 0) := by omega
    obtain ⟨rfl, hb1, hb2⟩ := HA.out (by rw [HN.out]; omega)
    have HDr : Hid (f.drop k = t) := hid (by rw [HF.out, ← HK.out]; exact List.drop_left ..)
    have HRd : Hid (Rd w F (.slice (some ⟨b, off + k, none⟩) (n - k) (c - k)) t) := hid (by
     have q := Rd.part HA.out HC.out k (n - k) (c - k) (by rw [HN.out]; omega) (by omega) (by omega)
     rw [List.take_of_length_le (by rw [List.length_drop, HN.out]; omega), HDr.out] at q
     exact q)
    obtain ⟨E, hE⟩ : ∃ x, unfrE t = x := ⟨_, rfl⟩
    have hnz : E ≠ 0 := by rw [← hE]; exact HNz.out ht0
    have HUn : Hid (∀ u, w.grownBy u none → Calls Tryz.prog 115 #[.slice (some ⟨b, off + k, none⟩) (n - k) (c - k)] u fun e w' => ∃ v', e = .returned (.tuple #[v', .int .i64 0, .int .i64 E]) ∧ u.grownBy w' none) := hid (fun u hg => by
     have q := unframeR_any t F _ u (by have := HLn.out; have := HL.out.1; omega) (HRd.out.keep hg)
     rw [hE, if_neg hnz] at q
     exact q.mono fun e w' ⟨v', q1, _, q3⟩ => ⟨v', q1, q3⟩)
    have HDE : Hid (D ↔ E = 30) := hid (by rw [← HD.out, hE]; exact ⟨fun h => h.resolve_left ht0, .inr⟩)
    clear HD hE htl hnn ht0
    by_cases hE3 : E = 30
    ·have hD : D := HDE.out.2 hE3
     subst hE3
     go_wp2_with (go_at_call 115; (with_reducible refine (HUn.out _ HS.out.2).mono ?_); rintro e w2 ⟨v2, rfl, hg⟩; have HG2 := hid hg; clear hg)
     go_ret3
     exact ⟨gtrans HS.out.2 HG2.out, fun _ => ⟨_, by rw [HK.out]; rfl, (HS.out.1.keep HG2.out).up HG2.out.size⟩, fun h => absurd hD h⟩
    ·have hD : ¬ D := fun q => hE3 (HDE.out.1 q)
     go_wp2_with (go_at_call 115; (with_reducible refine (HUn.out _ HS.out.2).mono ?_); rintro e w2 ⟨v2, rfl, hg⟩; have HG2 := hid hg; clear hg)
     go_ret3
     exact ⟨gtrans HS.out.2 HG2.out, fun h => absurd h hD, fun _ => rfl⟩

/-- A row of slices, each a row of the call's own. -/
structure OutE (B : Nat) (w : World) (v : Value) (ls : List (List UInt8)) : Prop where
 ex : ∃ vs, w.ownsRow B 74 1 v ls.length vs ∧ Each (Out B w) vs ls
theorem OutD.e {B H : Nat} {w : World} {v : Value} {ls : List (List UInt8)} (h : OutD B H w v ls) : OutE B w v ls := by
 obtain ⟨vs, h1, h2, _⟩ := h.ex
 exact ⟨vs, h1, h2⟩
theorem OutE.keep {B : Nat} {w w' : World} {v : Value} {ls : List (List UInt8)} (h : OutE B w v ls) (hg : w.grownBy w' none) : OutE B w' v ls := by
 obtain ⟨vs, h1, h2⟩ := h.ex
 exact ⟨vs, World.ownsRow.kept h1 hg (by cases v.ownBlock <;> simp), h2.mono (fun _ _ h => h.keep hg)⟩
theorem OutE.base {B B' : Nat} {w : World} {v : Value} {ls : List (List UInt8)} (h : OutE B w v ls) (hb : B' ≤ B) : OutE B' w v ls := by
 obtain ⟨vs, h1, h2⟩ := h.ex
 exact ⟨vs, owns_base h1 hb, h2.mono (fun _ _ q => owns_base q hb)⟩
theorem OutE.df {B : Nat} {w w' : World} {v : Value} {ls : List (List UInt8)} {Q : Nat → Prop} (h : OutE B w v ls) (hd : DF w w' Q) (hq : ∀ k, B ≤ k → ¬ Q k) : OutE B w' v ls := by
 obtain ⟨vs, h1, h2⟩ := h.ex
 exact ⟨vs, own_df h1 hd (fun k hk => hq k (own_low h1 k hk)), h2.mono (fun _ _ q => own_df q hd (fun k hk => hq k (own_low q k hk)))⟩
end Go.Proofs.YtpbiofnncdneoaaGreatDoor
