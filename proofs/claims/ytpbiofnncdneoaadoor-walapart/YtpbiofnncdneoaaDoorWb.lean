/- take. -/
import Derived.Test.YtpbiofnncdneoaaDoorWa
namespace Go.Proofs.YtpbiofnncdneoaaDoor
open Go Go.RowKit Go.MapKept Go.MuLone
open Go.RowKit (wrap32 wrap64)

theorem jumps_ret {J : Nat → Act → World → Prop} {Q : Exit → Act → World → Prop} {a : Act} {w : World} (h : Q .ret a w) : jumps J Q .ret a w := h
/-- What holds at the labels of take. -/
def takeJ (w : World) (a : Option Addr) (n c : Nat) (rs : List (List UInt8)) (D0 D2 : Prop) (l : Nat) (a' : Act) (w' : World) : Prop :=
  (l = 1 ∧ ∃ (i k : Nat) (rv x1 u6 u7 u9 u10 u11 u12 u13 u14 u15 u16 u17 u18 u19 u20 u21 u22 u23 u24 u25 u26 u27 u28 u29 u30 u31 u32 u33 u34 : Value), a' = { tmps := #[.slice a n c, x1, .slice none 0 0, .int .i64 0, .int .i64 0, rv, u6, u7, .int .i64 k, u9, u10, u11, u12, u13, u14, u15, u16, u17, u18, u19, u20, u21, u22, u23, u24, u25, u26, u27, u28, u29, u30, u31, u32, u33, u34], defers := [] } ∧ i ≤ rs.length ∧ Hid (flen (rs.take i) = k) ∧ Hid (OutS w.heap.size 0 w' rv (rs.take i) ∧ w.grownBy w' none)) ∨
  (l = 0 ∧ D0 ∧ ∃ (k : Nat) (rv x1 u6 u7 u9 u10 u11 u12 u13 u14 u15 u16 u17 u18 u19 u20 u21 u22 u23 u24 u25 u26 u27 u28 u29 u30 u31 u32 u33 u34 : Value), a' = { tmps := #[.slice a n c, x1, .slice none 0 0, .int .i64 0, .int .i64 0, rv, u6, u7, .int .i64 k, u9, u10, u11, u12, u13, u14, u15, u16, u17, u18, u19, u20, u21, u22, u23, u24, u25, u26, u27, u28, u29, u30, u31, u32, u33, u34], defers := [] } ∧ Hid (flen rs = k) ∧ Hid (OutS w.heap.size 0 w' rv rs ∧ w.grownBy w' none)) ∨
  (l = 2 ∧ D2 ∧ ∃ (k : Nat) (rv x1 u6 u7 u9 u10 u11 u12 u13 u14 u15 u16 u17 u18 u19 u20 u21 u22 u23 u24 u25 u26 u27 u28 u29 u30 u31 u32 u33 u34 : Value), a' = { tmps := #[.slice a n c, x1, .slice none 0 0, .int .i64 0, .int .i64 0, rv, u6, u7, .int .i64 k, u9, u10, u11, u12, u13, u14, u15, u16, u17, u18, u19, u20, u21, u22, u23, u24, u25, u26, u27, u28, u29, u30, u31, u32, u33, u34], defers := [] } ∧ Hid (w.grownBy w' none))
set_option maxRecDepth 100000 in
set_option maxHeartbeats 4000000 in
theorem take_any (w : World) (F : Nat → Prop) (v : Value) (f : List UInt8) (rs : List (List UInt8)) (t : List UInt8) (hr : Rd w F v f) (hf : f = flat rs ++ t) (hrs : ∀ r ∈ rs, r.length ≤ 16777216) (hl : f.length ≤ 268435456) (hT : Tab w) (hrl : rs.length ≤ 1000000) (hnz : t ≠ [] → unfrE t ≠ 0) :
    Calls Tryd.prog 26 #[v] w fun e w' => w.grownBy w' none ∧ ((t = [] ∨ unfrE t = 30) → ∃ v', e = .returned (.tuple #[v', .int .i64 (flen rs : Nat), .int .i64 0]) ∧ OutS w.heap.size 0 w' v' rs) ∧ (¬ (t = [] ∨ unfrE t = 30) → e = .returned (.tuple #[.slice none 0 0, .int .i64 0, .int .i64 101])) := by
  obtain ⟨a, b, off, c, rfl, hc, hnn, ha, hcell⟩ := hr
  obtain ⟨n, HN⟩ : ∃ x, Hid (f.length = x) := ⟨_, hid rfl⟩
  rw [HN.out] at hc ⊢
  have HA := hid ha
  have HC := hid hcell
  have HF := hid hf
  have HRs := hid hrs
  have HT : Hid (∀ u, w.grownBy u none → Tab u) := hid (fun u hu => hT.keep hu)
  have HL : Hid (n ≤ 268435456 ∧ rs.length ≤ 1000000) := hid ⟨by rw [← HN.out]; exact hl, hrl⟩
  have HNz := hid hnz
  have HLn : Hid (flen rs + t.length = n) := hid (by rw [← HN.out, hf, List.length_append]; rfl)
  obtain ⟨D, hD⟩ : ∃ D : Prop, (t = [] ∨ unfrE t = 30) = D := ⟨_, rfl⟩
  have HD := hid hD
  rw [hD]
  clear ha hcell hf hrs hT hl hrl hnz hD
  go_enter Tryd.func26, Tryd.ntmps26
  go_wp2
  refine wp_scope_from 1 (takeJ w a n c rs D (¬ D)) (fun l a' _ => if l = 1 then n + 1 - (intOf (a'.tmps.getD 8 undef)).toNat else 0) rfl ?first ?pass0 ?pass
  case first =>
    intro hy
    go_wp2
    go_step3
    simp only [Exit.then]
    exact (‹∀ a w, Code.wp _ _ _ a w → _› : ∀ a w, Code.wp Tryd.prog _ _ a w → _) _ _ (hy _ _ (.inl ⟨rfl, 0, 0, _, _, _, _, _, _, _, _, _, _, _, _, _, _, _, _, _, _, _, _, _, _, _, _, _, _, _, _, _, _, rfl, Nat.zero_le _, hid rfl, hid ⟨OutS.nil _ _ _, grefl _ _⟩⟩))
  case pass0 =>
    rintro a' w' (⟨-, i, k, rv, x1, u6, u7, u9, u10, u11, u12, u13, u14, u15, u16, u17, u18, u19, u20, u21, u22, u23, u24, u25, u26, u27, u28, u29, u30, u31, u32, u33, u34, rfl, hi, HK, HS⟩ | ⟨h, -⟩ | ⟨h, -⟩)
    · by_cases hlt : i < rs.length
      · as_aux_lemma =>
        obtain ⟨z, hz⟩ : ∃ z, rs[i] = z := ⟨_, rfl⟩
        have HZ := hid hz
        have HZl : Hid (z.length ≤ 16777216) := hid (by rw [← hz]; exact HRs.out _ (List.getElem_mem _))
        obtain ⟨s, HSf⟩ : ∃ s, Hid (f = flat (rs.take i) ++ (frameL z ++ s)) := ⟨flat (rs.drop (i + 1)) ++ t, hid (by rw [HF.out, flat_split hlt, hz]; simp [List.append_assoc])⟩
        have hfl : (flat (rs.take i)).length = k := HK.out
        have HDr : Hid (f.drop k = frameL z ++ s) := hid (by rw [HSf.out, ← hfl, List.drop_left])
        have HLe : Hid (k + (z.length + 13) + s.length = n) := hid (by rw [← HN.out, HSf.out, ← hfl]; simp [frameL_length]; omega)
        have hkn : k < n := by have := HLe.out; omega
        have hkn' : ¬ ((k : Int) = (n : Int)) := by omega
        have hk0 : ¬ (n < k) := by omega
        have hkc : ¬ (c - k = 0) := by omega
        obtain ⟨rfl, hb1, hb2⟩ := HA.out (by rw [HN.out]; omega)
        have HRd : Hid (Rd w F (.slice (some ⟨b, off + k, none⟩) (n - k) (c - k)) (frameL z ++ s)) := hid (by
          have q := Rd.part HA.out HC.out k (n - k) (c - k) (by rw [HN.out]; omega) (by omega) (by omega)
          rw [List.take_of_length_le (by rw [List.length_drop, HN.out]; omega), HDr.out] at q
          exact q)
        have hu := unfr_frame z s HZl.out
        have HUn : Hid (∀ u, w.grownBy u none → Calls Tryd.prog 40 #[.slice (some ⟨b, off + k, none⟩) (n - k) (c - k)] u fun e w' => ∃ v', e = .returned (.tuple #[v', .int .i64 ((z.length + 13 : Nat) : Int), .int .i64 0]) ∧ Out u.heap.size w' v' z ∧ u.grownBy w' none) := hid (fun u hg => by
          have q := unframe_any (frameL z ++ s) F _ u (by simp [frameL_length]; have := HLe.out; have := HL.out.1; omega) (HRd.out.keep hg) (HT.out u hg)
          unfold unfB at q
          rw [hu.1, hu.2.1, hu.2.2] at q
          exact q)
        obtain ⟨zz, hzz⟩ : ∃ x : Nat, z.length + 13 = x := ⟨_, rfl⟩
        rw [hzz] at HUn
        have HZz : Hid (z.length + 13 = zz) := hid hzz
        have hk1 : k ≤ 268435456 := by have := HLe.out; have := HL.out.1; omega
        have hz1 : zz ≤ 268435456 := by have := HLe.out; have := HL.out.1; omega
        clear hz hfl hu hzz hnn
        go_upto_region 9 with (go_at_call 40; (with_reducible refine (HUn.out _ HS.out.2).mono ?_); rintro e w2 ⟨v2, rfl, hO, hg⟩; have HO2 := hid hO; have HG2 := hid hg; obtain ⟨va, vc, hv2⟩ := hO.len; clear hO hg)
        obtain ⟨zl, hzl⟩ : ∃ x, z.length = x := ⟨_, rfl⟩
        rw [hzl] at hv2 ⊢
        subst hv2
        have HOw : Hid (∀ q, rv.ownBlock = some q → w.heap.size ≤ q) := hid (fun q hq => by obtain ⟨xs, h1, -⟩ := HS.out.1.ex; exact own_low h1 q hq)
        have HB2 := hid (Blk.new w2 [Value.slice va zl vc] 36)
        have HG2' := hid (gtrans HS.out.2 HG2.out)
        have HOS : Hid (OutS w.heap.size 0 (w2.alloc (.cells #[Value.slice va zl vc] 36)) rv (rs.take i)) := hid ((HS.out.1.keep HG2.out).keep (galloc _ _ _))
        have HRB : Hid (Rb w.heap.size 0 (w2.alloc (.cells #[Value.slice va zl vc] 36)) (.slice va zl vc) z) := hid (.inr (owns_base (HO2.out.keep (galloc _ _ _)) HS.out.2.size))
        have HSz : Hid (w.heap.size ≤ (w2.alloc (.cells #[Value.slice va zl vc] 36)).heap.size) := hid (gtrans HG2'.out (galloc _ _ _)).size
        have HTk : Hid ((rs.take i).length ≤ 1000000) := hid (by rw [List.length_take]; have := HL.out.2; omega)
        go_wp2_with (at_builtin; refine wpList_append_row rfl _ _ rfl w.heap.size 0 _ (rs.take i) _ z HOS.out rfl HB2.out HRB.out HTk.out HSz.out (Nat.zero_le _) ?_; intro v4 w4 hO4 hg4 _; have HO4 := hid hO4; have HG4 := hid hg4; clear hO4 hg4)
        go_step3
        have HGn : Hid (w.grownBy w4 none) := hid ((gtrans HG2'.out (galloc _ _ none)).andThen HG4.out (fun q hq => .inl (HOw.out q hq)))
        have hsum : (k : Int) + (zz : Int) = ((k + zz : Nat) : Int) := by omega
        rw [hsum]
        refine And.intro (show takeJ w _ n c rs D (¬ D) 1 _ _ from .inl ⟨rfl, i + 1, k + zz, v4, x1, _, _, _, _, _, _, _, _, _, _, _, _, _, _, _, _, _, _, _, _, _, _, _, _, _, _, _, _, rfl, by omega, hid ?_, hid ⟨?_, HGn.out⟩⟩) ?_
        · rw [flen_at hlt, HK.out, HZ.out, HZz.out]
        · rw [List.take_succ_eq_append_getElem hlt, HZ.out]; exact HO4.out
        · simp [intOf]; have := HZz.out; omega
      · as_aux_lemma =>
        have hie : i = rs.length := by omega
        subst hie
        rw [List.take_length] at HK HS
        have HD' := HD
        by_cases ht0 : t = []
        · have hkn : k = n := by have := HLn.out; rw [ht0] at this; have := HK.out; simp at *; omega
          have hkn' : (k : Int) = (n : Int) := by omega
          have hD : D := by rw [← HD.out]; exact .inl ht0
          clear ht0 HD HD'
          subst hkn
          clear hkn'
          go_wp2
          go_step3
          refine And.intro (show takeJ w _ _ c rs D (¬ D) 0 _ _ from .inr (.inl ⟨rfl, hD, _, rv, x1, _, _, _, _, _, _, _, _, _, _, _, _, _, _, _, _, _, _, _, _, _, _, _, _, _, _, _, _, rfl, HK, hid HS.out⟩)) ?_
          simp [intOf]
        · have htl : 0 < t.length := List.length_pos_iff.2 ht0
          have hkn : k < n := by have := HLn.out; have := HK.out; omega
          have hkn' : ¬ ((k : Int) = (n : Int)) := by omega
          have hk0 : ¬ (n < k) := by omega
          have hkc : ¬ (c - k = 0) := by omega
          obtain ⟨rfl, hb1, hb2⟩ := HA.out (by rw [HN.out]; omega)
          have HDr : Hid (f.drop k = t) := hid (by rw [HF.out, ← HK.out]; exact List.drop_left ..)
          have HRd : Hid (Rd w F (.slice (some ⟨b, off + k, none⟩) (n - k) (c - k)) t) := hid (by
            have q := Rd.part HA.out HC.out k (n - k) (c - k) (by rw [HN.out]; omega) (by omega) (by omega)
            rw [List.take_of_length_le (by rw [List.length_drop, HN.out]; omega), HDr.out] at q
            exact q)
          obtain ⟨E, hE⟩ : ∃ x, unfrE t = x := ⟨_, rfl⟩
          have hnz : E ≠ 0 := by rw [← hE]; exact HNz.out ht0
          have HUn : Hid (∀ u, w.grownBy u none → Calls Tryd.prog 40 #[.slice (some ⟨b, off + k, none⟩) (n - k) (c - k)] u fun e w' => ∃ v', e = .returned (.tuple #[v', .int .i64 0, .int .i64 E]) ∧ u.grownBy w' none) := hid (fun u hg => by
            have q := unframe_any t F _ u (by have := HLn.out; have := HL.out.1; omega) (HRd.out.keep hg) (HT.out u hg)
            rw [hE, if_neg hnz] at q
            exact q.mono fun e w' ⟨v', q1, _, q3⟩ => ⟨v', q1, q3⟩)
          have HDE : Hid (D ↔ E = 30) := hid (by rw [← HD.out, hE]; exact ⟨fun h => h.resolve_left ht0, .inr⟩)
          clear HD HD' hE htl hnn ht0
          by_cases hE3 : E = 30
          · have hD : D := HDE.out.2 hE3
            subst hE3
            go_wp2_with (go_at_call 40; (with_reducible refine (HUn.out _ HS.out.2).mono ?_); rintro e w2 ⟨v2, rfl, hg⟩; have HG2 := hid hg; clear hg)
            go_step3
            refine And.intro (show takeJ w _ _ c rs D (¬ D) 0 _ _ from .inr (.inl ⟨rfl, hD, _, rv, x1, _, _, _, _, _, _, _, _, _, _, _, _, _, _, _, _, _, _, _, _, _, _, _, _, _, _, _, _, rfl, HK, hid ⟨HS.out.1.keep HG2.out, gtrans HS.out.2 HG2.out⟩⟩)) ?_
            simp [intOf]; have := HK.out; omega
          · have hD : ¬ D := fun q => hE3 (HDE.out.1 q)
            go_wp2_with (go_at_call 40; (with_reducible refine (HUn.out _ HS.out.2).mono ?_); rintro e w2 ⟨v2, rfl, hg⟩; have HG2 := hid hg; clear hg)
            go_step3
            refine And.intro (show takeJ w _ _ c rs D (¬ D) 2 _ _ from .inr (.inr ⟨rfl, hD, k, rv, x1, _, _, _, _, _, _, _, _, _, _, _, _, _, _, _, _, _, _, _, _, _, _, _, _, _, _, _, _, rfl, hid (gtrans HS.out.2 HG2.out)⟩)) ?_
            simp [intOf]; omega
    · cases h
    · cases h
  case pass =>
    rintro l a' w' hne (⟨rfl, -⟩ | ⟨rfl, hD0, k, rv, x1, u6, u7, u9, u10, u11, u12, u13, u14, u15, u16, u17, u18, u19, u20, u21, u22, u23, u24, u25, u26, u27, u28, u29, u30, u31, u32, u33, u34, rfl, HK, HS⟩ | ⟨rfl, hD2, k, rv, x1, u6, u7, u9, u10, u11, u12, u13, u14, u15, u16, u17, u18, u19, u20, u21, u22, u23, u24, u25, u26, u27, u28, u29, u30, u31, u32, u33, u34, rfl, HS⟩)
    · exact absurd rfl hne
    · refine ⟨_, rfl, ?_⟩
      go_wp2
      refine jumps_ret ?_
      go_ret3
      exact ⟨HS.out.2, fun _ => ⟨_, by rw [HK.out]; rfl, HS.out.1⟩, fun h => absurd hD0 h⟩
    · refine ⟨_, rfl, ?_⟩
      go_wp2
      refine jumps_ret ?_
      go_ret3
      exact ⟨HS.out, fun h => absurd h hD2, fun _ => rfl⟩
end Go.Proofs.YtpbiofnncdneoaaDoor
