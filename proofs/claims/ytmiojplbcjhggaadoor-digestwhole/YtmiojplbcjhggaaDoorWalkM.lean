/- firstDigest, nextDigest, Pass. -/
import Derived.Test.YtmiojplbcjhggaaDoorWalkL
import Derived.Laws.IdiomStrings
namespace Go.Proofs.YtmiojplbcjhggaaDoor
open Go Go.RowKit
open Go.RowKit (wrap32 wrap64)

theorem conv_sb (w : World) (s : ByteArray) : ∃ w' c, (convert 9 23 (.string s)).run Tryd.prog w = .ok (.slice (some ⟨w.heap.size, 0, none⟩) s.size c) w' ∧ w.grownBy w' none ∧ Rd w' (fun g => w.heap.size ≤ g) (.slice (some ⟨w.heap.size, 0, none⟩) s.size c) s.data.toList := by
  have hge := grownCap_ge w s.size 0 5
  refine ⟨_, _, run_bytes_of_string w 9 23 5 s Tryd.underlying9 Tryd.underlying23 Tryd.underlying5, ⟨rfl, rfl, rfl, by simp, fun k hk _ => ?_⟩, ?_⟩
  · show (w.heap.push _)[k]? = _
    rw [Array.getElem?_push, if_neg (by omega)]
  · have hh : ∀ (cs : Array Value) (fr : Nat × Nat), (w.drew.alloc (.cells cs 5 fr)).heap[w.heap.size]? = some (.cells cs 5 fr) := fun cs fr => by
      show (w.heap.push _)[w.heap.size]? = _
      simp
    refine ⟨some ⟨w.heap.size, 0, none⟩, w.heap.size, 0, _, by rw [Array.length_toList]; rfl, by rw [Array.length_toList]; exact hge, (fun h => by cases h), fun _ => ⟨rfl, by simp, Nat.le_refl _⟩, fun i hi => ?_⟩
    rw [Array.length_toList] at hi
    have := bytesRow_at s (grownCap w s.size 0 5) i hi
    simp only [World.cell?, hh]
    simpa using this
/-- A password's digests. -/
def pass1 (salt text : List UInt8) : List UInt8 := sumL (salt ++ be text.length 8 ++ text)
def passN (salt text : List UInt8) : Nat → List UInt8
  | 0 => pass1 salt text
  | n + 1 => sumL (passN salt text n ++ salt)
theorem pass1_length (salt text : List UInt8) : (pass1 salt text).length = 32 := sumL_length _
theorem passN_length (salt text : List UInt8) (n : Nat) : (passN salt text n).length = 32 := by cases n <;> exact sumL_length _
theorem one_y16 : ∀ v ∈ y16, v.oneCell' = true := by intro v hv; rw [List.eq_of_mem_replicate hv]; rfl

set_option maxRecDepth 100000 in
set_option maxHeartbeats 800000 in
theorem firstDigest_any (w : World) (salt : List UInt8) (s : ByteArray) (hs : salt.length = 16) (hg : Glob w) (hn : s.size < 1152921504606840000) :
    Calls Tryd.prog 40 #[.agg (Lib.byteCells salt).toArray, .string s] w fun e w' => e = .returned (.agg (Lib.byteCells (pass1 salt s.data.toList)).toArray) ∧ w.grownBy w' none := by
  obtain ⟨x, HXe⟩ : ∃ x, Hid (s.data.toList = x) := ⟨_, hid rfl⟩
  have HXl : Hid (x.length = s.size) := hid (by rw [← HXe.out, Array.length_toList]; rfl)
  obtain ⟨N, hN⟩ : ∃ N, N = s.size := ⟨_, rfl⟩
  have HNB := hid (numberBytes_any N (by omega))
  obtain ⟨L, HLe⟩ : ∃ L, Hid (be N 8 = L) := ⟨_, hid rfl⟩
  have HLL : Hid (L.length = 8) := hid (by rw [← HLe.out, be_length])
  rw [HLe.out] at HNB
  obtain ⟨cl, HCL⟩ : ∃ cs, Hid (Lib.byteCells L = cs) := ⟨_, hid rfl⟩
  have HCLl : Hid (cl.length = 8) := hid (by rw [← HCL.out, byteCells_length, HLL.out])
  have HC1 : Hid (∀ v ∈ cl, v.oneCell' = true) := hid (by rw [← HCL.out]; exact bcs_one _)
  rw [HCL.out] at HNB
  obtain ⟨cs, HCS⟩ : ∃ cs, Hid (Lib.byteCells salt = cs) := ⟨_, hid rfl⟩
  obtain ⟨R, HR⟩ : ∃ R, Hid (Lib.byteCells (pass1 salt x) = R) := ⟨_, hid rfl⟩
  have HRL : Hid (R.length = 32) := hid (by rw [← HR.out, byteCells_length, pass1_length])
  have HR1 : Hid (∀ v ∈ R, v.oneCell' = true) := hid (by rw [← HR.out]; exact bcs_one _)
  have HRe : Hid (sumL (salt ++ L ++ x) = pass1 salt x) := hid (by rw [← HLe.out, hN, ← HXl.out]; rfl)
  have HGl := hid hg
  have HSl := hid hs
  have HNw : Hid (∀ u, w.grownBy u none → Calls Tryd.prog 16 #[] u fun e w' => e = .returned (.pointer (some ⟨u.heap.size, 0, none⟩)) ∧ Hs w' u.heap.size [] ∧ u.grownBy w' none ∧ w'.heap.size = u.heap.size + 1) := fun u hu => new_any u (hg.keep hu)
  have HWr : Hid (∀ (u : World) (c : Nat) (l y : List UInt8) (v : Value) (F : Nat → Prop), w.grownBy u none → Hs u c l → w.heap.size ≤ c → Rd u F v y → ¬ F c → l.length ≤ 32 → y.length < 1152921504606840000 → Calls Tryd.prog 18 #[.pointer (some ⟨c, 0, none⟩), v] u fun e w' => e = .returned (.tuple #[]) ∧ Hs w' c (l ++ y) ∧ u.grownBy w' (some c)) := fun u c l y v F hu h1 h2 h3 h4 h5 h6 =>
    write_any u c l v F y h1 h3 h4 (hg.keep hu) (by have := hg.sz; omega) (by omega)
  have HSm : Hid (∀ (u : World) (c : Nat), w.grownBy u none → Hs u c (salt ++ L ++ x) → Calls Tryd.prog 20 #[.pointer (some ⟨c, 0, none⟩)] u fun e w' => e = .returned (.agg R.toArray) ∧ u.grownBy w' none) := fun u c hu h => by
    have := hsum_any u c _ h (hg.keep hu) (by rw [List.length_append, List.length_append, hs, HLL.out, HXl.out]; omega)
    rw [HRe.out, HR.out] at this
    exact this
  have HXn : Hid (x.length < 1152921504606840000) := hid (by rw [HXl.out]; exact hn)
  have HCv : Hid (∀ u : World, ∃ w' c, (convert 9 23 (.string s)).run Tryd.prog u = .ok (.slice (some ⟨u.heap.size, 0, none⟩) s.size c) w' ∧ u.grownBy w' none ∧ Rd w' (fun g => u.heap.size ≤ g) (.slice (some ⟨u.heap.size, 0, none⟩) s.size c) x) := hid (fun u => by
    have := conv_sb u s
    rw [HXe.out] at this
    exact this)
  rw [HXe.out, HR.out, HCS.out]
  rw [← hN] at HCv
  have hN' : (s.size : Int) = (N : Int) := by omega
  have eN : IntKind.u64.wrap (N : Int) = (N : Int) := by rw [IntKind.wrap_u64]; omega
  have eN2 : (N : Int) % 18446744073709551616 = (N : Int) := by omega
  clear hN hg hn hs
  go_enter Tryd.func40, Tryd.ntmps40
  go_wp2_with (first
    | (refine wpList_box_row rfl 53 _ rfl cs rfl ?_; intro w1 B1 s1 g1; have HB1 := hid B1; have HG1 := hid g1; have HS1 := hid s1; clear B1 g1 s1)
    | (refine wpList_alloc_row rfl 24 rfl y32 Tryd.zero24 ?_; intro w2 B2 s2 g2; have HB2 := hid B2; have HG2 := hid g2; have HS2 := hid s2; clear B2 g2 s2; have HB12 := hid (HB1.out.keep HG2.out); have HGa := hid (gtrans HG1.out HG2.out))
    | (go_at_call 48; refine (HNB.out _).mono ?_; rintro e w3 ⟨rfl, hg3⟩; have HG3 := hid hg3; clear hg3)
    | (refine wpList_alloc_row rfl 90 rfl y8 Tryd.zero90 ?_; intro w4 B4 s4 g4; have HB4 := hid B4; have HG4 := hid g4; have HS4 := hid s4; clear B4 g4 s4)
    | (refine wpList_store_all rfl 90 _ _ rfl _ y8 cl 90 rfl rfl HB4.out (by rw [HCLl.out]; rfl) (by rw [HCLl.out]; exact Tryd.size90) HC1.out ?_; intro w5 B5 g5 s5; have HB5 := hid B5; have HG5 := hid g5; have HS5 := hid s5; clear B5 g5 s5; have hz3 := HG3.out.size; have HGb := hid ((gtrans HGa.out (gtrans HG3.out HG4.out)).andThen HG5.out (fun j hj => .inl (by injection hj with hj; have := HGa.out.size; omega))); have HB15 := hid (((HB12.out.keep HG3.out).keep HG4.out).on HG5.out (by simp; have := HB12.out.lt; omega)); have HB25 := hid (((HB2.out.keep HG3.out).keep HG4.out).on HG5.out (by simp; have := HB2.out.lt; omega)); clear hz3)
    | (go_at_call 16; refine (HNw.out _ HGb.out).mono ?_; rintro e w6 ⟨rfl, hH6, hg6, hs6⟩; have HH6 := hid hH6; have HG6 := hid hg6; have HS6 := hid hs6; clear hH6 hg6 hs6; have HGc := hid (gtrans HGb.out HG6.out); have HB16 := hid (HB15.out.keep HG6.out); have HB26 := hid (HB25.out.keep HG6.out); have HB56 := hid (HB5.out.keep HG6.out); have HL1 := hid HB15.out.lt; have HL2 := hid HB25.out.lt; have HL5 := hid HB5.out.lt; have HLc := hid HGb.out.size)
    | (go_at_call 18; with_reducible refine (HWr.out _ _ [] salt (.slice (some ⟨w.heap.size, 0, none⟩) 16 16) (fun k => k ≠ w5.heap.size) HGc.out HH6.out HLc.out (Blk.rd (by rw [HCS.out]; exact HB16.out) _ (by have := HL1.out; omega) 16 HSl.out.symm) (by simp) (by simp) (by rw [HSl.out]; decide)).mono ?_; rintro e w7 ⟨rfl, hH7, hg7⟩; rw [List.nil_append] at hH7; have HH7 := hid hH7; have HG7 := hid hg7; clear hH7 hg7; have HGd := hid (HGc.out.andThen HG7.out (fun j hj => .inl (by injection hj with hj; have := HLc.out; omega))); have HB27 := hid (HB26.out.on HG7.out (by simp; have := HL2.out; omega)); have HB57 := hid (HB56.out.on HG7.out (by simp; have := HL5.out; omega)))
    | (go_at_call 18; with_reducible refine (HWr.out _ _ salt L (.slice (some ⟨w3.heap.size, 0, none⟩) 8 8) (fun k => k ≠ w5.heap.size) HGd.out HH7.out HLc.out (Blk.rd (by rw [HCL.out]; exact HB57.out) _ (by have := HL5.out; omega) 8 HLL.out.symm) (by simp) (by rw [HSl.out]; decide) (by rw [HLL.out]; decide)).mono ?_; rintro e w8 ⟨rfl, hH8, hg8⟩; have HH8 := hid hH8; have HG8 := hid hg8; clear hH8 hg8; have HGe := hid (HGd.out.andThen HG8.out (fun j hj => .inl (by injection hj with hj; have := HLc.out; omega))); have HB28 := hid (HB27.out.on HG8.out (by simp; have := HL2.out; omega)); obtain ⟨w9, c9, hcv, hg9, hr9⟩ := HCv.out w8; have HR9 := hid hr9; have HG9 := hid hg9; have HH9 := hid (HH8.out.keep hg9); have HB29 := hid (HB28.out.keep hg9); have HGf := hid (gtrans HGe.out hg9); have HL9 := hid HH8.out.lt; clear hr9 hg9)
    | (go_at_call 18; with_reducible refine (HWr.out _ _ (salt ++ L) x _ (fun k => w8.heap.size ≤ k) HGf.out HH9.out HLc.out HR9.out (by have := HL9.out; omega) (by rw [List.length_append, HSl.out, HLL.out]; decide) HXn.out).mono ?_; rintro e wa ⟨rfl, hHa, hga⟩; have HHa := hid hHa; have HGga := hid hga; clear hHa hga; have HGg := hid (HGf.out.andThen HGga.out (fun j hj => .inl (by injection hj with hj; have := HLc.out; omega))); have HB2a := hid (HB29.out.on HGga.out (by simp; have := HL2.out; omega)))
    | (go_at_call 20; refine (HSm.out _ _ HGg.out HHa.out).mono ?_; rintro e wb ⟨rfl, hgb⟩; have HGh := hid hgb; clear hgb; have HB2b := hid (HB2a.out.keep HGh.out))
    | (refine wpList_store_all rfl 24 _ _ rfl _ y32 R 24 rfl rfl HB2b.out (by rw [HRL.out]; rfl) (by rw [HRL.out]; exact Tryd.size24) HR1.out ?_; intro wc Bc gc sc; have HBc := hid Bc; have HGk := hid gc; clear Bc gc sc))
  refine bodyPost_ret (results_blk rfl _ w1.heap.size 24 R _ rfl HBc.out Tryd.underlying24 rfl (by rw [HRL.out]; exact Tryd.size24)) rfl ?_
  exact ⟨rfl, (gtrans HGg.out HGh.out).andThen HGk.out (fun j hj => .inl (by injection hj with hj; have := HS1.out; omega))⟩

set_option maxRecDepth 100000 in
set_option maxHeartbeats 800000 in
theorem nextDigest_any (w : World) (d salt : List UInt8) (hd : d.length = 32) (hs : salt.length = 16) (hg : Glob w) :
    Calls Tryd.prog 41 #[.agg (Lib.byteCells d).toArray, .agg (Lib.byteCells salt).toArray] w fun e w' => e = .returned (.agg (Lib.byteCells (sumL (d ++ salt))).toArray) ∧ w.grownBy w' none := by
  obtain ⟨cs, HCS⟩ : ∃ cs, Hid (Lib.byteCells salt = cs) := ⟨_, hid rfl⟩
  obtain ⟨cd, HCD⟩ : ∃ cs, Hid (Lib.byteCells d = cs) := ⟨_, hid rfl⟩
  obtain ⟨R, HR⟩ : ∃ R, Hid (Lib.byteCells (sumL (d ++ salt)) = R) := ⟨_, hid rfl⟩
  have HRL : Hid (R.length = 32) := hid (by rw [← HR.out, byteCells_length, sumL_length])
  have HR1 : Hid (∀ v ∈ R, v.oneCell' = true) := hid (by rw [← HR.out]; exact bcs_one _)
  have HGl := hid hg
  have HSl := hid hs
  have HDl := hid hd
  have HNw : Hid (∀ u, w.grownBy u none → Calls Tryd.prog 16 #[] u fun e w' => e = .returned (.pointer (some ⟨u.heap.size, 0, none⟩)) ∧ Hs w' u.heap.size [] ∧ u.grownBy w' none ∧ w'.heap.size = u.heap.size + 1) := fun u hu => new_any u (hg.keep hu)
  have HWr : Hid (∀ (u : World) (c : Nat) (l y : List UInt8) (v : Value) (F : Nat → Prop), w.grownBy u none → Hs u c l → w.heap.size ≤ c → Rd u F v y → ¬ F c → l.length ≤ 32 → y.length ≤ 32 → Calls Tryd.prog 18 #[.pointer (some ⟨c, 0, none⟩), v] u fun e w' => e = .returned (.tuple #[]) ∧ Hs w' c (l ++ y) ∧ u.grownBy w' (some c)) := fun u c l y v F hu h1 h2 h3 h4 h5 h6 =>
    write_any u c l v F y h1 h3 h4 (hg.keep hu) (by have := hg.sz; omega) (by omega)
  have HSm : Hid (∀ (u : World) (c : Nat), w.grownBy u none → Hs u c (d ++ salt) → Calls Tryd.prog 20 #[.pointer (some ⟨c, 0, none⟩)] u fun e w' => e = .returned (.agg R.toArray) ∧ u.grownBy w' none) := fun u c hu h => by
    have := hsum_any u c _ h (hg.keep hu) (by rw [List.length_append, hs, hd]; decide)
    rw [HR.out] at this
    exact this
  rw [HR.out, HCS.out, HCD.out]
  clear hg hd hs
  go_enter Tryd.func41, Tryd.ntmps41
  go_wp2_with (first
    | (refine wpList_box_row rfl 24 _ rfl cd rfl ?_; intro w0 B0 s0 g0; have HB0 := hid B0; have HG0 := hid g0; have HS0 := hid s0; clear B0 g0 s0)
    | (refine wpList_box_row rfl 53 _ rfl cs rfl ?_; intro w1 B1 s1 g1; have HB1 := hid B1; have HG1 := hid g1; have HS1 := hid s1; clear B1 g1 s1)
    | (refine wpList_alloc_row rfl 24 rfl y32 Tryd.zero24 ?_; intro w2 B2 s2 g2; have HB2 := hid B2; have HG2 := hid g2; have HS2 := hid s2; clear B2 g2 s2; have HB12 := hid (HB1.out.keep HG2.out); have HB02 := hid ((HB0.out.keep HG1.out).keep HG2.out); have HGb := hid (gtrans HG0.out (gtrans HG1.out HG2.out)))
    | (go_at_call 16; refine (HNw.out _ HGb.out).mono ?_; rintro e w6 ⟨rfl, hH6, hg6, hs6⟩; have HH6 := hid hH6; have HG6 := hid hg6; have HS6 := hid hs6; clear hH6 hg6 hs6; have HGc := hid (gtrans HGb.out HG6.out); have HB16 := hid (HB12.out.keep HG6.out); have HB26 := hid (HB2.out.keep HG6.out); have HB06 := hid (HB02.out.keep HG6.out); have HL1 := hid HB12.out.lt; have HL2 := hid HB2.out.lt; have HL0 := hid HB02.out.lt; have HLc := hid HGb.out.size)
    | (go_at_call 18; with_reducible refine (HWr.out _ _ [] d (.slice (some ⟨w.heap.size, 0, none⟩) 32 32) (fun k => k ≠ w2.heap.size) HGc.out HH6.out HLc.out (Blk.rd (by rw [HCD.out]; exact HB06.out) _ (by have := HL0.out; omega) 32 HDl.out.symm) (by simp) (by simp) (by rw [HDl.out]; decide)).mono ?_; rintro e w7 ⟨rfl, hH7, hg7⟩; rw [List.nil_append] at hH7; have HH7 := hid hH7; have HG7 := hid hg7; clear hH7 hg7; have HGd := hid (HGc.out.andThen HG7.out (fun j hj => .inl (by injection hj with hj; have := HLc.out; omega))); have HB27 := hid (HB26.out.on HG7.out (by simp; have := HL2.out; omega)); have HB17 := hid (HB16.out.on HG7.out (by simp; have := HL1.out; omega)))
    | (go_at_call 18; with_reducible refine (HWr.out _ _ d salt (.slice (some ⟨w0.heap.size, 0, none⟩) 16 16) (fun k => k ≠ w2.heap.size) HGd.out HH7.out HLc.out (Blk.rd (by rw [HCS.out]; exact HB17.out) _ (by have := HL1.out; omega) 16 HSl.out.symm) (by simp) (by rw [HDl.out]; decide) (by rw [HSl.out]; decide)).mono ?_; rintro e w8 ⟨rfl, hH8, hg8⟩; have HH8 := hid hH8; have HG8 := hid hg8; clear hH8 hg8; have HGe := hid (HGd.out.andThen HG8.out (fun j hj => .inl (by injection hj with hj; have := HLc.out; omega))); have HB28 := hid (HB27.out.on HG8.out (by simp; have := HL2.out; omega)))
    | (go_at_call 20; refine (HSm.out _ _ HGe.out HH8.out).mono ?_; rintro e wb ⟨rfl, hgb⟩; have HGh := hid hgb; clear hgb; have HB2b := hid (HB28.out.keep HGh.out))
    | (refine wpList_store_all rfl 24 _ _ rfl _ y32 R 24 rfl rfl HB2b.out (by rw [HRL.out]; rfl) (by rw [HRL.out]; exact Tryd.size24) HR1.out ?_; intro wc Bc gc sc; have HBc := hid Bc; have HGk := hid gc; clear Bc gc sc))
  refine bodyPost_ret (results_blk rfl _ w1.heap.size 24 R _ rfl HBc.out Tryd.underlying24 rfl (by rw [HRL.out]; exact Tryd.size24)) rfl ?_
  exact ⟨rfl, (gtrans HGe.out HGh.out).andThen HGk.out (fun j hj => .inl (by injection hj with hj; have := HS1.out; have := HS0.out; omega))⟩
theorem num_any (n : Int) (w : World) : Calls Tryd.prog 28 #[.int .i64 n] w fun e w' => e = .returned (.int .i64 n) ∧ w' = w := by
  go_enter Tryd.func28, Tryd.ntmps28
  go_wp2
  go_ret
  exact ⟨rfl, rfl⟩
end Go.Proofs.YtmiojplbcjhggaaDoor
