/- The reference's factor and changed. -/
import Derived.Test.YtmiojplbcjhggaaDoorRefA
import Derived.Laws.Tables
namespace Go.Proofs.YtmiojplbcjhggaaDoor
open Go Go.RowKit
open Go.RowKit (wrap32 wrap64)

theorem Tryd.zero67 : (Tryd.prog.info? 67).map (fun i => i.zero) = some (some (.agg z8.toArray)) := by kernel_rfl
theorem Tryd.size67 : (Tryd.prog.info? 67).map (·.size) = some 8 := by kernel_rfl
theorem wpList_build_is {P : Program} {ops : Array Oper} {rest : List Oper} {o : Oper} {a : Act} {w : World} {Q : Exit → Act → World → Prop} (hg : o.guard = none) (t : TypeId) (parts : Array (Nat × Operand)) (ho : o.op = .build t parts) (cs : List Value)
    (hf : P.built t (parts.map fun (i, x) => (i, a.eval x)).toList = some cs.toArray)
    (h : wpList P ops Q rest (a.put o.dst (.agg cs.toArray)) w) : wpList P ops Q (o :: rest) a w := by
  refine wpList_build hg t parts ho (by rw [hf]; rfl) ?_
  rw [hf]
  exact h
theorem KT_one : ∀ v ∈ wcs KT, v.oneCell' = true := wcs_one _
set_option maxRecDepth 100000 in
theorem factorR_any (w : World) : Calls Tryd.prog 43 #[] w fun e w' => e = .returned (.agg (wcs KT).toArray) ∧ w.grownBy w' none := by
  go_enter Tryd.func43, Tryd.ntmps43
  go_wp2_with (first
    | (refine wpList_alloc_row rfl 84 rfl z64 Tryd.zero84 ?_; intro w1 B1 s1 g1; have HB1 := hid B1; have HG1 := hid g1; clear B1 g1 s1)
    | (refine wpList_build_is rfl 84 _ rfl (wcs KT) (by kernel_rfl) ?_)
    | (refine wpList_store_all rfl 84 _ _ rfl _ z64 (wcs KT) 84 rfl rfl HB1.out rfl Tryd.size84 KT_one ?_; intro w2 B2 g2 s2; have HB2 := hid B2; have HG2 := hid g2; clear B2 g2 s2))
  refine bodyPost_ret (results_blk rfl _ _ 84 _ _ rfl HB2.out Tryd.underlying84 rfl Tryd.size84) rfl ?_
  exact ⟨rfl, HG1.out.andThen HG2.out (fun j hj => .inl (by injection hj with hj; omega))⟩

/-- the words, put one place on, down to place i. -/
def shN (r : List Nat) (i : Nat) : List Nat := r.take (i + 1) ++ (r.drop i).take (7 - i)
theorem shN_len (r : S8) (i : Nat) (h : i ≤ 7) : (shN r.list i).length = 8 := by
  have : r.list.length = 8 := rfl
  simp only [shN, List.length_append, List.length_take, List.length_drop, this]
  omega
theorem shN_top (r : S8) : shN r.list 7 = r.list := rfl
theorem shN_at (r : S8) (i : Nat) (h0 : 1 ≤ i) (h : i ≤ 7) : (shN r.list i).getD (i - 1) 0 = r.list.getD (i - 1) 0 := by
  match i, h0, h with
  | 1, _, _ | 2, _, _ | 3, _, _ | 4, _, _ | 5, _, _ | 6, _, _ | 7, _, _ => rfl
  | n + 8, _, h => omega
theorem shN_set (r : S8) (i : Nat) (h0 : 1 ≤ i) (h : i ≤ 7) : (wcs (shN r.list i)).set i (.int .u32 (r.list.getD (i - 1) 0 : Nat)) = wcs (shN r.list (i - 1)) := by
  match i, h0, h with
  | 1, _, _ | 2, _, _ | 3, _, _ | 4, _, _ | 5, _, _ | 6, _, _ | 7, _, _ => rfl
  | n + 8, _, h => omega
theorem pT_int2 (a b c d e f g h K W r6 r11 r25 : Nat) (h6 : rot 6 e = r6) (h11 : rot 11 e = r11) (h25 : rot 25 e = r25) (oe : e < 4294967296) (of' : f < 4294967296) (og : g < 4294967296) :
    (((h : Int) + bits .xor .u32 (bits .xor .u32 (r6 : Int) (r11 : Int)) (r25 : Int) + bits .xor .u32 (bits .and .u32 (e : Int) (f : Int)) (bits .and .u32 (bits .xor .u32 (if IntKind.u32.signed = true then -1 else IntKind.u32.max) (e : Int)) (g : Int)) + (K : Int)) % 4294967296 + (W : Int)) % 4294967296 = ((pT ⟨a, b, c, d, e, f, g, h⟩ K W : Nat) : Int) := by
  rw [← pT_int a b c d e f g h K W r6 r11 r25 h6 h11 h25 oe of' og]
  exact Int.emod_add_emod _ _ _
theorem nextW_wrap (a b c d p q u v : Nat) (hb : b < 4294967296) (hp : p = rot 7 b) (hq : q = rot 18 b) (hu : u = rot 17 d) (hv : v = rot 19 d) (hd : d < 4294967296) :
    IntKind.u32.wrap (IntKind.u32.wrap (IntKind.u32.wrap ((a : Int) + bits .xor .u32 (bits .xor .u32 (p : Int) (q : Int)) (IntKind.u32.wrap ((b : Int) / 8))) + (c : Int)) + bits .xor .u32 (bits .xor .u32 (u : Int) (v : Int)) (IntKind.u32.wrap ((d : Int) / 1024))) = ((a32 (a32 (a32 a (sg0 b)) c) (sg1 d) : Nat) : Int) := by
  have w1 : IntKind.u32.wrap ((b : Int) / 8) = (b : Int) / 8 := by rw [IntKind.wrap_u32]; omega
  have w2 : IntKind.u32.wrap ((d : Int) / 1024) = (d : Int) / 1024 := by rw [IntKind.wrap_u32]; omega
  rw [w1, w2, ← nextW_int a b c d p q u v hb hp hq hu hv hd]
  simp only [IntKind.wrap_u32]
/-- the words of s, the first i of them added to those of r. -/
def adN (s r : S8) (i : Nat) : List Nat := (List.range 8).map fun j => if j < i then a32 (s.list.getD j 0) (r.list.getD j 0) else s.list.getD j 0
theorem adN_len (s r : S8) (i : Nat) : (adN s r i).length = 8 := by simp [adN]
theorem adN_zero (s r : S8) : adN s r 0 = s.list := rfl
theorem adN_full (s r : S8) : adN s r 8 = (addS s r).list := rfl
theorem adN_at (s r : S8) (i : Nat) (h : i < 8) : (adN s r i).getD i 0 = s.list.getD i 0 := by
  match i, h with
  | 0, _ | 1, _ | 2, _ | 3, _ | 4, _ | 5, _ | 6, _ | 7, _ => rfl
  | n + 8, h => omega
theorem adN_set (s r : S8) (i : Nat) (h : i < 8) : (wcs (adN s r i)).set i (.int .u32 (a32 (s.list.getD i 0) (r.list.getD i 0) : Nat)) = wcs (adN s r (i + 1)) := by
  match i, h with
  | 0, _ | 1, _ | 2, _ | 3, _ | 4, _ | 5, _ | 6, _ | 7, _ => rfl
  | n + 8, h => omega
theorem b4_drop (l : List UInt8) (k : Nat) : b4 (l.drop (4 * k)) 0 = b4 l k := by
  simp only [b4, List.getD_eq_getElem?_getD, List.getElem?_drop, Nat.mul_zero, Nat.zero_add, Nat.add_zero]
set_option maxRecDepth 100000 in
set_option maxHeartbeats 1600000 in
theorem changedR_any (s : S8) (hs : s.Ok) (v : Value) (F : Nat → Prop) (l : List UInt8) (hl : l.length = 64) (w : World) (hv : Rd w F v l) :
    Calls Tryd.prog 32 #[.agg s.cells.toArray, v] w fun e w' => e = .returned (.agg (comp s l).cells.toArray) ∧ w.grownBy w' none := by
  obtain ⟨ss, HSS⟩ : ∃ ss, Hid (s.cells = ss) := ⟨_, hid rfl⟩
  obtain ⟨R, HR⟩ : ∃ R, Hid (∀ n, n = 64 → (addS s (rounds l s n)).cells = R) := ⟨_, hid (fun n hn => by rw [hn])⟩
  have HSL : Hid (ss.length = 8) := hid (by rw [← HSS.out]; rfl)
  have HS1 : Hid (∀ v ∈ ss, v.oneCell' = true) := hid (by rw [← HSS.out]; exact wcs_one _)
  obtain ⟨kc, HKC⟩ : ∃ kc, Hid (wcs KT = kc) := ⟨_, hid rfl⟩
  have HKL : Hid (kc.length = 64) := hid (by rw [← HKC.out]; rfl)
  have HK1 : Hid (∀ v ∈ kc, v.oneCell' = true) := hid (by rw [← HKC.out]; exact wcs_one _)
  have HFa : Hid (∀ u, Calls Tryd.prog 43 #[] u fun e w' => e = .returned (.agg kc.toArray) ∧ u.grownBy w' none) := fun u => by rw [← HKC.out]; exact factorR_any u
  have HL := hid hl
  have HO := hid hs
  have HV := hid hv
  have e0 : comp s l = addS s (rounds l s 64) := rfl
  rw [e0, HSS.out, HR.out 64 rfl]
  clear hl hs hv e0
  go_enter Tryd.func32, Tryd.ntmps32
  go_wp2_with (first
    | (refine wpList_box_row rfl 67 _ rfl ss rfl ?_; intro w1 B1 s1 g1; have HB1 := hid B1; have HG1 := hid g1; have HZ1 := hid s1; clear B1 g1 s1)
    | (have := HB4; clear this; refine wpList_alloc_row rfl 67 rfl z8 Tryd.zero67 ?_; intro w7 B7 s7 g7; have HB7 := hid B7; have HG7 := hid g7; have HZ7 := hid s7; clear B7 g7 s7)
    | (refine wpList_alloc_row rfl 67 rfl z8 Tryd.zero67 ?_; intro w2 B2 s2 g2; have HB2 := hid B2; have HG2 := hid g2; have HZ2 := hid s2; clear B2 g2 s2)
    | (go_at_call 43; refine (HFa.out _).mono ?_; rintro e w3 ⟨rfl, hg3⟩; have HG3 := hid hg3; clear hg3)
    | (have := HB4; clear this; refine wpList_alloc_row rfl 84 rfl z64 Tryd.zero84 ?_; intro w6 B6 s6 g6; have HB6 := hid B6; have HG6 := hid g6; have HZ6 := hid s6; clear B6 g6 s6; have HB16 := hid ((((((HB1.out.keep HG2.out).keep HG3.out).keep HG4.out).on HG5.out (by have := HZ1.out; have := HG2.out.size; have := HG3.out.size; simp; omega)).keep HG6.out)))
    | (refine wpList_alloc_row rfl 84 rfl z64 Tryd.zero84 ?_; intro w4 B4 s4 g4; have HB4 := hid B4; have HG4 := hid g4; have HZ4 := hid s4; clear B4 g4 s4)
    | (refine wpList_store_all rfl 84 _ _ rfl _ z64 kc 84 rfl rfl HB4.out (by rw [HKL.out]; rfl) (by rw [HKL.out]; exact Tryd.size84) HK1.out ?_; intro w5 B5 g5 s5; have HB5 := hid B5; have HG5 := hid g5; have HZ5 := hid s5; clear B5 g5 s5)
    | (refine wpList_load_part rfl 67 _ rfl _ 0 ss _ rfl HB16.out.whole Tryd.underlying67 rfl (by rw [HSL.out]; exact Tryd.size67) ?_)
    | (refine wpList_store_all rfl 67 _ _ rfl _ z8 ss 67 rfl rfl HB7.out (by rw [HSL.out]; rfl) (by rw [HSL.out]; exact Tryd.size67) HS1.out ?_; intro w8 B8 g8 s8; have HB8 := hid B8; have HG8 := hid g8; have HZ8 := hid s8; clear B8 g8 s8))
  obtain ⟨b1, hb1⟩ : ∃ b1, b1 = w.heap.size := ⟨_, rfl⟩
  obtain ⟨b2, hb2⟩ : ∃ b2, b2 = w1.heap.size := ⟨_, rfl⟩
  obtain ⟨b3, hb3⟩ : ∃ b3, b3 = w3.heap.size := ⟨_, rfl⟩
  obtain ⟨b4', hb4⟩ : ∃ b4, b4 = w5.heap.size := ⟨_, rfl⟩
  obtain ⟨b5, hb5⟩ : ∃ b5, b5 = w6.heap.size := ⟨_, rfl⟩
  rw [← hb1, ← hb2, ← hb3, ← hb4, ← hb5]
  have HN := hid (show w.heap.size ≤ b1 ∧ b1 < b2 ∧ b2 < b3 ∧ b3 < b4' ∧ b4' < b5 by have := HZ1.out; have := HZ2.out; have := HG3.out.size; have := HZ4.out; have := HZ5.out; have := HZ6.out; omega)
  rw [← hb3] at HG5 HB5
  rw [← hb5] at HG8 HB8
  have HBs : Hid (Blk w8 b1 ss 67) := hid ((HB16.out.keep HG7.out).on HG8.out (by have := HN.out; simp; omega) |> (by rw [hb1]; exact ·))
  have HBr : Hid (Blk w8 b2 z8 67) := hid (by
    have h := HB2.out
    rw [← hb2] at h
    exact ((((((h.keep HG3.out).keep HG4.out).on HG5.out (by have := HN.out; simp; omega)).keep HG6.out).keep HG7.out).on HG8.out (by have := HN.out; simp; omega)))
  have HBk : Hid (Blk w8 b3 kc 84) := hid (((HB5.out.keep HG6.out).keep HG7.out).on HG8.out (by have := HN.out; simp; omega))
  have HBw : Hid (Blk w8 b4' (arr l 0) 84) := hid (by
    have h := HB6.out
    rw [← hb4] at h
    exact (h.keep HG7.out).on HG8.out (by have := HN.out; simp; omega))
  have HBv : Hid (Blk w8 b5 s.cells 67) := hid (by rw [HSS.out]; exact HB8.out)
  have HG : Hid (w.grownBy w8 none) := hid ((gtrans ((gtrans HG1.out (gtrans HG2.out (gtrans HG3.out HG4.out))).andThen HG5.out (fun j hj => .inl (by injection hj with hj; have := HN.out; omega))) (gtrans HG6.out HG7.out)).andThen HG8.out (fun j hj => .inl (by injection hj with hj; have := HN.out; omega)))
  clear HB1 HB2 HB4 HB5 HB6 HB7 HB8 HB16 HG1 HG2 HG3 HG4 HG5 HG6 HG7 HG8 HZ1 HZ2 HZ4 HZ5 HZ6 HZ7 HZ8 hb1 hb2 hb3 hb4 hb5
  go_loopw [8] (fun iv wr => ∃ (k : Nat) (r : S8), k ≤ 64 ∧ iv = .int .i64 k ∧ Hid (r = rounds l s k) ∧ Hid (Blk wr b4' (arr l k) 84) ∧ Hid (Blk wr b5 r.cells 67) ∧ Hid (Blk wr b1 ss 67) ∧ Hid (Blk wr b2 z8 67) ∧ Hid (Blk wr b3 kc 84) ∧ Hid (w.grownBy wr none)) (fun iv _ => 64 - (intOf iv).toNat)
  case atStart => exact ⟨0, s, by omega, rfl, hid rfl, HBw, HBv, HBs, HBr, HBk, HG⟩
  case round =>
    clear HBw HBv HBs HBr HBk HG
    obtain ⟨k, r, hk, rfl, Hr, HBw, HBv, HBs, HBr, HBk, HG⟩ := hrel
    by_cases hlt : k < 64
    · have ok : r.Ok := by rw [Hr.out]; exact rounds_ok l HO.out k
      have r0 : (k : Int) < 64 := by omega
      have HV3 := hid (arr_step l k (by omega))
      have cw := HBw.out.cell k
      rw [arr_at _ _ (by omega)] at cw
      have cf := HBw.out.frozen k
      by_cases h16 : k < 16
      · have h16' : (k : Int) < 16 := by omega
        obtain ⟨i0, hi0⟩ : ∃ i, i = 4 * k := ⟨_, rfl⟩
        obtain ⟨bb, oo, cc, pp, ev, hcc, hsl, -, HRt⟩ := (HV.out.keep HG.out).tail (by rw [HL.out]; decide) i0 (by rw [HL.out]; omega)
        rw [HL.out] at ev hcc hsl HRt
        have q0 : IntKind.i64.wrap (4 * (k : Int)) = (i0 : Int) := by rw [wrapi _ (by omega) (by omega)]; omega
        have q0' : 4 * (k : Int) = (i0 : Int) := by omega
        have HF4 : Hid (∀ u, wr.grownBy u none → Calls Tryd.prog 44 #[.slice pp (64 - i0) (cc - i0)] u fun e w' => e = .returned (.int .u32 (b4 l k : Nat)) ∧ w' = u) := fun u hu => by
          have := fourR_any u _ _ _ (HRt.keep hu) (by rw [List.length_drop, HL.out]; omega)
          rw [hi0, b4_drop] at this
          rw [hi0]
          exact this
        have HV2 : Hid ((wsN l (k + 1)).getD k 0 = b4 l k) := by rw [wsN_getD_last, if_pos h16]; exact hid rfl
        generalize b4 l k = x4 at HF4 HV2
        have hcc' : (64 : Int) ≤ (cc : Int) := by omega
        have hi64 : (i0 : Int) ≤ 64 := by omega
        subst ev
        clear HRt hi0
        go_wp2_with (go_at_call 44; with_reducible refine (HF4.out _ (grefl _ _)).mono ?_; rintro e w' ⟨rfl, hw⟩; have hw' := hw.symm; clear hw; subst hw')
        have HBw1 := hid (HBw.out.set k (.int .u32 (x4 : Nat)))
        rw [← HV2.out, HV3.out] at HBw1
        have HBv1 := hid (HBv.out.on (gset wr ⟨b4', k, none⟩ (.int .u32 (x4 : Nat))) (by have := HN.out; simp; omega))
        have HBs1 := hid (HBs.out.on (gset wr ⟨b4', k, none⟩ (.int .u32 (x4 : Nat))) (by have := HN.out; simp; omega))
        have HBr1 := hid (HBr.out.on (gset wr ⟨b4', k, none⟩ (.int .u32 (x4 : Nat))) (by have := HN.out; simp; omega))
        have HBk1 := hid (HBk.out.on (gset wr ⟨b4', k, none⟩ (.int .u32 (x4 : Nat))) (by have := HN.out; simp; omega))
        have HGq := hid (HG.out.andThen (gset wr ⟨b4', k, none⟩ (.int .u32 (x4 : Nat))) (fun j hj => .inl (by have hj' : b4' = j := Option.some.inj hj; have := HN.out; omega)))
        rw [HV2.out] at HBw1
        generalize wr.setCell ⟨b4', k, none⟩ (.int .u32 (x4 : Nat)) = wq at HBw1 HBv1 HBs1 HBr1 HBk1 HGq ⊢
        clear HBw HBv HBs HBr HBk HG cw cf HF4
        obtain ⟨W, HW⟩ : ∃ W, Hid ((wsN l (k + 1)).getD k 0 = W) := ⟨_, hid rfl⟩
        obtain ⟨K, HKk⟩ : ∃ K, Hid (kt k = K) := ⟨_, hid rfl⟩
        have hwt : wq.cell? ⟨b4', k, none⟩ = some (.int .u32 (W : Nat)) := by rw [HBw1.out.cell, arr_get _ _ _ (by omega), HW.out]
        have hkt : wq.cell? ⟨b3, k, none⟩ = some (.int .u32 (K : Nat)) := by rw [HBk1.out.cell, ← HKC.out, wcs_get _ _ (show k < KT.length from hlt), ← HKk.out]; rfl
        have HRN : Hid (rounds l s (k + 1) = rnd r K W) := hid (by
          rw [Hr.out, ← HKk.out, ← HW.out, ← wsN_getD_le l 64 (k + 1) k (by omega) (by omega)]
          rfl)
        obtain ⟨a, b, c, d, e, f, g, hh⟩ := r
        have oa : a < 4294967296 := ok.a
        have ob : b < 4294967296 := ok.b
        have oc : c < 4294967296 := ok.c
        have od : d < 4294967296 := ok.d
        have oe : e < 4294967296 := ok.e
        have of' : f < 4294967296 := ok.f
        have og : g < 4294967296 := ok.g
        have oh : hh < 4294967296 := ok.h
        have c0 : wq.cell? ⟨b5, 0, none⟩ = some (.int .u32 (a : Nat)) := by rw [HBv1.out.cell]; rfl
        have c1 : wq.cell? ⟨b5, 1, none⟩ = some (.int .u32 (b : Nat)) := by rw [HBv1.out.cell]; rfl
        have c2 : wq.cell? ⟨b5, 2, none⟩ = some (.int .u32 (c : Nat)) := by rw [HBv1.out.cell]; rfl
        have c4 : wq.cell? ⟨b5, 4, none⟩ = some (.int .u32 (e : Nat)) := by rw [HBv1.out.cell]; rfl
        have c5 : wq.cell? ⟨b5, 5, none⟩ = some (.int .u32 (f : Nat)) := by rw [HBv1.out.cell]; rfl
        have c6 : wq.cell? ⟨b5, 6, none⟩ = some (.int .u32 (g : Nat)) := by rw [HBv1.out.cell]; rfl
        have c7 : wq.cell? ⟨b5, 7, none⟩ = some (.int .u32 (hh : Nat)) := by rw [HBv1.out.cell]; rfl
        have HT6 : Hid (∀ u, Calls Tryd.prog 45 #[.int .u32 (e : Nat), .int .u64 6] u fun x w' => x = .returned (.int .u32 (rot 6 e : Nat)) ∧ w' = u) := fun u => turnR6 e oe u
        obtain ⟨r6, R6⟩ : ∃ x, Hid (rot 6 e = x) := ⟨_, hid rfl⟩
        rw [R6.out] at HT6
        have HT11 : Hid (∀ u, Calls Tryd.prog 45 #[.int .u32 (e : Nat), .int .u64 11] u fun x w' => x = .returned (.int .u32 (rot 11 e : Nat)) ∧ w' = u) := fun u => turnR11 e oe u
        obtain ⟨r11, R11⟩ : ∃ x, Hid (rot 11 e = x) := ⟨_, hid rfl⟩
        rw [R11.out] at HT11
        have HT25 : Hid (∀ u, Calls Tryd.prog 45 #[.int .u32 (e : Nat), .int .u64 25] u fun x w' => x = .returned (.int .u32 (rot 25 e : Nat)) ∧ w' = u) := fun u => turnR25 e oe u
        obtain ⟨r25, R25⟩ : ∃ x, Hid (rot 25 e = x) := ⟨_, hid rfl⟩
        rw [R25.out] at HT25
        have HT2 : Hid (∀ u, Calls Tryd.prog 45 #[.int .u32 (a : Nat), .int .u64 2] u fun x w' => x = .returned (.int .u32 (rot 2 a : Nat)) ∧ w' = u) := fun u => turnR2 a oa u
        obtain ⟨r2, R2⟩ : ∃ x, Hid (rot 2 a = x) := ⟨_, hid rfl⟩
        rw [R2.out] at HT2
        have HT13 : Hid (∀ u, Calls Tryd.prog 45 #[.int .u32 (a : Nat), .int .u64 13] u fun x w' => x = .returned (.int .u32 (rot 13 a : Nat)) ∧ w' = u) := fun u => turnR13 a oa u
        obtain ⟨r13, R13⟩ : ∃ x, Hid (rot 13 a = x) := ⟨_, hid rfl⟩
        rw [R13.out] at HT13
        have HT22 : Hid (∀ u, Calls Tryd.prog 45 #[.int .u32 (a : Nat), .int .u64 22] u fun x w' => x = .returned (.int .u32 (rot 22 a : Nat)) ∧ w' = u) := fun u => turnR22 a oa u
        obtain ⟨r22, R22⟩ : ∃ x, Hid (rot 22 a = x) := ⟨_, hid rfl⟩
        rw [R22.out] at HT22
        have hWl : W < 4294967296 := by rw [← HW.out]; exact wsN_getD_lt _ _ _
        have hKl : K < 4294967296 := by rw [← HKk.out]; exact kt_lt _
        clear ok
        go_quiet ((first | (go_at_call 45; with_reducible exact Calls.quiet_of_same (HT6.out _)) | (go_at_call 45; with_reducible exact Calls.quiet_of_same (HT11.out _)) | (go_at_call 45; with_reducible exact Calls.quiet_of_same (HT25.out _))))
        rw [pT_int2 a b c d e f g hh K W r6 r11 r25 R6.out R11.out R25.out oe of' og]
        obtain ⟨p, HP⟩ : ∃ p, Hid (pT ⟨a, b, c, d, e, f, g, hh⟩ K W = p) := ⟨_, hid rfl⟩
        rw [HP.out]
        have HBw2 := hid (show Blk (wq.drewN nq) b4' (arr l (k + 1)) 84 from HBw1.out)
        have HBv2 := hid (show Blk (wq.drewN nq) b5 _ 67 from HBv1.out)
        have HBs2 := hid (show Blk (wq.drewN nq) b1 ss 67 from HBs1.out)
        have HBr2 := hid (show Blk (wq.drewN nq) b2 z8 67 from HBr1.out)
        have HBk2 := hid (show Blk (wq.drewN nq) b3 kc 84 from HBk1.out)
        have HGq2 := hid (gtrans HGq.out (gdrew wq nq none))
        generalize wq.drewN nq = wp at HBw2 HBv2 HBs2 HBr2 HBk2 HGq2 ⊢
        clear HBw1 HBv1 HBs1 HBr1 HBk1 HGq c0 c1 c2 c4 c5 c6 c7 hwt hkt HT6 HT11 HT25
        have c0 : wp.cell? ⟨b5, 0, none⟩ = some (.int .u32 (a : Nat)) := by rw [HBv2.out.cell]; rfl
        have c1 : wp.cell? ⟨b5, 1, none⟩ = some (.int .u32 (b : Nat)) := by rw [HBv2.out.cell]; rfl
        have c2 : wp.cell? ⟨b5, 2, none⟩ = some (.int .u32 (c : Nat)) := by rw [HBv2.out.cell]; rfl
        have c4 : wp.cell? ⟨b5, 4, none⟩ = some (.int .u32 (e : Nat)) := by rw [HBv2.out.cell]; rfl
        have c5 : wp.cell? ⟨b5, 5, none⟩ = some (.int .u32 (f : Nat)) := by rw [HBv2.out.cell]; rfl
        have c6 : wp.cell? ⟨b5, 6, none⟩ = some (.int .u32 (g : Nat)) := by rw [HBv2.out.cell]; rfl
        have c7 : wp.cell? ⟨b5, 7, none⟩ = some (.int .u32 (hh : Nat)) := by rw [HBv2.out.cell]; rfl
        go_wp2_with fail
        go_quiet ((first | (go_at_call 45; with_reducible exact Calls.quiet_of_same (HT2.out _)) | (go_at_call 45; with_reducible exact Calls.quiet_of_same (HT13.out _)) | (go_at_call 45; with_reducible exact Calls.quiet_of_same (HT22.out _))))
        rw [qT_int a b c d e f g hh r2 r13 r22 R2.out R13.out R22.out oa ob oc]
        obtain ⟨q, HQ⟩ : ∃ q, Hid (qT ⟨a, b, c, d, e, f, g, hh⟩ = q) := ⟨_, hid rfl⟩
        rw [HQ.out]
        obtain ⟨m2, hm2⟩ : ∃ m, m = nq := ⟨_, rfl⟩
        have HBw3 := hid (show Blk (wp.drewN nq) b4' (arr l (k + 1)) 84 from HBw2.out)
        have HBv3 := hid (show Blk (wp.drewN nq) b5 _ 67 from HBv2.out)
        have HBs3 := hid (show Blk (wp.drewN nq) b1 ss 67 from HBs2.out)
        have HBr3 := hid (show Blk (wp.drewN nq) b2 z8 67 from HBr2.out)
        have HBk3 := hid (show Blk (wp.drewN nq) b3 kc 84 from HBk2.out)
        have HGq3 := hid (gtrans HGq2.out (gdrew wp nq none))
        generalize wp.drewN nq = wd at HBw3 HBv3 HBs3 HBr3 HBk3 HGq3 ⊢
        clear HBw2 HBv2 HBs2 HBr2 HBk2 HGq2 c0 c1 c2 c4 c5 c6 c7 HT2 HT13 HT22 hm2
        go_wp2_with fail
        go_loopw [13] (fun iv wz => ∃ i : Nat, i ≤ 7 ∧ iv = .int .i64 i ∧ Hid (Blk wz b5 (wcs (shN (S8.list ⟨a, b, c, d, e, f, g, hh⟩) i)) 67) ∧ Hid (wd.grownBy wz (some b5))) (fun iv _ => (intOf iv).toNat)
        case atStart => exact ⟨7, by omega, rfl, HBv3, hid (grefl _ _)⟩
        case round =>
          obtain ⟨i, hi, rfl, HZ, HY⟩ := hrel
          by_cases hi0 : 1 ≤ i
          · obtain ⟨j, hj⟩ : ∃ j, j = i - 1 := ⟨_, rfl⟩
            have p1 : (i : Int) - 1 = (j : Int) := by omega
            have p2 : IntKind.i64.wrap ((i : Int) - 1) = (j : Int) := by rw [wrapi _ (by omega) (by omega)]; exact p1
            have p3 : (0 : Int) < (i : Int) := by omega
            have p4 : (j : Int) < 8 := by omega
            have p5 : (i : Int) < 8 := by omega
            have cj : wr.cell? ⟨b5, j, none⟩ = some (.int .u32 ((S8.list ⟨a, b, c, d, e, f, g, hh⟩).getD j 0 : Nat)) := by rw [HZ.out.cell, wcs_get _ _ (by rw [shN_len _ _ hi]; omega), hj, shN_at _ _ hi0 hi]
            have ci : wr.cell? ⟨b5, i, none⟩ = some (.int .u32 ((shN (S8.list ⟨a, b, c, d, e, f, g, hh⟩) i).getD i 0 : Nat)) := by rw [HZ.out.cell, wcs_get _ _ (by rw [shN_len _ _ hi]; omega)]
            have cf := HZ.out.frozen i
            have HX : Hid ((wcs (shN (S8.list ⟨a, b, c, d, e, f, g, hh⟩) i)).set i (.int .u32 ((S8.list ⟨a, b, c, d, e, f, g, hh⟩).getD j 0 : Nat)) = wcs (shN (S8.list ⟨a, b, c, d, e, f, g, hh⟩) j)) := hid (by rw [hj]; exact shN_set _ _ hi0 hi)
            generalize (S8.list ⟨a, b, c, d, e, f, g, hh⟩).getD j 0 = X at cj HX
            generalize (shN (S8.list ⟨a, b, c, d, e, f, g, hh⟩) i).getD i 0 = Y at ci
            clear hj
            go_wp2_with fail
            exact ⟨⟨j, by omega, rfl, hid (by rw [← HX.out]; exact HZ.out.set _ _), hid (gtrans HY.out (gset _ _ _))⟩, by simp only [intOf]; omega⟩
          · obtain rfl : i = 0 := by omega
            have c4 : wr.cell? ⟨b5, 4, none⟩ = some (.int .u32 (d : Nat)) := by rw [HZ.out.cell]; rfl
            have c0 : wr.cell? ⟨b5, 0, none⟩ = some (.int .u32 (a : Nat)) := by rw [HZ.out.cell]; rfl
            have f4 := HZ.out.frozen 4
            have f0 := HZ.out.frozen 0
            have e1 := a32_int d p
            have e2 := a32_int p q
            have HBf : Hid (Blk ((wr.setCell ⟨b5, 4, none⟩ (.int .u32 (a32 d p : Nat))).setCell ⟨b5, 0, none⟩ (.int .u32 (a32 p q : Nat))) b5 (rnd ⟨a, b, c, d, e, f, g, hh⟩ K W).cells 67) := hid (by
              have h1 := (HZ.out.set 4 (.int .u32 (a32 d p : Nat))).set 0 (.int .u32 (a32 p q : Nat))
              have e : ((wcs (shN (S8.list ⟨a, b, c, d, e, f, g, hh⟩) 0)).set 4 (.int .u32 (a32 d p : Nat))).set 0 (.int .u32 (a32 p q : Nat)) = (rnd ⟨a, b, c, d, e, f, g, hh⟩ K W).cells := by rw [← HP.out, ← HQ.out]; rfl
              rw [e] at h1
              exact h1)
            have HYf := hid (gtrans (gtrans HY.out (gset _ ⟨b5, 4, none⟩ (.int .u32 (a32 d p : Nat)))) (gset _ ⟨b5, 0, none⟩ (.int .u32 (a32 p q : Nat))))
            generalize a32 d p = dp at e1 HBf HYf
            generalize a32 p q = pq at e2 HBf HYf
            go_wp2_with fail
            go_roundw
            case rel => exact ⟨k + 1, _, by omega, by go_num, hid HRN.out.symm, hid (HBw3.out.on HYf.out (by have := HN.out; simp; omega)), HBf, hid (HBs3.out.on HYf.out (by have := HN.out; simp; omega)), hid (HBr3.out.on HYf.out (by have := HN.out; simp; omega)), hid (HBk3.out.on HYf.out (by have := HN.out; simp; omega)), hid (HGq3.out.andThen HYf.out (fun j hj => .inl (by have hj' : b5 = j := Option.some.inj hj; have := HN.out; omega)))⟩
            case measure => simp [intOf]; omega
      · have h16' : ¬ (k : Int) < 16 := by omega
        obtain ⟨i16, j16⟩ : ∃ i, i = k - 16 := ⟨_, rfl⟩
        obtain ⟨i15, j15⟩ : ∃ i, i = k - 15 := ⟨_, rfl⟩
        obtain ⟨i7, j7⟩ : ∃ i, i = k - 7 := ⟨_, rfl⟩
        obtain ⟨i2, j2⟩ : ∃ i, i = k - 2 := ⟨_, rfl⟩
        have q16 : IntKind.i64.wrap ((k : Int) - 16) = (i16 : Int) := by rw [wrapi _ (by omega) (by omega)]; omega
        have p16 : (k : Int) - 16 = (i16 : Int) := by omega
        have r16 : (i16 : Int) < 64 := by omega
        have v16 : IntKind.i64.wrap (i16 : Int) = (i16 : Int) := wrapi _ (by omega) (by omega)
        have c16 := HBw.out.cell i16
        rw [arr_get _ _ _ (by omega)] at c16
        have b16' := wsN_getD_lt l k i16
        have q15 : IntKind.i64.wrap ((k : Int) - 15) = (i15 : Int) := by rw [wrapi _ (by omega) (by omega)]; omega
        have p15 : (k : Int) - 15 = (i15 : Int) := by omega
        have r15 : (i15 : Int) < 64 := by omega
        have v15 : IntKind.i64.wrap (i15 : Int) = (i15 : Int) := wrapi _ (by omega) (by omega)
        have c15 := HBw.out.cell i15
        rw [arr_get _ _ _ (by omega)] at c15
        have b15' := wsN_getD_lt l k i15
        have q7 : IntKind.i64.wrap ((k : Int) - 7) = (i7 : Int) := by rw [wrapi _ (by omega) (by omega)]; omega
        have p7 : (k : Int) - 7 = (i7 : Int) := by omega
        have r7 : (i7 : Int) < 64 := by omega
        have v7 : IntKind.i64.wrap (i7 : Int) = (i7 : Int) := wrapi _ (by omega) (by omega)
        have c7 := HBw.out.cell i7
        rw [arr_get _ _ _ (by omega)] at c7
        have b7' := wsN_getD_lt l k i7
        have q2 : IntKind.i64.wrap ((k : Int) - 2) = (i2 : Int) := by rw [wrapi _ (by omega) (by omega)]; omega
        have p2 : (k : Int) - 2 = (i2 : Int) := by omega
        have r2 : (i2 : Int) < 64 := by omega
        have v2 : IntKind.i64.wrap (i2 : Int) = (i2 : Int) := wrapi _ (by omega) (by omega)
        have c2 := HBw.out.cell i2
        rw [arr_get _ _ _ (by omega)] at c2
        have b2' := wsN_getD_lt l k i2
        have HV2 : Hid ((wsN l (k + 1)).getD k 0 = a32 (a32 (a32 ((wsN l k).getD i16 0) (sg0 ((wsN l k).getD i15 0))) ((wsN l k).getD i7 0)) (sg1 ((wsN l k).getD i2 0))) := by rw [wsN_getD_last, if_neg h16, j16, j15, j7, j2]; exact hid rfl
        generalize (wsN l k).getD i16 0 = x16 at c16 b16' HV2
        generalize (wsN l k).getD i15 0 = x15 at c15 b15' HV2
        generalize (wsN l k).getD i7 0 = x7 at c7 b7' HV2
        generalize (wsN l k).getD i2 0 = x2 at c2 b2' HV2
        have HT7 : Hid (∀ u, Calls Tryd.prog 45 #[.int .u32 (x15 : Nat), .int .u64 7] u fun x w' => x = .returned (.int .u32 (rot 7 x15 : Nat)) ∧ w' = u) := fun u => turnR7 x15 b15' u
        have HT18 : Hid (∀ u, Calls Tryd.prog 45 #[.int .u32 (x15 : Nat), .int .u64 18] u fun x w' => x = .returned (.int .u32 (rot 18 x15 : Nat)) ∧ w' = u) := fun u => turnR18 x15 b15' u
        have HT17 : Hid (∀ u, Calls Tryd.prog 45 #[.int .u32 (x2 : Nat), .int .u64 17] u fun x w' => x = .returned (.int .u32 (rot 17 x2 : Nat)) ∧ w' = u) := fun u => turnR17 x2 b2' u
        have HT19 : Hid (∀ u, Calls Tryd.prog 45 #[.int .u32 (x2 : Nat), .int .u64 19] u fun x w' => x = .returned (.int .u32 (rot 19 x2 : Nat)) ∧ w' = u) := fun u => turnR19 x2 b2' u
        have HVe := hid (nextW_wrap x16 x15 x7 x2 _ _ _ _ b15' rfl rfl rfl rfl b2')
        generalize rot 7 x15 = t7 at HT7 HVe
        generalize rot 18 x15 = t18 at HT18 HVe
        generalize rot 17 x2 = t17 at HT17 HVe
        generalize rot 19 x2 = t19 at HT19 HVe
        obtain ⟨x4, HX4⟩ : ∃ x, Hid (a32 (a32 (a32 x16 (sg0 x15)) x7) (sg1 x2) = x) := ⟨_, hid rfl⟩
        rw [HX4.out] at HV2 HVe
        have HNE : Hid (i16 ≠ k ∧ i7 ≠ k) := hid (by omega)
        have HKP : Hid (∀ (u : World) (o : Nat) (v : Value), o ≠ k → (u.setCell ⟨b4', k, none⟩ v).cell? ⟨b4', o, none⟩ = u.cell? ⟨b4', o, none⟩) := fun u o v hne => World.cell?_setCell_other _ _ _ _ (fun e => hne (by injection e with _ e2; exact e2.symm))
        clear j16 j15 j7 j2
        go_wp2_with fail
        go_region_held3 (fun u => u.cell? ⟨b4', i16, none⟩ = some (.int .u32 x16) ∧ u.cell? ⟨b4', i7, none⟩ = some (.int .u32 x7)) (first | assumption | exact ⟨c16, c7⟩ | exact ⟨(HKP.out _ _ _ HNE.out.1).trans c16, (HKP.out _ _ _ HNE.out.2).trans c7⟩) (first
          | (go_at_call 45; with_reducible refine (HT7.out _).mono ?_; rintro e w' ⟨rfl, hw⟩; have hw' := hw.symm; clear hw; subst hw')
          | (go_at_call 45; with_reducible refine (HT18.out _).mono ?_; rintro e w' ⟨rfl, hw⟩; have hw' := hw.symm; clear hw; subst hw')
          | (go_at_call 45; with_reducible refine (HT17.out _).mono ?_; rintro e w' ⟨rfl, hw⟩; have hw' := hw.symm; clear hw; subst hw')
          | (go_at_call 45; with_reducible refine (HT19.out _).mono ?_; rintro e w' ⟨rfl, hw⟩; have hw' := hw.symm; clear hw; subst hw'))
        go_wp2_with fail
        rw [HVe.out]
        clear c16 c15 c7 c2 HT7 HT18 HT17 HT19
        have HBw1 := hid (HBw.out.set k (.int .u32 (x4 : Nat)))
        rw [← HV2.out, HV3.out] at HBw1
        have HBv1 := hid (HBv.out.on (gset wr ⟨b4', k, none⟩ (.int .u32 (x4 : Nat))) (by have := HN.out; simp; omega))
        have HBs1 := hid (HBs.out.on (gset wr ⟨b4', k, none⟩ (.int .u32 (x4 : Nat))) (by have := HN.out; simp; omega))
        have HBr1 := hid (HBr.out.on (gset wr ⟨b4', k, none⟩ (.int .u32 (x4 : Nat))) (by have := HN.out; simp; omega))
        have HBk1 := hid (HBk.out.on (gset wr ⟨b4', k, none⟩ (.int .u32 (x4 : Nat))) (by have := HN.out; simp; omega))
        have HGq := hid (HG.out.andThen (gset wr ⟨b4', k, none⟩ (.int .u32 (x4 : Nat))) (fun j hj => .inl (by have hj' : b4' = j := Option.some.inj hj; have := HN.out; omega)))
        rw [HV2.out] at HBw1
        replace HBw1 := hid HBw1.out.drw
        replace HBv1 := hid HBv1.out.drw
        replace HBs1 := hid HBs1.out.drw
        replace HBr1 := hid HBr1.out.drw
        replace HBk1 := hid HBk1.out.drw
        replace HGq := hid (gtrans HGq.out (gdrew1 _ none))
        generalize (wr.setCell ⟨b4', k, none⟩ (.int .u32 (x4 : Nat))).drew = wq at HBw1 HBv1 HBs1 HBr1 HBk1 HGq ⊢
        clear HBw HBv HBs HBr HBk HG cw cf
        obtain ⟨W, HW⟩ : ∃ W, Hid ((wsN l (k + 1)).getD k 0 = W) := ⟨_, hid rfl⟩
        obtain ⟨K, HKk⟩ : ∃ K, Hid (kt k = K) := ⟨_, hid rfl⟩
        have hwt : wq.cell? ⟨b4', k, none⟩ = some (.int .u32 (W : Nat)) := by rw [HBw1.out.cell, arr_get _ _ _ (by omega), HW.out]
        have hkt : wq.cell? ⟨b3, k, none⟩ = some (.int .u32 (K : Nat)) := by rw [HBk1.out.cell, ← HKC.out, wcs_get _ _ (show k < KT.length from hlt), ← HKk.out]; rfl
        have HRN : Hid (rounds l s (k + 1) = rnd r K W) := hid (by
          rw [Hr.out, ← HKk.out, ← HW.out, ← wsN_getD_le l 64 (k + 1) k (by omega) (by omega)]
          rfl)
        obtain ⟨a, b, c, d, e, f, g, hh⟩ := r
        have oa : a < 4294967296 := ok.a
        have ob : b < 4294967296 := ok.b
        have oc : c < 4294967296 := ok.c
        have od : d < 4294967296 := ok.d
        have oe : e < 4294967296 := ok.e
        have of' : f < 4294967296 := ok.f
        have og : g < 4294967296 := ok.g
        have oh : hh < 4294967296 := ok.h
        have c0 : wq.cell? ⟨b5, 0, none⟩ = some (.int .u32 (a : Nat)) := by rw [HBv1.out.cell]; rfl
        have c1 : wq.cell? ⟨b5, 1, none⟩ = some (.int .u32 (b : Nat)) := by rw [HBv1.out.cell]; rfl
        have c2 : wq.cell? ⟨b5, 2, none⟩ = some (.int .u32 (c : Nat)) := by rw [HBv1.out.cell]; rfl
        have c4 : wq.cell? ⟨b5, 4, none⟩ = some (.int .u32 (e : Nat)) := by rw [HBv1.out.cell]; rfl
        have c5 : wq.cell? ⟨b5, 5, none⟩ = some (.int .u32 (f : Nat)) := by rw [HBv1.out.cell]; rfl
        have c6 : wq.cell? ⟨b5, 6, none⟩ = some (.int .u32 (g : Nat)) := by rw [HBv1.out.cell]; rfl
        have c7 : wq.cell? ⟨b5, 7, none⟩ = some (.int .u32 (hh : Nat)) := by rw [HBv1.out.cell]; rfl
        have HT6 : Hid (∀ u, Calls Tryd.prog 45 #[.int .u32 (e : Nat), .int .u64 6] u fun x w' => x = .returned (.int .u32 (rot 6 e : Nat)) ∧ w' = u) := fun u => turnR6 e oe u
        obtain ⟨r6, R6⟩ : ∃ x, Hid (rot 6 e = x) := ⟨_, hid rfl⟩
        rw [R6.out] at HT6
        have HT11 : Hid (∀ u, Calls Tryd.prog 45 #[.int .u32 (e : Nat), .int .u64 11] u fun x w' => x = .returned (.int .u32 (rot 11 e : Nat)) ∧ w' = u) := fun u => turnR11 e oe u
        obtain ⟨r11, R11⟩ : ∃ x, Hid (rot 11 e = x) := ⟨_, hid rfl⟩
        rw [R11.out] at HT11
        have HT25 : Hid (∀ u, Calls Tryd.prog 45 #[.int .u32 (e : Nat), .int .u64 25] u fun x w' => x = .returned (.int .u32 (rot 25 e : Nat)) ∧ w' = u) := fun u => turnR25 e oe u
        obtain ⟨r25, R25⟩ : ∃ x, Hid (rot 25 e = x) := ⟨_, hid rfl⟩
        rw [R25.out] at HT25
        have HT2 : Hid (∀ u, Calls Tryd.prog 45 #[.int .u32 (a : Nat), .int .u64 2] u fun x w' => x = .returned (.int .u32 (rot 2 a : Nat)) ∧ w' = u) := fun u => turnR2 a oa u
        obtain ⟨r2, R2⟩ : ∃ x, Hid (rot 2 a = x) := ⟨_, hid rfl⟩
        rw [R2.out] at HT2
        have HT13 : Hid (∀ u, Calls Tryd.prog 45 #[.int .u32 (a : Nat), .int .u64 13] u fun x w' => x = .returned (.int .u32 (rot 13 a : Nat)) ∧ w' = u) := fun u => turnR13 a oa u
        obtain ⟨r13, R13⟩ : ∃ x, Hid (rot 13 a = x) := ⟨_, hid rfl⟩
        rw [R13.out] at HT13
        have HT22 : Hid (∀ u, Calls Tryd.prog 45 #[.int .u32 (a : Nat), .int .u64 22] u fun x w' => x = .returned (.int .u32 (rot 22 a : Nat)) ∧ w' = u) := fun u => turnR22 a oa u
        obtain ⟨r22, R22⟩ : ∃ x, Hid (rot 22 a = x) := ⟨_, hid rfl⟩
        rw [R22.out] at HT22
        have hWl : W < 4294967296 := by rw [← HW.out]; exact wsN_getD_lt _ _ _
        have hKl : K < 4294967296 := by rw [← HKk.out]; exact kt_lt _
        clear ok
        go_quiet ((first | (go_at_call 45; with_reducible exact Calls.quiet_of_same (HT6.out _)) | (go_at_call 45; with_reducible exact Calls.quiet_of_same (HT11.out _)) | (go_at_call 45; with_reducible exact Calls.quiet_of_same (HT25.out _))))
        rw [pT_int2 a b c d e f g hh K W r6 r11 r25 R6.out R11.out R25.out oe of' og]
        obtain ⟨p, HP⟩ : ∃ p, Hid (pT ⟨a, b, c, d, e, f, g, hh⟩ K W = p) := ⟨_, hid rfl⟩
        rw [HP.out]
        have HBw2 := hid (show Blk (wq.drewN nq) b4' (arr l (k + 1)) 84 from HBw1.out)
        have HBv2 := hid (show Blk (wq.drewN nq) b5 _ 67 from HBv1.out)
        have HBs2 := hid (show Blk (wq.drewN nq) b1 ss 67 from HBs1.out)
        have HBr2 := hid (show Blk (wq.drewN nq) b2 z8 67 from HBr1.out)
        have HBk2 := hid (show Blk (wq.drewN nq) b3 kc 84 from HBk1.out)
        have HGq2 := hid (gtrans HGq.out (gdrew wq nq none))
        generalize wq.drewN nq = wp at HBw2 HBv2 HBs2 HBr2 HBk2 HGq2 ⊢
        clear HBw1 HBv1 HBs1 HBr1 HBk1 HGq c0 c1 c2 c4 c5 c6 c7 hwt hkt HT6 HT11 HT25
        have c0 : wp.cell? ⟨b5, 0, none⟩ = some (.int .u32 (a : Nat)) := by rw [HBv2.out.cell]; rfl
        have c1 : wp.cell? ⟨b5, 1, none⟩ = some (.int .u32 (b : Nat)) := by rw [HBv2.out.cell]; rfl
        have c2 : wp.cell? ⟨b5, 2, none⟩ = some (.int .u32 (c : Nat)) := by rw [HBv2.out.cell]; rfl
        have c4 : wp.cell? ⟨b5, 4, none⟩ = some (.int .u32 (e : Nat)) := by rw [HBv2.out.cell]; rfl
        have c5 : wp.cell? ⟨b5, 5, none⟩ = some (.int .u32 (f : Nat)) := by rw [HBv2.out.cell]; rfl
        have c6 : wp.cell? ⟨b5, 6, none⟩ = some (.int .u32 (g : Nat)) := by rw [HBv2.out.cell]; rfl
        have c7 : wp.cell? ⟨b5, 7, none⟩ = some (.int .u32 (hh : Nat)) := by rw [HBv2.out.cell]; rfl
        go_wp2_with fail
        go_quiet ((first | (go_at_call 45; with_reducible exact Calls.quiet_of_same (HT2.out _)) | (go_at_call 45; with_reducible exact Calls.quiet_of_same (HT13.out _)) | (go_at_call 45; with_reducible exact Calls.quiet_of_same (HT22.out _))))
        rw [qT_int a b c d e f g hh r2 r13 r22 R2.out R13.out R22.out oa ob oc]
        obtain ⟨q, HQ⟩ : ∃ q, Hid (qT ⟨a, b, c, d, e, f, g, hh⟩ = q) := ⟨_, hid rfl⟩
        rw [HQ.out]
        obtain ⟨m2, hm2⟩ : ∃ m, m = nq := ⟨_, rfl⟩
        have HBw3 := hid (show Blk (wp.drewN nq) b4' (arr l (k + 1)) 84 from HBw2.out)
        have HBv3 := hid (show Blk (wp.drewN nq) b5 _ 67 from HBv2.out)
        have HBs3 := hid (show Blk (wp.drewN nq) b1 ss 67 from HBs2.out)
        have HBr3 := hid (show Blk (wp.drewN nq) b2 z8 67 from HBr2.out)
        have HBk3 := hid (show Blk (wp.drewN nq) b3 kc 84 from HBk2.out)
        have HGq3 := hid (gtrans HGq2.out (gdrew wp nq none))
        generalize wp.drewN nq = wd at HBw3 HBv3 HBs3 HBr3 HBk3 HGq3 ⊢
        clear HBw2 HBv2 HBs2 HBr2 HBk2 HGq2 c0 c1 c2 c4 c5 c6 c7 HT2 HT13 HT22 hm2
        go_wp2_with fail
        go_loopw [13] (fun iv wz => ∃ i : Nat, i ≤ 7 ∧ iv = .int .i64 i ∧ Hid (Blk wz b5 (wcs (shN (S8.list ⟨a, b, c, d, e, f, g, hh⟩) i)) 67) ∧ Hid (wd.grownBy wz (some b5))) (fun iv _ => (intOf iv).toNat)
        case atStart => exact ⟨7, by omega, rfl, HBv3, hid (grefl _ _)⟩
        case round =>
          obtain ⟨i, hi, rfl, HZ, HY⟩ := hrel
          by_cases hi0 : 1 ≤ i
          · obtain ⟨j, hj⟩ : ∃ j, j = i - 1 := ⟨_, rfl⟩
            have p1 : (i : Int) - 1 = (j : Int) := by omega
            have p2 : IntKind.i64.wrap ((i : Int) - 1) = (j : Int) := by rw [wrapi _ (by omega) (by omega)]; exact p1
            have p3 : (0 : Int) < (i : Int) := by omega
            have p4 : (j : Int) < 8 := by omega
            have p5 : (i : Int) < 8 := by omega
            have cj : wr.cell? ⟨b5, j, none⟩ = some (.int .u32 ((S8.list ⟨a, b, c, d, e, f, g, hh⟩).getD j 0 : Nat)) := by rw [HZ.out.cell, wcs_get _ _ (by rw [shN_len _ _ hi]; omega), hj, shN_at _ _ hi0 hi]
            have ci : wr.cell? ⟨b5, i, none⟩ = some (.int .u32 ((shN (S8.list ⟨a, b, c, d, e, f, g, hh⟩) i).getD i 0 : Nat)) := by rw [HZ.out.cell, wcs_get _ _ (by rw [shN_len _ _ hi]; omega)]
            have cf := HZ.out.frozen i
            have HX : Hid ((wcs (shN (S8.list ⟨a, b, c, d, e, f, g, hh⟩) i)).set i (.int .u32 ((S8.list ⟨a, b, c, d, e, f, g, hh⟩).getD j 0 : Nat)) = wcs (shN (S8.list ⟨a, b, c, d, e, f, g, hh⟩) j)) := hid (by rw [hj]; exact shN_set _ _ hi0 hi)
            generalize (S8.list ⟨a, b, c, d, e, f, g, hh⟩).getD j 0 = X at cj HX
            generalize (shN (S8.list ⟨a, b, c, d, e, f, g, hh⟩) i).getD i 0 = Y at ci
            clear hj
            go_wp2_with fail
            exact ⟨⟨j, by omega, rfl, hid (by rw [← HX.out]; exact HZ.out.set _ _), hid (gtrans HY.out (gset _ _ _))⟩, by simp only [intOf]; omega⟩
          · obtain rfl : i = 0 := by omega
            have c4 : wr.cell? ⟨b5, 4, none⟩ = some (.int .u32 (d : Nat)) := by rw [HZ.out.cell]; rfl
            have c0 : wr.cell? ⟨b5, 0, none⟩ = some (.int .u32 (a : Nat)) := by rw [HZ.out.cell]; rfl
            have f4 := HZ.out.frozen 4
            have f0 := HZ.out.frozen 0
            have e1 := a32_int d p
            have e2 := a32_int p q
            have HBf : Hid (Blk ((wr.setCell ⟨b5, 4, none⟩ (.int .u32 (a32 d p : Nat))).setCell ⟨b5, 0, none⟩ (.int .u32 (a32 p q : Nat))) b5 (rnd ⟨a, b, c, d, e, f, g, hh⟩ K W).cells 67) := hid (by
              have h1 := (HZ.out.set 4 (.int .u32 (a32 d p : Nat))).set 0 (.int .u32 (a32 p q : Nat))
              have e : ((wcs (shN (S8.list ⟨a, b, c, d, e, f, g, hh⟩) 0)).set 4 (.int .u32 (a32 d p : Nat))).set 0 (.int .u32 (a32 p q : Nat)) = (rnd ⟨a, b, c, d, e, f, g, hh⟩ K W).cells := by rw [← HP.out, ← HQ.out]; rfl
              rw [e] at h1
              exact h1)
            have HYf := hid (gtrans (gtrans HY.out (gset _ ⟨b5, 4, none⟩ (.int .u32 (a32 d p : Nat)))) (gset _ ⟨b5, 0, none⟩ (.int .u32 (a32 p q : Nat))))
            generalize a32 d p = dp at e1 HBf HYf
            generalize a32 p q = pq at e2 HBf HYf
            go_wp2_with fail
            go_roundw
            case rel => exact ⟨k + 1, _, by omega, by go_num, hid HRN.out.symm, hid (HBw3.out.on HYf.out (by have := HN.out; simp; omega)), HBf, hid (HBs3.out.on HYf.out (by have := HN.out; simp; omega)), hid (HBr3.out.on HYf.out (by have := HN.out; simp; omega)), hid (HBk3.out.on HYf.out (by have := HN.out; simp; omega)), hid (HGq3.out.andThen HYf.out (fun j hj => .inl (by have hj' : b5 = j := Option.some.inj hj; have := HN.out; omega)))⟩
            case measure => simp [intOf]; omega
    · obtain rfl : k = 64 := by omega
      have HRr : Hid ((addS s r).cells = R) := by rw [Hr.out]; exact hid (HR.out 64 rfl)
      have HB0 : Hid (Blk wr b1 (wcs (adN s r 0)) 67) := hid (by
        have h := HBs.out
        rw [← HSS.out] at h
        exact h)
      obtain ⟨wo, hwo⟩ : ∃ x, x = wr := ⟨_, rfl⟩
      subst hwo
      go_wp2_with fail
      go_loopw [14] (fun iv wz => ∃ i : Nat, i ≤ 8 ∧ iv = .int .i64 i ∧ Hid (Blk wz b1 (wcs (adN s r i)) 67) ∧ Hid (wo.grownBy wz (some b1))) (fun iv _ => 8 - (intOf iv).toNat)
      case atStart => exact ⟨0, by omega, rfl, HB0, hid (grefl _ _)⟩
      case round =>
        obtain ⟨i, hi, rfl, HZ, HY⟩ := hrel
        have HBv4 := hid (HBv.out.on HY.out (by have := HN.out; simp; omega))
        by_cases hi8 : i < 8
        · have i1 : (i : Int) < 8 := by omega
          have ci : wr.cell? ⟨b1, i, none⟩ = some (.int .u32 (s.list.getD i 0 : Nat)) := by rw [HZ.out.cell, wcs_get _ _ (by rw [adN_len]; exact hi8), adN_at _ _ _ hi8]
          have cv : wr.cell? ⟨b5, i, none⟩ = some (.int .u32 (r.list.getD i 0 : Nat)) := by rw [HBv4.out.cell, S8.cells, wcs_get _ _ (show i < r.list.length from hi8)]
          have cf := HZ.out.frozen i
          have HX := hid (adN_set s r i hi8)
          have e1 := a32_int (s.list.getD i 0) (r.list.getD i 0)
          generalize s.list.getD i 0 = X at ci HX e1
          generalize r.list.getD i 0 = Y at cv HX e1
          generalize a32 X Y = Z at HX e1
          have HKP : Hid (∀ (o : Nat) (v : Value), (wr.setCell ⟨b1, i, none⟩ v).drew.cell? ⟨b5, o, none⟩ = wr.cell? ⟨b5, o, none⟩) := fun o v => World.cell?_setCell_other _ _ _ _ (fun e => by injection e with e1; have := HN.out; omega)
          go_wp2_with fail
          go_region
          go_wp2_with fail
          go_roundw
          case rel => exact ⟨i + 1, by omega, by go_num, hid (by rw [← HX.out]; exact (HZ.out.set _ _).drw), hid (gtrans HY.out (gtrans (gset _ _ _) (gdrew1 _ _)))⟩
          case measure => simp [intOf]; omega
        · obtain rfl : i = 8 := by omega
          have HBr4 := hid (HBr.out.on HY.out (by have := HN.out; simp; omega))
          have HF : Hid (Blk wr b1 R 67) := hid (by
            have h := HZ.out
            rw [adN_full] at h
            rw [← HRr.out]
            exact h)
          have HRl : Hid (R.length = 8) := hid (by rw [← HRr.out]; rfl)
          have HR1 : Hid (∀ v ∈ R, v.oneCell' = true) := hid (by rw [← HRr.out]; exact wcs_one _)
          go_wp2_with (first
            | (refine wpList_load_part rfl 67 _ rfl _ 0 R _ rfl HF.out.whole Tryd.underlying67 rfl (by rw [HRl.out]; exact Tryd.size67) ?_)
            | (refine wpList_store_all rfl 67 _ _ rfl b2 z8 R 67 rfl rfl HBr4.out (by rw [HRl.out]; rfl) (by rw [HRl.out]; exact Tryd.size67) HR1.out ?_; intro w9 B9 g9 s9; have HB9 := hid B9; have HG9 := hid g9; clear B9 g9 s9))
          refine bodyPost_ret (results_blk rfl _ b2 67 _ _ rfl HB9.out Tryd.underlying67 rfl (by rw [HRl.out]; exact Tryd.size67)) rfl ?_
          exact ⟨rfl, (HG.out.andThen HY.out (fun j hj => .inl (by have hj' : b1 = j := Option.some.inj hj; have := HN.out; omega))).andThen HG9.out (fun j hj => .inl (by have hj' : b2 = j := Option.some.inj hj; have := HN.out; omega))⟩
end Go.Proofs.YtmiojplbcjhggaaDoor
