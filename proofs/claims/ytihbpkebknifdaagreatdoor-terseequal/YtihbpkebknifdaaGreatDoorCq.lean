/- CopyValue. -/
import Derived.Test.YtihbpkebknifdaaGreatDoorCp
namespace Go.Proofs.YtihbpkebknifdaaGreatDoor
open Go Go.RowKit
open Go.RowKit (wrap32 wrap64)

def Z6 : List Value := [.int .i64 0, .bool false, .int .i64 0, .string ⟨#[]⟩, .slice none 0 0, .slice none 0 0]
theorem Tryz.zero25 : (Tryz.prog.info? 25).map (fun i => i.zero) = some (some (.agg Z6.toArray)) := by kernel_rfl
theorem Tryz.size25 : (Tryz.prog.info? 25).map (·.size) = some 6 := by kernel_rfl
theorem own_base {w : World} {B B' e z n : Nat} {v : Value} {xs : List Value} (h : w.ownsRow B e z v n xs) (hb : B' ≤ B) : w.ownsRow B' e z v n xs :=
  ⟨h.1, h.2.imp id (fun ⟨g, cap, cur, q1, q2, q3⟩ => ⟨g, cap, cur, q1, Nat.le_trans hb q2, q3⟩)⟩
theorem own_on {w w' : World} {B b e z n : Nat} {v : Value} {xs : List Value} (h : w.ownsRow B e z v n xs) (hg : w.grownBy w' (some b)) (hb : b < B) : w'.ownsRow B e z v n xs := by
  refine h.kept hg ?_
  cases hv : v.ownBlock with
  | none => exact .inl rfl
  | some g => exact .inr (fun e => by injection e with e; have := (h.lt g hv).1; omega)
theorem own_keep {w w' : World} {B e z n : Nat} {v : Value} {xs : List Value} (h : w.ownsRow B e z v n xs) (hg : w.grownBy w' none) : w'.ownsRow B e z v n xs := h.kept hg (by cases v.ownBlock <;> simp)
theorem six_one (k : Int) (f : Bool) (n : Int) (t : ByteArray) (ka ia : Option Addr) (kn kc il ic : Nat) : ∀ v ∈ ([.int .i64 k, .bool f, .int .i64 n, .string t, .slice ka kn kc, .slice ia il ic] : List Value), v.oneCell' = true := one6 k f n t ka ia kn kc il ic
set_option maxRecDepth 100000 in
set_option maxHeartbeats 4000000 in
theorem copyValue_any : ∀ m, m ≤ 1099511627776 → CopyOk m
  | 0, _, t, ht, w, F, v, hv => by rw [cntT_eq] at ht; omega
  | m + 1, hm, t, ht, w, F, v, hv => by
    obtain ⟨kv, iv, rfl, hk, hi⟩ := RdT_split hv
    have HSt : Hid (∀ u, w.grownBy u none → Calls Tryz.prog 15 #[kv] u fun e w' => ∃ v', e = .returned v' ∧ w'.ownsRow u.heap.size 9 1 v' t.keys.length (t.keys.map .string) ∧ u.grownBy w' none) := hid (fun u hu => copyStrings_any t.keys u F kv (hk.kept (Stays.none hu) (fun _ h _ => h)) (by have := keyN_length t.keys; rw [cntT_eq] at ht; omega))
    have HVs : Hid (∀ u, w.grownBy u none → Calls Tryz.prog 16 #[iv] u fun e w' => ∃ v', e = .returned v' ∧ OwnI w' u.heap.size t.items v' ∧ u.grownBy w' none) := hid (fun u hu => copyValues_any m (by omega) (copyValue_any m (by omega)) t.items (by rw [cntT_eq] at ht; omega) u F iv (hi.on (Stays.none hu)))
    obtain ⟨ka, kc, rfl, -, -⟩ := hk
    obtain ⟨ia, ic, rfl, -, -⟩ := hi
    have HT : Hid (∀ (u : World) v', OwnV u w.heap.size t v' → OwnV u w.heap.size t v') := hid (fun u v' q => q)
    obtain ⟨K, HK⟩ : ∃ z, Hid (t.kind = z) := ⟨_, hid rfl⟩
    obtain ⟨f, Hf⟩ : ∃ z, Hid (t.flag = z) := ⟨_, hid rfl⟩
    obtain ⟨N, HN⟩ : ∃ z, Hid (t.n = z) := ⟨_, hid rfl⟩
    obtain ⟨X, HX⟩ : ∃ z, Hid (t.text = z) := ⟨_, hid rfl⟩
    obtain ⟨kn, Hkn⟩ : ∃ z, Hid (t.keys.length = z) := ⟨_, hid rfl⟩
    obtain ⟨il, Hil⟩ : ∃ z, Hid (t.items.length = z) := ⟨_, hid rfl⟩
    rw [HK.out, Hf.out, HN.out, HX.out, Hkn.out, Hil.out]
    rw [Hkn.out] at HSt
    rw [Hil.out] at HVs
    clear hv ht hm HT
    go_enter Tryz.func10, Tryz.ntmps10
    go_upto_region 1 with (first
      | ((with_reducible refine wpList_box_row (by with_unfolding_all rfl) 25 _ (by with_unfolding_all rfl) [.int .i64 K, .bool f, .int .i64 N, .string X, .slice ka kn kc, .slice ia il ic] (by with_unfolding_all rfl) ?_); intro w1 B1 s1 g1; have HB1 := hid B1; have HG1 := hid g1; clear B1 s1 g1)
      | ((with_reducible refine wpList_alloc_row (by with_unfolding_all rfl) 25 (by with_unfolding_all rfl) Z6 Tryz.zero25 ?_); intro w2 B2 s2 g2; have HB2 := hid B2; have HG2 := hid (gtrans HG1.out g2); have HL2 : Hid (w.heap.size < w1.heap.size) := hid HB1.out.lt; replace HB1 := hid (HB1.out.keep g2); clear B2 s2 g2))
    obtain ⟨b1, hb1⟩ : ∃ z, w.heap.size = z := ⟨_, rfl⟩
    have HW := hid hb1
    rw [hb1] at HB1 HL2 ⊢
    clear hb1
    obtain ⟨b2, hb2⟩ : ∃ z, w1.heap.size = z := ⟨_, rfl⟩
    rw [hb2] at HB2 HL2 ⊢
    clear hb2 HG1
    go_upto_region 2 with (first
      | ((with_reducible refine wpList_store_all (by with_unfolding_all rfl) 25 _ _ (by with_unfolding_all rfl) w2.heap.size Z6 [.int .i64 K, .bool f, .int .i64 N, .string X, .slice ka kn kc, .slice ia il ic] 25 (by with_unfolding_all rfl) (by with_unfolding_all rfl) HB3.out (by with_unfolding_all rfl) (by with_unfolding_all exact Tryz.size25) (six_one _ _ _ _ _ _ _ _ _ _) ?_); intro w4 B4 g4 s4; have HB4 := hid B4; have HG4 : Hid (w3.grownBy w4 (some w2.heap.size)) := hid g4; clear B4 g4 s4)
      | ((with_reducible refine wpList_alloc_row (by with_unfolding_all rfl) 25 (by with_unfolding_all rfl) Z6 Tryz.zero25 ?_); intro w3 B3 s3 g3; have HB3 := hid B3; have HG3 := hid g3; clear B3 s3 g3)
      | (with_reducible refine wpList_load_part (by with_unfolding_all rfl) 25 _ (by with_unfolding_all rfl) b1 0 [.int .i64 K, .bool f, .int .i64 N, .string X, .slice ka kn kc, .slice ia il ic] _ (by with_unfolding_all rfl) HB1.out.whole Tryz.underlying25 (by with_unfolding_all rfl) (by with_unfolding_all exact Tryz.size25) ?_))
    obtain ⟨b3, hb3⟩ : ∃ z, w2.heap.size = z := ⟨_, rfl⟩
    have HL3 : Hid (b2 < b3) := hid (by rw [← hb3]; exact HB2.out.lt)
    rw [hb3] at HB4 HG4 ⊢
    have HS2 := hid hb3
    clear hb3 HB3
    have HLL : Hid (b1 < b2 ∧ b2 < b3) := hid ⟨HL2.out, HL3.out⟩
    clear HL2 HL3
    have HG04 : Hid (w.grownBy w4 none) := hid ((gtrans HG2.out HG3.out).andThen HG4.out (fun j hj => .inl (by injection hj with hj; have := HLL.out; have := HW.out; omega)))
    have HC1 : Hid (Blk w4 b1 [.int .i64 K, .bool f, .int .i64 N, .string X, .slice ka kn kc, .slice ia il ic] 25) := hid ((HB1.out.keep HG3.out).on HG4.out (by intro e; injection e with e; have := HLL.out; omega))
    have HC2 : Hid (Blk w4 b2 Z6 25) := hid ((HB2.out.keep HG3.out).on HG4.out (by intro e; injection e with e; have := HLL.out; omega))
    clear HB1 HB2 HG2 HG3 HG4 HS2
    have HL4 : Hid (b3 < w4.heap.size) := hid HB4.out.lt
    have c4 : w4.cell? ⟨b1, 4, none⟩ = some (.slice ka kn kc) := HC1.out.cell 4
    have HSt4 := hid (HSt.out w4 HG04.out)
    clear HSt
    go_upto_region 3 with (go_at_call 15; (with_reducible refine HSt4.out.mono ?_); rintro e w5 ⟨v5, rfl, ho5, hg5⟩; have HO5 := hid ho5; have HG5 := hid hg5; obtain ⟨ka', kc', e5⟩ := own_slice ho5; subst e5; have k4 : w5.cell? ⟨b3, 4, none⟩ = some (.slice ka kn kc) := (HB4.out.keep hg5).cell 4; have f4 := (HB4.out.keep hg5).frozen 4; clear ho5 hg5)
    have HB5 : Hid (Blk (w5.setCell ⟨b3, 4, none⟩ (.slice ka' kn kc')) b3 [.int .i64 K, .bool f, .int .i64 N, .string X, .slice ka' kn kc', .slice ia il ic] 25) := hid ((HB4.out.keep HG5.out).set 4 (.slice ka' kn kc'))
    have HG6 : Hid (w5.grownBy (w5.setCell ⟨b3, 4, none⟩ (.slice ka' kn kc')) (some b3)) := hid (gset w5 ⟨b3, 4, none⟩ (.slice ka' kn kc'))
    obtain ⟨w6, hw6⟩ : ∃ z, w5.setCell ⟨b3, 4, none⟩ (.slice ka' kn kc') = z := ⟨_, rfl⟩
    rw [hw6] at HB5 HG6 ⊢
    clear hw6 k4 f4 c4 HB4 HSt4
    have HG06 : Hid (w.grownBy w6 none) := hid ((gtrans HG04.out HG5.out).andThen HG6.out (fun j hj => .inl (by injection hj with hj; have := HLL.out; have := HW.out; omega)))
    have HD1 : Hid (Blk w6 b1 [.int .i64 K, .bool f, .int .i64 N, .string X, .slice ka kn kc, .slice ia il ic] 25) := hid ((HC1.out.keep HG5.out).on HG6.out (by intro e; injection e with e; have := HLL.out; omega))
    have HD2 : Hid (Blk w6 b2 Z6 25) := hid ((HC2.out.keep HG5.out).on HG6.out (by intro e; injection e with e; have := HLL.out; omega))
    have HP6 : Hid (w6.ownsRow w4.heap.size 9 1 (.slice ka' kn kc') kn (t.keys.map .string)) := hid (own_on HO5.out HG6.out HL4.out)
    have HL5 : Hid (w.heap.size ≤ w4.heap.size) := hid HG04.out.size
    clear HC1 HC2 HO5 HG6 HG5 HG04
    have c5 : w6.cell? ⟨b1, 5, none⟩ = some (.slice ia il ic) := HD1.out.cell 5
    have HV6 := hid (HVs.out w6 HG06.out)
    have HL7 : Hid (b3 < w6.heap.size) := hid HB5.out.lt
    clear HVs
    go_upto_region 4 with (go_at_call 16; (with_reducible refine HV6.out.mono ?_); rintro e w7 ⟨v7, rfl, ho7, hg7⟩; have HO7 := hid ho7; have HG7 := hid hg7; obtain ⟨ia', ic', e7⟩ := ho7.len; subst e7; have k5 : w7.cell? ⟨b3, 5, none⟩ = some (.slice ia il ic) := (HB5.out.keep hg7).cell 5; have f5 := (HB5.out.keep hg7).frozen 5; clear ho7 hg7)
    rw [Hil.out] at HO7 ⊢
    have HB8 : Hid (Blk (w7.setCell ⟨b3, 5, none⟩ (.slice ia' il ic')) b3 [.int .i64 K, .bool f, .int .i64 N, .string X, .slice ka' kn kc', .slice ia' il ic'] 25) := hid ((HB5.out.keep HG7.out).set 5 (.slice ia' il ic'))
    have HG8 : Hid (w7.grownBy (w7.setCell ⟨b3, 5, none⟩ (.slice ia' il ic')) (some b3)) := hid (gset w7 ⟨b3, 5, none⟩ (.slice ia' il ic'))
    obtain ⟨w8, hw8⟩ : ∃ z, w7.setCell ⟨b3, 5, none⟩ (.slice ia' il ic') = z := ⟨_, rfl⟩
    rw [hw8] at HB8 HG8 ⊢
    clear hw8 k5 f5 c5 HB5 HV6
    have HE2 : Hid (Blk w8 b2 Z6 25) := hid ((HD2.out.keep HG7.out).on HG8.out (by intro e; injection e with e; have := HLL.out; omega))
    have HG08 : Hid (w.grownBy w8 none) := hid ((gtrans HG06.out HG7.out).andThen HG8.out (fun j hj => .inl (by injection hj with hj; have := HLL.out; have := HW.out; omega)))
    have HP8 : Hid (w8.ownsRow w4.heap.size 9 1 (.slice ka' kn kc') kn (t.keys.map .string)) := hid (own_on (own_keep HP6.out HG7.out) HG8.out HL4.out)
    have HI8 : Hid (OwnI w8 w6.heap.size t.items (.slice ia' il ic')) := hid (HO7.out.on HG8.out HL7.out)
    have HL6 : Hid (w.heap.size ≤ w6.heap.size) := hid HG06.out.size
    clear HP6 HO7 HG7 HG8 HG06 HD1 HD2
    go_wp2_with (first
      | ((with_reducible refine wpList_store_all (by with_unfolding_all rfl) 25 _ _ (by with_unfolding_all rfl) b2 Z6 [.int .i64 K, .bool f, .int .i64 N, .string X, .slice ka' kn kc', .slice ia' il ic'] 25 (by with_unfolding_all rfl) (by with_unfolding_all rfl) HE2.out (by with_unfolding_all rfl) (by with_unfolding_all exact Tryz.size25) (six_one _ _ _ _ _ _ _ _ _ _) ?_); intro w9 B9 g9 s9; have HB9 := hid B9; have HG9 := hid g9; clear B9 g9 s9)
      | (with_reducible refine wpList_load_part (by with_unfolding_all rfl) 25 _ (by with_unfolding_all rfl) b3 0 [.int .i64 K, .bool f, .int .i64 N, .string X, .slice ka' kn kc', .slice ia' il ic'] _ (by with_unfolding_all rfl) HB8.out.whole Tryz.underlying25 (by with_unfolding_all rfl) (by with_unfolding_all exact Tryz.size25) ?_))
    refine bodyPost_ret (results_blk rfl _ b2 25 [.int .i64 K, .bool f, .int .i64 N, .string X, .slice ka' kn kc', .slice ia' il ic'] _ rfl HB9.out Tryz.underlying25 rfl Tryz.size25) rfl ?_
    have hb2 : b2 < w4.heap.size ∧ b2 < w6.heap.size := by have := HLL.out; have := HL4.out; have := HL7.out; omega
    refine ⟨_, rfl, ⟨ka', kn, kc', ia', il, ic', ?_, by rw [Hkn.out]; exact own_base (own_on HP8.out HG9.out hb2.1) HL5.out, (HI8.out.on HG9.out hb2.2).base HL6.out⟩, HG08.out.andThen HG9.out (fun j hj => .inl (by injection hj with hj; have := HLL.out; have := HW.out; omega))⟩
    rw [HK.out, Hf.out, HN.out, HX.out]
end Go.Proofs.YtihbpkebknifdaaGreatDoor
