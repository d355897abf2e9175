/- The seat's Value, walked. -/
import Derived.Test.YtdmnhkgiojkphaaGreatDoorSeE
import Derived.Test.YtdmnhkgiojkphaaGreatDoorClE
namespace Go.Proofs.YtdmnhkgiojkphaaGreatDoor
open Go Go.RowKit
open Go.RowKit (wrap32 wrap64)

theorem SP.keep {w w' : World} {B sb : Nat} {tv vv uv : Value} {subs : List Nat} {Gs : Nat → Nat → Prop} (h : SP w B sb tv vv uv subs Gs) (hst : ∀ i (hi : i < subs.length), SeatAt w B (Gs i) subs[i]) {b : Nat} (hg : w.grownBy w' (some b)) (hb : ¬ SG sb tv vv uv subs.length Gs b) :
    SP w' B sb tv vv uv subs Gs ∧ ∀ i (hi : i < subs.length), SeatAt w' B (Gs i) subs[i] := by
  refine ⟨h.stay hg.size (fun g hg' hl => hg.block g hl (fun e => hb ?_)), fun i hi => (hst i hi).stay (Stays.grown hg (fun g hg' e => hb ?_))⟩
  · injection e with e
    rw [← e]
    rcases hg' with h | h | h | h
    · exact .inl h
    · exact .inr (.inl h)
    · exact .inr (.inr (.inl h))
    · exact .inr (.inr (.inr (.inl h)))
  · injection e with e
    rw [← e]
    exact .inr (.inr (.inr (.inr ⟨i, hi, hg'⟩)))
set_option maxRecDepth 100000 in
set_option maxHeartbeats 8000000 in
theorem seatValue_any : ∀ m, m ≤ 1099511627776 → SeatOk m
  | 0, _, t, ht, w, B, G, sb, v, hv, hS => by rw [cntT_eq] at ht; omega
  | m + 1, hm, t, ht, w, B, G, sb, v, hv, hS => by
    have hok : SeatOk m := seatValue_any m (by omega)
    obtain ⟨kv0, iv0, rfl, hk, hi⟩ := RdT_split hv
    have hkb : t.keys.length ≤ 1099511627776 := by have := keyN_length t.keys; rw [cntT_eq] at ht; omega
    have hib : t.items.length ≤ 1099511627776 := by have := cntL_length t.items; rw [cntT_eq] at ht; omega
    have HIm : Hid (∀ x ∈ t.items, cntT x ≤ m) := hid (fun x hx => by have := cntL_mem hx; rw [cntT_eq] at ht; omega)
    obtain ⟨ka, kc, rfl⟩ := hk.slice
    have HK0 := hid hk
    have HI0 := hid hi
    obtain ⟨ia, ic, rfl⟩ : ∃ ia ic, iv0 = .slice ia t.items.length ic := by obtain ⟨ia, ic, rfl, _⟩ := hi; exact ⟨ia, ic, rfl⟩
    have HS := hid hS
    have HSb : Hid (sb < w.heap.size ∧ B ≤ sb) := hid (by have := hS.lt hS.here; exact ⟨this.2, this.1⟩)
    have HGl : Hid (∀ g, G g → B ≤ g ∧ g < w.heap.size) := hid (fun g hg => hS.lt hg)
    obtain ⟨K, HK⟩ : ∃ z, Hid (t.kind = z) := ⟨_, hid rfl⟩
    obtain ⟨f, Hf⟩ : ∃ z, Hid (t.flag = z) := ⟨_, hid rfl⟩
    obtain ⟨N, HN⟩ : ∃ z, Hid (t.n = z) := ⟨_, hid rfl⟩
    obtain ⟨X, HX⟩ : ∃ z, Hid (t.text = z) := ⟨_, hid rfl⟩
    obtain ⟨KS, HKS⟩ : ∃ z, Hid (t.keys = z) := ⟨_, hid rfl⟩
    obtain ⟨L, HL⟩ : ∃ z, Hid (t.items = z) := ⟨_, hid rfl⟩
    rw [HKS.out] at hkb HK0
    rw [HL.out] at hib HI0 HIm
    rw [HK.out, Hf.out, HN.out, HX.out, HKS.out, HL.out]
    obtain ⟨kn, Hkn⟩ : ∃ z, Hid (KS.length = z) := ⟨_, hid rfl⟩
    obtain ⟨il, Hil⟩ : ∃ z, Hid (L.length = z) := ⟨_, hid rfl⟩
    rw [Hkn.out] at hkb HK0
    rw [Hil.out] at hib HI0
    rw [Hkn.out, Hil.out]
    have HOk := hid hok
    clear hv ht hm hk hi hS hok
    go_enter Tryz.func32, Tryz.ntmps32
    go_upto_region 1 with (first
      | ((with_reducible refine wpList_box_row (by with_unfolding_all rfl) 26 _ (by with_unfolding_all rfl) [.int .i64 K, .bool f, .int .i64 N, .string X, .slice ka kn kc, .slice ia il ic] (by with_unfolding_all rfl) ?_); intro w1 B1 s1 g1; have HB1 := hid B1; have HG1 := hid g1; clear B1 s1 g1)
      | ((with_reducible refine wpList_alloc_row (by with_unfolding_all rfl) 26 (by with_unfolding_all rfl) Z6 Tryz.zero26 ?_); intro w2 B2 s2 g2; have HB2 := hid B2; have HG2 := hid (gtrans HG1.out g2); have HL2 : Hid (w.heap.size < w1.heap.size) := hid HB1.out.lt; replace HB1 := hid (HB1.out.keep g2); clear B2 s2 g2))
    obtain ⟨b1, hb1⟩ : ∃ z, w.heap.size = z := ⟨_, rfl⟩
    have HW := hid hb1
    rw [hb1] at HB1 HL2 ⊢
    clear hb1
    obtain ⟨b2, hb2⟩ : ∃ z, w1.heap.size = z := ⟨_, rfl⟩
    rw [hb2] at HB2 HL2 ⊢
    clear hb2 HG1
    go_upto_region 2 with (first
      | ((with_reducible refine wpList_store_all (by with_unfolding_all rfl) 26 _ _ (by with_unfolding_all rfl) w2.heap.size Z6 [.int .i64 K, .bool f, .int .i64 N, .string X, .slice ka kn kc, .slice ia il ic] 26 (by with_unfolding_all rfl) (by with_unfolding_all rfl) HB3.out (by with_unfolding_all rfl) (by with_unfolding_all exact Tryz.size26) (one6 _ _ _ _ _ _ _ _ _ _) ?_); intro w4 B4 g4 s4; have HB4 := hid B4; have HG4 : Hid (w3.grownBy w4 (some w2.heap.size)) := hid g4; clear B4 g4 s4)
      | ((with_reducible refine wpList_alloc_row (by with_unfolding_all rfl) 26 (by with_unfolding_all rfl) Z6 Tryz.zero26 ?_); intro w3 B3 s3 g3; have HB3 := hid B3; have HG3 := hid g3; clear B3 s3 g3)
      | (with_reducible refine wpList_load_part (by with_unfolding_all rfl) 26 _ (by with_unfolding_all rfl) b1 0 [.int .i64 K, .bool f, .int .i64 N, .string X, .slice ka kn kc, .slice ia il ic] _ (by with_unfolding_all rfl) HB1.out.whole Tryz.underlying26 (by with_unfolding_all rfl) (by with_unfolding_all exact Tryz.size26) ?_))
    obtain ⟨b3, hb3⟩ : ∃ z, w2.heap.size = z := ⟨_, rfl⟩
    have HL3 : Hid (b2 < b3) := hid (by rw [← hb3]; exact HB2.out.lt)
    rw [hb3] at HB4 HG4 ⊢
    have HS2 := hid hb3
    clear hb3 HB3
    have HLL : Hid (b1 < b2 ∧ b2 < b3) := hid ⟨HL2.out, HL3.out⟩
    clear HL2 HL3
    have HG04 : Hid (w.grownBy w4 none) := hid ((gtrans HG2.out HG3.out).andThen HG4.out (fun j hj => .inl (by injection hj with hj; have := HLL.out; have := HW.out; omega)))
    have HC1 : Hid (Blk w4 b1 [.int .i64 K, .bool f, .int .i64 N, .string X, .slice ka kn kc, .slice ia il ic] 26) := hid ((HB1.out.keep HG3.out).on HG4.out (by intro e; injection e with e; have := HLL.out; omega))
    have HC2 : Hid (Blk w4 b2 Z6 26) := hid ((HB2.out.keep HG3.out).on HG4.out (by intro e; injection e with e; have := HLL.out; omega))
    clear HB1 HB2 HG2 HG3 HG4 HS2
    have HL4 : Hid (b3 < w4.heap.size) := hid HB4.out.lt
    have HS4 : Hid (SeatAt w4 B G sb) := hid (HS.out.stay (Stays.none HG04.out))
    obtain ⟨tv, vv, uv, subs, Gs, HP⟩ : ∃ tv vv uv subs Gs, Hid (SP w4 B sb tv vv uv subs Gs ∧ (∀ g, SG sb tv vv uv subs.length Gs g → G g) ∧ ∀ i (hi : i < subs.length), SeatAt w4 B (Gs i) subs[i]) := by
      obtain ⟨tv, vv, uv, subs, Gs, h1, h2, _, h4⟩ := HS4.out.opened
      exact ⟨tv, vv, uv, subs, Gs, hid ⟨h1, h2, h4⟩⟩
    have HCT := hid (seatTexts_any w4 B sb tv vv uv subs Gs (fun g => g < B) KS (.slice ka kn kc) HP.out.1 (HK0.out.kept (Stays.none HG04.out) (fun _ h _ => h)) (by rw [Hkn.out]; omega))
    have c4 : w4.cell? ⟨b1, 4, none⟩ = some (.slice ka kn kc) := HC1.out.cell 4
    have HNG : Hid (∀ b, b1 ≤ b → ¬ G b) := hid (fun b hb hg => by have := (HGl.out b hg).2; have := HW.out; omega)
    have HB1 : Hid (w.heap.size = b1) := HW
    go_upto_region 3 with (go_at_call 64; (with_reducible refine HCT.out.mono ?_); rintro e w5 ⟨tv', rfl, h1, h2, h3, h4⟩; obtain ⟨ta', tc', e5⟩ := own_slice h2; rw [Hkn.out] at e5 h2; subst e5; have HP5 := hid h1; have HT5 := hid h2; have HM5 := hid h3; have HF5 := hid h4; have HD4 : Hid (Blk w5 b3 [.int .i64 K, .bool f, .int .i64 N, .string X, .slice ka kn kc, .slice ia il ic] 26) := hid ((h3.block b3 HL4.out (fun e => HNG.out b3 (by have := HLL.out; omega) (HP.out.2.1 b3 (e.imp id (fun e => .inl e))))).trans HB4.out); have k4 := HD4.out.cell 4; have f4 := HD4.out.frozen 4; clear h1 h2 h3 h4)
    have HS45 := hid HM5.out.size
    have HD1 : Hid (Blk w5 b1 [.int .i64 K, .bool f, .int .i64 N, .string X, .slice ka kn kc, .slice ia il ic] 26) := hid ((HM5.out.block b1 (by have := HLL.out; have := HL4.out; omega) (fun e => HNG.out b1 (Nat.le_refl _) (HP.out.2.1 b1 (e.imp id (fun e => .inl e))))).trans HC1.out)
    have HD2 : Hid (Blk w5 b2 Z6 26) := hid ((HM5.out.block b2 (by have := HLL.out; have := HL4.out; omega) (fun e => HNG.out b2 (by have := HLL.out; omega) (HP.out.2.1 b2 (e.imp id (fun e => .inl e))))).trans HC2.out)
    have HSt5 : Hid (∀ i (hi : i < subs.length), SeatAt w5 B (Gs i) subs[i]) := hid (fun i hi => (HP.out.2.2 i hi).stay (HM5.out.stays (fun g _ hg e => by
      obtain ⟨p1, p2, p3, p4, p5, p6⟩ := HP.out.1.sub i hi g hg
      rcases e with e | e
      · exact p3 e
      · exact p4 e)))
    have HSG5 : Hid (∀ g, SG sb (.slice ta' kn tc') vv uv subs.length Gs g → G g ∨ w4.heap.size ≤ g) := hid (fun g hg => by
      rcases hg with h | h | h | h | h
      · exact .inl (HP.out.2.1 g (.inl h))
      · rcases HF5.out g h with h | h
        · exact .inl (HP.out.2.1 g (.inr (.inl h)))
        · exact .inr h
      · exact .inl (HP.out.2.1 g (.inr (.inr (.inl h))))
      · exact .inl (HP.out.2.1 g (.inr (.inr (.inr (.inl h)))))
      · exact .inl (HP.out.2.1 g (.inr (.inr (.inr (.inr h))))))
    have HG6 := hid (gset w5 ⟨b3, 4, none⟩ (.slice ta' kn tc'))
    have HE4 : Hid (Blk (w5.setCell ⟨b3, 4, none⟩ (.slice ta' kn tc')) b3 [.int .i64 K, .bool f, .int .i64 N, .string X, .slice ta' kn tc', .slice ia il ic] 26) := hid (HD4.out.set 4 (.slice ta' kn tc'))
    have HNb3 : Hid (¬ SG sb (.slice ta' kn tc') vv uv subs.length Gs b3) := hid (fun h => by
      rcases HSG5.out b3 h with h | h
      · exact HNG.out b3 (by have := HLL.out; omega) h
      · have := HL4.out; omega)
    have HP6 := hid (HP5.out.keep HSt5.out HG6.out HNb3.out)
    have HE1 : Hid (Blk (w5.setCell ⟨b3, 4, none⟩ (.slice ta' kn tc')) b1 [.int .i64 K, .bool f, .int .i64 N, .string X, .slice ka kn kc, .slice ia il ic] 26) := hid (HD1.out.on HG6.out (by intro e; have e : b3 = b1 := (by injection e); have := HLL.out; omega))
    have HE2 : Hid (Blk (w5.setCell ⟨b3, 4, none⟩ (.slice ta' kn tc')) b2 Z6 26) := hid (HD2.out.on HG6.out (by intro e; have e : b3 = b2 := (by injection e); have := HLL.out; omega))
    have HT6 : Hid ((w5.setCell ⟨b3, 4, none⟩ (.slice ta' kn tc')).ownsRow B 9 1 (.slice ta' kn tc') kn (KS.map .string)) := hid (own_same HT5.out (fun g hg hl => HG6.out.block g hl (fun e => HNb3.out (by have e : g = b3 := (by injection e); rw [← e]; exact .inr (.inl hg)))))
    have HM6 : Hid (Moved G w (w5.setCell ⟨b3, 4, none⟩ (.slice ta' kn tc'))) := hid (((Moved.grown (G := G) HG04.out (fun g hg _ => by cases hg)).trans HM5.out (fun _ _ h => h) (fun g _ e => HP.out.2.1 g (e.imp id (fun e => .inl e)))).trans (Moved.grown (G := fun g => g = b3) HG6.out (fun g hg _ => by injection hg with hg; exact hg.symm)) (fun _ _ h => h) (fun g hl e => by have := HLL.out; have := HW.out; omega))
    have HS6 : Hid (w4.heap.size ≤ (w5.setCell ⟨b3, 4, none⟩ (.slice ta' kn tc')).heap.size) := hid (Nat.le_trans HS45.out HG6.out.size)
    have HI6 : Hid (RdS (w5.setCell ⟨b3, 4, none⟩ (.slice ta' kn tc')) (fun g => g < B) L (.slice ia il ic)) := hid (RdS.on HI0.out (HM6.out.stays (fun g _ hg h => by have := (HGl.out g h).1; omega)))
    obtain ⟨w6, hw6⟩ : ∃ z, w5.setCell ⟨b3, 4, none⟩ (.slice ta' kn tc') = z := ⟨_, rfl⟩
    rw [hw6] at HE4 HP6 HE1 HE2 HT6 HM6 HS6 HI6 ⊢
    clear hw6 k4 f4 c4 HG6 HD4 HD1 HD2 HSt5 HT5 HM5 HP5 HB4 HC1 HC2
    have HNb : Hid (∀ b, b1 ≤ b → b < w4.heap.size → ¬ SG sb (.slice ta' kn tc') vv uv subs.length Gs b) := hid (fun b hb hb2 h => by
      rcases HSG5.out b h with h | h
      · exact HNG.out b hb h
      · omega)
    have HCV := hid (seatValues_any m HOk.out w6 B sb (.slice ta' kn tc') vv uv subs Gs L (.slice ia il ic) HP6.out.1 HP6.out.2 HIm.out (by rw [Hil.out]; omega) HI6.out)
    have c5 : w6.cell? ⟨b1, 5, none⟩ = some (.slice ia il ic) := HE1.out.cell 5
    go_upto_region 4 with (go_at_call 65; (with_reducible refine HCV.out.mono ?_); rintro e w7 ⟨vv', uv', subs', Gs', rfl, h1⟩; rw [Hil.out] at h1; obtain ⟨va', vc', e7⟩ := own_slice h1.row.choose_spec.1; subst e7; have HV := hid h1; have HF4 : Hid (Blk w7 b3 [.int .i64 K, .bool f, .int .i64 N, .string X, .slice ta' kn tc', .slice ia il ic] 26) := hid ((h1.m.block b3 HE4.out.lt (fun e => HNb.out b3 (by have := HLL.out; omega) HL4.out e.1)).trans HE4.out); have k5 := HF4.out.cell 5; have f5 := HF4.out.frozen 5; clear h1)
    have HF2 : Hid (Blk w7 b2 Z6 26) := hid ((HV.out.m.block b2 HE2.out.lt (fun e => HNb.out b2 (by have := HLL.out; omega) (by have := HLL.out; have := HL4.out; omega) e.1)).trans HE2.out)
    have HT7 : Hid (w7.ownsRow B 9 1 (.slice ta' kn tc') kn (KS.map .string)) := hid (own_same HT6.out (fun g hg hl => HV.out.m.block g hl (fun e => e.2 hg)))
    have HS7 : Hid (w6.heap.size ≤ w7.heap.size) := hid HV.out.m.size
    have HSG7 : Hid (∀ g, SG sb (.slice ta' kn tc') (.slice va' il vc') uv' subs'.length Gs' g → G g ∨ w4.heap.size ≤ g) := hid (fun g hg => by
      by_cases ht : (Value.slice ta' kn tc').ownBlock = some g
      · exact HSG5.out g (.inr (.inl ht))
      · rcases HV.out.fr g hg ht with h | h
        · exact HSG5.out g h.1
        · exact .inr (Nat.le_trans HS6.out h))
    have HNb7 : Hid (∀ b, b1 ≤ b → b < w4.heap.size → ¬ SG sb (.slice ta' kn tc') (.slice va' il vc') uv' subs'.length Gs' b) := hid (fun b hb hb2 h => by
      rcases HSG7.out b h with h | h
      · exact HNG.out b hb h
      · omega)
    have HM7 : Hid (Moved G w w7) := hid (HM6.out.trans HV.out.m (fun _ _ h => h) (fun g hl e => by
      rcases HSG5.out g e.1 with h | h
      · exact h
      · have := HLL.out; have := HL4.out; have := HW.out; omega))
    have HG8 := hid (gset w7 ⟨b3, 5, none⟩ (.slice va' il vc'))
    have HH3 : Hid (Blk (w7.setCell ⟨b3, 5, none⟩ (.slice va' il vc')) b3 [.int .i64 K, .bool f, .int .i64 N, .string X, .slice ta' kn tc', .slice va' il vc'] 26) := hid (HF4.out.set 5 (.slice va' il vc'))
    have HH2 : Hid (Blk (w7.setCell ⟨b3, 5, none⟩ (.slice va' il vc')) b2 Z6 26) := hid (HF2.out.on HG8.out (by intro e; have e : b3 = b2 := (by injection e); have := HLL.out; omega))
    obtain ⟨w8, hw8⟩ : ∃ z, w7.setCell ⟨b3, 5, none⟩ (.slice va' il vc') = z := ⟨_, rfl⟩
    rw [hw8] at HH3 HH2 HG8 ⊢
    clear hw8 k5 f5 c5 HF4 HF2 HE4 HE1 HE2 HCV HCT
    go_wp2_with (first
      | ((with_reducible refine wpList_store_all (by with_unfolding_all rfl) 26 _ _ (by with_unfolding_all rfl) b2 Z6 [.int .i64 K, .bool f, .int .i64 N, .string X, .slice ta' kn tc', .slice va' il vc'] 26 (by with_unfolding_all rfl) (by with_unfolding_all rfl) HH2.out (by with_unfolding_all rfl) (by with_unfolding_all exact Tryz.size26) (one6 _ _ _ _ _ _ _ _ _ _) ?_); intro w9 B9 g9 s9; have HB9 := hid B9; have HG9 := hid g9; clear B9 g9 s9)
      | (with_reducible refine wpList_load_part (by with_unfolding_all rfl) 26 _ (by with_unfolding_all rfl) b3 0 [.int .i64 K, .bool f, .int .i64 N, .string X, .slice ta' kn tc', .slice va' il vc'] _ (by with_unfolding_all rfl) HH3.out.whole Tryz.underlying26 (by with_unfolding_all rfl) (by with_unfolding_all exact Tryz.size26) ?_))
    refine bodyPost_ret (results_blk rfl _ b2 26 [.int .i64 K, .bool f, .int .i64 N, .string X, .slice ta' kn tc', .slice va' il vc'] _ rfl HB9.out Tryz.underlying26 rfl Tryz.size26) rfl ?_
    have hLL := HLL.out
    have hL4 := HL4.out
    have hW := HW.out
    have h8 := HV.out.sp.keep HV.out.st HG8.out (HNb7.out b3 (by omega) (by omega))
    have h9 := h8.1.keep h8.2 HG9.out (HNb7.out b2 (by omega) (by omega))
    have hk79 : ∀ g, SG sb (.slice ta' kn tc') (.slice va' il vc') uv' subs'.length Gs' g → g < w7.heap.size → w9.heap[g]? = w7.heap[g]? := fun g hg hl => by
      have n3 : g ≠ b3 := fun e => HNb7.out b3 (by omega) (by omega) (by rw [← e]; exact hg)
      have n2 : g ≠ b2 := fun e => HNb7.out b2 (by omega) (by omega) (by rw [← e]; exact hg)
      exact (HG9.out.block g (Nat.lt_of_lt_of_le hl HG8.out.size) (fun e => n2 (by injection e))).trans (HG8.out.block g hl (fun e => n3 (by injection e)))
    have hS9 := Nat.le_trans HG8.out.size HG9.out.size
    obtain ⟨xs, ho, hE⟩ := HV.out.row
    refine ⟨SG sb (.slice ta' kn tc') (.slice va' il vc') uv' subs'.length Gs', _, rfl, .mk h9.1 (fun g h => h) (fun g h => h9.1.lt h) h9.2, ?_, fun g hg => (HSG7.out g hg).imp id (fun h => by omega), ?_⟩
    · have hT : Tree.mk K f N X KS L = t := by rw [← HK.out, ← Hf.out, ← HN.out, ← HX.out, ← HKS.out, ← HL.out]; cases t; rfl
      rw [← hT, RdT_eq]
      have ho9 := own_same (w' := w9) ho (fun g hg hl => hk79 g (.inr (.inr (.inl hg))) hl)
      have hE9 : Elems w9 (SG sb (.slice ta' kn tc') (.slice va' il vc') uv' subs'.length Gs') L xs := by
        have e : L.take il = L := by rw [← Hil.out, List.take_length]
        rw [e] at hE
        have hin : ∀ g, (∃ j, j < il ∧ Gs' j g) → SG sb (.slice ta' kn tc') (.slice va' il vc') uv' subs'.length Gs' g := fun g ⟨j, hj, hg⟩ => .inr (.inr (.inr (.inr ⟨j, by have := HV.out.le; omega, hg⟩)))
        exact Elems.kept (F := fun g => ∃ j, j < il ∧ Gs' j g) ⟨hS9, fun g hg hl => hk79 g (hin g hg) hl⟩ (fun g hg _ => hin g hg) hE
      have ho9' : w9.ownsRow B 26 6 (.slice va' il vc') L.length xs := by rw [Hil.out]; exact ho9
      obtain ⟨a, c, e, q1, q2⟩ := items_of ho9' hE9 (fun g hg => .inr (.inr (.inl hg)))
      have hk9 : RdK w9 (SG sb (.slice ta' kn tc') (.slice va' il vc') uv' subs'.length Gs') KS (.slice ta' kn tc') := keys_of (B := B) (by
        rw [Hkn.out]
        exact own_same (w' := w9) HT7.out (fun g hg hl => hk79 g (.inr (.inl hg)) hl)) (fun g hg => .inr (.inl hg))
      refine ⟨.slice ta' kn tc', a, c, ?_, hk9, q1, q2⟩
      rw [e]
      rfl
    · refine (HM7.out.trans (Moved.grown (G := fun g => g = b3) HG8.out (fun g hg _ => by injection hg with hg; exact hg.symm)) (fun _ _ h => h) (fun g hl e => by omega)).trans (Moved.grown (G := fun g => g = b2) HG9.out (fun g hg _ => by injection hg with hg; exact hg.symm)) (fun _ _ h => h) (fun g hl e => by omega)
end Go.Proofs.YtdmnhkgiojkphaaGreatDoor
