/- A life's turns; grown. -/
import Derived.Test.YtmpcpakdocaieaaGrow2
import Derived.Test.YtmpcpakdocaieaaPlR
namespace Go.Proofs.Ytmpcpakdocaieaa
open Go Go.RowKit
open Go.RowKit (wrap32 wrap64)

/-- A turn. -/
structure Tn where
  act : Int
  sec : List UInt8
  at_ : Int
  kid : Nat
def Tn.cells (t : Tn) : List Value := .int .i64 t.act :: (Lib.byteCells t.sec ++ [.int .i64 t.at_, .int .u64 t.kid])
def Tn.ok (t : Tn) : Prop := t.sec.length = 32 ∧ (-9223372036854775808 ≤ t.at_ ∧ t.at_ ≤ 9223372036854775807)
theorem Tn.cells_length {t : Tn} (h : t.sec.length = 32) : t.cells.length = 35 := by simp [Tn.cells, byteCells_length, h]
theorem Tn.one (t : Tn) : ∀ v ∈ t.cells, v.oneCell' = true := by
  intro v hv
  unfold Tn.cells at hv
  simp only [List.mem_cons, List.mem_append, List.not_mem_nil, or_false] at hv
  rcases hv with rfl | hv | rfl | rfl
  · rfl
  · exact bcs_one _ v hv
  · rfl
  · rfl
theorem Tn.c33 {t : Tn} (h : t.sec.length = 32) : t.cells[33]? = some (.int .i64 t.at_) := by
  unfold Tn.cells
  rw [List.getElem?_cons_succ, List.getElem?_append_right (by rw [byteCells_length]; omega), byteCells_length, h]
  rfl
theorem Tn.c34 {t : Tn} (h : t.sec.length = 32) : t.cells[34]? = some (.int .u64 t.kid) := by
  unfold Tn.cells
  rw [List.getElem?_cons_succ, List.getElem?_append_right (by rw [byteCells_length]; omega), byteCells_length, h]
  rfl
theorem Tn.range {u : World} {B : Nat} {t : Tn} (h : Blk u B t.cells 99) : u.rangeAt B 1 (Lib.byteCells t.sec) :=
  h.range [.int .i64 t.act] (Lib.byteCells t.sec) [.int .i64 t.at_, .int .u64 t.kid] 1 rfl rfl
def ztn : Tn := ⟨0, z32, 0, 0⟩
theorem Try.zero99 : (Try.prog.info? 99).map (fun i => i.zero) = some (some (.agg ztn.cells.toArray)) := by kernel_rfl
theorem Try.size99 : (Try.prog.info? 99).map (·.size) = some 35 := by kernel_rfl
/-- A row of turns, as the walk reads it. -/
def RowsT (W : World) (a : Option Addr) (b o n : Nat) (T : Nat → Tn) : Prop :=
  (0 < n → a = some ⟨b, o, none⟩ ∧ b < W.heap.size) ∧ ∀ i, i < n → W.rangeAt b (o + i * 35) (T i).cells ∧ (T i).ok
theorem RowsT.on {W u : World} {a : Option Addr} {b o n : Nat} {T : Nat → Tn} (h : RowsT W a b o n T) (hg : W.grownBy u none) : RowsT u a b o n T :=
  ⟨fun h0 => ⟨(h.1 h0).1, Nat.lt_of_lt_of_le (h.1 h0).2 hg.size⟩, fun i hi => ⟨range_at hg (h.1 (by omega)).2 (by simp) (h.2 i hi).1, (h.2 i hi).2⟩⟩
/-- A life's cells. -/
def lifeC (sec : List UInt8) (ta : Option Addr) (tn tc : Nat) : List Value := Lib.byteCells sec ++ [.slice ta tn tc]
theorem life_len {sec : List UInt8} (h : sec.length = 32) (ta : Option Addr) (tn tc : Nat) : (lifeC sec ta tn tc).length = 33 := by simp [lifeC, byteCells_length, h]
theorem Try.under69 : Try.prog.underlying 69 = some (.struct (Try.prog.fieldsOf 69)) := by kernel_rfl
theorem Try.size94 : (Try.prog.info? 94).map (·.size) = some 33 := by kernel_rfl
set_option maxRecDepth 100000 in
set_option maxHeartbeats 3200000 in
theorem grown_any (w : World) (sec : List UInt8) (ta : Option Addr) (tb to tn tc : Nat) (T : Nat → Tn) (hs : sec.length = 32) (htn : tn ≤ 140737488355328) (hT : RowsT w ta tb to tn T) :
    Calls Try.prog 28 #[.agg (lifeC sec ta tn tc).toArray] w fun e w' => ∃ (l : List Ky) (nx : Nat) (a : Option Addr) (c : Nat), e = .returned (.tuple #[.agg #[.slice a l.length c, .int .u64 nx], .bool true]) ∧ isRing l nx = true ∧ OutK w.heap.size w' (.slice a l.length c) l ∧ w.grownBy w' none := by
  have HT : Hid (∀ u, w.grownBy u none → RowsT u ta tb to tn T) := fun u hu => hT.on hu
  obtain ⟨P, HP⟩ : ∃ x, Hid (lifeC sec ta tn tc = x) := ⟨_, hid rfl⟩
  obtain ⟨s, HS⟩ : ∃ x, Hid (Lib.byteCells sec = x) := ⟨_, hid rfl⟩
  have HSL : Hid (s.length = 32) := hid (by rw [← HS.out, byteCells_length, hs])
  have HPs : Hid (∀ (u : World) (B : Nat), Blk u B P 94 → u.rangeAt B 0 s) := fun u B h => by
    rw [← HS.out]
    rw [← HP.out] at h
    exact h.range [] (Lib.byteCells sec) [.slice ta tn tc] 0 rfl rfl
  have HPc : Hid (∀ (u : World) (B : Nat), Blk u B P 94 → u.cell? ⟨B, 32, none⟩ = some (.slice ta tn tc)) := fun u B h => by
    rw [h.cell, ← HP.out]
    unfold lifeC
    rw [List.getElem?_append_right (by rw [byteCells_length, hs]; exact Nat.le_refl _), byteCells_length, hs]
    rfl
  have HFi : Hid (∀ u : World, Calls Try.prog 10 #[.agg s.toArray] u fun e w' => ∃ a c, e = .returned (.agg #[.slice a 1 c, .int .u64 2]) ∧ OutK u.heap.size w' (.slice a 1 c) [⟨1, sec, 0⟩] ∧ u.grownBy w' none) := fun u => by
    rw [← HS.out]
    exact first_any u sec hs
  have HR0 := hid (Rg.first sec).ring.1
  obtain ⟨B0, HB0⟩ : ∃ x, Hid (w.heap.size = x) := ⟨_, hid rfl⟩
  rw [HP.out]
  clear hT hs
  go_enter Try.func28, Try.ntmps28
  go_wp2_with (first
    | ((with_reducible refine wpList_box_row (by with_unfolding_all rfl) 94 _ (by with_unfolding_all rfl) P (by with_unfolding_all rfl) ?_); intro w1 B1 s1 g1; have HB1 := hid B1; have HG1 := hid g1; have HS1 := hid s1; clear B1 g1 s1)
    | (have := HB2; clear this; (with_reducible refine wpList_alloc_row (by with_unfolding_all rfl) 69 (by with_unfolding_all rfl) [.slice none 0 0, .int .u64 0] Try.zero69 ?_); intro w4 B4 s4 g4; have HB4 := hid B4; have HG4 := hid g4; have HS4 := hid s4; clear B4 g4 s4)
    | ((with_reducible refine wpList_alloc_row (by with_unfolding_all rfl) 69 (by with_unfolding_all rfl) [.slice none 0 0, .int .u64 0] Try.zero69 ?_); intro w2 B2 s2 g2; have HB2 := hid B2; have HG2 := hid g2; have HS2 := hid s2; clear B2 g2 s2)
    | (with_reducible refine wpList_load_part (by with_unfolding_all rfl) 70 _ (by with_unfolding_all rfl) w.heap.size 0 s _ (by with_unfolding_all rfl) (HPs.out _ _ (HB1.out.keep HG2.out)) Try.underlying70 (by with_unfolding_all rfl) (by rw [HSL.out]; exact Try.size70) ?_)
    | (go_at_call 10; (with_reducible refine (HFi.out _).mono ?_); rintro e w3 ⟨a3, c3, rfl, hO3, hg3⟩; have HO3 := hid (hO3.below (show B0 ≤ w2.heap.size by have := HG1.out.size; have := HG2.out.size; have := HB0.out; omega)); have HG3z := hid hg3; have HG3 := hid (gtrans (gtrans HG1.out HG2.out) hg3); have HP3 := hid ((HB1.out.keep HG2.out).keep hg3); have HZ3 := hid (HB2.out.keep hg3); clear hO3 hg3)
    | ((with_reducible refine wpList_store_all (by with_unfolding_all rfl) 69 _ _ (by with_unfolding_all rfl) _ [.slice none 0 0, .int .u64 0] [.slice a3 1 c3, .int .u64 2] 69 (by with_unfolding_all rfl) (by with_unfolding_all rfl) HB4.out (by with_unfolding_all rfl) (by with_unfolding_all exact Try.size69) (ring_one _ _ _ _) ?_); intro w5 B5 g5 s5; have HB5 := hid B5; have HG5 := hid g5; have HS5 := hid s5; clear B5 g5 s5; have hlp := HP3.out.lt; have hlz := HZ3.out.lt; have HG5x := hid ((gtrans HG3.out HG4.out).andThen HG5.out (fun j hj => .inl (by injection hj with hj; have := HG3.out.size; omega))); have HP5 := hid ((HP3.out.keep HG4.out).on HG5.out (by simp; omega)); have HZ5 := hid ((HZ3.out.keep HG4.out).on HG5.out (by simp; omega)); have HO5 := hid ((HO3.out.keep HG4.out).on HG5.out (fun j hj e => by injection hj with hj; exact (HO3.out.keep HG4.out).ne_blk HB4.out (by decide) _ e hj.symm)); clear hlp hlz))
  obtain ⟨br, hbr⟩ : ∃ x, w3.heap.size = x := ⟨_, rfl⟩
  obtain ⟨b2, hb2⟩ : ∃ x, w1.heap.size = x := ⟨_, rfl⟩
  rw [hbr, hb2, HB0.out]
  rw [hbr] at HB5
  rw [hb2] at HZ5
  rw [HB0.out] at HP5
  have HBRz : Hid (B0 + 1 ≤ b2 ∧ b2 < br) := hid (by have := HS1.out; have := HS2.out; have := HG3z.out.size; have := HB0.out; omega)
  have HBR : Hid (B0 < br ∧ br ≠ B0 ∧ br ≠ b2) := hid (by have := HBRz.out; omega)
  go_loopw [5] (fun iv wr => ∃ (i : Nat) (l : List Ky) (nx : Nat) (a : Option Addr) (n c : Nat), iv = .int .i64 i ∧ i ≤ 40 ∧ i ≤ tn ∧ Hid (isRing l nx = true ∧ l.length = n) ∧ Hid (Blk wr br [.slice a n c, .int .u64 nx] 69) ∧ Hid (OutK B0 wr (.slice a n c) l) ∧ Hid (w.grownBy wr none) ∧ Hid (Blk wr B0 P 94) ∧ Hid (Blk wr b2 [.slice none 0 0, .int .u64 0] 69)) (fun iv _ => 40 - (intOf iv).toNat)
  case atStart => exact ⟨0, [⟨1, sec, 0⟩], 2, a3, 1, c3, rfl, by omega, by omega, hid ⟨HR0.out, rfl⟩, HB5, HO5, HG5x, HP5, HZ5⟩
  case round =>
    clear HB5 HO5 HG5x HP5 HZ5
    obtain ⟨i, l, nx, a, n, c, rfl, hi40, hitn, HRi, HBr, HO, HG, HBp, HBz⟩ := hrel
    have p32 := HPc.out wr _ HBp.out
    by_cases hlt : i < tn ∧ i < 40
    · have hit : (i : Int) < (tn : Int) := by omega
      have hi4 : (i : Int) < 40 := by omega
      obtain ⟨rfl, htb⟩ := (HT.out wr HG.out).1 (by omega)
      obtain ⟨hrt, hok⟩ := (HT.out wr HG.out).2 i hlt.1
      have HRt := hid hrt
      have HKL : Hid ((T i).cells.length = 35) := hid (Tn.cells_length hok.1)
      have HK1 : Hid (∀ v ∈ (T i).cells, v.oneCell' = true) := hid (Tn.one _)
      have HCt := hid (fun (u : World) (B : Nat) (h : Blk u B (T i).cells 99) => (⟨by rw [h.cell]; rfl, by rw [h.cell]; exact Tn.c33 hok.1, by rw [h.cell]; exact Tn.c34 hok.1⟩ : u.cell? ⟨B, 0, none⟩ = some (.int .i64 (T i).act) ∧ u.cell? ⟨B, 33, none⟩ = some (.int .i64 (T i).at_) ∧ u.cell? ⟨B, 34, none⟩ = some (.int .u64 (T i).kid)))
      have HTs := hid (fun (u : World) (B : Nat) (h : Blk u B (T i).cells 99) => Tn.range h)
      have HTL : Hid ((Lib.byteCells (T i).sec).length = 32) := hid (by rw [byteCells_length]; exact hok.1)
      have HLl : Hid (l.length ≤ 1099511627776) := hid (by have := (goodL_pos (isRing_good HRi.out.1).1).2; omega)
      have hpr := fun (u : World) (h : OutK B0 u (.slice a n c) l) => prune_any u _ _ l nx (T i).at_ h.rd HLl.out
      have hro := fun (u : World) (h : OutK B0 u (.slice a n c) l) => rotate_any u _ _ l nx (T i).sec (T i).at_ h.rd HLl.out hok.1 hok.2
      have hdi := fun (u : World) (h : OutK B0 u (.slice a n c) l) => distrust_any u _ _ l nx (T i).kid (T i).sec h.rd HLl.out hok.1
      have hpl := prn_ring (T i).at_ HRi.out.1
      have hrl := rotR_ring (T i).sec (T i).at_ HRi.out.1
      have hdl := disR_ring (kid := (T i).kid) (T i).sec HRi.out.1
      obtain ⟨K, HK⟩ : ∃ x, Hid ((T i).cells = x) := ⟨_, hid rfl⟩
      obtain ⟨ts, HTS⟩ : ∃ x, Hid (Lib.byteCells (T i).sec = x) := ⟨_, hid rfl⟩
      obtain ⟨act, HAc⟩ : ∃ x, Hid ((T i).act = x) := ⟨_, hid rfl⟩
      rw [HTS.out] at HTL HTs hro hdi
      rw [HK.out] at HRt HKL HK1 HCt HTs
      rw [HAc.out] at HCt
      clear hrt
      by_cases h1 : act = 1
      · rw [hpl.1] at hpr
        have HPr := hid hpr
        obtain ⟨LP, hLP⟩ : ∃ x, l.filter (fun k => !goesP (T i).at_ k) = x := ⟨_, rfl⟩
        rw [hLP] at HPr
        have HLP := hid hpl.2
        rw [hLP] at HLP
        clear hro hdi hpl hrl hdl hpr hLP hok
        subst h1
        go_wp2_with (first
          | (with_reducible refine wpList_load_part (by with_unfolding_all rfl) 99 _ (by with_unfolding_all rfl) tb (to + i * 35) K _ (by with_unfolding_all rfl) HRt.out Try.underlying99 (by with_unfolding_all rfl) (by rw [HKL.out]; exact Try.size99) ?_)
          | ((with_reducible refine wpList_alloc_row (by with_unfolding_all rfl) 99 (by with_unfolding_all rfl) ztn.cells Try.zero99 ?_); intro w1 B1 s1 g1; have HB1 := hid B1; have HG1 := hid g1; have HS1 := hid s1; clear B1 g1 s1)
          | ((with_reducible refine wpList_store_all (by with_unfolding_all rfl) 99 _ _ (by with_unfolding_all rfl) _ ztn.cells K 99 (by with_unfolding_all rfl) (by with_unfolding_all rfl) HB1.out (by rw [HKL.out]; with_unfolding_all rfl) (by rw [HKL.out]; exact Try.size99) HK1.out ?_); intro w2 B2 g2 s2; have HB2 := hid B2; have HG2 := hid g2; have HS2 := hid s2; clear B2 g2 s2; have hlb := HBr.out.lt; have hlp := HBp.out.lt; have hl2 := HBz.out.lt; have HGy := hid (HG1.out.andThen HG2.out (fun j hj => .inl (by injection hj with hj; omega))); have HR2 := hid (HBr.out.keep HGy.out); have HP2 := hid (HBp.out.keep HGy.out); have HZ2 := hid (HBz.out.keep HGy.out); have HO2 := hid (HO.out.keep HGy.out); have HG2x := hid (gtrans HG.out HGy.out); clear hlb hlp hl2; obtain ⟨q0, q33, q34⟩ := HCt.out w2 _ HB2.out)
          | (with_reducible refine wpList_load_part (by with_unfolding_all rfl) 69 _ (by with_unfolding_all rfl) br 0 [.slice a n c, .int .u64 nx] _ (by with_unfolding_all rfl) HR2.out.whole Try.underlying69 (by with_unfolding_all rfl) (by with_unfolding_all exact Try.size69) ?_)
          | (go_at_call 14; (with_reducible refine (HPr.out _ HO2.out).mono ?_); rintro e w3 ⟨a3, c3, rfl, hO3, hg3⟩; have HO3 := hid (hO3.below (show B0 ≤ w2.heap.size by have := HG2x.out.size; have := HB0.out; omega)); have HG3 := hid (gtrans HG2x.out hg3); have HR3 := hid (HR2.out.keep hg3); have HP3 := hid (HP2.out.keep hg3); have HZ3 := hid (HZ2.out.keep hg3); clear hO3 hg3)
          | ((with_reducible refine wpList_store_all (by with_unfolding_all rfl) 69 _ _ (by with_unfolding_all rfl) _ [.slice a n c, .int .u64 nx] [.slice a3 LP.length c3, .int .u64 nx] 69 (by with_unfolding_all rfl) (by with_unfolding_all rfl) HR3.out (by with_unfolding_all rfl) (by with_unfolding_all exact Try.size69) (ring_one _ _ _ _) ?_); intro w4 B4 g4 s4; have HB4 := hid B4; have HG4 := hid g4; have HS4 := hid s4; clear B4 g4 s4))
        go_roundw
        case rel => exact ⟨i + 1, LP, nx, a3, LP.length, c3, by go_num, by omega, by omega, hid ⟨HLP.out, rfl⟩, HB4, hid (HO3.out.on HG4.out (fun j hj e => by injection hj with hj; exact HO3.out.ne_blk HR3.out (by decide) _ e hj.symm)), hid (HG3.out.andThen HG4.out (fun j hj => .inl (by injection hj with hj; have := HBR.out; have := HB0.out; omega))), hid (HP3.out.on HG4.out (by simp; have := HBR.out; omega)), hid (HZ3.out.on HG4.out (by simp; have := HBR.out; omega))⟩
        case measure => simp [intOf]; omega
      · by_cases h2 : act = 2
        · subst h2
          clear hro hpr hpl hrl
          have HDi := hid hdi
          obtain ⟨E, HE⟩ : ∃ x, Hid (disE l nx (T i).kid = x) := ⟨_, hid rfl⟩
          obtain ⟨LX, HLXe⟩ : ∃ x, Hid ((disR l nx (T i).kid (T i).sec).1 = x) := ⟨_, hid rfl⟩
          obtain ⟨NX, HNXe⟩ : ∃ x, Hid ((disR l nx (T i).kid (T i).sec).2 = x) := ⟨_, hid rfl⟩
          rw [HE.out, HLXe.out, HNXe.out] at HDi hdl
          have HNu : Hid (∀ u : World, Calls Try.prog 22 #[.int .i64 E] u fun r w' => r = .returned (.int .i64 E) ∧ w' = u) := fun u => num_any E u
          by_cases hE : E = 0
          · have HLX := hid (hdl hE)
            have hE' : (E == 0) = true := by rw [beq_iff_eq]; exact hE
            clear hdi hdl hok hE
            go_wp2_with (first
              | (with_reducible refine wpList_load_part (by with_unfolding_all rfl) 99 _ (by with_unfolding_all rfl) tb (to + i * 35) K _ (by with_unfolding_all rfl) HRt.out Try.underlying99 (by with_unfolding_all rfl) (by rw [HKL.out]; exact Try.size99) ?_)
              | ((with_reducible refine wpList_alloc_row (by with_unfolding_all rfl) 99 (by with_unfolding_all rfl) ztn.cells Try.zero99 ?_); intro w1 B1 s1 g1; have HB1 := hid B1; have HG1 := hid g1; have HS1 := hid s1; clear B1 g1 s1)
              | ((with_reducible refine wpList_store_all (by with_unfolding_all rfl) 99 _ _ (by with_unfolding_all rfl) _ ztn.cells K 99 (by with_unfolding_all rfl) (by with_unfolding_all rfl) HB1.out (by rw [HKL.out]; with_unfolding_all rfl) (by rw [HKL.out]; exact Try.size99) HK1.out ?_); intro w2 B2 g2 s2; have HB2 := hid B2; have HG2 := hid g2; have HS2 := hid s2; clear B2 g2 s2; have hlb := HBr.out.lt; have hlp := HBp.out.lt; have hl2 := HBz.out.lt; have HGy := hid (HG1.out.andThen HG2.out (fun j hj => .inl (by injection hj with hj; omega))); have HR2 := hid (HBr.out.keep HGy.out); have HP2 := hid (HBp.out.keep HGy.out); have HZ2 := hid (HBz.out.keep HGy.out); have HO2 := hid (HO.out.keep HGy.out); have HG2x := hid (gtrans HG.out HGy.out); clear hlb hlp hl2; obtain ⟨q0, q33, q34⟩ := HCt.out w2 _ HB2.out)
              | (with_reducible refine wpList_load_part (by with_unfolding_all rfl) 70 _ (by with_unfolding_all rfl) wr.heap.size 1 ts _ (by with_unfolding_all rfl) (HTs.out w2 _ HB2.out) Try.underlying70 (by with_unfolding_all rfl) (by rw [HTL.out]; exact Try.size70) ?_)
              | (have := HB5; clear this; (with_reducible refine wpList_load_part (by with_unfolding_all rfl) 69 _ (by with_unfolding_all rfl) w3.heap.size 0 [.slice a3 LX.length c3, .int .u64 NX] _ (by with_unfolding_all rfl) HB5.out.whole Try.underlying69 (by with_unfolding_all rfl) (by with_unfolding_all exact Try.size69) ?_))
              | (with_reducible refine wpList_load_part (by with_unfolding_all rfl) 69 _ (by with_unfolding_all rfl) br 0 [.slice a n c, .int .u64 nx] _ (by with_unfolding_all rfl) HR2.out.whole Try.underlying69 (by with_unfolding_all rfl) (by with_unfolding_all exact Try.size69) ?_)
              | (go_at_call 16; (with_reducible refine (HDi.out _ HO2.out).mono ?_); rintro e w3 ⟨a3, c3, rfl, hO3, hg3⟩; have HO3 := hid (hO3.below (show B0 ≤ w2.heap.size by have := HG2x.out.size; have := HB0.out; omega)); have HG3 := hid (gtrans HG2x.out hg3); have HR3 := hid (HR2.out.keep hg3); have HP3 := hid (HP2.out.keep hg3); have HZ3 := hid (HZ2.out.keep hg3); have HG3y := hid hg3; clear hO3 hg3)
              | (have := HR3; clear this; (with_reducible refine wpList_alloc_row (by with_unfolding_all rfl) 69 (by with_unfolding_all rfl) [.slice none 0 0, .int .u64 0] Try.zero69 ?_); intro w4 B4 s4 g4; have HB4 := hid B4; have HG4 := hid g4; have HS4 := hid s4; clear B4 g4 s4)
              | (have := HO5; clear this; (with_reducible refine wpList_store_all (by with_unfolding_all rfl) 69 _ _ (by with_unfolding_all rfl) _ [.slice a n c, .int .u64 nx] [.slice a3 LX.length c3, .int .u64 NX] 69 (by with_unfolding_all rfl) (by with_unfolding_all rfl) HR5.out (by with_unfolding_all rfl) (by with_unfolding_all exact Try.size69) (ring_one _ _ _ _) ?_); intro w6 B6 g6 s6; have HB6 := hid B6; have HG6 := hid g6; have HS6 := hid s6; clear B6 g6 s6)
              | (have := HB4; clear this; (with_reducible refine wpList_store_all (by with_unfolding_all rfl) 69 _ _ (by with_unfolding_all rfl) _ [.slice none 0 0, .int .u64 0] [.slice a3 LX.length c3, .int .u64 NX] 69 (by with_unfolding_all rfl) (by with_unfolding_all rfl) HB4.out (by with_unfolding_all rfl) (by with_unfolding_all exact Try.size69) (ring_one _ _ _ _) ?_); intro w5 B5 g5 s5; have HB5 := hid B5; have HG5 := hid g5; have HS5 := hid s5; clear B5 g5 s5; have hl := HR3.out.lt; have hlp := HP3.out.lt; have hlz := HZ3.out.lt; have HG5x := hid ((gtrans HG3.out HG4.out).andThen HG5.out (fun j hj => .inl (by injection hj with hj; have := HG3.out.size; omega))); have HR5 := hid ((HR3.out.keep HG4.out).on HG5.out (by simp; omega)); have HP5 := hid ((HP3.out.keep HG4.out).on HG5.out (by simp; omega)); have HZ5 := hid ((HZ3.out.keep HG4.out).on HG5.out (by simp; omega)); have HO5 := hid ((HO3.out.keep HG4.out).on HG5.out (fun j hj e => by injection hj with hj; exact (HO3.out.keep HG4.out).ne_blk HB4.out (by decide) _ e hj.symm)); have HOo5 := hid (((HO2.out.keep HG3y.out).keep HG4.out).on HG5.out (fun j hj e => by injection hj with hj; exact ((HO2.out.keep HG3y.out).keep HG4.out).ne_blk HB4.out (by decide) _ e hj.symm)); clear hl hlp hlz)
              | (go_at_call 22; (with_reducible refine (HNu.out _).mono ?_); rintro e w9 ⟨rfl, hw9⟩; have hw9' := hw9.symm; clear hw9; subst hw9'))
            go_roundw
            case rel => exact ⟨i + 1, LX, NX, a3, LX.length, c3, by go_num, by omega, by omega, hid ⟨HLX.out, rfl⟩, HB6, hid (HO5.out.on HG6.out (fun j hj e => by injection hj with hj; exact HO5.out.ne_blk HR5.out (by decide) _ e hj.symm)), hid (HG5x.out.andThen HG6.out (fun j hj => .inl (by injection hj with hj; have := HBR.out; have := HB0.out; omega))), hid (HP5.out.on HG6.out (by simp; have := HBR.out; omega)), hid (HZ5.out.on HG6.out (by simp; have := HBR.out; omega))⟩
            case measure => simp [intOf]; omega
          · have hE' : (E == 0) = false := beq_eq_false_iff_ne.2 hE
            clear hdi hdl hok hE
            go_wp2_with (first
              | (with_reducible refine wpList_load_part (by with_unfolding_all rfl) 99 _ (by with_unfolding_all rfl) tb (to + i * 35) K _ (by with_unfolding_all rfl) HRt.out Try.underlying99 (by with_unfolding_all rfl) (by rw [HKL.out]; exact Try.size99) ?_)
              | ((with_reducible refine wpList_alloc_row (by with_unfolding_all rfl) 99 (by with_unfolding_all rfl) ztn.cells Try.zero99 ?_); intro w1 B1 s1 g1; have HB1 := hid B1; have HG1 := hid g1; have HS1 := hid s1; clear B1 g1 s1)
              | ((with_reducible refine wpList_store_all (by with_unfolding_all rfl) 99 _ _ (by with_unfolding_all rfl) _ ztn.cells K 99 (by with_unfolding_all rfl) (by with_unfolding_all rfl) HB1.out (by rw [HKL.out]; with_unfolding_all rfl) (by rw [HKL.out]; exact Try.size99) HK1.out ?_); intro w2 B2 g2 s2; have HB2 := hid B2; have HG2 := hid g2; have HS2 := hid s2; clear B2 g2 s2; have hlb := HBr.out.lt; have hlp := HBp.out.lt; have hl2 := HBz.out.lt; have HGy := hid (HG1.out.andThen HG2.out (fun j hj => .inl (by injection hj with hj; omega))); have HR2 := hid (HBr.out.keep HGy.out); have HP2 := hid (HBp.out.keep HGy.out); have HZ2 := hid (HBz.out.keep HGy.out); have HO2 := hid (HO.out.keep HGy.out); have HG2x := hid (gtrans HG.out HGy.out); clear hlb hlp hl2; obtain ⟨q0, q33, q34⟩ := HCt.out w2 _ HB2.out)
              | (with_reducible refine wpList_load_part (by with_unfolding_all rfl) 70 _ (by with_unfolding_all rfl) wr.heap.size 1 ts _ (by with_unfolding_all rfl) (HTs.out w2 _ HB2.out) Try.underlying70 (by with_unfolding_all rfl) (by rw [HTL.out]; exact Try.size70) ?_)
              | (with_reducible refine wpList_load_part (by with_unfolding_all rfl) 69 _ (by with_unfolding_all rfl) br 0 [.slice a n c, .int .u64 nx] _ (by with_unfolding_all rfl) HR2.out.whole Try.underlying69 (by with_unfolding_all rfl) (by with_unfolding_all exact Try.size69) ?_)
              | (go_at_call 16; (with_reducible refine (HDi.out _ HO2.out).mono ?_); rintro e w3 ⟨a3, c3, rfl, hO3, hg3⟩; have HO3 := hid (hO3.below (show B0 ≤ w2.heap.size by have := HG2x.out.size; have := HB0.out; omega)); have HG3 := hid (gtrans HG2x.out hg3); have HR3 := hid (HR2.out.keep hg3); have HP3 := hid (HP2.out.keep hg3); have HZ3 := hid (HZ2.out.keep hg3); have HG3y := hid hg3; clear hO3 hg3)
              | (have := HR3; clear this; (with_reducible refine wpList_alloc_row (by with_unfolding_all rfl) 69 (by with_unfolding_all rfl) [.slice none 0 0, .int .u64 0] Try.zero69 ?_); intro w4 B4 s4 g4; have HB4 := hid B4; have HG4 := hid g4; have HS4 := hid s4; clear B4 g4 s4)
              | (have := HB4; clear this; (with_reducible refine wpList_store_all (by with_unfolding_all rfl) 69 _ _ (by with_unfolding_all rfl) _ [.slice none 0 0, .int .u64 0] [.slice a3 LX.length c3, .int .u64 NX] 69 (by with_unfolding_all rfl) (by with_unfolding_all rfl) HB4.out (by with_unfolding_all rfl) (by with_unfolding_all exact Try.size69) (ring_one _ _ _ _) ?_); intro w5 B5 g5 s5; have HB5 := hid B5; have HG5 := hid g5; have HS5 := hid s5; clear B5 g5 s5; have hl := HR3.out.lt; have hlp := HP3.out.lt; have hlz := HZ3.out.lt; have HG5x := hid ((gtrans HG3.out HG4.out).andThen HG5.out (fun j hj => .inl (by injection hj with hj; have := HG3.out.size; omega))); have HR5 := hid ((HR3.out.keep HG4.out).on HG5.out (by simp; omega)); have HP5 := hid ((HP3.out.keep HG4.out).on HG5.out (by simp; omega)); have HZ5 := hid ((HZ3.out.keep HG4.out).on HG5.out (by simp; omega)); have HO5 := hid ((HO3.out.keep HG4.out).on HG5.out (fun j hj e => by injection hj with hj; exact (HO3.out.keep HG4.out).ne_blk HB4.out (by decide) _ e hj.symm)); have HOo5 := hid (((HO2.out.keep HG3y.out).keep HG4.out).on HG5.out (fun j hj e => by injection hj with hj; exact ((HO2.out.keep HG3y.out).keep HG4.out).ne_blk HB4.out (by decide) _ e hj.symm)); clear hl hlp hlz)
              | (go_at_call 22; (with_reducible refine (HNu.out _).mono ?_); rintro e w9 ⟨rfl, hw9⟩; have hw9' := hw9.symm; clear hw9; subst hw9'))
            go_roundw
            case rel => exact ⟨i + 1, l, nx, a, n, c, by go_num, by omega, by omega, HRi, HR5, HOo5, HG5x, HP5, HZ5⟩
            case measure => simp [intOf]; omega
        · clear hdi hpr hpl hdl
          have HRo := hid hro
          obtain ⟨E, HE⟩ : ∃ x, Hid (rotE l nx (T i).at_ = x) := ⟨_, hid rfl⟩
          obtain ⟨LX, HLXe⟩ : ∃ x, Hid ((rotR l nx (T i).sec (T i).at_).1 = x) := ⟨_, hid rfl⟩
          obtain ⟨NX, HNXe⟩ : ∃ x, Hid ((rotR l nx (T i).sec (T i).at_).2 = x) := ⟨_, hid rfl⟩
          rw [HE.out, HLXe.out, HNXe.out] at HRo hrl
          have HNu : Hid (∀ u : World, Calls Try.prog 22 #[.int .i64 E] u fun r w' => r = .returned (.int .i64 E) ∧ w' = u) := fun u => num_any E u
          have h1' : (act == 1) = false := beq_eq_false_iff_ne.2 h1
          have h2' : (act == 2) = false := beq_eq_false_iff_ne.2 h2
          clear h1 h2
          by_cases hE : E = 0
          · have HLX := hid (hrl hE)
            have hE' : (E == 0) = true := by rw [beq_iff_eq]; exact hE
            clear hro hrl hok hE
            go_wp2_with (first
              | (with_reducible refine wpList_load_part (by with_unfolding_all rfl) 99 _ (by with_unfolding_all rfl) tb (to + i * 35) K _ (by with_unfolding_all rfl) HRt.out Try.underlying99 (by with_unfolding_all rfl) (by rw [HKL.out]; exact Try.size99) ?_)
              | ((with_reducible refine wpList_alloc_row (by with_unfolding_all rfl) 99 (by with_unfolding_all rfl) ztn.cells Try.zero99 ?_); intro w1 B1 s1 g1; have HB1 := hid B1; have HG1 := hid g1; have HS1 := hid s1; clear B1 g1 s1)
              | ((with_reducible refine wpList_store_all (by with_unfolding_all rfl) 99 _ _ (by with_unfolding_all rfl) _ ztn.cells K 99 (by with_unfolding_all rfl) (by with_unfolding_all rfl) HB1.out (by rw [HKL.out]; with_unfolding_all rfl) (by rw [HKL.out]; exact Try.size99) HK1.out ?_); intro w2 B2 g2 s2; have HB2 := hid B2; have HG2 := hid g2; have HS2 := hid s2; clear B2 g2 s2; have hlb := HBr.out.lt; have hlp := HBp.out.lt; have hl2 := HBz.out.lt; have HGy := hid (HG1.out.andThen HG2.out (fun j hj => .inl (by injection hj with hj; omega))); have HR2 := hid (HBr.out.keep HGy.out); have HP2 := hid (HBp.out.keep HGy.out); have HZ2 := hid (HBz.out.keep HGy.out); have HO2 := hid (HO.out.keep HGy.out); have HG2x := hid (gtrans HG.out HGy.out); clear hlb hlp hl2; obtain ⟨q0, q33, q34⟩ := HCt.out w2 _ HB2.out)
              | (with_reducible refine wpList_load_part (by with_unfolding_all rfl) 70 _ (by with_unfolding_all rfl) wr.heap.size 1 ts _ (by with_unfolding_all rfl) (HTs.out w2 _ HB2.out) Try.underlying70 (by with_unfolding_all rfl) (by rw [HTL.out]; exact Try.size70) ?_)
              | (have := HB5; clear this; (with_reducible refine wpList_load_part (by with_unfolding_all rfl) 69 _ (by with_unfolding_all rfl) w3.heap.size 0 [.slice a3 LX.length c3, .int .u64 NX] _ (by with_unfolding_all rfl) HB5.out.whole Try.underlying69 (by with_unfolding_all rfl) (by with_unfolding_all exact Try.size69) ?_))
              | (with_reducible refine wpList_load_part (by with_unfolding_all rfl) 69 _ (by with_unfolding_all rfl) br 0 [.slice a n c, .int .u64 nx] _ (by with_unfolding_all rfl) HR2.out.whole Try.underlying69 (by with_unfolding_all rfl) (by with_unfolding_all exact Try.size69) ?_)
              | (go_at_call 12; (with_reducible refine (HRo.out _ HO2.out).mono ?_); rintro e w3 ⟨a3, c3, rfl, hO3, hg3⟩; have HO3 := hid (hO3.below (show B0 ≤ w2.heap.size by have := HG2x.out.size; have := HB0.out; omega)); have HG3 := hid (gtrans HG2x.out hg3); have HR3 := hid (HR2.out.keep hg3); have HP3 := hid (HP2.out.keep hg3); have HZ3 := hid (HZ2.out.keep hg3); have HG3y := hid hg3; clear hO3 hg3)
              | (have := HR3; clear this; (with_reducible refine wpList_alloc_row (by with_unfolding_all rfl) 69 (by with_unfolding_all rfl) [.slice none 0 0, .int .u64 0] Try.zero69 ?_); intro w4 B4 s4 g4; have HB4 := hid B4; have HG4 := hid g4; have HS4 := hid s4; clear B4 g4 s4)
              | (have := HO5; clear this; (with_reducible refine wpList_store_all (by with_unfolding_all rfl) 69 _ _ (by with_unfolding_all rfl) _ [.slice a n c, .int .u64 nx] [.slice a3 LX.length c3, .int .u64 NX] 69 (by with_unfolding_all rfl) (by with_unfolding_all rfl) HR5.out (by with_unfolding_all rfl) (by with_unfolding_all exact Try.size69) (ring_one _ _ _ _) ?_); intro w6 B6 g6 s6; have HB6 := hid B6; have HG6 := hid g6; have HS6 := hid s6; clear B6 g6 s6)
              | (have := HB4; clear this; (with_reducible refine wpList_store_all (by with_unfolding_all rfl) 69 _ _ (by with_unfolding_all rfl) _ [.slice none 0 0, .int .u64 0] [.slice a3 LX.length c3, .int .u64 NX] 69 (by with_unfolding_all rfl) (by with_unfolding_all rfl) HB4.out (by with_unfolding_all rfl) (by with_unfolding_all exact Try.size69) (ring_one _ _ _ _) ?_); intro w5 B5 g5 s5; have HB5 := hid B5; have HG5 := hid g5; have HS5 := hid s5; clear B5 g5 s5; have hl := HR3.out.lt; have hlp := HP3.out.lt; have hlz := HZ3.out.lt; have HG5x := hid ((gtrans HG3.out HG4.out).andThen HG5.out (fun j hj => .inl (by injection hj with hj; have := HG3.out.size; omega))); have HR5 := hid ((HR3.out.keep HG4.out).on HG5.out (by simp; omega)); have HP5 := hid ((HP3.out.keep HG4.out).on HG5.out (by simp; omega)); have HZ5 := hid ((HZ3.out.keep HG4.out).on HG5.out (by simp; omega)); have HO5 := hid ((HO3.out.keep HG4.out).on HG5.out (fun j hj e => by injection hj with hj; exact (HO3.out.keep HG4.out).ne_blk HB4.out (by decide) _ e hj.symm)); have HOo5 := hid (((HO2.out.keep HG3y.out).keep HG4.out).on HG5.out (fun j hj e => by injection hj with hj; exact ((HO2.out.keep HG3y.out).keep HG4.out).ne_blk HB4.out (by decide) _ e hj.symm)); clear hl hlp hlz)
              | (go_at_call 22; (with_reducible refine (HNu.out _).mono ?_); rintro e w9 ⟨rfl, hw9⟩; have hw9' := hw9.symm; clear hw9; subst hw9'))
            go_roundw
            case rel => exact ⟨i + 1, LX, NX, a3, LX.length, c3, by go_num, by omega, by omega, hid ⟨HLX.out, rfl⟩, HB6, hid (HO5.out.on HG6.out (fun j hj e => by injection hj with hj; exact HO5.out.ne_blk HR5.out (by decide) _ e hj.symm)), hid (HG5x.out.andThen HG6.out (fun j hj => .inl (by injection hj with hj; have := HBR.out; have := HB0.out; omega))), hid (HP5.out.on HG6.out (by simp; have := HBR.out; omega)), hid (HZ5.out.on HG6.out (by simp; have := HBR.out; omega))⟩
            case measure => simp [intOf]; omega
          · have hE' : (E == 0) = false := beq_eq_false_iff_ne.2 hE
            clear hro hrl hok hE
            go_wp2_with (first
              | (with_reducible refine wpList_load_part (by with_unfolding_all rfl) 99 _ (by with_unfolding_all rfl) tb (to + i * 35) K _ (by with_unfolding_all rfl) HRt.out Try.underlying99 (by with_unfolding_all rfl) (by rw [HKL.out]; exact Try.size99) ?_)
              | ((with_reducible refine wpList_alloc_row (by with_unfolding_all rfl) 99 (by with_unfolding_all rfl) ztn.cells Try.zero99 ?_); intro w1 B1 s1 g1; have HB1 := hid B1; have HG1 := hid g1; have HS1 := hid s1; clear B1 g1 s1)
              | ((with_reducible refine wpList_store_all (by with_unfolding_all rfl) 99 _ _ (by with_unfolding_all rfl) _ ztn.cells K 99 (by with_unfolding_all rfl) (by with_unfolding_all rfl) HB1.out (by rw [HKL.out]; with_unfolding_all rfl) (by rw [HKL.out]; exact Try.size99) HK1.out ?_); intro w2 B2 g2 s2; have HB2 := hid B2; have HG2 := hid g2; have HS2 := hid s2; clear B2 g2 s2; have hlb := HBr.out.lt; have hlp := HBp.out.lt; have hl2 := HBz.out.lt; have HGy := hid (HG1.out.andThen HG2.out (fun j hj => .inl (by injection hj with hj; omega))); have HR2 := hid (HBr.out.keep HGy.out); have HP2 := hid (HBp.out.keep HGy.out); have HZ2 := hid (HBz.out.keep HGy.out); have HO2 := hid (HO.out.keep HGy.out); have HG2x := hid (gtrans HG.out HGy.out); clear hlb hlp hl2; obtain ⟨q0, q33, q34⟩ := HCt.out w2 _ HB2.out)
              | (with_reducible refine wpList_load_part (by with_unfolding_all rfl) 70 _ (by with_unfolding_all rfl) wr.heap.size 1 ts _ (by with_unfolding_all rfl) (HTs.out w2 _ HB2.out) Try.underlying70 (by with_unfolding_all rfl) (by rw [HTL.out]; exact Try.size70) ?_)
              | (with_reducible refine wpList_load_part (by with_unfolding_all rfl) 69 _ (by with_unfolding_all rfl) br 0 [.slice a n c, .int .u64 nx] _ (by with_unfolding_all rfl) HR2.out.whole Try.underlying69 (by with_unfolding_all rfl) (by with_unfolding_all exact Try.size69) ?_)
              | (go_at_call 12; (with_reducible refine (HRo.out _ HO2.out).mono ?_); rintro e w3 ⟨a3, c3, rfl, hO3, hg3⟩; have HO3 := hid (hO3.below (show B0 ≤ w2.heap.size by have := HG2x.out.size; have := HB0.out; omega)); have HG3 := hid (gtrans HG2x.out hg3); have HR3 := hid (HR2.out.keep hg3); have HP3 := hid (HP2.out.keep hg3); have HZ3 := hid (HZ2.out.keep hg3); have HG3y := hid hg3; clear hO3 hg3)
              | (have := HR3; clear this; (with_reducible refine wpList_alloc_row (by with_unfolding_all rfl) 69 (by with_unfolding_all rfl) [.slice none 0 0, .int .u64 0] Try.zero69 ?_); intro w4 B4 s4 g4; have HB4 := hid B4; have HG4 := hid g4; have HS4 := hid s4; clear B4 g4 s4)
              | (have := HB4; clear this; (with_reducible refine wpList_store_all (by with_unfolding_all rfl) 69 _ _ (by with_unfolding_all rfl) _ [.slice none 0 0, .int .u64 0] [.slice a3 LX.length c3, .int .u64 NX] 69 (by with_unfolding_all rfl) (by with_unfolding_all rfl) HB4.out (by with_unfolding_all rfl) (by with_unfolding_all exact Try.size69) (ring_one _ _ _ _) ?_); intro w5 B5 g5 s5; have HB5 := hid B5; have HG5 := hid g5; have HS5 := hid s5; clear B5 g5 s5; have hl := HR3.out.lt; have hlp := HP3.out.lt; have hlz := HZ3.out.lt; have HG5x := hid ((gtrans HG3.out HG4.out).andThen HG5.out (fun j hj => .inl (by injection hj with hj; have := HG3.out.size; omega))); have HR5 := hid ((HR3.out.keep HG4.out).on HG5.out (by simp; omega)); have HP5 := hid ((HP3.out.keep HG4.out).on HG5.out (by simp; omega)); have HZ5 := hid ((HZ3.out.keep HG4.out).on HG5.out (by simp; omega)); have HO5 := hid ((HO3.out.keep HG4.out).on HG5.out (fun j hj e => by injection hj with hj; exact (HO3.out.keep HG4.out).ne_blk HB4.out (by decide) _ e hj.symm)); have HOo5 := hid (((HO2.out.keep HG3y.out).keep HG4.out).on HG5.out (fun j hj e => by injection hj with hj; exact ((HO2.out.keep HG3y.out).keep HG4.out).ne_blk HB4.out (by decide) _ e hj.symm)); clear hl hlp hlz)
              | (go_at_call 22; (with_reducible refine (HNu.out _).mono ?_); rintro e w9 ⟨rfl, hw9⟩; have hw9' := hw9.symm; clear hw9; subst hw9'))
            go_roundw
            case rel => exact ⟨i + 1, l, nx, a, n, c, by go_num, by omega, by omega, HRi, HR5, HOo5, HG5x, HP5, HZ5⟩
            case measure => simp [intOf]; omega
    · have HNb : Hid (some b2 ≠ some br) := hid (by have := HBRz.out; simp; omega)
      have HCk : Hid (∀ u, wr.grownBy u (some b2) → Calls Try.prog 31 #[.agg [.slice a n c, .int .u64 nx].toArray] u fun e w' => e = .returned (.int .i64 0) ∧ u.grownBy w' none) := fun u hu => by
        have := check_any u _ _ l nx (HO.out.on hu (fun j hj e => by injection hj with hj; exact HO.out.ne_blk HBz.out (by decide) _ e hj.symm)).rd (by have := (goodL_pos (isRing_good HRi.out.1).1).2; omega)
        unfold chk at this
        rw [HRi.out.1, if_pos rfl] at this
        exact this
      have HNu : Hid (∀ u : World, Calls Try.prog 22 #[.int .i64 0] u fun r w' => r = .returned (.int .i64 0) ∧ w' = u) := fun u => num_any 0 u
      have HE0 : Hid (∀ (x y : Operand) (u : World), (do eqGuard .eql 3 x y (.int .i64 0) (.int .i64 0); binOp .eql 3 (.int .i64 0) (.int .i64 0) : Sem Value).run Try.prog u = .ok (.bool true) u) := fun x y u => by go_simp
      have hn0 : 0 < n := by have := (goodL_pos (isRing_good HRi.out.1).1).1; have := HRi.out.2; omega
      have HGt : Hid (∀ (x y : Operand) (u : World), (do eqGuard .gtr 3 x y (.int .i64 (n : Nat)) (.int .i64 0); binOp .gtr 3 (.int .i64 (n : Nat)) (.int .i64 0) : Sem Value).run Try.prog u = .ok (.bool true) u) := fun x y u => by
        have h' : (0 : Int) < (n : Int) := by omega
        go_simp
      clear hn0
      by_cases hit : i < tn
      · have hit' : (i : Int) < (tn : Int) := by omega
        have hi4 : ¬ (i : Int) < 40 := by omega
        clear hlt hit
        go_wp2_with fail
        refine wp_region_list (by kernel_rfl) [fun v _ => v = (Value.agg [Value.slice a n c, Value.int .u64 nx].toArray), fun v _ => v = (Value.agg [Value.slice a n c, Value.int .u64 nx].toArray), fun v _ => v = (Value.int .i64 0), fun v _ => v = (Value.int .i64 0), fun v _ => v = (Value.bool true), fun v _ => v = (Value.bool true), fun v _ => v = (Value.pointer (some ⟨br, 0, none⟩)), fun v _ => v = (Value.slice a n c), fun v _ => v = (Value.int .i64 (n : Nat)), fun v _ => v = (Value.bool true), fun v _ => v = (Value.bool true), fun _ u => Blk u b2 [.slice a n c, .int .u64 nx] 69, fun v _ => v = (Value.bool true)] (some b2) (rowAt 11 b2) 13 (by kernel_rfl) (by kernel_rfl) (by kernel_rfl) (by kernel_rfl) (by decide) (rowAt_one _ _) (rowAt_or _ _) ⟨fun i v u u' hki h hg => h, fun i v u u' hki h hg => h, fun i v u u' hki h hg => h, fun i v u u' hki h hg => h, fun i v u u' hki h hg => h, fun i v u u' hki h hg => h, fun i v u u' hki h hg => h, fun i v u u' hki h hg => h, fun i v u u' hki h hg => h, fun i v u u' hki h hg => h, fun i v u u' hki h hg => h, fun i v u u' hki h hg => Blk.keep h (by rw [rowAt_none hki] at hg; exact hg), fun i v u u' hki h hg => h, trivial⟩ ⟨?_, ?_, ?_, ?_, ?_, ?_, ?_, ?_, ?_, ?_, ?_, ?_, ?_, trivial⟩ ?_
        · intro A u hu hpu hsz hout hdeps
          have e4 : A.eval (.tmp 4) = (.pointer (some ⟨br, 0, none⟩)) := (hout 4 (by kernel_rfl)).trans rfl
          refine ifw_none rfl ?_
          with_reducible refine shown_q (Value.agg [Value.slice a n c, Value.int .u64 nx].toArray) ?qq_1_0 (fun _ _ => ?qr_1_0)
          case qr_1_0 => exact (rfl : (Value.agg [Value.slice a n c, Value.int .u64 nx].toArray) = (Value.agg [Value.slice a n c, Value.int .u64 nx].toArray))
          with_reducible refine quietAt_load 69 (.tmp 4) ?h0_1_0 br 0 [Value.slice a n c, Value.int .u64 nx] (.struct (Try.prog.fieldsOf 69)) ?h1_1_0 ?h2_1_0 ?h3_1_0 ?h4_1_0 ?h5_1_0
          case h0_1_0 => rfl
          case h1_1_0 => exact e4
          case h2_1_0 => exact (HBr.out.on hu HNb.out).whole
          case h3_1_0 => exact Try.under69
          case h4_1_0 => rfl
          case h5_1_0 => exact Try.size69
        · intro A u hu hpu hsz hout hdeps
          have e4 : A.eval (.tmp 4) = (.pointer (some ⟨br, 0, none⟩)) := (hout 4 (by kernel_rfl)).trans rfl
          refine ifw_none rfl ?_
          with_reducible refine shown_q (Value.agg [Value.slice a n c, Value.int .u64 nx].toArray) ?qq_1_1 (fun _ _ => ?qr_1_1)
          case qr_1_1 => exact (rfl : (Value.agg [Value.slice a n c, Value.int .u64 nx].toArray) = (Value.agg [Value.slice a n c, Value.int .u64 nx].toArray))
          with_reducible refine quietAt_load 69 (.tmp 4) ?h0_1_1 br 0 [Value.slice a n c, Value.int .u64 nx] (.struct (Try.prog.fieldsOf 69)) ?h1_1_1 ?h2_1_1 ?h3_1_1 ?h4_1_1 ?h5_1_1
          case h0_1_1 => rfl
          case h1_1_1 => exact e4
          case h2_1_1 => exact (HBr.out.on hu HNb.out).whole
          case h3_1_1 => exact Try.under69
          case h4_1_1 => rfl
          case h5_1_1 => exact Try.size69
        · intro A u hu hpu hsz hout hdeps
          have e67 : A.eval (.tmp 67) = (.agg [.slice a n c, .int .u64 nx].toArray) := by have h := depL hdeps 1 (by kernel_rfl) 67 (by kernel_rfl); exact h
          refine ifw_none rfl ?_
          with_reducible refine shown_q (Value.int .i64 0) ?qq_1_2 (fun _ _ => ?qr_1_2)
          case qr_1_2 => exact (rfl : (Value.int .i64 0) = (Value.int .i64 0))
          with_reducible refine quietAt_call 31 Try.f31 ?h0_1_2 ?h1_1_2 ?h2_1_2 #[.tmp 67] #[69] ?h3_1_2 (Value.int .i64 0) #[(Value.agg [Value.slice a n c, Value.int .u64 nx].toArray)] ?h4_1_2 ?h5_1_2
          case h0_1_2 => exact Try.func31
          case h1_1_2 => kernel_rfl
          case h2_1_2 => kernel_rfl
          case h3_1_2 => rfl
          case h4_1_2 => exact map1 _ _ _ e67
          case h5_1_2 => exact HCk.out u hu
        · intro A u hu hpu hsz hout hdeps
          have e68 : A.eval (.tmp 68) = (.int .i64 0) := by have h := depL hdeps 2 (by kernel_rfl) 68 (by kernel_rfl); exact h
          refine ifw_none rfl ?_
          with_reducible refine shown_q (Value.int .i64 0) ?qq_1_3 (fun _ _ => ?qr_1_3)
          case qr_1_3 => exact (rfl : (Value.int .i64 0) = (Value.int .i64 0))
          with_reducible refine quietAt_call 22 Try.f22 ?h0_1_3 ?h1_1_3 ?h2_1_3 #[.tmp 68] #[74] ?h3_1_3 (Value.int .i64 0) #[(Value.int .i64 0)] ?h4_1_3 ?h5_1_3
          case h0_1_3 => exact Try.func22
          case h1_1_3 => kernel_rfl
          case h2_1_3 => kernel_rfl
          case h3_1_3 => rfl
          case h4_1_3 => exact map1 _ _ _ e68
          case h5_1_3 => exact (HNu.out u).mono fun e w' h => ⟨h.1, h.2 ▸ grefl _ _⟩
        · intro A u hu hpu hsz hout hdeps
          have e69 : A.eval (.tmp 69) = (.int .i64 0) := by have h := depL hdeps 3 (by kernel_rfl) 69 (by kernel_rfl); exact h
          refine ifw_none rfl ?_
          with_reducible refine shown_q (Value.bool true) ?qq_1_4 (fun _ _ => ?qr_1_4)
          case qr_1_4 => exact (rfl : (Value.bool true) = (Value.bool true))
          with_reducible refine quietAt_bin .eql 3 (.tmp 69) (.const (.int .i64 0)) 3 (Value.int .i64 0) (Value.int .i64 0) (Value.bool true) ?h0_1_4 ?h1_1_4 ?h2_1_4 ?h3_1_4
          case h0_1_4 => rfl
          case h1_1_4 => exact e69
          case h2_1_4 => exact rfl
          case h3_1_4 => exact HE0.out _ _ u
        · intro A u hu hpu hsz hout hdeps
          have e70 : A.eval (.tmp 70) = (.bool true) := by have h := depL hdeps 4 (by kernel_rfl) 70 (by kernel_rfl); exact h
          refine ifw_none rfl ?_
          with_reducible refine shown_q (Value.bool true) ?qq_1_5 (fun _ _ => ?qr_1_5)
          case qr_1_5 => exact (rfl : (Value.bool true) = (Value.bool true))
          with_reducible refine quietAt_mv (.tmp 70) (Value.bool true) ?h0_1_5 ?h1_1_5
          case h0_1_5 => rfl
          case h1_1_5 => exact e70
        · intro A u hu hpu hsz hout hdeps
          have e71 : A.eval (.tmp 71) = (.bool true) := by have h := depL hdeps 5 (by kernel_rfl) 71 (by kernel_rfl); exact h
          have e4 : A.eval (.tmp 4) = (.pointer (some ⟨br, 0, none⟩)) := (hout 4 (by kernel_rfl)).trans rfl
          refine ifw_want 5 true 71 rfl rfl e71 ?_
          with_reducible refine shown_q (Value.pointer (some ⟨br, 0, none⟩)) ?qq_1_6 (fun _ _ => ?qr_1_6)
          case qr_1_6 => exact (rfl : (Value.pointer (some ⟨br, 0, none⟩)) = (Value.pointer (some ⟨br, 0, none⟩)))
          with_reducible refine quietAt_field 69 (.tmp 4) 0 ?h0_1_6 ⟨br, 0, none⟩ ⟨br, 0, none⟩ ?h1_1_6 ?h2_1_6
          case h0_1_6 => rfl
          case h1_1_6 => exact e4
          case h2_1_6 => kernel_rfl
        · intro A u hu hpu hsz hout hdeps
          have e71 : A.eval (.tmp 71) = (.bool true) := by have h := depL hdeps 5 (by kernel_rfl) 71 (by kernel_rfl); exact h
          have e72 : A.eval (.tmp 72) = (.pointer (some ⟨br, 0, none⟩)) := by have h := depL hdeps 6 (by kernel_rfl) 72 (by kernel_rfl); exact h
          refine ifw_want 5 true 71 rfl rfl e71 ?_
          with_reducible refine shown_q (Value.slice a n c) ?qq_1_7 (fun _ _ => ?qr_1_7)
          case qr_1_7 => exact (rfl : (Value.slice a n c) = (Value.slice a n c))
          with_reducible refine quietAt_ld 55 (.tmp 72) (Value.pointer (some ⟨br, 0, none⟩)) (Value.slice a n c) ?h0_1_7 ?h1_1_7 ?h2_1_7
          case h0_1_7 => rfl
          case h1_1_7 => exact e72
          case h2_1_7 => exact ld55 br 0 n c a u ((HBr.out.on hu HNb.out).cell 0)
        · intro A u hu hpu hsz hout hdeps
          have e71 : A.eval (.tmp 71) = (.bool true) := by have h := depL hdeps 5 (by kernel_rfl) 71 (by kernel_rfl); exact h
          have e73 : A.eval (.tmp 73) = (.slice a n c) := by have h := depL hdeps 7 (by kernel_rfl) 73 (by kernel_rfl); exact h
          refine ifw_want 5 true 71 rfl rfl e71 ?_
          with_reducible refine shown_q (Value.int .i64 (n : Nat)) ?qq_1_8 (fun _ _ => ?qr_1_8)
          case qr_1_8 => exact (rfl : (Value.int .i64 (n : Nat)) = (Value.int .i64 (n : Nat)))
          with_reducible refine quietAt_len (.tmp 73) 55 ?h0_1_8 a n c ?h1_1_8 ?h2_1_8
          case h0_1_8 => rfl
          case h1_1_8 => exact e73
          case h2_1_8 => kernel_rfl
        · intro A u hu hpu hsz hout hdeps
          have e71 : A.eval (.tmp 71) = (.bool true) := by have h := depL hdeps 5 (by kernel_rfl) 71 (by kernel_rfl); exact h
          have e74 : A.eval (.tmp 74) = (.int .i64 (n : Nat)) := by have h := depL hdeps 8 (by kernel_rfl) 74 (by kernel_rfl); exact h
          refine ifw_want 5 true 71 rfl rfl e71 ?_
          with_reducible refine shown_q (Value.bool true) ?qq_1_9 (fun _ _ => ?qr_1_9)
          case qr_1_9 => exact (rfl : (Value.bool true) = (Value.bool true))
          with_reducible refine quietAt_bin .gtr 3 (.tmp 74) (.const (.int .i64 0)) 3 (Value.int .i64 (n : Nat)) (Value.int .i64 0) (Value.bool true) ?h0_1_9 ?h1_1_9 ?h2_1_9 ?h3_1_9
          case h0_1_9 => rfl
          case h1_1_9 => exact e74
          case h2_1_9 => exact rfl
          case h3_1_9 => exact HGt.out _ _ u
        · intro A u hu hpu hsz hout hdeps
          have e71 : A.eval (.tmp 71) = (.bool true) := by have h := depL hdeps 5 (by kernel_rfl) 71 (by kernel_rfl); exact h
          have e75 : A.eval (.tmp 75) = (.bool true) := by have h := depL hdeps 9 (by kernel_rfl) 75 (by kernel_rfl); exact h
          refine ifw_none rfl ?_
          with_reducible refine shown_q (Value.bool true) ?qq_1_10 (fun _ _ => ?qr_1_10)
          case qr_1_10 => exact (rfl : (Value.bool true) = (Value.bool true))
          with_reducible refine quietAt_pick (.tmp 71) (.tmp 75) (.const (.bool false)) true (Value.bool true) ?h0_1_10 ?h1_1_10 ?h2_1_10
          case h0_1_10 => rfl
          case h1_1_10 => exact e71
          case h2_1_10 => rw [if_pos rfl]; exact e75
        · intro A u hu hpu hsz hout hdeps
          have e2 : A.eval (.tmp 2) = (.pointer (some ⟨b2, 0, none⟩)) := (hout 2 (by kernel_rfl)).trans rfl
          have e66 : A.eval (.tmp 66) = (.agg [.slice a n c, .int .u64 nx].toArray) := by have h := depL hdeps 0 (by kernel_rfl) 66 (by kernel_rfl); exact h
          refine ifw_none rfl ?_
          exact shown_store 69 (.tmp 2) (.tmp 66) rfl b2 [.slice none 0 0, .int .u64 0] [.slice a n c, .int .u64 nx] 69 e2 e66 (HBz.out.keep (hpu (rowAt_self _ _))) rfl Try.size69 (ring_one _ _ _ _) (fun w' h _ => h)
        · intro A u hu hpu hsz hout hdeps
          have e76 : A.eval (.tmp 76) = (.bool true) := by have h := depL hdeps 10 (by kernel_rfl) 76 (by kernel_rfl); exact h
          refine ifw_none rfl ?_
          with_reducible refine shown_q (Value.bool true) ?qq_1_12 (fun _ _ => ?qr_1_12)
          case qr_1_12 => exact (rfl : (Value.bool true) = (Value.bool true))
          with_reducible refine quietAt_as (.tmp 76) (Value.bool true) ?h0_1_12 ?h1_1_12
          case h0_1_12 => rfl
          case h1_1_12 => exact e76
        · intro A u8 listed hh hall
          have hA := hh.frame
          have HU := hid hh.grown
          obtain ⟨x66, hx66⟩ : ∃ x, A.eval (.tmp 66) = x := ⟨_, rfl⟩
          have f66 : (fun v _ => v = (Value.agg [Value.slice a n c, Value.int .u64 nx].toArray)) x66 u8 := by rw [← hx66]; exact hh.got 0 _ 66 rfl rfl (hall 0 (by decide))
          obtain ⟨x67, hx67⟩ : ∃ x, A.eval (.tmp 67) = x := ⟨_, rfl⟩
          have f67 : (fun v _ => v = (Value.agg [Value.slice a n c, Value.int .u64 nx].toArray)) x67 u8 := by rw [← hx67]; exact hh.got 1 _ 67 rfl rfl (hall 1 (by decide))
          obtain ⟨x68, hx68⟩ : ∃ x, A.eval (.tmp 68) = x := ⟨_, rfl⟩
          have f68 : (fun v _ => v = (Value.int .i64 0)) x68 u8 := by rw [← hx68]; exact hh.got 2 _ 68 rfl rfl (hall 2 (by decide))
          obtain ⟨x69, hx69⟩ : ∃ x, A.eval (.tmp 69) = x := ⟨_, rfl⟩
          have f69 : (fun v _ => v = (Value.int .i64 0)) x69 u8 := by rw [← hx69]; exact hh.got 3 _ 69 rfl rfl (hall 3 (by decide))
          obtain ⟨x70, hx70⟩ : ∃ x, A.eval (.tmp 70) = x := ⟨_, rfl⟩
          have f70 : (fun v _ => v = (Value.bool true)) x70 u8 := by rw [← hx70]; exact hh.got 4 _ 70 rfl rfl (hall 4 (by decide))
          obtain ⟨x71, hx71⟩ : ∃ x, A.eval (.tmp 71) = x := ⟨_, rfl⟩
          have f71 : (fun v _ => v = (Value.bool true)) x71 u8 := by rw [← hx71]; exact hh.got 5 _ 71 rfl rfl (hall 5 (by decide))
          obtain ⟨x72, hx72⟩ : ∃ x, A.eval (.tmp 72) = x := ⟨_, rfl⟩
          have f72 : (fun v _ => v = (Value.pointer (some ⟨br, 0, none⟩))) x72 u8 := by rw [← hx72]; exact hh.got 6 _ 72 rfl rfl (hall 6 (by decide))
          obtain ⟨x73, hx73⟩ : ∃ x, A.eval (.tmp 73) = x := ⟨_, rfl⟩
          have f73 : (fun v _ => v = (Value.slice a n c)) x73 u8 := by rw [← hx73]; exact hh.got 7 _ 73 rfl rfl (hall 7 (by decide))
          obtain ⟨x74, hx74⟩ : ∃ x, A.eval (.tmp 74) = x := ⟨_, rfl⟩
          have f74 : (fun v _ => v = (Value.int .i64 (n : Nat))) x74 u8 := by rw [← hx74]; exact hh.got 8 _ 74 rfl rfl (hall 8 (by decide))
          obtain ⟨x75, hx75⟩ : ∃ x, A.eval (.tmp 75) = x := ⟨_, rfl⟩
          have f75 : (fun v _ => v = (Value.bool true)) x75 u8 := by rw [← hx75]; exact hh.got 9 _ 75 rfl rfl (hall 9 (by decide))
          obtain ⟨x76, hx76⟩ : ∃ x, A.eval (.tmp 76) = x := ⟨_, rfl⟩
          have f76 : (fun v _ => v = (Value.bool true)) x76 u8 := by rw [← hx76]; exact hh.got 10 _ 76 rfl rfl (hall 10 (by decide))
          obtain ⟨x3, hx3⟩ : ∃ x, A.eval (.tmp 3) = x := ⟨_, rfl⟩
          have f3 : (fun v _ => v = (Value.bool true)) x3 u8 := by rw [← hx3]; exact hh.got 12 _ 3 rfl rfl (hall 12 (by decide))
          obtain ⟨_, HZ8x⟩ := hh.stored 11 (hall 11 (by decide))
          replace HZ8x : Blk u8 b2 [.slice a n c, .int .u64 nx] 69 := HZ8x
          dsimp only [wrote, List.foldl] at hA
          rw [hx66, hx67, hx68, hx69, hx70, hx71, hx72, hx73, hx74, hx75, hx76, hx3] at hA
          clear hh hall hx66 hx67 hx68 hx69 hx70 hx71 hx72 hx73 hx74 hx75 hx76 hx3
          replace f66 := (f66 : x66 = (.agg [.slice a n c, .int .u64 nx].toArray))
          subst f66
          replace f67 := (f67 : x67 = (.agg [.slice a n c, .int .u64 nx].toArray))
          subst f67
          replace f68 := (f68 : x68 = (.int .i64 0))
          subst f68
          replace f69 := (f69 : x69 = (.int .i64 0))
          subst f69
          replace f70 := (f70 : x70 = (.bool true))
          subst f70
          replace f71 := (f71 : x71 = (.bool true))
          subst f71
          replace f72 := (f72 : x72 = (.pointer (some ⟨br, 0, none⟩)))
          subst f72
          replace f73 := (f73 : x73 = (.slice a n c))
          subst f73
          replace f74 := (f74 : x74 = (.int .i64 (n : Nat)))
          subst f74
          replace f75 := (f75 : x75 = (.bool true))
          subst f75
          replace f76 := (f76 : x76 = (.bool true))
          subst f76
          replace f3 := (f3 : x3 = (.bool true))
          subst f3
          subst hA
          show wpList _ _ _ [] _ _
          unfold wpList
          simp only [Act.put, List.setIfInBounds_toArray, List.set_cons_succ, List.set_cons_zero]
          have HB9 := hid HZ8x
          have HO8 := hid (HO.out.on HU.out (fun j hj e => by injection hj with hj; exact HO.out.ne_blk HBz.out (by decide) _ e hj.symm))
          have HG8 := hid (HG.out.andThen HU.out (fun j hj => .inl (by injection hj with hj; have := HBRz.out; have := HB0.out; omega)))
          clear HZ8x
          go_wp2_with fail
          refine bodyPost_ret (v := .tuple #[.agg #[.slice a n c, .int .u64 nx], .bool true]) (results_blk_tmp rfl _ b2 69 [.slice a n c, .int .u64 nx] _ (.bool true) rfl rfl HB9.out Try.underlying69 rfl Try.size69) rfl ?_
          refine ⟨l, nx, a, c, by rw [HRi.out.2], HRi.out.1, ?_, HG8.out⟩
          rw [HRi.out.2, HB0.out]
          exact HO8.out
      · have hit' : ¬ (i : Int) < (tn : Int) := by omega
        clear hlt hit
        go_wp2_with fail
        refine wp_region_list (by kernel_rfl) [fun v _ => v = (Value.agg [Value.slice a n c, Value.int .u64 nx].toArray), fun v _ => v = (Value.agg [Value.slice a n c, Value.int .u64 nx].toArray), fun v _ => v = (Value.int .i64 0), fun v _ => v = (Value.int .i64 0), fun v _ => v = (Value.bool true), fun v _ => v = (Value.bool true), fun v _ => v = (Value.pointer (some ⟨br, 0, none⟩)), fun v _ => v = (Value.slice a n c), fun v _ => v = (Value.int .i64 (n : Nat)), fun v _ => v = (Value.bool true), fun v _ => v = (Value.bool true), fun _ u => Blk u b2 [.slice a n c, .int .u64 nx] 69, fun v _ => v = (Value.bool true)] (some b2) (rowAt 11 b2) 13 (by kernel_rfl) (by kernel_rfl) (by kernel_rfl) (by kernel_rfl) (by decide) (rowAt_one _ _) (rowAt_or _ _) ⟨fun i v u u' hki h hg => h, fun i v u u' hki h hg => h, fun i v u u' hki h hg => h, fun i v u u' hki h hg => h, fun i v u u' hki h hg => h, fun i v u u' hki h hg => h, fun i v u u' hki h hg => h, fun i v u u' hki h hg => h, fun i v u u' hki h hg => h, fun i v u u' hki h hg => h, fun i v u u' hki h hg => h, fun i v u u' hki h hg => Blk.keep h (by rw [rowAt_none hki] at hg; exact hg), fun i v u u' hki h hg => h, trivial⟩ ⟨?_, ?_, ?_, ?_, ?_, ?_, ?_, ?_, ?_, ?_, ?_, ?_, ?_, trivial⟩ ?_
        · intro A u hu hpu hsz hout hdeps
          have e4 : A.eval (.tmp 4) = (.pointer (some ⟨br, 0, none⟩)) := (hout 4 (by kernel_rfl)).trans rfl
          refine ifw_none rfl ?_
          with_reducible refine shown_q (Value.agg [Value.slice a n c, Value.int .u64 nx].toArray) ?qq_1b_0 (fun _ _ => ?qr_1b_0)
          case qr_1b_0 => exact (rfl : (Value.agg [Value.slice a n c, Value.int .u64 nx].toArray) = (Value.agg [Value.slice a n c, Value.int .u64 nx].toArray))
          with_reducible refine quietAt_load 69 (.tmp 4) ?h0_1b_0 br 0 [Value.slice a n c, Value.int .u64 nx] (.struct (Try.prog.fieldsOf 69)) ?h1_1b_0 ?h2_1b_0 ?h3_1b_0 ?h4_1b_0 ?h5_1b_0
          case h0_1b_0 => rfl
          case h1_1b_0 => exact e4
          case h2_1b_0 => exact (HBr.out.on hu HNb.out).whole
          case h3_1b_0 => exact Try.under69
          case h4_1b_0 => rfl
          case h5_1b_0 => exact Try.size69
        · intro A u hu hpu hsz hout hdeps
          have e4 : A.eval (.tmp 4) = (.pointer (some ⟨br, 0, none⟩)) := (hout 4 (by kernel_rfl)).trans rfl
          refine ifw_none rfl ?_
          with_reducible refine shown_q (Value.agg [Value.slice a n c, Value.int .u64 nx].toArray) ?qq_1b_1 (fun _ _ => ?qr_1b_1)
          case qr_1b_1 => exact (rfl : (Value.agg [Value.slice a n c, Value.int .u64 nx].toArray) = (Value.agg [Value.slice a n c, Value.int .u64 nx].toArray))
          with_reducible refine quietAt_load 69 (.tmp 4) ?h0_1b_1 br 0 [Value.slice a n c, Value.int .u64 nx] (.struct (Try.prog.fieldsOf 69)) ?h1_1b_1 ?h2_1b_1 ?h3_1b_1 ?h4_1b_1 ?h5_1b_1
          case h0_1b_1 => rfl
          case h1_1b_1 => exact e4
          case h2_1b_1 => exact (HBr.out.on hu HNb.out).whole
          case h3_1b_1 => exact Try.under69
          case h4_1b_1 => rfl
          case h5_1b_1 => exact Try.size69
        · intro A u hu hpu hsz hout hdeps
          have e67 : A.eval (.tmp 67) = (.agg [.slice a n c, .int .u64 nx].toArray) := by have h := depL hdeps 1 (by kernel_rfl) 67 (by kernel_rfl); exact h
          refine ifw_none rfl ?_
          with_reducible refine shown_q (Value.int .i64 0) ?qq_1b_2 (fun _ _ => ?qr_1b_2)
          case qr_1b_2 => exact (rfl : (Value.int .i64 0) = (Value.int .i64 0))
          with_reducible refine quietAt_call 31 Try.f31 ?h0_1b_2 ?h1_1b_2 ?h2_1b_2 #[.tmp 67] #[69] ?h3_1b_2 (Value.int .i64 0) #[(Value.agg [Value.slice a n c, Value.int .u64 nx].toArray)] ?h4_1b_2 ?h5_1b_2
          case h0_1b_2 => exact Try.func31
          case h1_1b_2 => kernel_rfl
          case h2_1b_2 => kernel_rfl
          case h3_1b_2 => rfl
          case h4_1b_2 => exact map1 _ _ _ e67
          case h5_1b_2 => exact HCk.out u hu
        · intro A u hu hpu hsz hout hdeps
          have e68 : A.eval (.tmp 68) = (.int .i64 0) := by have h := depL hdeps 2 (by kernel_rfl) 68 (by kernel_rfl); exact h
          refine ifw_none rfl ?_
          with_reducible refine shown_q (Value.int .i64 0) ?qq_1b_3 (fun _ _ => ?qr_1b_3)
          case qr_1b_3 => exact (rfl : (Value.int .i64 0) = (Value.int .i64 0))
          with_reducible refine quietAt_call 22 Try.f22 ?h0_1b_3 ?h1_1b_3 ?h2_1b_3 #[.tmp 68] #[74] ?h3_1b_3 (Value.int .i64 0) #[(Value.int .i64 0)] ?h4_1b_3 ?h5_1b_3
          case h0_1b_3 => exact Try.func22
          case h1_1b_3 => kernel_rfl
          case h2_1b_3 => kernel_rfl
          case h3_1b_3 => rfl
          case h4_1b_3 => exact map1 _ _ _ e68
          case h5_1b_3 => exact (HNu.out u).mono fun e w' h => ⟨h.1, h.2 ▸ grefl _ _⟩
        · intro A u hu hpu hsz hout hdeps
          have e69 : A.eval (.tmp 69) = (.int .i64 0) := by have h := depL hdeps 3 (by kernel_rfl) 69 (by kernel_rfl); exact h
          refine ifw_none rfl ?_
          with_reducible refine shown_q (Value.bool true) ?qq_1b_4 (fun _ _ => ?qr_1b_4)
          case qr_1b_4 => exact (rfl : (Value.bool true) = (Value.bool true))
          with_reducible refine quietAt_bin .eql 3 (.tmp 69) (.const (.int .i64 0)) 3 (Value.int .i64 0) (Value.int .i64 0) (Value.bool true) ?h0_1b_4 ?h1_1b_4 ?h2_1b_4 ?h3_1b_4
          case h0_1b_4 => rfl
          case h1_1b_4 => exact e69
          case h2_1b_4 => exact rfl
          case h3_1b_4 => exact HE0.out _ _ u
        · intro A u hu hpu hsz hout hdeps
          have e70 : A.eval (.tmp 70) = (.bool true) := by have h := depL hdeps 4 (by kernel_rfl) 70 (by kernel_rfl); exact h
          refine ifw_none rfl ?_
          with_reducible refine shown_q (Value.bool true) ?qq_1b_5 (fun _ _ => ?qr_1b_5)
          case qr_1b_5 => exact (rfl : (Value.bool true) = (Value.bool true))
          with_reducible refine quietAt_mv (.tmp 70) (Value.bool true) ?h0_1b_5 ?h1_1b_5
          case h0_1b_5 => rfl
          case h1_1b_5 => exact e70
        · intro A u hu hpu hsz hout hdeps
          have e71 : A.eval (.tmp 71) = (.bool true) := by have h := depL hdeps 5 (by kernel_rfl) 71 (by kernel_rfl); exact h
          have e4 : A.eval (.tmp 4) = (.pointer (some ⟨br, 0, none⟩)) := (hout 4 (by kernel_rfl)).trans rfl
          refine ifw_want 5 true 71 rfl rfl e71 ?_
          with_reducible refine shown_q (Value.pointer (some ⟨br, 0, none⟩)) ?qq_1b_6 (fun _ _ => ?qr_1b_6)
          case qr_1b_6 => exact (rfl : (Value.pointer (some ⟨br, 0, none⟩)) = (Value.pointer (some ⟨br, 0, none⟩)))
          with_reducible refine quietAt_field 69 (.tmp 4) 0 ?h0_1b_6 ⟨br, 0, none⟩ ⟨br, 0, none⟩ ?h1_1b_6 ?h2_1b_6
          case h0_1b_6 => rfl
          case h1_1b_6 => exact e4
          case h2_1b_6 => kernel_rfl
        · intro A u hu hpu hsz hout hdeps
          have e71 : A.eval (.tmp 71) = (.bool true) := by have h := depL hdeps 5 (by kernel_rfl) 71 (by kernel_rfl); exact h
          have e72 : A.eval (.tmp 72) = (.pointer (some ⟨br, 0, none⟩)) := by have h := depL hdeps 6 (by kernel_rfl) 72 (by kernel_rfl); exact h
          refine ifw_want 5 true 71 rfl rfl e71 ?_
          with_reducible refine shown_q (Value.slice a n c) ?qq_1b_7 (fun _ _ => ?qr_1b_7)
          case qr_1b_7 => exact (rfl : (Value.slice a n c) = (Value.slice a n c))
          with_reducible refine quietAt_ld 55 (.tmp 72) (Value.pointer (some ⟨br, 0, none⟩)) (Value.slice a n c) ?h0_1b_7 ?h1_1b_7 ?h2_1b_7
          case h0_1b_7 => rfl
          case h1_1b_7 => exact e72
          case h2_1b_7 => exact ld55 br 0 n c a u ((HBr.out.on hu HNb.out).cell 0)
        · intro A u hu hpu hsz hout hdeps
          have e71 : A.eval (.tmp 71) = (.bool true) := by have h := depL hdeps 5 (by kernel_rfl) 71 (by kernel_rfl); exact h
          have e73 : A.eval (.tmp 73) = (.slice a n c) := by have h := depL hdeps 7 (by kernel_rfl) 73 (by kernel_rfl); exact h
          refine ifw_want 5 true 71 rfl rfl e71 ?_
          with_reducible refine shown_q (Value.int .i64 (n : Nat)) ?qq_1b_8 (fun _ _ => ?qr_1b_8)
          case qr_1b_8 => exact (rfl : (Value.int .i64 (n : Nat)) = (Value.int .i64 (n : Nat)))
          with_reducible refine quietAt_len (.tmp 73) 55 ?h0_1b_8 a n c ?h1_1b_8 ?h2_1b_8
          case h0_1b_8 => rfl
          case h1_1b_8 => exact e73
          case h2_1b_8 => kernel_rfl
        · intro A u hu hpu hsz hout hdeps
          have e71 : A.eval (.tmp 71) = (.bool true) := by have h := depL hdeps 5 (by kernel_rfl) 71 (by kernel_rfl); exact h
          have e74 : A.eval (.tmp 74) = (.int .i64 (n : Nat)) := by have h := depL hdeps 8 (by kernel_rfl) 74 (by kernel_rfl); exact h
          refine ifw_want 5 true 71 rfl rfl e71 ?_
          with_reducible refine shown_q (Value.bool true) ?qq_1b_9 (fun _ _ => ?qr_1b_9)
          case qr_1b_9 => exact (rfl : (Value.bool true) = (Value.bool true))
          with_reducible refine quietAt_bin .gtr 3 (.tmp 74) (.const (.int .i64 0)) 3 (Value.int .i64 (n : Nat)) (Value.int .i64 0) (Value.bool true) ?h0_1b_9 ?h1_1b_9 ?h2_1b_9 ?h3_1b_9
          case h0_1b_9 => rfl
          case h1_1b_9 => exact e74
          case h2_1b_9 => exact rfl
          case h3_1b_9 => exact HGt.out _ _ u
        · intro A u hu hpu hsz hout hdeps
          have e71 : A.eval (.tmp 71) = (.bool true) := by have h := depL hdeps 5 (by kernel_rfl) 71 (by kernel_rfl); exact h
          have e75 : A.eval (.tmp 75) = (.bool true) := by have h := depL hdeps 9 (by kernel_rfl) 75 (by kernel_rfl); exact h
          refine ifw_none rfl ?_
          with_reducible refine shown_q (Value.bool true) ?qq_1b_10 (fun _ _ => ?qr_1b_10)
          case qr_1b_10 => exact (rfl : (Value.bool true) = (Value.bool true))
          with_reducible refine quietAt_pick (.tmp 71) (.tmp 75) (.const (.bool false)) true (Value.bool true) ?h0_1b_10 ?h1_1b_10 ?h2_1b_10
          case h0_1b_10 => rfl
          case h1_1b_10 => exact e71
          case h2_1b_10 => rw [if_pos rfl]; exact e75
        · intro A u hu hpu hsz hout hdeps
          have e2 : A.eval (.tmp 2) = (.pointer (some ⟨b2, 0, none⟩)) := (hout 2 (by kernel_rfl)).trans rfl
          have e66 : A.eval (.tmp 66) = (.agg [.slice a n c, .int .u64 nx].toArray) := by have h := depL hdeps 0 (by kernel_rfl) 66 (by kernel_rfl); exact h
          refine ifw_none rfl ?_
          exact shown_store 69 (.tmp 2) (.tmp 66) rfl b2 [.slice none 0 0, .int .u64 0] [.slice a n c, .int .u64 nx] 69 e2 e66 (HBz.out.keep (hpu (rowAt_self _ _))) rfl Try.size69 (ring_one _ _ _ _) (fun w' h _ => h)
        · intro A u hu hpu hsz hout hdeps
          have e76 : A.eval (.tmp 76) = (.bool true) := by have h := depL hdeps 10 (by kernel_rfl) 76 (by kernel_rfl); exact h
          refine ifw_none rfl ?_
          with_reducible refine shown_q (Value.bool true) ?qq_1b_12 (fun _ _ => ?qr_1b_12)
          case qr_1b_12 => exact (rfl : (Value.bool true) = (Value.bool true))
          with_reducible refine quietAt_as (.tmp 76) (Value.bool true) ?h0_1b_12 ?h1_1b_12
          case h0_1b_12 => rfl
          case h1_1b_12 => exact e76
        · intro A u8 listed hh hall
          have hA := hh.frame
          have HU := hid hh.grown
          obtain ⟨x66, hx66⟩ : ∃ x, A.eval (.tmp 66) = x := ⟨_, rfl⟩
          have f66 : (fun v _ => v = (Value.agg [Value.slice a n c, Value.int .u64 nx].toArray)) x66 u8 := by rw [← hx66]; exact hh.got 0 _ 66 rfl rfl (hall 0 (by decide))
          obtain ⟨x67, hx67⟩ : ∃ x, A.eval (.tmp 67) = x := ⟨_, rfl⟩
          have f67 : (fun v _ => v = (Value.agg [Value.slice a n c, Value.int .u64 nx].toArray)) x67 u8 := by rw [← hx67]; exact hh.got 1 _ 67 rfl rfl (hall 1 (by decide))
          obtain ⟨x68, hx68⟩ : ∃ x, A.eval (.tmp 68) = x := ⟨_, rfl⟩
          have f68 : (fun v _ => v = (Value.int .i64 0)) x68 u8 := by rw [← hx68]; exact hh.got 2 _ 68 rfl rfl (hall 2 (by decide))
          obtain ⟨x69, hx69⟩ : ∃ x, A.eval (.tmp 69) = x := ⟨_, rfl⟩
          have f69 : (fun v _ => v = (Value.int .i64 0)) x69 u8 := by rw [← hx69]; exact hh.got 3 _ 69 rfl rfl (hall 3 (by decide))
          obtain ⟨x70, hx70⟩ : ∃ x, A.eval (.tmp 70) = x := ⟨_, rfl⟩
          have f70 : (fun v _ => v = (Value.bool true)) x70 u8 := by rw [← hx70]; exact hh.got 4 _ 70 rfl rfl (hall 4 (by decide))
          obtain ⟨x71, hx71⟩ : ∃ x, A.eval (.tmp 71) = x := ⟨_, rfl⟩
          have f71 : (fun v _ => v = (Value.bool true)) x71 u8 := by rw [← hx71]; exact hh.got 5 _ 71 rfl rfl (hall 5 (by decide))
          obtain ⟨x72, hx72⟩ : ∃ x, A.eval (.tmp 72) = x := ⟨_, rfl⟩
          have f72 : (fun v _ => v = (Value.pointer (some ⟨br, 0, none⟩))) x72 u8 := by rw [← hx72]; exact hh.got 6 _ 72 rfl rfl (hall 6 (by decide))
          obtain ⟨x73, hx73⟩ : ∃ x, A.eval (.tmp 73) = x := ⟨_, rfl⟩
          have f73 : (fun v _ => v = (Value.slice a n c)) x73 u8 := by rw [← hx73]; exact hh.got 7 _ 73 rfl rfl (hall 7 (by decide))
          obtain ⟨x74, hx74⟩ : ∃ x, A.eval (.tmp 74) = x := ⟨_, rfl⟩
          have f74 : (fun v _ => v = (Value.int .i64 (n : Nat))) x74 u8 := by rw [← hx74]; exact hh.got 8 _ 74 rfl rfl (hall 8 (by decide))
          obtain ⟨x75, hx75⟩ : ∃ x, A.eval (.tmp 75) = x := ⟨_, rfl⟩
          have f75 : (fun v _ => v = (Value.bool true)) x75 u8 := by rw [← hx75]; exact hh.got 9 _ 75 rfl rfl (hall 9 (by decide))
          obtain ⟨x76, hx76⟩ : ∃ x, A.eval (.tmp 76) = x := ⟨_, rfl⟩
          have f76 : (fun v _ => v = (Value.bool true)) x76 u8 := by rw [← hx76]; exact hh.got 10 _ 76 rfl rfl (hall 10 (by decide))
          obtain ⟨x3, hx3⟩ : ∃ x, A.eval (.tmp 3) = x := ⟨_, rfl⟩
          have f3 : (fun v _ => v = (Value.bool true)) x3 u8 := by rw [← hx3]; exact hh.got 12 _ 3 rfl rfl (hall 12 (by decide))
          obtain ⟨_, HZ8x⟩ := hh.stored 11 (hall 11 (by decide))
          replace HZ8x : Blk u8 b2 [.slice a n c, .int .u64 nx] 69 := HZ8x
          dsimp only [wrote, List.foldl] at hA
          rw [hx66, hx67, hx68, hx69, hx70, hx71, hx72, hx73, hx74, hx75, hx76, hx3] at hA
          clear hh hall hx66 hx67 hx68 hx69 hx70 hx71 hx72 hx73 hx74 hx75 hx76 hx3
          replace f66 := (f66 : x66 = (.agg [.slice a n c, .int .u64 nx].toArray))
          subst f66
          replace f67 := (f67 : x67 = (.agg [.slice a n c, .int .u64 nx].toArray))
          subst f67
          replace f68 := (f68 : x68 = (.int .i64 0))
          subst f68
          replace f69 := (f69 : x69 = (.int .i64 0))
          subst f69
          replace f70 := (f70 : x70 = (.bool true))
          subst f70
          replace f71 := (f71 : x71 = (.bool true))
          subst f71
          replace f72 := (f72 : x72 = (.pointer (some ⟨br, 0, none⟩)))
          subst f72
          replace f73 := (f73 : x73 = (.slice a n c))
          subst f73
          replace f74 := (f74 : x74 = (.int .i64 (n : Nat)))
          subst f74
          replace f75 := (f75 : x75 = (.bool true))
          subst f75
          replace f76 := (f76 : x76 = (.bool true))
          subst f76
          replace f3 := (f3 : x3 = (.bool true))
          subst f3
          subst hA
          show wpList _ _ _ [] _ _
          unfold wpList
          simp only [Act.put, List.setIfInBounds_toArray, List.set_cons_succ, List.set_cons_zero]
          have HB9 := hid HZ8x
          have HO8 := hid (HO.out.on HU.out (fun j hj e => by injection hj with hj; exact HO.out.ne_blk HBz.out (by decide) _ e hj.symm))
          have HG8 := hid (HG.out.andThen HU.out (fun j hj => .inl (by injection hj with hj; have := HBRz.out; have := HB0.out; omega)))
          clear HZ8x
          go_wp2_with fail
          refine bodyPost_ret (v := .tuple #[.agg #[.slice a n c, .int .u64 nx], .bool true]) (results_blk_tmp rfl _ b2 69 [.slice a n c, .int .u64 nx] _ (.bool true) rfl rfl HB9.out Try.underlying69 rfl Try.size69) rfl ?_
          refine ⟨l, nx, a, c, by rw [HRi.out.2], HRi.out.1, ?_, HG8.out⟩
          rw [HRi.out.2, HB0.out]
          exact HO8.out
end Go.Proofs.Ytmpcpakdocaieaa
