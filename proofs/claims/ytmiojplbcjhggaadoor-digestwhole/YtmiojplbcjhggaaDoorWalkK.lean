/- Mac; front, Same. -/
import Derived.Test.YtmiojplbcjhggaaDoorWalkJ
import Derived.Stop.BytesEq
namespace Go.Proofs.YtmiojplbcjhggaaDoor
open Go Go.RowKit
open Go.RowKit (wrap32 wrap64)

set_option maxRecDepth 100000 in
set_option maxHeartbeats 800000 in
theorem mac_any (w : World) (vk vb : Value) (F G : Nat → Prop) (key x : List UInt8) (hk : Rd w F vk key) (hx : Rd w G vb x) (hkn : key.length < 1152921504606845000) (hg : Glob w) (hn : x.length < 1152921504606845000) :
    Calls Tryd.prog 23 #[vk, vb] w fun e w' => e = .returned (.agg (Lib.byteCells (macL key x)).toArray) ∧ w.grownBy w' none := by
  obtain ⟨SK, HSK⟩ : ∃ SK, Hid (short key = SK) := ⟨_, hid rfl⟩
  have HSL : Hid (SK.length ≤ 64) := hid (by rw [← HSK.out]; exact short_length key)
  obtain ⟨IN, HIN⟩ : ∃ IN, Hid (sumL (bent SK 0x36 ++ x) = IN) := ⟨_, hid rfl⟩
  have HIL : Hid (IN.length = 32) := hid (by rw [← HIN.out, sumL_length])
  obtain ⟨I, HI⟩ : ∃ I, Hid (Lib.byteCells IN = I) := ⟨_, hid rfl⟩
  have HILc : Hid (I.length = 32) := hid (by rw [← HI.out, byteCells_length, HIL.out])
  have HI1 : Hid (∀ v ∈ I, v.oneCell' = true) := hid (by rw [← HI.out]; exact bcs_one _)
  obtain ⟨R, HR⟩ : ∃ R, Hid (Lib.byteCells (macL key x) = R) := ⟨_, hid rfl⟩
  have HRL : Hid (R.length = 32) := hid (by rw [← HR.out, byteCells_length, macL_length])
  have HR1 : Hid (∀ v ∈ R, v.oneCell' = true) := hid (by rw [← HR.out]; exact bcs_one _)
  have HX := hid hx
  have HC1 : Hid (∀ (u : World) (v : Value) (E : Nat → Prop), w.grownBy u none → Rd u E v SK → Calls Tryd.prog 38 #[v, .int .u8 54, vb] u fun e w' => e = .returned (.agg I.toArray) ∧ u.grownBy w' none) := fun u v E hu hv => by
    have := sbk_any u v vb E G SK x 0x36 hv (HX.out.keep hu) HSL.out (hg.keep hu) hn
    rw [HIN.out, HI.out] at this
    exact this
  have HC2 : Hid (∀ (u : World) (v v2 : Value) (E E2 : Nat → Prop), w.grownBy u none → Rd u E v SK → Rd u E2 v2 IN → Calls Tryd.prog 38 #[v, .int .u8 92, v2] u fun e w' => e = .returned (.agg R.toArray) ∧ u.grownBy w' none) := fun u v v2 E E2 hu hv hv2 => by
    have := sbk_any u v v2 E E2 SK IN 0x5c hv hv2 HSL.out (hg.keep hu) (by rw [HIL.out]; decide)
    have e : sumL (bent SK 0x5c ++ IN) = macL key x := by rw [← HIN.out, ← HSK.out]; rfl
    rw [e, HR.out] at this
    exact this
  rw [HR.out]
  by_cases hlong : 64 < key.length
  · have HSe : Hid (sumL key = SK) := hid (by rw [← HSK.out, short, if_pos hlong])
    obtain ⟨S, HS⟩ : ∃ S, Hid (Lib.byteCells SK = S) := ⟨_, hid rfl⟩
    have HSLL : Hid (SK.length = 32) := hid (by rw [← HSe.out, sumL_length])
    have HSLc : Hid (S.length = 32) := hid (by rw [← HS.out, byteCells_length, HSLL.out])
    have HS1c : Hid (∀ v ∈ S, v.oneCell' = true) := hid (by rw [← HS.out]; exact bcs_one _)
    have HSm : Hid (∀ u, w.grownBy u none → Calls Tryd.prog 11 #[vk] u fun e w' => e = .returned (.agg S.toArray) ∧ u.grownBy w' none) := fun u hu => by
      have := dsum_any u vk F key (hk.keep hu) (hg.keep hu) (by omega)
      rw [HSe.out, HS.out] at this
      exact this
    obtain ⟨a, b0, off, c, rfl, hcc, hnn, ha, hcell⟩ := hk
    obtain ⟨KL, hKL⟩ : ∃ KL, KL = key.length := ⟨_, rfl⟩
    rw [← hKL] at HSm hlong ⊢
    have hl' : (64 : Int) < (KL : Int) := by omega
    clear hx hkn hg hn hcc hnn ha hcell hKL hlong
    go_enter Tryd.func23, Tryd.ntmps23
    go_wp2_with (first
      | (have := HB1; clear this; have := HB3; clear this; refine wpList_alloc_row rfl 24 rfl y32 Tryd.zero24 ?_; intro w6 B6 s6 g6; have HB6 := hid B6; have HG6 := hid g6; have HS6 := hid s6; clear B6 g6 s6)
      | (have := HB1; clear this; refine wpList_alloc_row rfl 24 rfl y32 Tryd.zero24 ?_; intro w3 B3 s3 g3; have HB3 := hid B3; have HG3 := hid g3; have HS3 := hid s3; clear B3 g3 s3)
      | (refine wpList_alloc_row rfl 24 rfl y32 Tryd.zero24 ?_; intro w1 B1 s1 g1; have HB1 := hid B1; have HG1 := hid g1; have HS1 := hid s1; clear B1 g1 s1)
      | (go_at_call 11; refine (HSm.out _ HG1.out).mono ?_; rintro e w2 ⟨rfl, hg2⟩; have HG2 := hid hg2; clear hg2; have HB12 := hid (HB1.out.keep HG2.out); have HGa := hid (gtrans HG1.out HG2.out))
      | (have := HB6; clear this; refine wpList_store_all rfl 24 _ _ rfl _ y32 I 24 rfl rfl HB6.out (by rw [HILc.out]; rfl) (by rw [HILc.out]; exact Tryd.size24) HI1.out ?_; intro w7 B7 g7 s7; have HB7 := hid B7; have HG7 := hid g7; have HS7 := hid s7; clear B7 g7 s7; have HGd := hid ((gtrans HGc.out HG6.out).andThen HG7.out (fun j hj => .inl (by injection hj with hj; have := HGc.out.size; omega))); have HB47 := hid ((HB45.out.keep HG6.out).on HG7.out (by simp; have := HB45.out.lt; omega)); have HB17 := hid ((HB15.out.keep HG6.out).on HG7.out (by simp; have := HB15.out.lt; omega)))
      | (refine wpList_store_all rfl 24 _ _ rfl _ y32 S 24 rfl rfl HB3.out (by rw [HSLc.out]; rfl) (by rw [HSLc.out]; exact Tryd.size24) HS1c.out ?_; intro w4 B4 g4 s4; have HB4 := hid B4; have HG4 := hid g4; have HS4 := hid s4; clear B4 g4 s4; have HGb := hid ((gtrans HGa.out HG3.out).andThen HG4.out (fun j hj => .inl (by injection hj with hj; have := HGa.out.size; omega))); have HB14 := hid ((HB12.out.keep HG3.out).on HG4.out (by simp; have := HB12.out.lt; omega)))
      | (go_at_call 38; with_reducible refine (HC1.out _ _ (fun _ => True) HGb.out (Blk.rd (x := SK) (by rw [HS.out]; exact HB4.out) _ trivial 32 HSLL.out.symm)).mono ?_; rintro e w5 ⟨rfl, hg5⟩; have HG5 := hid hg5; clear hg5; have HGc := hid (gtrans HGb.out HG5.out); have HB45 := hid (HB4.out.keep HG5.out); have HB15 := hid (HB14.out.keep HG5.out))
      | (go_at_call 38; with_reducible refine (HC2.out _ _ _ (fun _ => True) (fun _ => True) HGd.out (Blk.rd (x := SK) (by rw [HS.out]; exact HB47.out) _ trivial 32 HSLL.out.symm) (Blk.rd (x := IN) (by rw [HI.out]; exact HB7.out) _ trivial 32 HIL.out.symm)).mono ?_; rintro e w8 ⟨rfl, hg8⟩; have HG8 := hid hg8; clear hg8; have HB18 := hid (HB17.out.keep HG8.out))
      | (refine wpList_store_all rfl 24 _ _ rfl _ y32 R 24 rfl rfl HB18.out (by rw [HRL.out]; rfl) (by rw [HRL.out]; exact Tryd.size24) HR1.out ?_; intro w9 B9 g9 s9; have HB9 := hid B9; have HG9 := hid g9; clear B9 g9 s9))
    refine bodyPost_ret (results_blk rfl _ w.heap.size 24 R _ rfl HB9.out Tryd.underlying24 rfl (by rw [HRL.out]; exact Tryd.size24)) rfl ?_
    exact ⟨rfl, (gtrans HGd.out HG8.out).andThen HG9.out (fun j hj => .inl (by injection hj with hj; omega))⟩
  · have HSe : Hid (key = SK) := hid (by rw [← HSK.out, short, if_neg hlong])
    have HKk := hid hk
    rw [HSe.out] at HKk
    obtain ⟨a, b0, off, c, rfl, hcc, hnn, ha, hcell⟩ := hk
    obtain ⟨KL, hKL⟩ : ∃ KL, KL = key.length := ⟨_, rfl⟩
    rw [← hKL] at HKk hlong ⊢
    have hl' : ¬ (64 : Int) < (KL : Int) := by omega
    clear hx hkn hg hn hcc hnn ha hcell hKL hlong
    go_enter Tryd.func23, Tryd.ntmps23
    go_wp2_with (first
      | (have := HB1; clear this; refine wpList_alloc_row rfl 24 rfl y32 Tryd.zero24 ?_; intro w6 B6 s6 g6; have HB6 := hid B6; have HG6 := hid g6; have HS6 := hid s6; clear B6 g6 s6)
      | (refine wpList_alloc_row rfl 24 rfl y32 Tryd.zero24 ?_; intro w1 B1 s1 g1; have HB1 := hid B1; have HG1 := hid g1; have HS1 := hid s1; clear B1 g1 s1)
      | (refine wpList_store_all rfl 24 _ _ rfl _ y32 I 24 rfl rfl HB6.out (by rw [HILc.out]; rfl) (by rw [HILc.out]; exact Tryd.size24) HI1.out ?_; intro w7 B7 g7 s7; have HB7 := hid B7; have HG7 := hid g7; have HS7 := hid s7; clear B7 g7 s7; have HGd := hid ((gtrans HGc.out HG6.out).andThen HG7.out (fun j hj => .inl (by injection hj with hj; have := HGc.out.size; omega))); have HB17 := hid ((HB15.out.keep HG6.out).on HG7.out (by simp; have := HB15.out.lt; omega)))
      | (go_at_call 38; with_reducible refine (HC1.out _ _ _ HG1.out (HKk.out.keep HG1.out)).mono ?_; rintro e w5 ⟨rfl, hg5⟩; have HG5 := hid hg5; clear hg5; have HGc := hid (gtrans HG1.out HG5.out); have HB15 := hid (HB1.out.keep HG5.out))
      | (go_at_call 38; with_reducible refine (HC2.out _ _ _ _ (fun _ => True) HGd.out (HKk.out.keep HGd.out) (Blk.rd (x := IN) (by rw [HI.out]; exact HB7.out) _ trivial 32 HIL.out.symm)).mono ?_; rintro e w8 ⟨rfl, hg8⟩; have HG8 := hid hg8; clear hg8; have HB18 := hid (HB17.out.keep HG8.out))
      | (refine wpList_store_all rfl 24 _ _ rfl _ y32 R 24 rfl rfl HB18.out (by rw [HRL.out]; rfl) (by rw [HRL.out]; exact Tryd.size24) HR1.out ?_; intro w9 B9 g9 s9; have HB9 := hid B9; have HG9 := hid g9; clear B9 g9 s9))
    refine bodyPost_ret (results_blk rfl _ w.heap.size 24 R _ rfl HB9.out Tryd.underlying24 rfl (by rw [HRL.out]; exact Tryd.size24)) rfl ?_
    exact ⟨rfl, (gtrans HGd.out HG8.out).andThen HG9.out (fun j hj => .inl (by injection hj with hj; omega))⟩

/-- A row's first bytes, filled up. -/
def fro (x : List UInt8) : List UInt8 := x.take 32 ++ List.replicate (32 - x.length) 0
theorem fro_length (x : List UInt8) : (fro x).length = 32 := by simp [fro]; omega
theorem fro_splice (x : List UInt8) (k : Nat) (hk : Nat.min x.length 32 = k) : splice y32 0 (Lib.byteCells (x.take k)) = Lib.byteCells (fro x) := by
  have hm : k = min x.length 32 := hk.symm
  have hl : (x.take k).length = k := by rw [List.length_take]; omega
  have ht : x.take k = x.take 32 := by
    rw [hm]
    by_cases h : x.length ≤ 32
    · rw [Nat.min_eq_left h, List.take_length, List.take_of_length_le h]
    · rw [Nat.min_eq_right (by omega)]
  unfold splice fro
  rw [List.take_zero, List.nil_append, Nat.zero_add, byteCells_length, hl, ht, byteCells_append]
  congr 1
  unfold y32
  rw [List.drop_replicate, show 32 - k = 32 - x.length by omega]
  simp [Lib.byteCells]
set_option maxRecDepth 100000 in
set_option maxHeartbeats 800000 in
theorem front_any (w : World) (v : Value) (F : Nat → Prop) (x : List UInt8) (hx : Rd w F v x) :
    Calls Tryd.prog 39 #[v] w fun e w' => e = .returned (.agg (Lib.byteCells (fro x)).toArray) ∧ w.grownBy w' none := by
  have HX := hid hx
  obtain ⟨R, HR⟩ : ∃ R, Hid (Lib.byteCells (fro x) = R) := ⟨_, hid rfl⟩
  have HRL : Hid (R.length = 32) := hid (by rw [← HR.out, byteCells_length, fro_length])
  have HR1 : Hid (∀ v ∈ R, v.oneCell' = true) := hid (by rw [← HR.out]; exact bcs_one _)
  obtain ⟨k, HKk⟩ : ∃ k, Hid (Nat.min x.length 32 = k) := ⟨_, hid rfl⟩
  have HSp := hid (fro_splice x k HKk.out)
  have HKl : Hid (k ≤ 32) := hid (by rw [← HKk.out]; exact Nat.min_le_right _ _)
  rw [HR.out] at HSp ⊢
  clear hx
  go_enter Tryd.func39, Tryd.ntmps39
  go_wp2_with (first
    | (have := HB1; clear this; refine wpList_alloc_row rfl 24 rfl y32 Tryd.zero24 ?_; intro w2 B2 s2 g2; have HB2 := hid B2; have HG2 := hid g2; have HS2 := hid s2; clear B2 g2 s2)
    | (refine wpList_alloc_row rfl 24 rfl y32 Tryd.zero24 ?_; intro w1 B1 s1 g1; have HB1 := hid B1; have HG1 := hid g1; have HS1 := hid s1; clear B1 g1 s1)
    | (refine wpList_build_row rfl 24 rfl y32 Tryd.built24 ?_)
    | (have := HB5; clear this; refine wpList_store_all rfl 24 _ _ rfl _ y32 R 24 rfl rfl HB15.out (by rw [HRL.out]; rfl) (by rw [HRL.out]; exact Tryd.size24) HR1.out ?_; intro w9 B9 g9 s9; have HB9 := hid B9; have HG9 := hid g9; clear B9 g9 s9)
    | (refine wpList_store_all rfl 24 _ _ rfl _ y32 y32 24 rfl rfl HB2.out rfl Tryd.size24 one_y32 ?_; intro w3 B3 g3 s3; have HB3 := hid B3; have HG3 := hid g3; have HS3 := hid s3; clear B3 g3 s3; have HGa := hid ((gtrans HG1.out HG2.out).andThen HG3.out (fun j hj => .inl (by injection hj with hj; have := HS1.out; omega))); have HB13 := hid ((HB1.out.keep HG2.out).on HG3.out (by simp; have := HS1.out; omega)))
    | (refine wpList_copy_blk rfl _ _ rfl w1.heap.size 0 32 32 rfl F x (HX.out.keep HGa.out) y32 24 HB3.out k HKk.out (by have := HKl.out; show 0 + k ≤ 32; omega) ?_; intro w5 B5 g5 s5; have HB5 := hid B5; have HG5 := hid g5; clear B5 g5 s5; rw [HSp.out] at HB5; have HB15 := hid (HB13.out.on HG5.out (by simp; have := HS1.out; omega)); have HGb := hid (HGa.out.andThen HG5.out (fun j hj => .inl (by injection hj with hj; have := HS1.out; omega))))
    | (refine wpList_load_part rfl 24 _ rfl w1.heap.size 0 R _ rfl HB5.out.whole Tryd.underlying24 rfl (by rw [HRL.out]; exact Tryd.size24) ?_))
  refine bodyPost_ret (results_blk rfl _ w.heap.size 24 R _ rfl HB9.out Tryd.underlying24 rfl (by rw [HRL.out]; exact Tryd.size24)) rfl ?_
  exact ⟨rfl, HGb.out.andThen HG9.out (fun j hj => .inl (by injection hj with hj; omega))⟩

theorem neq_32 (D E : List UInt8) (hD : D.length = 32) (hE : E.length = 32) (w : World) : (binOp .neq 24 (.agg (Lib.byteCells D).toArray) (.agg (Lib.byteCells E).toArray)).run Tryd.prog w = .ok (.bool (!(D == E))) w := by
  have h1 := run_eql_bytes (P := Tryd.prog) w 24 5 32 Tryd.underlying24 Tryd.underlying5 (fun u => by rfl) D E hD hE
  have h2 : (binOp .neq 24 (.agg (Lib.byteCells D).toArray) (.agg (Lib.byteCells E).toArray)).run Tryd.prog w = ((binOp .eql 24 (.agg (Lib.byteCells D).toArray) (.agg (Lib.byteCells E).toArray)).run Tryd.prog w).andThen fun v w => .ok (match v with | .bool b => .bool (!b) | v => v) w := by
    show (do pure (Value.bool (!(← Op.equal 24 _ _))) : Sem Value).run _ _ = ((do pure (Value.bool (← Op.equal 24 _ _)) : Sem Value).run _ _).andThen _
    rw [Sem.run_bind, Sem.run_bind]
    cases (Op.equal 24 (.agg (Lib.byteCells D).toArray) (.agg (Lib.byteCells E).toArray)).run Tryd.prog w <;> rfl
  rw [h2]
  have e : (binOp .eql 24 (.agg (Lib.byteCells D).toArray) (.agg (Lib.byteCells E).toArray)).run Tryd.prog w = .ok (.bool (D == E)) w := h1
  rw [e]
  rfl
theorem eql_32 (D E : List UInt8) (hD : D.length = 32) (hE : E.length = 32) (w : World) : (binOp .eql 24 (.agg (Lib.byteCells D).toArray) (.agg (Lib.byteCells E).toArray)).run Tryd.prog w = .ok (.bool (D == E)) w :=
  run_eql_bytes (P := Tryd.prog) w 24 5 32 Tryd.underlying24 Tryd.underlying5 (fun u => by rfl) D E hD hE
theorem fro_eq (x y : List UInt8) (h : x.length = y.length) : fro x = fro y ↔ x.take 32 = y.take 32 := by
  unfold fro
  rw [h]
  exact ⟨fun e => List.append_cancel_right e, fun e => by rw [e]⟩
end Go.Proofs.YtmiojplbcjhggaaDoor
