/- The walk of RingSwift. -/
import Derived.Test.YtmpcpakdocaieaaGr2
import Derived.Test.YtmpcpakdocaieaaSwP
import Derived.Test.YtmpcpakdocaieaaTi
import Derived.Test.YtmpcpakdocaieaaLate
namespace Go.Proofs.Ytmpcpakdocaieaa
open Go Go.RowKit
open Go.RowKit (wrap32 wrap64)

theorem ifw_undef {o : Oper} {ops : Array Oper} {A : Act} {X Y : Prop} (j : Nat) (b : Bool) (d : Tmp) (hg : o.guard = some (j, b)) (hd : ((ops[j]?).bind (·.dst)) = some d) (hb : A.eval (.tmp d) = undef) (h : Y) : if Region.wanted o (yielded ops A.tmps) = true then X else Y := by
  have hy : yielded ops A.tmps j = none := by
    unfold yielded
    rw [hd]
    have h2 : A.tmps.getD d undef = undef := hb
    rw [Array.getD_eq_getD_getElem?] at h2
    show (match A.tmps[d]? with | some (.bool b) => some b | _ => none) = none
    cases e : A.tmps[d]? with
    | none => rfl
    | some v => rw [e] at h2; have h3 : v = undef := h2; subst h3; rfl
  rw [if_neg (by simp [Region.wanted, hg, hy])]
  exact h
def SI (i : Nat) : List UInt8 := 170 :: UInt8.ofNat i :: List.replicate 30 0
theorem SI_len (i : Nat) : (SI i).length = 32 := rfl
theorem built_si0 : Try.prog.built 70 [(0, .int .u8 170), (1, .int .u8 ((0 : Nat) : Int))] = some (Lib.byteCells (SI 0)).toArray := by kernel_rfl
theorem built_si1 : Try.prog.built 70 [(0, .int .u8 170), (1, .int .u8 ((1 : Nat) : Int))] = some (Lib.byteCells (SI 1)).toArray := by kernel_rfl
theorem built_si2 : Try.prog.built 70 [(0, .int .u8 170), (1, .int .u8 ((2 : Nat) : Int))] = some (Lib.byteCells (SI 2)).toArray := by kernel_rfl
theorem built_si3 : Try.prog.built 70 [(0, .int .u8 170), (1, .int .u8 ((3 : Nat) : Int))] = some (Lib.byteCells (SI 3)).toArray := by kernel_rfl
theorem built_si4 : Try.prog.built 70 [(0, .int .u8 170), (1, .int .u8 ((4 : Nat) : Int))] = some (Lib.byteCells (SI 4)).toArray := by kernel_rfl
theorem built_si5 : Try.prog.built 70 [(0, .int .u8 170), (1, .int .u8 ((5 : Nat) : Int))] = some (Lib.byteCells (SI 5)).toArray := by kernel_rfl
theorem built_si6 : Try.prog.built 70 [(0, .int .u8 170), (1, .int .u8 ((6 : Nat) : Int))] = some (Lib.byteCells (SI 6)).toArray := by kernel_rfl
theorem built_si7 : Try.prog.built 70 [(0, .int .u8 170), (1, .int .u8 ((7 : Nat) : Int))] = some (Lib.byteCells (SI 7)).toArray := by kernel_rfl
theorem built_si (i : Nat) (hi : i < 8) : Try.prog.built 70 [(0, .int .u8 170), (1, .int .u8 (i : Nat))] = some (Lib.byteCells (SI i)).toArray := by
  have h : i = 0 ∨ i = 1 ∨ i = 2 ∨ i = 3 ∨ i = 4 ∨ i = 5 ∨ i = 6 ∨ i = 7 := by omega
  rcases h with rfl | rfl | rfl | rfl | rfl | rfl | rfl | rfl
  · exact built_si0
  · exact built_si1
  · exact built_si2
  · exact built_si3
  · exact built_si4
  · exact built_si5
  · exact built_si6
  · exact built_si7
theorem Try.built70 : Try.prog.built 70 [] = some (Lib.byteCells z32).toArray := by kernel_rfl
theorem neq_int (x y : Operand) (p q : Nat) (u : World) : (do eqGuard .neq 3 x y (.int .i64 (p : Nat)) (.int .i64 (q : Nat)); binOp .neq 3 (.int .i64 (p : Nat)) (.int .i64 (q : Nat)) : Sem Value).run Try.prog u = .ok (.bool (!decide (p = q))) u := by
  have e : ((p : Int) == (q : Int)) = decide (p = q) := by rw [Bool.eq_iff_iff]; simp only [beq_iff_eq, decide_eq_true_eq]; omega
  by_cases h : p = q
  · rw [decide_eq_true h] at e ⊢
    go_simp
  · rw [decide_eq_false h] at e ⊢
    have h' : ¬ (p : Int) = (q : Int) := by omega
    go_simp
theorem lastK_mem {l : List Ky} (h : 0 < l.length) : lastK l ∈ l := by
  unfold lastK
  rw [List.getLast?_eq_getElem?, List.getElem?_eq_getElem (by omega)]
  exact List.getElem_mem _
set_option maxRecDepth 100000 in
set_option maxHeartbeats 3200000 in
theorem swift_walk (w : World) (sec : List UInt8) (ta : Option Addr) (tb to tn tc : Nat) (T : Nat → Tn) (hs : sec.length = 32) (htn : tn ≤ 140737488355328) (hT : RowsT w ta tb to tn T) :
    Calls Try.prog 7 #[.agg (lifeC sec ta tn tc).toArray] w fun e w' => e = .returned (.bool true) ∧ w.grownBy w' none := by
  have HWk : Hid (∀ u : World, Calls Try.prog 26 #[] u fun e w' => e = .returned (.bool true) ∧ u.grownBy w' none) := fun u => wakes_any u
  have HGr : Hid (∀ u, w.grownBy u none → Calls Try.prog 28 #[.agg (lifeC sec ta tn tc).toArray] u fun e w' => ∃ (l : List Ky) (nx : Nat) (a : Option Addr) (c : Nat), e = .returned (.tuple #[.agg #[.slice a l.length c, .int .u64 nx], .bool true]) ∧ isRing l nx = true ∧ nx ≤ 42 ∧ OutK u.heap.size w' (.slice a l.length c) l ∧ u.grownBy w' none) := fun u hu => grown_le u sec ta tb to tn tc T hs htn (hT.on hu)
  have HLL : Hid ((lifeC sec ta tn tc).length = 33) := hid (life_len hs ta tn tc)
  obtain ⟨P, HP⟩ : ∃ x, Hid (lifeC sec ta tn tc = x) := ⟨_, hid rfl⟩
  rw [HP.out] at HLL HGr ⊢
  obtain ⟨B0, HB0⟩ : ∃ x, Hid (w.heap.size = x) := ⟨_, hid rfl⟩
  clear hT hs htn HP
  have HCu : Hid (∀ (u : World) (v : Value) (L : List Ky) (N : Nat), OutK B0 u v L → isRing L N = true → L.length ≤ 8 → Calls Try.prog 29 #[.agg #[v, .int .u64 N]] u fun e w' => e = .returned (.tuple #[.agg (lastK L).cells.toArray, .bool true]) ∧ u.grownBy w' none) := fun u v L N h hr hl => by
    have := current_any u v _ L N h.rd (by omega)
    rw [hr, if_pos rfl] at this
    exact this
  have HCp : Hid (∀ (u : World) (v : Value) (L : List Ky) (N : Nat), OutK B0 u v L → L.length ≤ 8 → B0 ≤ u.heap.size → Calls Try.prog 18 #[.agg #[v, .int .u64 N]] u fun e w' => ∃ x y, e = .returned (.agg #[.slice x L.length y, .int .u64 N]) ∧ OutK B0 w' (.slice x L.length y) L ∧ u.grownBy w' none) := fun u v L N h hl hb => by
    refine (copyRing_any u v _ L N h.rd (by omega)).mono ?_
    rintro e w' ⟨x, y, he, ho, hg⟩
    exact ⟨x, y, he, ho.below hb, hg⟩
  have HDi : Hid (∀ (u : World) (v : Value) (L : List Ky) (N kid : Nat) (S : List UInt8), OutK B0 u v L → L.length ≤ 8 → S.length = 32 → B0 ≤ u.heap.size → Calls Try.prog 16 #[.agg #[v, .int .u64 N], .int .u64 kid, .agg (Lib.byteCells S).toArray] u fun e w' => ∃ x y, e = .returned (.tuple #[.agg #[.slice x (disR L N kid S).1.length y, .int .u64 (disR L N kid S).2], .int .i64 (disE L N kid)]) ∧ OutK B0 w' (.slice x (disR L N kid S).1.length y) (disR L N kid S).1 ∧ u.grownBy w' none) := fun u v L N kid S h hl hS hb => by
    refine (distrust_any u v _ L N kid S h.rd (by omega) hS).mono ?_
    rintro e w' ⟨x, y, he, ho, hg⟩
    exact ⟨x, y, he, ho.below hb, hg⟩
  have HFi : Hid (∀ (u : World) (v : Value) (L : List Ky) (N kid : Nat), OutK B0 u v L → L.length ≤ 8 → Calls Try.prog 30 #[.agg #[v, .int .u64 N], .int .u64 kid] u fun e w' => e = .returned (.tuple #[.agg (keyOr (fnd L N kid)).cells.toArray, .bool (fnd L N kid).isSome]) ∧ u.grownBy w' none) := fun u v L N kid h hl => rfind_any u v _ L N kid h.rd (by omega)
  have HChk : Hid (∀ (u : World) (v : Value) (L : List Ky) (N : Nat), OutK B0 u v L → L.length ≤ 8 → isRing L N = true → Calls Try.prog 31 #[.agg #[v, .int .u64 N]] u fun e w' => e = .returned (.int .i64 0) ∧ u.grownBy w' none) := fun u v L N h hl hr => by
    have := check_any u v _ L N h.rd (by omega)
    unfold chk at this
    rw [hr, if_pos rfl] at this
    exact this
  have HNu : Hid (∀ (e : Int) (u : World), Calls Try.prog 22 #[.int .i64 e] u fun r w' => r = .returned (.int .i64 e) ∧ w' = u) := fun e u => num_any e u
  go_enter Try.func7, Try.ntmps7
  go_wp2_with (first
    | ((with_reducible refine wpList_box_row (by with_unfolding_all rfl) 94 _ (by with_unfolding_all rfl) P (by with_unfolding_all rfl) ?_); intro w1 B1 s1 g1; have HB1 := hid B1; have HG1 := hid g1; have HS1 := hid s1; clear B1 g1 s1)
    | (have := HB4; clear this; (with_reducible refine wpList_load_part (by with_unfolding_all rfl) 69 _ (by with_unfolding_all rfl) w2.heap.size 0 [.slice a l.length c, .int .u64 nx] _ (by with_unfolding_all rfl) HB4.out.whole Try.underlying69 (by with_unfolding_all rfl) (by with_unfolding_all exact Try.size69) ?_))
    | (with_reducible refine wpList_load_part (by with_unfolding_all rfl) 94 _ (by with_unfolding_all rfl) w.heap.size 0 P _ (by with_unfolding_all rfl) HB1.out.whole Try.underlying94 (by with_unfolding_all rfl) (by rw [HLL.out]; exact Try.size94) ?_)
    | ((with_reducible refine wpList_alloc_row (by with_unfolding_all rfl) 69 (by with_unfolding_all rfl) [.slice none 0 0, .int .u64 0] Try.zero69 ?_); intro w3 B3 s3 g3; have HB3 := hid B3; have HG3 := hid g3; have HS3 := hid s3; clear B3 g3 s3)
    | (go_at_call 28; (with_reducible refine (HGr.out _ HG1.out).mono ?_); rintro e w2 ⟨l, nx, a, c, rfl, hri, hnx, hO2, hg2⟩; have HRi := hid hri; have HNx := hid hnx; have HO2 := hid (hO2.below (show B0 ≤ w1.heap.size by have := HG1.out.size; have := HB0.out; omega)); have HG2 := hid (gtrans HG1.out hg2); clear hO2 hg2 hri hnx)
    | ((with_reducible refine wpList_store_all (by with_unfolding_all rfl) 69 _ _ (by with_unfolding_all rfl) _ [.slice none 0 0, .int .u64 0] [.slice a l.length c, .int .u64 nx] 69 (by with_unfolding_all rfl) (by with_unfolding_all rfl) HB3.out (by with_unfolding_all rfl) (by with_unfolding_all exact Try.size69) (ring_one _ _ _ _) ?_); intro w4 B4 g4 s4; have HB4 := hid B4; have HG4 := hid g4; have HS4 := hid s4; clear B4 g4 s4; have HG4x := hid ((gtrans HG2.out HG3.out).andThen HG4.out (fun j hj => .inl (by injection hj with hj; have := HG2.out.size; omega))); have HO4 := hid ((HO2.out.keep HG3.out).on HG4.out (fun j hj e => by injection hj with hj; exact (HO2.out.keep HG3.out).ne_blk HB3.out (by decide) _ e hj.symm)); have HKml := hid (goodL_pos (isRing_good HRi.out).1))
    | (go_at_call 29; (with_reducible refine (HCu.out _ _ l nx HO4.out HRi.out HKml.out.2).mono ?_); rintro e w5 ⟨rfl, hg5⟩; have HG5 := hid (gtrans HG4x.out hg5); have HB5 := hid (HB4.out.keep hg5); have HO5 := hid (HO4.out.keep hg5); clear hg5; obtain ⟨K, HKe⟩ : ∃ x, Hid (lastK l = x) := ⟨_, hid rfl⟩; rw [HKe.out]; have HKL : Hid (K.cells.length = 34) := hid (by rw [← HKe.out]; exact Ky.cells_length ((HO5.out.1 _ (lastK_mem HKml.out.1)).2.1)))
    | ((with_reducible refine wpList_alloc_row (by with_unfolding_all rfl) 107 (by with_unfolding_all rfl) zky.cells Try.zero107 ?_); intro w6 B6 s6 g6; have HB6 := hid B6; have HG6 := hid g6; have HS6 := hid s6; clear B6 g6 s6)
    | ((with_reducible refine wpList_store_all (by with_unfolding_all rfl) 107 _ _ (by with_unfolding_all rfl) _ zky.cells K.cells 107 (by with_unfolding_all rfl) (by with_unfolding_all rfl) HB6.out (by rw [HKL.out]; with_unfolding_all rfl) (by rw [HKL.out]; exact Try.size107) (Ky.one _) ?_); intro w7 B7 g7 s7; have HB7 := hid B7; have HG7 := hid g7; have HS7 := hid s7; clear B7 g7 s7; have hlx := HB5.out.lt; have HG7x := hid ((gtrans HG5.out HG6.out).andThen HG7.out (fun j hj => .inl (by injection hj with hj; have := HG5.out.size; omega))); have HB8 := hid ((HB5.out.keep HG6.out).on HG7.out (by simp; omega)); have HO7 := hid ((HO5.out.keep HG6.out).on HG7.out (fun j hj e => by injection hj with hj; subst hj; have := (HO5.out.2.lt _ e).2; omega)); clear hlx))
  obtain ⟨b3, hb3⟩ : ∃ x, w2.heap.size = x := ⟨_, rfl⟩
  obtain ⟨b5, hb5⟩ : ∃ x, w5.heap.size = x := ⟨_, rfl⟩
  rw [hb3] at HB4
  rw [hb5] at HB7
  rw [hb3, hb5]
  have HR0 := HB8
  have HK0 := HB7
  rw [hb3] at HR0
  have HGa := HG7x
  have HO0 := HO7
  have HBB : Hid (B0 ≤ b3 ∧ b3 < b5) := hid (by have := HB0.out; have := HG2.out.size; have := HB5.out.lt; omega)
  obtain ⟨n, HN⟩ : ∃ x, Hid (l.length = x) := ⟨_, hid rfl⟩
  have HL8 : Hid (l.length ≤ 8) := hid (goodL_pos (isRing_good HRi.out).1).2
  have HN8 : Hid (n ≤ 8) := hid (by have := HL8.out; have := HN.out; omega)
  rw [HN.out] at HR0 HO0 ⊢
  clear HB8 HB7 HG7x HO7 HB4 HB5 HG2 HG5 HB1 HG1 HB3 HG3 HG4 HB6 HG6 HG7 HS1 HS3 HS4 HS6 HS7 hb3 hb5 HO2 HO4 HG4x HO5
  obtain ⟨hok, ar, gr, orr, cr, her, -, Har, Hcr⟩ := HO0.out.rd.open
  injection her with er1 er2 er3
  subst er1 er3
  clear er2
  have hlpos : 0 < l.length := (goodL_pos (isRing_good HRi.out).1).1
  obtain ⟨rfl, -⟩ := Har.out hlpos
  have HOk := hid hok
  have HKm : Hid (lastK l ∈ l) := hid (by
    unfold lastK
    rw [List.getLast?_eq_getElem?, List.getElem?_eq_getElem (by omega)]
    exact List.getElem_mem _)
  clear hlpos Har hok
  go_wp2_with fail
  go_loopw [7] (fun iv wr => ∃ i : Nat, iv = .int .i64 i ∧ i ≤ n ∧ Hid (w7.grownBy wr none)) (fun iv _ => n - (intOf iv).toNat)
  case atStart => exact ⟨0, rfl, Nat.zero_le _, hid (grefl _ _)⟩
  case round =>
    obtain ⟨i, rfl, hin, HG⟩ := hrel
    have HR1 := hid (HR0.out.keep HG.out)
    have HK1 := hid (HK0.out.keep HG.out)
    have HO1 := hid (HO0.out.keep HG.out)
    have HLe : Hid (B0 ≤ wr.heap.size) := hid (by have := (gtrans HGa.out HG.out).size; have := HB0.out; omega)
    have y0 := HR1.out.cell 0
    have y1 := HR1.out.cell 1
    by_cases hlt : i < n
    · have hil : i < l.length := by rw [HN.out]; exact hlt
      have hlt' : (i : Int) < (n : Int) := by omega
      have hi := hlt
      have hi8 : i < 8 := by have := HN8.out; omega
      obtain ⟨hr, hgb⟩ := Hcr.out wr HG.out i hil
      have q0 : wr.cell? ⟨gr, orr + i * 34, none⟩ = some (.int .u64 l[i].kid) := hr 0 _ (Ky.c0 _)
      have HQm : Hid (l[i] ∈ l) := hid (List.getElem_mem hil)
      have HQi : Hid (∀ (j : Nat) (hj : j < l.length), j ≠ i → l[j].kid ≠ l[i].kid) := hid (by
        obtain ⟨ri, hrg⟩ := isRing_rg HRi.out
        intro j hj hne e
        have hp := List.pairwise_iff_getElem.1 hrg.pw
        rcases Nat.lt_or_gt_of_ne hne with h | h
        · have := hp j i hj hil h; omega
        · have := hp i j hil hj h; omega)
      obtain ⟨Q, HQ⟩ : ∃ x, Hid (l[i] = x) := ⟨_, hid rfl⟩
      have HQe : Hid (∀ (j : Nat) (hj : j < l.length), j = i → l[j] = Q) := hid (fun j hj e => by subst e; exact HQ.out)
      rw [HQ.out] at q0 HQm HQi
      clear hr hgb
      obtain ⟨hde, hsw⟩ := swift (SI i) HRi.out HNx.out HQm.out
      have HDe := hid hde
      have HSw := hid hsw
      clear hde hsw
      obtain ⟨X, HXe⟩ : ∃ x, Hid ((disR l nx Q.kid (SI i)).1 = x) := ⟨_, hid rfl⟩
      obtain ⟨NX, HNXe⟩ : ∃ x, Hid ((disR l nx Q.kid (SI i)).2 = x) := ⟨_, hid rfl⟩
      rw [HXe.out, HNXe.out] at HSw
      obtain ⟨m, HM⟩ : ∃ x, Hid (X.length = x) := ⟨_, hid rfl⟩
      have HD1 : Hid (∀ (u : World) (v : Value), OutK B0 u v l → B0 ≤ u.heap.size → Calls Try.prog 16 #[.agg #[v, .int .u64 nx], .int .u64 Q.kid, .agg (Lib.byteCells (SI i)).toArray] u fun e w' => ∃ x y, e = .returned (.tuple #[.agg #[.slice x m y, .int .u64 NX], .int .i64 0]) ∧ OutK B0 w' (.slice x m y) X ∧ u.grownBy w' none) := fun u v h hb => by
        have := HDi.out u v l nx Q.kid (SI i) h HL8.out (SI_len i) hb
        rw [HDe.out, HXe.out, HNXe.out, HM.out] at this
        exact this
      have HC1 : Hid (∀ (u : World) (v : Value), OutK B0 u v l → B0 ≤ u.heap.size → Calls Try.prog 18 #[.agg #[v, .int .u64 nx]] u fun e w' => ∃ x y, e = .returned (.agg #[.slice x n y, .int .u64 nx]) ∧ OutK B0 w' (.slice x n y) l ∧ u.grownBy w' none) := fun u v h hb => by
        have := HCp.out u v l nx h HL8.out hb
        rw [HN.out] at this
        exact this
      have HC2 : Hid (∀ (u : World) (v : Value), OutK B0 u v X → B0 ≤ u.heap.size → Calls Try.prog 18 #[.agg #[v, .int .u64 NX]] u fun e w' => ∃ x y, e = .returned (.agg #[.slice x m y, .int .u64 NX]) ∧ OutK B0 w' (.slice x m y) X ∧ u.grownBy w' none) := fun u v h hb => by
        have := HCp.out u v X NX h HSw.out.len8 hb
        rw [HM.out] at this
        exact this
      obtain ⟨ZC, HZC⟩ : ∃ x, Hid (Lib.byteCells z32 = x) := ⟨_, hid rfl⟩
      have HBz : Hid (Try.prog.built 70 [] = some ZC.toArray) := hid (by rw [← HZC.out]; exact Try.built70)
      have HD2 : Hid (∀ (u : World) (v : Value), OutK B0 u v X → B0 ≤ u.heap.size → Calls Try.prog 16 #[.agg #[v, .int .u64 NX], .int .u64 Q.kid, .agg ZC.toArray] u fun e w' => ∃ x m2 y n2, e = .returned (.tuple #[.agg #[.slice x m2 y, .int .u64 n2], .int .i64 53]) ∧ u.grownBy w' none) := fun u v h hb => by
        have := HDi.out u v X NX Q.kid z32 h HSw.out.len8 rfl hb
        rw [HSw.out.again, HZC.out] at this
        refine this.mono ?_
        rintro e w' ⟨x, y, he, -, hg⟩
        exact ⟨x, _, y, _, he, hg⟩
      have HF1 : Hid (∀ (u : World) (v : Value), OutK B0 u v X → Calls Try.prog 30 #[.agg #[v, .int .u64 NX], .int .u64 Q.kid] u fun e w' => e = .returned (.tuple #[.agg zky.cells.toArray, .bool false]) ∧ u.grownBy w' none) := fun u v h => by
        have := HFi.out u v X NX Q.kid h HSw.out.len8
        rw [HSw.out.gone] at this
        exact this
      have HCX : Hid (∀ (u : World) (v : Value), OutK B0 u v X → Calls Try.prog 29 #[.agg #[v, .int .u64 NX]] u fun e w' => e = .returned (.tuple #[.agg (lastK X).cells.toArray, .bool true]) ∧ u.grownBy w' none) := fun u v h => HCu.out u v X NX h HSw.out.ring HSw.out.len8
      have HKX : Hid (∀ (u : World) (v : Value), OutK B0 u v X → Calls Try.prog 31 #[.agg #[v, .int .u64 NX]] u fun e w' => e = .returned (.int .i64 0) ∧ u.grownBy w' none) := fun u v h => HChk.out u v X NX h HSw.out.len8 HSw.out.ring
      obtain ⟨SC, HSC⟩ : ∃ x, Hid (Lib.byteCells (SI i) = x) := ⟨_, hid rfl⟩
      have HBu : Hid (Try.prog.built 70 [(0, .int .u8 170), (1, .int .u8 (i : Nat))] = some SC.toArray) := hid (by rw [← HSC.out]; exact built_si i hi8)
      rw [HSC.out] at HD1
      go_wp2_with (first
        | (with_reducible refine wpList_load_part (by with_unfolding_all rfl) 69 _ (by with_unfolding_all rfl) b3 0 [.slice (some ⟨gr, orr, none⟩) n c, .int .u64 nx] _ (by with_unfolding_all rfl) HR1.out.whole Try.underlying69 (by with_unfolding_all rfl) (by with_unfolding_all exact Try.size69) ?_)
        | (go_at_call 18; (with_reducible refine (HC1.out _ _ HO1.out HLe.out).mono ?_); rintro e w8 ⟨x8, y8, rfl, ho8, hg8⟩; have HG8 := hid hg8; have HO8 := hid ho8; clear hg8 ho8)
        | (with_reducible refine wpList_build_of (by with_unfolding_all rfl) 70 _ (by with_unfolding_all rfl) [(0, .int .u8 170), (1, .int .u8 (i : Nat))] (by with_unfolding_all rfl) SC HBu.out ?_)
        | (go_at_call 16; (with_reducible refine (HD1.out _ _ HO8.out (by have := HLe.out; have := HG8.out.size; omega)).mono ?_); rintro e w9 ⟨x, y, rfl, ho9, hg9⟩; have HG9 := hid (gtrans HG8.out hg9); have HO9 := hid ho9; clear hg9 ho9)
        | ((with_reducible refine wpList_alloc_row (by with_unfolding_all rfl) 69 (by with_unfolding_all rfl) [.slice none 0 0, .int .u64 0] Try.zero69 ?_); intro w10 B10 s10 g10; have HB10 := hid B10; have HG10 := hid g10; have HS10 := hid s10; clear B10 g10 s10)
        | ((with_reducible refine wpList_store_all (by with_unfolding_all rfl) 69 _ _ (by with_unfolding_all rfl) _ [.slice none 0 0, .int .u64 0] [.slice x m y, .int .u64 NX] 69 (by with_unfolding_all rfl) (by with_unfolding_all rfl) HB10.out (by with_unfolding_all rfl) (by with_unfolding_all exact Try.size69) (ring_one _ _ _ _) ?_); intro w11 B11 g11 s11; have HB11 := hid B11; have HG11 := hid g11; have HS11 := hid s11; clear B11 g11 s11)
        | (with_reducible refine wpList_load_part (by with_unfolding_all rfl) 69 _ (by with_unfolding_all rfl) w9.heap.size 0 [.slice x m y, .int .u64 NX] _ (by with_unfolding_all rfl) HB11.out.whole Try.underlying69 (by with_unfolding_all rfl) (by with_unfolding_all exact Try.size69) ?_))
      obtain ⟨b9, hb9⟩ : ∃ x, w9.heap.size = x := ⟨_, rfl⟩
      rw [hb9] at HB11 HB10 HG11 ⊢
      have HSa := hid ((gtrans HG9.out HG10.out).andThen HG11.out (fun j hj => .inl (by injection hj with hj; have := HG9.out.size; omega)))
      have HOX := hid ((HO9.out.keep HG10.out).on HG11.out (fun j hj e => by injection hj with hj; exact (HO9.out.keep HG10.out).ne_blk HB10.out (by decide) _ e hj.symm))
      clear HG8 HO8 HG9 HO9 HG10 HB10 HG11 HS10 HS11
      have HR2 := hid (HR1.out.keep HSa.out)
      have HK2 := hid (HK1.out.keep HSa.out)
      have HO2 := hid (HO1.out.keep HSa.out)
      have HLe2 : Hid (B0 ≤ w11.heap.size) := hid (by have := HLe.out; have := HSa.out.size; omega)
      clear hb9
      go_wp2_with (first
        | (go_at_call 18; (with_reducible refine (HC2.out _ _ HOX.out HLe2.out).mono ?_); rintro e w12 ⟨x12, y12, rfl, ho12, hg12⟩; have HG12 := hid hg12; have HO12 := hid ho12; clear hg12 ho12)
        | (with_reducible refine wpList_build_row (by with_unfolding_all rfl) 70 (by with_unfolding_all rfl) ZC HBz.out ?_)
        | (go_at_call 16; (with_reducible refine (HD2.out _ _ HO12.out (by have := HLe2.out; have := HG12.out.size; omega)).mono ?_); rintro e w13 ⟨x13, m13, y13, n13, rfl, hg13⟩; have HG13 := hid (gtrans HG12.out hg13); clear hg13)
        | ((with_reducible refine wpList_alloc_row (by with_unfolding_all rfl) 69 (by with_unfolding_all rfl) [.slice none 0 0, .int .u64 0] Try.zero69 ?_); intro w14 B14 s14 g14; have HB14 := hid B14; have HG14 := hid g14; have HS14 := hid s14; clear B14 g14 s14)
        | ((with_reducible refine wpList_store_all (by with_unfolding_all rfl) 69 _ _ (by with_unfolding_all rfl) _ [.slice none 0 0, .int .u64 0] [.slice x13 m13 y13, .int .u64 n13] 69 (by with_unfolding_all rfl) (by with_unfolding_all rfl) HB14.out (by with_unfolding_all rfl) (by with_unfolding_all exact Try.size69) (ring_one _ _ _ _) ?_); intro w15 B15 g15 s15; have HB15 := hid B15; have HG15 := hid g15; have HS15 := hid s15; clear B15 g15 s15; have HSb := hid ((gtrans HG13.out HG14.out).andThen HG15.out (fun j hj => .inl (by injection hj with hj; have := HG13.out.size; omega))); clear HG12 HO12 HG13 HG14 HB14 HG15 HS14 HS15 HB15; have HB9b := hid (HB11.out.keep HSb.out); have HOXb := hid (HOX.out.keep HSb.out))
        | (with_reducible refine wpList_load_part (by with_unfolding_all rfl) 69 _ (by with_unfolding_all rfl) b9 0 [.slice x m y, .int .u64 NX] _ (by with_unfolding_all rfl) HB9b.out.whole Try.underlying69 (by with_unfolding_all rfl) (by with_unfolding_all exact Try.size69) ?_))
      go_wp2_with (first
        | (go_at_call 30; (with_reducible refine (HF1.out _ _ HOXb.out).mono ?_); rintro e w16 ⟨rfl, hg16⟩; have HG16 := hid hg16; clear hg16)
        | ((with_reducible refine wpList_alloc_row (by with_unfolding_all rfl) 107 (by with_unfolding_all rfl) zky.cells Try.zero107 ?_); intro w17 B17 s17 g17; have HB17 := hid B17; have HG17 := hid g17; have HS17 := hid s17; clear B17 g17 s17)
        | ((with_reducible refine wpList_store_all (by with_unfolding_all rfl) 107 _ _ (by with_unfolding_all rfl) _ zky.cells zky.cells 107 (by with_unfolding_all rfl) (by with_unfolding_all rfl) HB17.out (by with_unfolding_all rfl) (by with_unfolding_all exact Try.size107) (Ky.one _) ?_); intro w18 B18 g18 s18; have HB18 := hid B18; have HG18 := hid g18; have HS18 := hid s18; clear B18 g18 s18; have HSc := hid ((gtrans HG16.out HG17.out).andThen HG18.out (fun j hj => .inl (by injection hj with hj; have := HG16.out.size; omega))); have HB9c := hid (HB9b.out.keep HSc.out); have HOXc := hid (HOXb.out.keep HSc.out); clear HG16 HG17 HB17 HG18 HB18 HS17 HS18)
        | (go_at_call 22; (with_reducible refine (HNu.out _ _).mono ?_); rintro e w19' ⟨rfl, hw19⟩; have hw19' := hw19.symm; clear hw19; subst hw19')
        | (with_reducible refine wpList_load_partW (by with_unfolding_all rfl) 69 _ (by with_unfolding_all rfl) b9 0 [.slice x m y, .int .u64 NX] _ (by with_unfolding_all rfl) HB9c.out.whole Try.underlying69 (by with_unfolding_all rfl) (by with_unfolding_all exact Try.size69) ?_)
        | (go_at_call 31; (with_reducible refine (HKX.out _ _ HOXc.out).mono ?_); rintro e w19 ⟨rfl, hg19⟩; have HG19 := hid hg19; clear hg19))
      have HSd := hid (gtrans (gtrans HSb.out HSc.out) HG19.out)
      have HX3 := hid (HB9c.out.keep HG19.out)
      have HOX3 := hid (HOXc.out.keep HG19.out)
      have HR3 := hid (HR2.out.keep HSd.out)
      have HK3 := hid (HK2.out.keep HSd.out)
      have HO3 := hid (HO2.out.keep HSd.out)
      have HGd := hid (gtrans (gtrans HG.out HSa.out) HSd.out)
      clear HB11 HOX HB9b HOXb HB9c HOXc HG19 HSb HSc HR1 HK1 HO1 HR2 HK2 HO2 y0 y1
      go_wp2_with fail
      go_loopw [15] (fun jv wr => ∃ j : Nat, jv = .int .i64 j ∧ j ≤ n ∧ Hid (w19.grownBy wr none)) (fun jv _ => n - (intOf jv).toNat)
      case atStart => exact ⟨0, rfl, Nat.zero_le _, hid (grefl _ _)⟩
      case round =>
        obtain ⟨j, rfl, hjn', HGq⟩ := hrel
        have HR4 := hid (HR3.out.keep HGq.out)
        have HX4 := hid (HX3.out.keep HGq.out)
        have HOX4 := hid (HOX3.out.keep HGq.out)
        have y0 := HR4.out.cell 0
        have y1 := HR4.out.cell 1
        have z0 := HX4.out.cell 0
        have z1 := HX4.out.cell 1
        by_cases hjn : j < n
        · have hjl : j < l.length := by rw [HN.out]; exact hjn
          have hjlt : (j : Int) < (n : Int) := by omega
          have hj8 : j < 8 := by have := HN8.out; omega
          have HRz : Hid (∀ u, wr.grownBy u none → u.rangeAt gr (orr + j * 34) l[j].cells) := hid (fun u hu => (Hcr.out u (gtrans HGd.out (gtrans HGq.out hu)) j hjl).1)
          have HZ0 : Hid (∀ u, wr.grownBy u none → u.cell? ⟨gr, orr + j * 34, none⟩ = some (.int .u64 l[j].kid)) := hid (fun u hu => HRz.out u hu 0 _ (Ky.c0 _))
          have hzk := (HOk.out _ (List.getElem_mem hjl)).2.1
          have HZL : Hid (l[j].cells.length = 34) := hid (Ky.cells_length hzk)
          have HNz : Hid (∀ (x y : Operand) (u : World), (do eqGuard .neq 107 x y (.agg l[j].cells.toArray) (.agg l[j].cells.toArray); binOp .neq 107 (.agg l[j].cells.toArray) (.agg l[j].cells.toArray) : Sem Value).run Try.prog u = .ok (.bool false) u) := fun x y u => by rw [neq_key hzk hzk]; simp
          have HZm : Hid (l[j] ∈ l) := hid (List.getElem_mem hjl)
          have HZq : Hid (j ≠ i → l[j].kid ≠ Q.kid) := hid (HQi.out j hjl)
          have HZe : Hid (j = i → l[j] = Q) := hid (HQe.out j hjl)
          obtain ⟨Z, HZ⟩ : ∃ x, Hid (l[j] = x) := ⟨_, hid rfl⟩
          rw [HZ.out] at HRz HZ0 HZL HNz HZm HZq HZe
          have HFd0 : Hid (∀ u, wr.grownBy u none → Calls Try.prog 30 #[.agg [.slice x m y, .int .u64 NX].toArray, .int .u64 Z.kid] u fun e w' => e = .returned (.tuple #[.agg (keyOr (fnd X NX Z.kid)).cells.toArray, .bool (fnd X NX Z.kid).isSome]) ∧ u.grownBy w' none) := fun u hu => HFi.out u _ X NX Z.kid (HOX4.out.keep hu) HSw.out.len8
          have hrok : (keyOr (fnd X NX Z.kid)).ok := keyOr_ok HOX4.out.1 _ _
          have HRL : Hid ((keyOr (fnd X NX Z.kid)).cells.length = 34) := hid (Ky.cells_length hrok.2.1)
          have HRfs : Hid (j ≠ i → fnd X NX Z.kid = some Z) := hid (fun h => HSw.out.rest Z HZm.out (HZq.out h))
          obtain ⟨R, HRe⟩ : ∃ x, Hid (keyOr (fnd X NX Z.kid) = x) := ⟨_, hid rfl⟩
          obtain ⟨rb, HRb⟩ : ∃ x, Hid ((fnd X NX Z.kid).isSome = x) := ⟨_, hid rfl⟩
          rw [HRe.out] at HFd0 HRL
          rw [HRb.out] at HFd0
          have HFd := HFd0
          clear HFd0 hrok hzk
          obtain ⟨HH, HHs⟩ : ∃ x, Hid (wr.heap.size = x) := ⟨_, hid rfl⟩
          go_wp2_with fail
          refine wp_region_late (by kernel_rfl) [fun v _ => v = (Value.agg [Value.slice x m y, Value.int .u64 NX].toArray), fun v _ => v = (Value.pointer (some ⟨b3, 0, none⟩)), fun v _ => v = (Value.slice (some ⟨gr, orr, none⟩) n c), fun v _ => v = (Value.int .i64 (j : Nat)), fun v _ => v = (Value.pointer (some ⟨gr, orr + j * 34, none⟩)), fun v _ => v = (Value.pointer (some ⟨gr, orr + j * 34, none⟩)), fun v _ => v = (Value.int .u64 Z.kid), fun v _ => v = (Value.tuple #[Value.agg R.cells.toArray, Value.bool rb]), fun v _ => v = (Value.tuple #[Value.agg R.cells.toArray, Value.bool rb]), fun v _ => v = (Value.agg R.cells.toArray), fun v _ => v = (Value.bool rb), fun v u => ∃ bb, v = Value.pointer (some ⟨bb, 0, none⟩) ∧ Blk u bb zky.cells 107 ∧ HH ≤ bb] (none) (fun _ => none) 12 10 (by kernel_rfl) (by kernel_rfl) (by kernel_rfl) (by kernel_rfl) (by kernel_rfl) (by decide) (by decide) _ _ rfl rfl noRow_one (fun _ => .inl rfl) ⟨fun i v u u' hki h hg => h, fun i v u u' hki h hg => h, fun i v u u' hki h hg => h, fun i v u u' hki h hg => h, fun i v u u' hki h hg => h, fun i v u u' hki h hg => h, fun i v u u' hki h hg => h, fun i v u u' hki h hg => h, fun i v u u' hki h hg => h, fun i v u u' hki h hg => h, fun i v u u' hki h hg => h, fun i v u u' hki h hg => (by obtain ⟨bb, e, hb, hl⟩ := h; exact ⟨bb, e, hb.keep hg, hl⟩), trivial⟩ ⟨?_, ?_, ?_, ?_, ?_, ?_, ?_, ?_, ?_, ?_, ?_, ?_, trivial⟩ ?_ ?_
          · intro A u hu hpu hsz hout hdeps
            have e9 : A.eval (.tmp 9) = (.pointer (some ⟨b9, 0, none⟩)) := (hout 9 (by kernel_rfl)).trans rfl
            refine ifw_none rfl ?_
            with_reducible refine shown_q (Value.agg [Value.slice x m y, Value.int .u64 NX].toArray) ?qq_1_0 (fun _ _ => ?qr_1_0)
            case qr_1_0 => exact (rfl : (Value.agg [Value.slice x m y, Value.int .u64 NX].toArray) = (Value.agg [Value.slice x m y, Value.int .u64 NX].toArray))
            with_reducible refine quietAt_load 69 (.tmp 9) ?h0_1_0 b9 0 [Value.slice x m y, Value.int .u64 NX] (.struct (Try.prog.fieldsOf 69)) ?h1_1_0 ?h2_1_0 ?h3_1_0 ?h4_1_0 ?h5_1_0
            case h0_1_0 => rfl
            case h1_1_0 => exact e9
            case h2_1_0 => exact (HX4.out.keep hu).whole
            case h3_1_0 => exact Try.under69
            case h4_1_0 => rfl
            case h5_1_0 => exact Try.size69
          · intro A u hu hpu hsz hout hdeps
            have e3 : A.eval (.tmp 3) = (.pointer (some ⟨b3, 0, none⟩)) := (hout 3 (by kernel_rfl)).trans rfl
            refine ifw_none rfl ?_
            with_reducible refine shown_q (Value.pointer (some ⟨b3, 0, none⟩)) ?qq_1_1 (fun _ _ => ?qr_1_1)
            case qr_1_1 => exact (rfl : (Value.pointer (some ⟨b3, 0, none⟩)) = (Value.pointer (some ⟨b3, 0, none⟩)))
            with_reducible refine quietAt_field 69 (.tmp 3) 0 ?h0_1_1 ⟨b3, 0, none⟩ ⟨b3, 0, none⟩ ?h1_1_1 ?h2_1_1
            case h0_1_1 => rfl
            case h1_1_1 => exact e3
            case h2_1_1 => kernel_rfl
          · intro A u hu hpu hsz hout hdeps
            have e95 : A.eval (.tmp 95) = (.pointer (some ⟨b3, 0, none⟩)) := by have h := depL hdeps 1 (by kernel_rfl) 95 (by kernel_rfl); exact h
            refine ifw_none rfl ?_
            with_reducible refine shown_q (Value.slice (some ⟨gr, orr, none⟩) n c) ?qq_1_2 (fun _ _ => ?qr_1_2)
            case qr_1_2 => exact (rfl : (Value.slice (some ⟨gr, orr, none⟩) n c) = (Value.slice (some ⟨gr, orr, none⟩) n c))
            with_reducible refine quietAt_ld 55 (.tmp 95) (Value.pointer (some ⟨b3, 0, none⟩)) (Value.slice (some ⟨gr, orr, none⟩) n c) ?h0_1_2 ?h1_1_2 ?h2_1_2
            case h0_1_2 => rfl
            case h1_1_2 => exact e95
            case h2_1_2 => exact ld55 b3 0 n c _ u ((HR4.out.keep hu).cell 0)
          · intro A u hu hpu hsz hout hdeps
            have e15 : A.eval (.tmp 15) = (.int .i64 (j : Nat)) := (hout 15 (by kernel_rfl)).trans rfl
            refine ifw_none rfl ?_
            with_reducible refine shown_q (Value.int .i64 (j : Nat)) ?qq_1_3 (fun _ _ => ?qr_1_3)
            case qr_1_3 => exact (rfl : (Value.int .i64 (j : Nat)) = (Value.int .i64 (j : Nat)))
            with_reducible refine quietAt_mv (.tmp 15) (Value.int .i64 (j : Nat)) ?h0_1_3 ?h1_1_3
            case h0_1_3 => rfl
            case h1_1_3 => exact e15
          · intro A u hu hpu hsz hout hdeps
            have e96 : A.eval (.tmp 96) = (.slice (some ⟨gr, orr, none⟩) n c) := by have h := depL hdeps 2 (by kernel_rfl) 96 (by kernel_rfl); exact h
            have e97 : A.eval (.tmp 97) = (.int .i64 (j : Nat)) := by have h := depL hdeps 3 (by kernel_rfl) 97 (by kernel_rfl); exact h
            refine ifw_none rfl ?_
            with_reducible refine shown_q (Value.pointer (some ⟨gr, orr + j * 34, none⟩)) ?qq_1_4 (fun _ _ => ?qr_1_4)
            case qr_1_4 => exact (rfl : (Value.pointer (some ⟨gr, orr + j * 34, none⟩)) = (Value.pointer (some ⟨gr, orr + j * 34, none⟩)))
            with_reducible refine quietAt_idx 55 (.tmp 96) (.tmp 97) (Value.slice (some ⟨gr, orr, none⟩) n c) (Value.int .i64 (j : Nat)) (Value.pointer (some ⟨gr, orr + j * 34, none⟩)) ?h0_1_4 ?h1_1_4 ?h2_1_4 ?h3_1_4
            case h0_1_4 => rfl
            case h1_1_4 => exact e96
            case h2_1_4 => exact e97
            case h3_1_4 => exact idx55 gr orr n c j hjn u
          · intro A u hu hpu hsz hout hdeps
            have e98 : A.eval (.tmp 98) = (.pointer (some ⟨gr, orr + j * 34, none⟩)) := by have h := depL hdeps 4 (by kernel_rfl) 98 (by kernel_rfl); exact h
            refine ifw_none rfl ?_
            with_reducible refine shown_q (Value.pointer (some ⟨gr, orr + j * 34, none⟩)) ?qq_1_5 (fun _ _ => ?qr_1_5)
            case qr_1_5 => exact (rfl : (Value.pointer (some ⟨gr, orr + j * 34, none⟩)) = (Value.pointer (some ⟨gr, orr + j * 34, none⟩)))
            with_reducible refine quietAt_field 107 (.tmp 98) 0 ?h0_1_5 ⟨gr, orr + j * 34, none⟩ ⟨gr, orr + j * 34, none⟩ ?h1_1_5 ?h2_1_5
            case h0_1_5 => rfl
            case h1_1_5 => exact e98
            case h2_1_5 => kernel_rfl
          · intro A u hu hpu hsz hout hdeps
            have e99 : A.eval (.tmp 99) = (.pointer (some ⟨gr, orr + j * 34, none⟩)) := by have h := depL hdeps 5 (by kernel_rfl) 99 (by kernel_rfl); exact h
            refine ifw_none rfl ?_
            with_reducible refine shown_q (Value.int .u64 Z.kid) ?qq_1_6 (fun _ _ => ?qr_1_6)
            case qr_1_6 => exact (rfl : (Value.int .u64 Z.kid) = (Value.int .u64 Z.kid))
            with_reducible refine quietAt_ld 67 (.tmp 99) (Value.pointer (some ⟨gr, orr + j * 34, none⟩)) (Value.int .u64 Z.kid) ?h0_1_6 ?h1_1_6 ?h2_1_6
            case h0_1_6 => rfl
            case h1_1_6 => exact e99
            case h2_1_6 => exact ld67 gr (orr + j * 34) Z.kid u (HZ0.out u hu)
          · intro A u hu hpu hsz hout hdeps
            have e94 : A.eval (.tmp 94) = (.agg [.slice x m y, .int .u64 NX].toArray) := by have h := depL hdeps 0 (by kernel_rfl) 94 (by kernel_rfl); exact h
            have e100 : A.eval (.tmp 100) = (.int .u64 Z.kid) := by have h := depL hdeps 6 (by kernel_rfl) 100 (by kernel_rfl); exact h
            refine ifw_none rfl ?_
            with_reducible refine shown_q (Value.tuple #[Value.agg R.cells.toArray, Value.bool rb]) ?qq_1_7 (fun _ _ => ?qr_1_7)
            case qr_1_7 => exact (rfl : (Value.tuple #[Value.agg R.cells.toArray, Value.bool rb]) = (Value.tuple #[Value.agg R.cells.toArray, Value.bool rb]))
            with_reducible refine quietAt_call 30 Try.f30 ?h0_1_7 ?h1_1_7 ?h2_1_7 #[.tmp 94, .tmp 100] #[69, 67] ?h3_1_7 (Value.tuple #[Value.agg R.cells.toArray, Value.bool rb]) #[(Value.agg [Value.slice x m y, Value.int .u64 NX].toArray), (Value.int .u64 Z.kid)] ?h4_1_7 ?h5_1_7
            case h0_1_7 => exact Try.func30
            case h1_1_7 => kernel_rfl
            case h2_1_7 => kernel_rfl
            case h3_1_7 => rfl
            case h4_1_7 => exact map2 _ _ _ _ _ e94 e100
            case h5_1_7 => exact HFd.out u hu
          · intro A u hu hpu hsz hout hdeps
            have e101 : A.eval (.tmp 101) = (.tuple #[.agg R.cells.toArray, .bool rb]) := by have h := depL hdeps 7 (by kernel_rfl) 101 (by kernel_rfl); exact h
            refine ifw_none rfl ?_
            with_reducible refine shown_q (Value.tuple #[Value.agg R.cells.toArray, Value.bool rb]) ?qq_1_8 (fun _ _ => ?qr_1_8)
            case qr_1_8 => exact (rfl : (Value.tuple #[Value.agg R.cells.toArray, Value.bool rb]) = (Value.tuple #[Value.agg R.cells.toArray, Value.bool rb]))
            with_reducible refine quietAt_mv (.tmp 101) (Value.tuple #[Value.agg R.cells.toArray, Value.bool rb]) ?h0_1_8 ?h1_1_8
            case h0_1_8 => rfl
            case h1_1_8 => exact e101
          · intro A u hu hpu hsz hout hdeps
            have e93 : A.eval (.tmp 93) = (.tuple #[.agg R.cells.toArray, .bool rb]) := by have h := depL hdeps 8 (by kernel_rfl) 93 (by kernel_rfl); exact h
            refine ifw_none rfl ?_
            with_reducible refine shown_q (Value.agg R.cells.toArray) ?qq_1_9 (fun _ _ => ?qr_1_9)
            case qr_1_9 => exact (rfl : (Value.agg R.cells.toArray) = (Value.agg R.cells.toArray))
            with_reducible refine quietAt_ex (.tmp 93) 0 ?h0_1_9 #[Value.agg R.cells.toArray, Value.bool rb] (Value.agg R.cells.toArray) ?h1_1_9 ?h2_1_9
            case h0_1_9 => rfl
            case h1_1_9 => exact e93
            case h2_1_9 => kernel_rfl
          · intro A u hu hpu hsz hout hdeps
            have e93 : A.eval (.tmp 93) = (.tuple #[.agg R.cells.toArray, .bool rb]) := by have h := depL hdeps 8 (by kernel_rfl) 93 (by kernel_rfl); exact h
            refine ifw_none rfl ?_
            with_reducible refine shown_q (Value.bool rb) ?qq_1_10 (fun _ _ => ?qr_1_10)
            case qr_1_10 => exact (rfl : (Value.bool rb) = (Value.bool rb))
            with_reducible refine quietAt_ex (.tmp 93) 1 ?h0_1_10 #[Value.agg R.cells.toArray, Value.bool rb] (Value.bool rb) ?h1_1_10 ?h2_1_10
            case h0_1_10 => rfl
            case h1_1_10 => exact e93
            case h2_1_10 => kernel_rfl
          · intro A u hu hpu hsz hout hdeps
            refine ifw_none rfl ?_
            exact shown_alloc 107 rfl zky.cells Try.zero107 (fun w' h _ => ⟨u.heap.size, rfl, h, by have := hu.size; have := HHs.out; omega⟩)
          · intro A u17 listed hh hall
            have hA := hh.frame
            have HU := hid hh.grown
            obtain ⟨x94, hx94⟩ : ∃ x, A.eval (.tmp 94) = x := ⟨_, rfl⟩
            have f94 : (fun v _ => v = (Value.agg [Value.slice x m y, Value.int .u64 NX].toArray)) x94 u17 := by rw [← hx94]; exact hh.got 0 _ 94 rfl rfl (hall 0 (by decide))
            obtain ⟨x95, hx95⟩ : ∃ x, A.eval (.tmp 95) = x := ⟨_, rfl⟩
            have f95 : (fun v _ => v = (Value.pointer (some ⟨b3, 0, none⟩))) x95 u17 := by rw [← hx95]; exact hh.got 1 _ 95 rfl rfl (hall 1 (by decide))
            obtain ⟨x96, hx96⟩ : ∃ x, A.eval (.tmp 96) = x := ⟨_, rfl⟩
            have f96 : (fun v _ => v = (Value.slice (some ⟨gr, orr, none⟩) n c)) x96 u17 := by rw [← hx96]; exact hh.got 2 _ 96 rfl rfl (hall 2 (by decide))
            obtain ⟨x97, hx97⟩ : ∃ x, A.eval (.tmp 97) = x := ⟨_, rfl⟩
            have f97 : (fun v _ => v = (Value.int .i64 (j : Nat))) x97 u17 := by rw [← hx97]; exact hh.got 3 _ 97 rfl rfl (hall 3 (by decide))
            obtain ⟨x98, hx98⟩ : ∃ x, A.eval (.tmp 98) = x := ⟨_, rfl⟩
            have f98 : (fun v _ => v = (Value.pointer (some ⟨gr, orr + j * 34, none⟩))) x98 u17 := by rw [← hx98]; exact hh.got 4 _ 98 rfl rfl (hall 4 (by decide))
            obtain ⟨x99, hx99⟩ : ∃ x, A.eval (.tmp 99) = x := ⟨_, rfl⟩
            have f99 : (fun v _ => v = (Value.pointer (some ⟨gr, orr + j * 34, none⟩))) x99 u17 := by rw [← hx99]; exact hh.got 5 _ 99 rfl rfl (hall 5 (by decide))
            obtain ⟨x100, hx100⟩ : ∃ x, A.eval (.tmp 100) = x := ⟨_, rfl⟩
            have f100 : (fun v _ => v = (Value.int .u64 Z.kid)) x100 u17 := by rw [← hx100]; exact hh.got 6 _ 100 rfl rfl (hall 6 (by decide))
            obtain ⟨x101, hx101⟩ : ∃ x, A.eval (.tmp 101) = x := ⟨_, rfl⟩
            have f101 : (fun v _ => v = (Value.tuple #[Value.agg R.cells.toArray, Value.bool rb])) x101 u17 := by rw [← hx101]; exact hh.got 7 _ 101 rfl rfl (hall 7 (by decide))
            obtain ⟨x93, hx93⟩ : ∃ x, A.eval (.tmp 93) = x := ⟨_, rfl⟩
            have f93 : (fun v _ => v = (Value.tuple #[Value.agg R.cells.toArray, Value.bool rb])) x93 u17 := by rw [← hx93]; exact hh.got 8 _ 93 rfl rfl (hall 8 (by decide))
            obtain ⟨x102, hx102⟩ : ∃ x, A.eval (.tmp 102) = x := ⟨_, rfl⟩
            have f102 : (fun v _ => v = (Value.agg R.cells.toArray)) x102 u17 := by rw [← hx102]; exact hh.got 9 _ 102 rfl rfl (hall 9 (by decide))
            obtain ⟨x103, hx103⟩ : ∃ x, A.eval (.tmp 103) = x := ⟨_, rfl⟩
            have f103 : (fun v _ => v = (Value.bool rb)) x103 u17 := by rw [← hx103]; exact hh.got 10 _ 103 rfl rfl (hall 10 (by decide))
            obtain ⟨x16, hx16⟩ : ∃ x, A.eval (.tmp 16) = x := ⟨_, rfl⟩
            have f16 : (fun v u => ∃ bb, v = Value.pointer (some ⟨bb, 0, none⟩) ∧ Blk u bb zky.cells 107 ∧ HH ≤ bb) x16 u17 := by rw [← hx16]; exact hh.got 11 _ 16 rfl rfl (hall 11 (by decide))
            obtain ⟨x17, hx17⟩ : ∃ x, A.eval (.tmp 17) = x := ⟨_, rfl⟩
            dsimp only [wrote, List.foldl] at hA
            rw [hx94, hx95, hx96, hx97, hx98, hx99, hx100, hx101, hx93, hx102, hx103, hx16, hx17] at hA
            clear hh hall hx94 hx95 hx96 hx97 hx98 hx99 hx100 hx101 hx93 hx102 hx103 hx16 hx17
            replace f94 := (f94 : x94 = (.agg [.slice x m y, .int .u64 NX].toArray))
            subst f94
            replace f95 := (f95 : x95 = (.pointer (some ⟨b3, 0, none⟩)))
            subst f95
            replace f96 := (f96 : x96 = (.slice (some ⟨gr, orr, none⟩) n c))
            subst f96
            replace f97 := (f97 : x97 = (.int .i64 (j : Nat)))
            subst f97
            replace f98 := (f98 : x98 = (.pointer (some ⟨gr, orr + j * 34, none⟩)))
            subst f98
            replace f99 := (f99 : x99 = (.pointer (some ⟨gr, orr + j * 34, none⟩)))
            subst f99
            replace f100 := (f100 : x100 = (.int .u64 Z.kid))
            subst f100
            replace f101 := (f101 : x101 = (.tuple #[.agg R.cells.toArray, .bool rb]))
            subst f101
            replace f93 := (f93 : x93 = (.tuple #[.agg R.cells.toArray, .bool rb]))
            subst f93
            replace f102 := (f102 : x102 = (.agg R.cells.toArray))
            subst f102
            replace f103 := (f103 : x103 = (.bool rb))
            subst f103
            obtain ⟨b16, e16, hb16b, hb16l⟩ := f16
            subst e16
            subst hA
            show wpList _ _ _ [_, _] _ _
            simp only [Act.put, List.setIfInBounds_toArray, List.set_cons_succ, List.set_cons_zero]
            go_wp2_with ((with_reducible refine wpList_store_all (by with_unfolding_all rfl) 107 _ _ (by with_unfolding_all rfl) _ zky.cells R.cells 107 (by with_unfolding_all rfl) (by with_unfolding_all rfl) hb16b (by rw [HRL.out]; with_unfolding_all rfl) (by rw [HRL.out]; exact Try.size107) (Ky.one _) ?_); intro w30 B30 g30 s30; have HB30 := hid B30; have HG30 := hid g30; have HS30 := hid s30; clear B30 g30 s30)
            have HSq := hid ((HU.out).andThen HG30.out (fun j hj => .inl (by injection hj with hj; have := HHs.out; omega)))
            have HR5 := hid (HR4.out.keep HSq.out)
            clear HU hb16b hb16l HG30 HS30
            by_cases hji : j = i
            · have HNij : Hid (∀ (x y : Operand) (u : World), (do eqGuard .neq 3 x y (.int .i64 (j : Nat)) (.int .i64 (i : Nat)); binOp .neq 3 (.int .i64 (j : Nat)) (.int .i64 (i : Nat)) : Sem Value).run Try.prog u = .ok (.bool false) u) := fun x y u => by rw [neq_int, decide_eq_true hji]; rfl
              clear hji
              go_wp2_with fail
              refine wp_region_list (by kernel_rfl) [fun v _ => v = (Value.int .i64 (j : Nat)), fun v _ => v = (Value.int .i64 (i : Nat)), fun v _ => v = (Value.bool false), fun v _ => v = (Value.bool false), fun v _ => v = undef, fun v _ => v = undef, fun v _ => v = undef, fun v _ => v = undef, fun v _ => v = undef, fun v _ => v = undef, fun v _ => v = undef, fun v _ => v = undef, fun v _ => v = undef, fun v _ => v = undef, fun v _ => v = undef, fun v _ => v = (Value.bool false)] (none) (fun _ => none) 16 (by kernel_rfl) (by kernel_rfl) (by kernel_rfl) (by kernel_rfl) (by decide) noRow_one (fun _ => .inl rfl) ⟨fun i v u u' hki h hg => h, fun i v u u' hki h hg => h, fun i v u u' hki h hg => h, fun i v u u' hki h hg => h, fun i v u u' hki h hg => h, fun i v u u' hki h hg => h, fun i v u u' hki h hg => h, fun i v u u' hki h hg => h, fun i v u u' hki h hg => h, fun i v u u' hki h hg => h, fun i v u u' hki h hg => h, fun i v u u' hki h hg => h, fun i v u u' hki h hg => h, fun i v u u' hki h hg => h, fun i v u u' hki h hg => h, fun i v u u' hki h hg => h, trivial⟩ ⟨?_, ?_, ?_, ?_, ?_, ?_, ?_, ?_, ?_, ?_, ?_, ?_, ?_, ?_, ?_, ?_, trivial⟩ ?_
              · intro A u hu hpu hsz hout hdeps
                have e15 : A.eval (.tmp 15) = (.int .i64 (j : Nat)) := (hout 15 (by kernel_rfl)).trans rfl
                refine ifw_none rfl ?_
                with_reducible refine shown_q (Value.int .i64 (j : Nat)) ?qq_3_0 (fun _ _ => ?qr_3_0)
                case qr_3_0 => exact (rfl : (Value.int .i64 (j : Nat)) = (Value.int .i64 (j : Nat)))
                with_reducible refine quietAt_mv (.tmp 15) (Value.int .i64 (j : Nat)) ?h0_3_0 ?h1_3_0
                case h0_3_0 => rfl
                case h1_3_0 => exact e15
              · intro A u hu hpu hsz hout hdeps
                have e7 : A.eval (.tmp 7) = (.int .i64 (i : Nat)) := (hout 7 (by kernel_rfl)).trans rfl
                refine ifw_none rfl ?_
                with_reducible refine shown_q (Value.int .i64 (i : Nat)) ?qq_3_1 (fun _ _ => ?qr_3_1)
                case qr_3_1 => exact (rfl : (Value.int .i64 (i : Nat)) = (Value.int .i64 (i : Nat)))
                with_reducible refine quietAt_mv (.tmp 7) (Value.int .i64 (i : Nat)) ?h0_3_1 ?h1_3_1
                case h0_3_1 => rfl
                case h1_3_1 => exact e7
              · intro A u hu hpu hsz hout hdeps
                have e104 : A.eval (.tmp 104) = (.int .i64 (j : Nat)) := by have h := depL hdeps 0 (by kernel_rfl) 104 (by kernel_rfl); exact h
                have e105 : A.eval (.tmp 105) = (.int .i64 (i : Nat)) := by have h := depL hdeps 1 (by kernel_rfl) 105 (by kernel_rfl); exact h
                refine ifw_none rfl ?_
                with_reducible refine shown_q (Value.bool false) ?qq_3_2 (fun _ _ => ?qr_3_2)
                case qr_3_2 => exact (rfl : (Value.bool false) = (Value.bool false))
                with_reducible refine quietAt_bin .neq 3 (.tmp 104) (.tmp 105) 3 (Value.int .i64 (j : Nat)) (Value.int .i64 (i : Nat)) (Value.bool false) ?h0_3_2 ?h1_3_2 ?h2_3_2 ?h3_3_2
                case h0_3_2 => rfl
                case h1_3_2 => exact e104
                case h2_3_2 => exact e105
                case h3_3_2 => exact HNij.out _ _ u
              · intro A u hu hpu hsz hout hdeps
                have e106 : A.eval (.tmp 106) = (.bool false) := by have h := depL hdeps 2 (by kernel_rfl) 106 (by kernel_rfl); exact h
                refine ifw_none rfl ?_
                with_reducible refine shown_q (Value.bool false) ?qq_3_3 (fun _ _ => ?qr_3_3)
                case qr_3_3 => exact (rfl : (Value.bool false) = (Value.bool false))
                with_reducible refine quietAt_mv (.tmp 106) (Value.bool false) ?h0_3_3 ?h1_3_3
                case h0_3_3 => rfl
                case h1_3_3 => exact e106
              · intro A u hu hpu hsz hout hdeps
                have e107 : A.eval (.tmp 107) = (.bool false) := by have h := depL hdeps 3 (by kernel_rfl) 107 (by kernel_rfl); exact h
                refine ifw_pass 3 true false 107 rfl rfl e107 (by decide) ?_
                exact rfl
              · intro A u hu hpu hsz hout hdeps
                have e107 : A.eval (.tmp 107) = (.bool false) := by have h := depL hdeps 3 (by kernel_rfl) 107 (by kernel_rfl); exact h
                refine ifw_pass 3 true false 107 rfl rfl e107 (by decide) ?_
                exact rfl
              · intro A u hu hpu hsz hout hdeps
                have e107 : A.eval (.tmp 107) = (.bool false) := by have h := depL hdeps 3 (by kernel_rfl) 107 (by kernel_rfl); exact h
                refine ifw_pass 3 true false 107 rfl rfl e107 (by decide) ?_
                exact rfl
              · intro A u hu hpu hsz hout hdeps
                have e110 : A.eval (.tmp 110) = undef := by have h := depL hdeps 6 (by kernel_rfl) 110 (by kernel_rfl); exact h
                refine ifw_undef 6 false 110 rfl rfl e110 ?_
                exact rfl
              · intro A u hu hpu hsz hout hdeps
                have e110 : A.eval (.tmp 110) = undef := by have h := depL hdeps 6 (by kernel_rfl) 110 (by kernel_rfl); exact h
                refine ifw_undef 6 false 110 rfl rfl e110 ?_
                exact rfl
              · intro A u hu hpu hsz hout hdeps
                have e110 : A.eval (.tmp 110) = undef := by have h := depL hdeps 6 (by kernel_rfl) 110 (by kernel_rfl); exact h
                refine ifw_undef 6 false 110 rfl rfl e110 ?_
                exact rfl
              · intro A u hu hpu hsz hout hdeps
                have e110 : A.eval (.tmp 110) = undef := by have h := depL hdeps 6 (by kernel_rfl) 110 (by kernel_rfl); exact h
                refine ifw_undef 6 false 110 rfl rfl e110 ?_
                exact rfl
              · intro A u hu hpu hsz hout hdeps
                have e110 : A.eval (.tmp 110) = undef := by have h := depL hdeps 6 (by kernel_rfl) 110 (by kernel_rfl); exact h
                refine ifw_undef 6 false 110 rfl rfl e110 ?_
                exact rfl
              · intro A u hu hpu hsz hout hdeps
                have e110 : A.eval (.tmp 110) = undef := by have h := depL hdeps 6 (by kernel_rfl) 110 (by kernel_rfl); exact h
                refine ifw_undef 6 false 110 rfl rfl e110 ?_
                exact rfl
              · intro A u hu hpu hsz hout hdeps
                have e110 : A.eval (.tmp 110) = undef := by have h := depL hdeps 6 (by kernel_rfl) 110 (by kernel_rfl); exact h
                refine ifw_undef 6 false 110 rfl rfl e110 ?_
                exact rfl
              · intro A u hu hpu hsz hout hdeps
                have e107 : A.eval (.tmp 107) = (.bool false) := by have h := depL hdeps 3 (by kernel_rfl) 107 (by kernel_rfl); exact h
                refine ifw_pass 3 true false 107 rfl rfl e107 (by decide) ?_
                exact rfl
              · intro A u hu hpu hsz hout hdeps
                have e107 : A.eval (.tmp 107) = (.bool false) := by have h := depL hdeps 3 (by kernel_rfl) 107 (by kernel_rfl); exact h
                refine ifw_none rfl ?_
                with_reducible refine shown_q (Value.bool false) ?qq_3_15 (fun _ _ => ?qr_3_15)
                case qr_3_15 => exact (rfl : (Value.bool false) = (Value.bool false))
                with_reducible refine quietAt_pick (.tmp 107) (.tmp 118) (.const (.bool false)) false (Value.bool false) ?h0_3_15 ?h1_3_15 ?h2_3_15
                case h0_3_15 => rfl
                case h1_3_15 => exact e107
                case h2_3_15 => rw [if_neg (by decide)]; exact rfl
              · intro A u18 listed hh hall
                have hA := hh.frame
                have HU := hid hh.grown
                obtain ⟨x104, hx104⟩ : ∃ x, A.eval (.tmp 104) = x := ⟨_, rfl⟩
                have f104 : (fun v _ => v = (Value.int .i64 (j : Nat))) x104 u18 := by rw [← hx104]; exact hh.got 0 _ 104 rfl rfl (hall 0 (by decide))
                obtain ⟨x105, hx105⟩ : ∃ x, A.eval (.tmp 105) = x := ⟨_, rfl⟩
                have f105 : (fun v _ => v = (Value.int .i64 (i : Nat))) x105 u18 := by rw [← hx105]; exact hh.got 1 _ 105 rfl rfl (hall 1 (by decide))
                obtain ⟨x106, hx106⟩ : ∃ x, A.eval (.tmp 106) = x := ⟨_, rfl⟩
                have f106 : (fun v _ => v = (Value.bool false)) x106 u18 := by rw [← hx106]; exact hh.got 2 _ 106 rfl rfl (hall 2 (by decide))
                obtain ⟨x107, hx107⟩ : ∃ x, A.eval (.tmp 107) = x := ⟨_, rfl⟩
                have f107 : (fun v _ => v = (Value.bool false)) x107 u18 := by rw [← hx107]; exact hh.got 3 _ 107 rfl rfl (hall 3 (by decide))
                obtain ⟨x108, hx108⟩ : ∃ x, A.eval (.tmp 108) = x := ⟨_, rfl⟩
                have f108 : (fun v _ => v = undef) x108 u18 := by rw [← hx108]; exact hh.got 4 _ 108 rfl rfl (hall 4 (by decide))
                obtain ⟨x109, hx109⟩ : ∃ x, A.eval (.tmp 109) = x := ⟨_, rfl⟩
                have f109 : (fun v _ => v = undef) x109 u18 := by rw [← hx109]; exact hh.got 5 _ 109 rfl rfl (hall 5 (by decide))
                obtain ⟨x110, hx110⟩ : ∃ x, A.eval (.tmp 110) = x := ⟨_, rfl⟩
                have f110 : (fun v _ => v = undef) x110 u18 := by rw [← hx110]; exact hh.got 6 _ 110 rfl rfl (hall 6 (by decide))
                obtain ⟨x111, hx111⟩ : ∃ x, A.eval (.tmp 111) = x := ⟨_, rfl⟩
                have f111 : (fun v _ => v = undef) x111 u18 := by rw [← hx111]; exact hh.got 7 _ 111 rfl rfl (hall 7 (by decide))
                obtain ⟨x112, hx112⟩ : ∃ x, A.eval (.tmp 112) = x := ⟨_, rfl⟩
                have f112 : (fun v _ => v = undef) x112 u18 := by rw [← hx112]; exact hh.got 8 _ 112 rfl rfl (hall 8 (by decide))
                obtain ⟨x113, hx113⟩ : ∃ x, A.eval (.tmp 113) = x := ⟨_, rfl⟩
                have f113 : (fun v _ => v = undef) x113 u18 := by rw [← hx113]; exact hh.got 9 _ 113 rfl rfl (hall 9 (by decide))
                obtain ⟨x114, hx114⟩ : ∃ x, A.eval (.tmp 114) = x := ⟨_, rfl⟩
                have f114 : (fun v _ => v = undef) x114 u18 := by rw [← hx114]; exact hh.got 10 _ 114 rfl rfl (hall 10 (by decide))
                obtain ⟨x115, hx115⟩ : ∃ x, A.eval (.tmp 115) = x := ⟨_, rfl⟩
                have f115 : (fun v _ => v = undef) x115 u18 := by rw [← hx115]; exact hh.got 11 _ 115 rfl rfl (hall 11 (by decide))
                obtain ⟨x116, hx116⟩ : ∃ x, A.eval (.tmp 116) = x := ⟨_, rfl⟩
                have f116 : (fun v _ => v = undef) x116 u18 := by rw [← hx116]; exact hh.got 12 _ 116 rfl rfl (hall 12 (by decide))
                obtain ⟨x117, hx117⟩ : ∃ x, A.eval (.tmp 117) = x := ⟨_, rfl⟩
                have f117 : (fun v _ => v = undef) x117 u18 := by rw [← hx117]; exact hh.got 13 _ 117 rfl rfl (hall 13 (by decide))
                obtain ⟨x118, hx118⟩ : ∃ x, A.eval (.tmp 118) = x := ⟨_, rfl⟩
                have f118 : (fun v _ => v = undef) x118 u18 := by rw [← hx118]; exact hh.got 14 _ 118 rfl rfl (hall 14 (by decide))
                obtain ⟨x119, hx119⟩ : ∃ x, A.eval (.tmp 119) = x := ⟨_, rfl⟩
                have f119 : (fun v _ => v = (Value.bool false)) x119 u18 := by rw [← hx119]; exact hh.got 15 _ 119 rfl rfl (hall 15 (by decide))
                dsimp only [wrote, List.foldl] at hA
                rw [hx104, hx105, hx106, hx107, hx108, hx109, hx110, hx111, hx112, hx113, hx114, hx115, hx116, hx117, hx118, hx119] at hA
                clear hh hall hx104 hx105 hx106 hx107 hx108 hx109 hx110 hx111 hx112 hx113 hx114 hx115 hx116 hx117 hx118 hx119
                replace f104 := (f104 : x104 = (.int .i64 (j : Nat)))
                subst f104
                replace f105 := (f105 : x105 = (.int .i64 (i : Nat)))
                subst f105
                replace f106 := (f106 : x106 = (.bool false))
                subst f106
                replace f107 := (f107 : x107 = (.bool false))
                subst f107
                replace f108 := (f108 : x108 = undef)
                subst f108
                replace f109 := (f109 : x109 = undef)
                subst f109
                replace f110 := (f110 : x110 = undef)
                subst f110
                replace f111 := (f111 : x111 = undef)
                subst f111
                replace f112 := (f112 : x112 = undef)
                subst f112
                replace f113 := (f113 : x113 = undef)
                subst f113
                replace f114 := (f114 : x114 = undef)
                subst f114
                replace f115 := (f115 : x115 = undef)
                subst f115
                replace f116 := (f116 : x116 = undef)
                subst f116
                replace f117 := (f117 : x117 = undef)
                subst f117
                replace f118 := (f118 : x118 = undef)
                subst f118
                replace f119 := (f119 : x119 = (.bool false))
                subst f119
                subst hA
                show wpList _ _ _ [] _ _
                unfold wpList
                simp only [Act.put, List.setIfInBounds_toArray, List.set_cons_succ, List.set_cons_zero]
                have HGn := hid (gtrans (gtrans HGq.out HSq.out) HU.out)
                go_wp2_with fail
                go_roundw
                case rel => exact ⟨j + 1, by go_num, by omega, HGn⟩
                case measure => simp [intOf]; omega
            · have HNij : Hid (∀ (x y : Operand) (u : World), (do eqGuard .neq 3 x y (.int .i64 (j : Nat)) (.int .i64 (i : Nat)); binOp .neq 3 (.int .i64 (j : Nat)) (.int .i64 (i : Nat)) : Sem Value).run Try.prog u = .ok (.bool true) u) := fun x y u => by rw [neq_int, decide_eq_false hji]; rfl
              obtain rfl : Z = R := by rw [← HRe.out, HRfs.out hji]; rfl
              obtain rfl : true = rb := by rw [← HRb.out, HRfs.out hji]; rfl
              clear hji
              go_wp2_with fail
              refine wp_region_list (by kernel_rfl) [fun v _ => v = (Value.int .i64 (j : Nat)), fun v _ => v = (Value.int .i64 (i : Nat)), fun v _ => v = (Value.bool true), fun v _ => v = (Value.bool true), fun v _ => v = (Value.bool true), fun v _ => v = (Value.bool false), fun v _ => v = (Value.bool false), fun v _ => v = (Value.agg Z.cells.toArray), fun v _ => v = (Value.pointer (some ⟨b3, 0, none⟩)), fun v _ => v = (Value.slice (some ⟨gr, orr, none⟩) n c), fun v _ => v = (Value.int .i64 (j : Nat)), fun v _ => v = (Value.pointer (some ⟨gr, orr + j * 34, none⟩)), fun v _ => v = (Value.agg Z.cells.toArray), fun v _ => v = (Value.bool false), fun v _ => v = (Value.bool false), fun v _ => v = (Value.bool false)] (none) (fun _ => none) 16 (by kernel_rfl) (by kernel_rfl) (by kernel_rfl) (by kernel_rfl) (by decide) noRow_one (fun _ => .inl rfl) ⟨fun i v u u' hki h hg => h, fun i v u u' hki h hg => h, fun i v u u' hki h hg => h, fun i v u u' hki h hg => h, fun i v u u' hki h hg => h, fun i v u u' hki h hg => h, fun i v u u' hki h hg => h, fun i v u u' hki h hg => h, fun i v u u' hki h hg => h, fun i v u u' hki h hg => h, fun i v u u' hki h hg => h, fun i v u u' hki h hg => h, fun i v u u' hki h hg => h, fun i v u u' hki h hg => h, fun i v u u' hki h hg => h, fun i v u u' hki h hg => h, trivial⟩ ⟨?_, ?_, ?_, ?_, ?_, ?_, ?_, ?_, ?_, ?_, ?_, ?_, ?_, ?_, ?_, ?_, trivial⟩ ?_
              · intro A u hu hpu hsz hout hdeps
                have e15 : A.eval (.tmp 15) = (.int .i64 (j : Nat)) := (hout 15 (by kernel_rfl)).trans rfl
                refine ifw_none rfl ?_
                with_reducible refine shown_q (Value.int .i64 (j : Nat)) ?qq_2_0 (fun _ _ => ?qr_2_0)
                case qr_2_0 => exact (rfl : (Value.int .i64 (j : Nat)) = (Value.int .i64 (j : Nat)))
                with_reducible refine quietAt_mv (.tmp 15) (Value.int .i64 (j : Nat)) ?h0_2_0 ?h1_2_0
                case h0_2_0 => rfl
                case h1_2_0 => exact e15
              · intro A u hu hpu hsz hout hdeps
                have e7 : A.eval (.tmp 7) = (.int .i64 (i : Nat)) := (hout 7 (by kernel_rfl)).trans rfl
                refine ifw_none rfl ?_
                with_reducible refine shown_q (Value.int .i64 (i : Nat)) ?qq_2_1 (fun _ _ => ?qr_2_1)
                case qr_2_1 => exact (rfl : (Value.int .i64 (i : Nat)) = (Value.int .i64 (i : Nat)))
                with_reducible refine quietAt_mv (.tmp 7) (Value.int .i64 (i : Nat)) ?h0_2_1 ?h1_2_1
                case h0_2_1 => rfl
                case h1_2_1 => exact e7
              · intro A u hu hpu hsz hout hdeps
                have e104 : A.eval (.tmp 104) = (.int .i64 (j : Nat)) := by have h := depL hdeps 0 (by kernel_rfl) 104 (by kernel_rfl); exact h
                have e105 : A.eval (.tmp 105) = (.int .i64 (i : Nat)) := by have h := depL hdeps 1 (by kernel_rfl) 105 (by kernel_rfl); exact h
                refine ifw_none rfl ?_
                with_reducible refine shown_q (Value.bool true) ?qq_2_2 (fun _ _ => ?qr_2_2)
                case qr_2_2 => exact (rfl : (Value.bool true) = (Value.bool true))
                with_reducible refine quietAt_bin .neq 3 (.tmp 104) (.tmp 105) 3 (Value.int .i64 (j : Nat)) (Value.int .i64 (i : Nat)) (Value.bool true) ?h0_2_2 ?h1_2_2 ?h2_2_2 ?h3_2_2
                case h0_2_2 => rfl
                case h1_2_2 => exact e104
                case h2_2_2 => exact e105
                case h3_2_2 => exact HNij.out _ _ u
              · intro A u hu hpu hsz hout hdeps
                have e106 : A.eval (.tmp 106) = (.bool true) := by have h := depL hdeps 2 (by kernel_rfl) 106 (by kernel_rfl); exact h
                refine ifw_none rfl ?_
                with_reducible refine shown_q (Value.bool true) ?qq_2_3 (fun _ _ => ?qr_2_3)
                case qr_2_3 => exact (rfl : (Value.bool true) = (Value.bool true))
                with_reducible refine quietAt_mv (.tmp 106) (Value.bool true) ?h0_2_3 ?h1_2_3
                case h0_2_3 => rfl
                case h1_2_3 => exact e106
              · intro A u hu hpu hsz hout hdeps
                have e107 : A.eval (.tmp 107) = (.bool true) := by have h := depL hdeps 3 (by kernel_rfl) 107 (by kernel_rfl); exact h
                have e17 : A.eval (.tmp 17) = (.bool true) := (hout 17 (by kernel_rfl)).trans rfl
                refine ifw_want 3 true 107 rfl rfl e107 ?_
                with_reducible refine shown_q (Value.bool true) ?qq_2_4 (fun _ _ => ?qr_2_4)
                case qr_2_4 => exact (rfl : (Value.bool true) = (Value.bool true))
                with_reducible refine quietAt_mv (.tmp 17) (Value.bool true) ?h0_2_4 ?h1_2_4
                case h0_2_4 => rfl
                case h1_2_4 => exact e17
              · intro A u hu hpu hsz hout hdeps
                have e107 : A.eval (.tmp 107) = (.bool true) := by have h := depL hdeps 3 (by kernel_rfl) 107 (by kernel_rfl); exact h
                have e108 : A.eval (.tmp 108) = (.bool true) := by have h := depL hdeps 4 (by kernel_rfl) 108 (by kernel_rfl); exact h
                refine ifw_want 3 true 107 rfl rfl e107 ?_
                with_reducible refine shown_q (Value.bool false) ?qq_2_5 (fun _ _ => ?qr_2_5)
                case qr_2_5 => exact (rfl : (Value.bool false) = (Value.bool false))
                with_reducible refine quietAt_un .not 4 (.tmp 108) (Value.bool true) (Value.bool false) ?h0_2_5 ?h1_2_5 ?h2_2_5
                case h0_2_5 => rfl
                case h1_2_5 => exact e108
                case h2_2_5 => rfl
              · intro A u hu hpu hsz hout hdeps
                have e107 : A.eval (.tmp 107) = (.bool true) := by have h := depL hdeps 3 (by kernel_rfl) 107 (by kernel_rfl); exact h
                have e109 : A.eval (.tmp 109) = (.bool false) := by have h := depL hdeps 5 (by kernel_rfl) 109 (by kernel_rfl); exact h
                refine ifw_want 3 true 107 rfl rfl e107 ?_
                with_reducible refine shown_q (Value.bool false) ?qq_2_6 (fun _ _ => ?qr_2_6)
                case qr_2_6 => exact (rfl : (Value.bool false) = (Value.bool false))
                with_reducible refine quietAt_mv (.tmp 109) (Value.bool false) ?h0_2_6 ?h1_2_6
                case h0_2_6 => rfl
                case h1_2_6 => exact e109
              · intro A u hu hpu hsz hout hdeps
                have e110 : A.eval (.tmp 110) = (.bool false) := by have h := depL hdeps 6 (by kernel_rfl) 110 (by kernel_rfl); exact h
                have e16 : A.eval (.tmp 16) = (.pointer (some ⟨b16, 0, none⟩)) := (hout 16 (by kernel_rfl)).trans rfl
                refine ifw_want 6 false 110 rfl rfl e110 ?_
                with_reducible refine shown_q (Value.agg Z.cells.toArray) ?qq_2_7 (fun _ _ => ?qr_2_7)
                case qr_2_7 => exact (rfl : (Value.agg Z.cells.toArray) = (Value.agg Z.cells.toArray))
                with_reducible refine quietAt_load 107 (.tmp 16) ?h0_2_7 b16 0 Z.cells (.struct (Try.prog.fieldsOf 107)) ?h1_2_7 ?h2_2_7 ?h3_2_7 ?h4_2_7 ?h5_2_7
                case h0_2_7 => rfl
                case h1_2_7 => exact e16
                case h2_2_7 => exact (HB30.out.keep hu).whole
                case h3_2_7 => exact Try.under107
                case h4_2_7 => rfl
                case h5_2_7 => exact (by rw [HZL.out]; exact Try.size107)
              · intro A u hu hpu hsz hout hdeps
                have e110 : A.eval (.tmp 110) = (.bool false) := by have h := depL hdeps 6 (by kernel_rfl) 110 (by kernel_rfl); exact h
                have e3 : A.eval (.tmp 3) = (.pointer (some ⟨b3, 0, none⟩)) := (hout 3 (by kernel_rfl)).trans rfl
                refine ifw_want 6 false 110 rfl rfl e110 ?_
                with_reducible refine shown_q (Value.pointer (some ⟨b3, 0, none⟩)) ?qq_2_8 (fun _ _ => ?qr_2_8)
                case qr_2_8 => exact (rfl : (Value.pointer (some ⟨b3, 0, none⟩)) = (Value.pointer (some ⟨b3, 0, none⟩)))
                with_reducible refine quietAt_field 69 (.tmp 3) 0 ?h0_2_8 ⟨b3, 0, none⟩ ⟨b3, 0, none⟩ ?h1_2_8 ?h2_2_8
                case h0_2_8 => rfl
                case h1_2_8 => exact e3
                case h2_2_8 => kernel_rfl
              · intro A u hu hpu hsz hout hdeps
                have e110 : A.eval (.tmp 110) = (.bool false) := by have h := depL hdeps 6 (by kernel_rfl) 110 (by kernel_rfl); exact h
                have e112 : A.eval (.tmp 112) = (.pointer (some ⟨b3, 0, none⟩)) := by have h := depL hdeps 8 (by kernel_rfl) 112 (by kernel_rfl); exact h
                refine ifw_want 6 false 110 rfl rfl e110 ?_
                with_reducible refine shown_q (Value.slice (some ⟨gr, orr, none⟩) n c) ?qq_2_9 (fun _ _ => ?qr_2_9)
                case qr_2_9 => exact (rfl : (Value.slice (some ⟨gr, orr, none⟩) n c) = (Value.slice (some ⟨gr, orr, none⟩) n c))
                with_reducible refine quietAt_ld 55 (.tmp 112) (Value.pointer (some ⟨b3, 0, none⟩)) (Value.slice (some ⟨gr, orr, none⟩) n c) ?h0_2_9 ?h1_2_9 ?h2_2_9
                case h0_2_9 => rfl
                case h1_2_9 => exact e112
                case h2_2_9 => exact ld55 b3 0 n c _ u ((HR5.out.keep hu).cell 0)
              · intro A u hu hpu hsz hout hdeps
                have e110 : A.eval (.tmp 110) = (.bool false) := by have h := depL hdeps 6 (by kernel_rfl) 110 (by kernel_rfl); exact h
                have e15 : A.eval (.tmp 15) = (.int .i64 (j : Nat)) := (hout 15 (by kernel_rfl)).trans rfl
                refine ifw_want 6 false 110 rfl rfl e110 ?_
                with_reducible refine shown_q (Value.int .i64 (j : Nat)) ?qq_2_10 (fun _ _ => ?qr_2_10)
                case qr_2_10 => exact (rfl : (Value.int .i64 (j : Nat)) = (Value.int .i64 (j : Nat)))
                with_reducible refine quietAt_mv (.tmp 15) (Value.int .i64 (j : Nat)) ?h0_2_10 ?h1_2_10
                case h0_2_10 => rfl
                case h1_2_10 => exact e15
              · intro A u hu hpu hsz hout hdeps
                have e110 : A.eval (.tmp 110) = (.bool false) := by have h := depL hdeps 6 (by kernel_rfl) 110 (by kernel_rfl); exact h
                have e113 : A.eval (.tmp 113) = (.slice (some ⟨gr, orr, none⟩) n c) := by have h := depL hdeps 9 (by kernel_rfl) 113 (by kernel_rfl); exact h
                have e114 : A.eval (.tmp 114) = (.int .i64 (j : Nat)) := by have h := depL hdeps 10 (by kernel_rfl) 114 (by kernel_rfl); exact h
                refine ifw_want 6 false 110 rfl rfl e110 ?_
                with_reducible refine shown_q (Value.pointer (some ⟨gr, orr + j * 34, none⟩)) ?qq_2_11 (fun _ _ => ?qr_2_11)
                case qr_2_11 => exact (rfl : (Value.pointer (some ⟨gr, orr + j * 34, none⟩)) = (Value.pointer (some ⟨gr, orr + j * 34, none⟩)))
                with_reducible refine quietAt_idx 55 (.tmp 113) (.tmp 114) (Value.slice (some ⟨gr, orr, none⟩) n c) (Value.int .i64 (j : Nat)) (Value.pointer (some ⟨gr, orr + j * 34, none⟩)) ?h0_2_11 ?h1_2_11 ?h2_2_11 ?h3_2_11
                case h0_2_11 => rfl
                case h1_2_11 => exact e113
                case h2_2_11 => exact e114
                case h3_2_11 => exact idx55 gr orr n c j hjn u
              · intro A u hu hpu hsz hout hdeps
                have e110 : A.eval (.tmp 110) = (.bool false) := by have h := depL hdeps 6 (by kernel_rfl) 110 (by kernel_rfl); exact h
                have e115 : A.eval (.tmp 115) = (.pointer (some ⟨gr, orr + j * 34, none⟩)) := by have h := depL hdeps 11 (by kernel_rfl) 115 (by kernel_rfl); exact h
                refine ifw_want 6 false 110 rfl rfl e110 ?_
                with_reducible refine shown_q (Value.agg Z.cells.toArray) ?qq_2_12 (fun _ _ => ?qr_2_12)
                case qr_2_12 => exact (rfl : (Value.agg Z.cells.toArray) = (Value.agg Z.cells.toArray))
                with_reducible refine quietAt_load 107 (.tmp 115) ?h0_2_12 gr (orr + j * 34) Z.cells (.struct (Try.prog.fieldsOf 107)) ?h1_2_12 ?h2_2_12 ?h3_2_12 ?h4_2_12 ?h5_2_12
                case h0_2_12 => rfl
                case h1_2_12 => exact e115
                case h2_2_12 => exact (HRz.out u (gtrans HSq.out hu))
                case h3_2_12 => exact Try.under107
                case h4_2_12 => rfl
                case h5_2_12 => exact (by rw [HZL.out]; exact Try.size107)
              · intro A u hu hpu hsz hout hdeps
                have e110 : A.eval (.tmp 110) = (.bool false) := by have h := depL hdeps 6 (by kernel_rfl) 110 (by kernel_rfl); exact h
                have e111 : A.eval (.tmp 111) = (.agg Z.cells.toArray) := by have h := depL hdeps 7 (by kernel_rfl) 111 (by kernel_rfl); exact h
                have e116 : A.eval (.tmp 116) = (.agg Z.cells.toArray) := by have h := depL hdeps 12 (by kernel_rfl) 116 (by kernel_rfl); exact h
                refine ifw_want 6 false 110 rfl rfl e110 ?_
                with_reducible refine shown_q (Value.bool false) ?qq_2_13 (fun _ _ => ?qr_2_13)
                case qr_2_13 => exact (rfl : (Value.bool false) = (Value.bool false))
                with_reducible refine quietAt_bin .neq 107 (.tmp 111) (.tmp 116) 107 (Value.agg Z.cells.toArray) (Value.agg Z.cells.toArray) (Value.bool false) ?h0_2_13 ?h1_2_13 ?h2_2_13 ?h3_2_13
                case h0_2_13 => rfl
                case h1_2_13 => exact e111
                case h2_2_13 => exact e116
                case h3_2_13 => exact HNz.out _ _ u
              · intro A u hu hpu hsz hout hdeps
                have e107 : A.eval (.tmp 107) = (.bool true) := by have h := depL hdeps 3 (by kernel_rfl) 107 (by kernel_rfl); exact h
                have e110 : A.eval (.tmp 110) = (.bool false) := by have h := depL hdeps 6 (by kernel_rfl) 110 (by kernel_rfl); exact h
                have e117 : A.eval (.tmp 117) = (.bool false) := by have h := depL hdeps 13 (by kernel_rfl) 117 (by kernel_rfl); exact h
                refine ifw_want 3 true 107 rfl rfl e107 ?_
                with_reducible refine shown_q (Value.bool false) ?qq_2_14 (fun _ _ => ?qr_2_14)
                case qr_2_14 => exact (rfl : (Value.bool false) = (Value.bool false))
                with_reducible refine quietAt_pick (.tmp 110) (.const (.bool true)) (.tmp 117) false (Value.bool false) ?h0_2_14 ?h1_2_14 ?h2_2_14
                case h0_2_14 => rfl
                case h1_2_14 => exact e110
                case h2_2_14 => rw [if_neg (by decide)]; exact e117
              · intro A u hu hpu hsz hout hdeps
                have e107 : A.eval (.tmp 107) = (.bool true) := by have h := depL hdeps 3 (by kernel_rfl) 107 (by kernel_rfl); exact h
                have e118 : A.eval (.tmp 118) = (.bool false) := by have h := depL hdeps 14 (by kernel_rfl) 118 (by kernel_rfl); exact h
                refine ifw_none rfl ?_
                with_reducible refine shown_q (Value.bool false) ?qq_2_15 (fun _ _ => ?qr_2_15)
                case qr_2_15 => exact (rfl : (Value.bool false) = (Value.bool false))
                with_reducible refine quietAt_pick (.tmp 107) (.tmp 118) (.const (.bool false)) true (Value.bool false) ?h0_2_15 ?h1_2_15 ?h2_2_15
                case h0_2_15 => rfl
                case h1_2_15 => exact e107
                case h2_2_15 => rw [if_pos rfl]; exact e118
              · intro A u18 listed hh hall
                have hA := hh.frame
                have HU := hid hh.grown
                obtain ⟨x104, hx104⟩ : ∃ x, A.eval (.tmp 104) = x := ⟨_, rfl⟩
                have f104 : (fun v _ => v = (Value.int .i64 (j : Nat))) x104 u18 := by rw [← hx104]; exact hh.got 0 _ 104 rfl rfl (hall 0 (by decide))
                obtain ⟨x105, hx105⟩ : ∃ x, A.eval (.tmp 105) = x := ⟨_, rfl⟩
                have f105 : (fun v _ => v = (Value.int .i64 (i : Nat))) x105 u18 := by rw [← hx105]; exact hh.got 1 _ 105 rfl rfl (hall 1 (by decide))
                obtain ⟨x106, hx106⟩ : ∃ x, A.eval (.tmp 106) = x := ⟨_, rfl⟩
                have f106 : (fun v _ => v = (Value.bool true)) x106 u18 := by rw [← hx106]; exact hh.got 2 _ 106 rfl rfl (hall 2 (by decide))
                obtain ⟨x107, hx107⟩ : ∃ x, A.eval (.tmp 107) = x := ⟨_, rfl⟩
                have f107 : (fun v _ => v = (Value.bool true)) x107 u18 := by rw [← hx107]; exact hh.got 3 _ 107 rfl rfl (hall 3 (by decide))
                obtain ⟨x108, hx108⟩ : ∃ x, A.eval (.tmp 108) = x := ⟨_, rfl⟩
                have f108 : (fun v _ => v = (Value.bool true)) x108 u18 := by rw [← hx108]; exact hh.got 4 _ 108 rfl rfl (hall 4 (by decide))
                obtain ⟨x109, hx109⟩ : ∃ x, A.eval (.tmp 109) = x := ⟨_, rfl⟩
                have f109 : (fun v _ => v = (Value.bool false)) x109 u18 := by rw [← hx109]; exact hh.got 5 _ 109 rfl rfl (hall 5 (by decide))
                obtain ⟨x110, hx110⟩ : ∃ x, A.eval (.tmp 110) = x := ⟨_, rfl⟩
                have f110 : (fun v _ => v = (Value.bool false)) x110 u18 := by rw [← hx110]; exact hh.got 6 _ 110 rfl rfl (hall 6 (by decide))
                obtain ⟨x111, hx111⟩ : ∃ x, A.eval (.tmp 111) = x := ⟨_, rfl⟩
                have f111 : (fun v _ => v = (Value.agg Z.cells.toArray)) x111 u18 := by rw [← hx111]; exact hh.got 7 _ 111 rfl rfl (hall 7 (by decide))
                obtain ⟨x112, hx112⟩ : ∃ x, A.eval (.tmp 112) = x := ⟨_, rfl⟩
                have f112 : (fun v _ => v = (Value.pointer (some ⟨b3, 0, none⟩))) x112 u18 := by rw [← hx112]; exact hh.got 8 _ 112 rfl rfl (hall 8 (by decide))
                obtain ⟨x113, hx113⟩ : ∃ x, A.eval (.tmp 113) = x := ⟨_, rfl⟩
                have f113 : (fun v _ => v = (Value.slice (some ⟨gr, orr, none⟩) n c)) x113 u18 := by rw [← hx113]; exact hh.got 9 _ 113 rfl rfl (hall 9 (by decide))
                obtain ⟨x114, hx114⟩ : ∃ x, A.eval (.tmp 114) = x := ⟨_, rfl⟩
                have f114 : (fun v _ => v = (Value.int .i64 (j : Nat))) x114 u18 := by rw [← hx114]; exact hh.got 10 _ 114 rfl rfl (hall 10 (by decide))
                obtain ⟨x115, hx115⟩ : ∃ x, A.eval (.tmp 115) = x := ⟨_, rfl⟩
                have f115 : (fun v _ => v = (Value.pointer (some ⟨gr, orr + j * 34, none⟩))) x115 u18 := by rw [← hx115]; exact hh.got 11 _ 115 rfl rfl (hall 11 (by decide))
                obtain ⟨x116, hx116⟩ : ∃ x, A.eval (.tmp 116) = x := ⟨_, rfl⟩
                have f116 : (fun v _ => v = (Value.agg Z.cells.toArray)) x116 u18 := by rw [← hx116]; exact hh.got 12 _ 116 rfl rfl (hall 12 (by decide))
                obtain ⟨x117, hx117⟩ : ∃ x, A.eval (.tmp 117) = x := ⟨_, rfl⟩
                have f117 : (fun v _ => v = (Value.bool false)) x117 u18 := by rw [← hx117]; exact hh.got 13 _ 117 rfl rfl (hall 13 (by decide))
                obtain ⟨x118, hx118⟩ : ∃ x, A.eval (.tmp 118) = x := ⟨_, rfl⟩
                have f118 : (fun v _ => v = (Value.bool false)) x118 u18 := by rw [← hx118]; exact hh.got 14 _ 118 rfl rfl (hall 14 (by decide))
                obtain ⟨x119, hx119⟩ : ∃ x, A.eval (.tmp 119) = x := ⟨_, rfl⟩
                have f119 : (fun v _ => v = (Value.bool false)) x119 u18 := by rw [← hx119]; exact hh.got 15 _ 119 rfl rfl (hall 15 (by decide))
                dsimp only [wrote, List.foldl] at hA
                rw [hx104, hx105, hx106, hx107, hx108, hx109, hx110, hx111, hx112, hx113, hx114, hx115, hx116, hx117, hx118, hx119] at hA
                clear hh hall hx104 hx105 hx106 hx107 hx108 hx109 hx110 hx111 hx112 hx113 hx114 hx115 hx116 hx117 hx118 hx119
                replace f104 := (f104 : x104 = (.int .i64 (j : Nat)))
                subst f104
                replace f105 := (f105 : x105 = (.int .i64 (i : Nat)))
                subst f105
                replace f106 := (f106 : x106 = (.bool true))
                subst f106
                replace f107 := (f107 : x107 = (.bool true))
                subst f107
                replace f108 := (f108 : x108 = (.bool true))
                subst f108
                replace f109 := (f109 : x109 = (.bool false))
                subst f109
                replace f110 := (f110 : x110 = (.bool false))
                subst f110
                replace f111 := (f111 : x111 = (.agg Z.cells.toArray))
                subst f111
                replace f112 := (f112 : x112 = (.pointer (some ⟨b3, 0, none⟩)))
                subst f112
                replace f113 := (f113 : x113 = (.slice (some ⟨gr, orr, none⟩) n c))
                subst f113
                replace f114 := (f114 : x114 = (.int .i64 (j : Nat)))
                subst f114
                replace f115 := (f115 : x115 = (.pointer (some ⟨gr, orr + j * 34, none⟩)))
                subst f115
                replace f116 := (f116 : x116 = (.agg Z.cells.toArray))
                subst f116
                replace f117 := (f117 : x117 = (.bool false))
                subst f117
                replace f118 := (f118 : x118 = (.bool false))
                subst f118
                replace f119 := (f119 : x119 = (.bool false))
                subst f119
                subst hA
                show wpList _ _ _ [] _ _
                unfold wpList
                simp only [Act.put, List.setIfInBounds_toArray, List.set_cons_succ, List.set_cons_zero]
                have HGn := hid (gtrans (gtrans HGq.out HSq.out) HU.out)
                go_wp2_with fail
                go_roundw
                case rel => exact ⟨j + 1, by go_num, by omega, HGn⟩
                case measure => simp [intOf]; omega
          · intro A u17 listed hh hall hzz hnn
            have hA := hh.frame
            have HU := hid hh.grown
            obtain ⟨x94, hx94⟩ : ∃ x, A.eval (.tmp 94) = x := ⟨_, rfl⟩
            have f94 : (fun v _ => v = (Value.agg [Value.slice x m y, Value.int .u64 NX].toArray)) x94 u17 := by rw [← hx94]; exact hh.got 0 _ 94 rfl rfl (hall 0 (by decide) (by decide))
            obtain ⟨x95, hx95⟩ : ∃ x, A.eval (.tmp 95) = x := ⟨_, rfl⟩
            have f95 : (fun v _ => v = (Value.pointer (some ⟨b3, 0, none⟩))) x95 u17 := by rw [← hx95]; exact hh.got 1 _ 95 rfl rfl (hall 1 (by decide) (by decide))
            obtain ⟨x96, hx96⟩ : ∃ x, A.eval (.tmp 96) = x := ⟨_, rfl⟩
            have f96 : (fun v _ => v = (Value.slice (some ⟨gr, orr, none⟩) n c)) x96 u17 := by rw [← hx96]; exact hh.got 2 _ 96 rfl rfl (hall 2 (by decide) (by decide))
            obtain ⟨x97, hx97⟩ : ∃ x, A.eval (.tmp 97) = x := ⟨_, rfl⟩
            have f97 : (fun v _ => v = (Value.int .i64 (j : Nat))) x97 u17 := by rw [← hx97]; exact hh.got 3 _ 97 rfl rfl (hall 3 (by decide) (by decide))
            obtain ⟨x98, hx98⟩ : ∃ x, A.eval (.tmp 98) = x := ⟨_, rfl⟩
            have f98 : (fun v _ => v = (Value.pointer (some ⟨gr, orr + j * 34, none⟩))) x98 u17 := by rw [← hx98]; exact hh.got 4 _ 98 rfl rfl (hall 4 (by decide) (by decide))
            obtain ⟨x99, hx99⟩ : ∃ x, A.eval (.tmp 99) = x := ⟨_, rfl⟩
            have f99 : (fun v _ => v = (Value.pointer (some ⟨gr, orr + j * 34, none⟩))) x99 u17 := by rw [← hx99]; exact hh.got 5 _ 99 rfl rfl (hall 5 (by decide) (by decide))
            obtain ⟨x100, hx100⟩ : ∃ x, A.eval (.tmp 100) = x := ⟨_, rfl⟩
            have f100 : (fun v _ => v = (Value.int .u64 Z.kid)) x100 u17 := by rw [← hx100]; exact hh.got 6 _ 100 rfl rfl (hall 6 (by decide) (by decide))
            obtain ⟨x101, hx101⟩ : ∃ x, A.eval (.tmp 101) = x := ⟨_, rfl⟩
            have f101 : (fun v _ => v = (Value.tuple #[Value.agg R.cells.toArray, Value.bool rb])) x101 u17 := by rw [← hx101]; exact hh.got 7 _ 101 rfl rfl (hall 7 (by decide) (by decide))
            obtain ⟨x93, hx93⟩ : ∃ x, A.eval (.tmp 93) = x := ⟨_, rfl⟩
            have f93 : (fun v _ => v = (Value.tuple #[Value.agg R.cells.toArray, Value.bool rb])) x93 u17 := by rw [← hx93]; exact hh.got 8 _ 93 rfl rfl (hall 8 (by decide) (by decide))
            obtain ⟨x102, hx102⟩ : ∃ x, A.eval (.tmp 102) = x := ⟨_, rfl⟩
            have f102 : (fun v _ => v = (Value.agg R.cells.toArray)) x102 u17 := by rw [← hx102]; exact hh.got 9 _ 102 rfl rfl (hall 9 (by decide) (by decide))
            obtain ⟨x103, hx103⟩ : ∃ x, A.eval (.tmp 103) = x := ⟨_, rfl⟩
            obtain ⟨x16, hx16⟩ : ∃ x, A.eval (.tmp 16) = x := ⟨_, rfl⟩
            have f16 : (fun v u => ∃ bb, v = Value.pointer (some ⟨bb, 0, none⟩) ∧ Blk u bb zky.cells 107 ∧ HH ≤ bb) x16 u17 := by rw [← hx16]; exact hh.got 11 _ 16 rfl rfl (hall 11 (by decide) (by decide))
            obtain ⟨x17, hx17⟩ : ∃ x, A.eval (.tmp 17) = x := ⟨_, rfl⟩
            dsimp only [wrote, List.foldl] at hA
            rw [hx94, hx95, hx96, hx97, hx98, hx99, hx100, hx101, hx93, hx102, hx103, hx16, hx17] at hA
            clear hzz hnn hh hall hx94 hx95 hx96 hx97 hx98 hx99 hx100 hx101 hx93 hx102 hx103 hx16 hx17
            replace f94 := (f94 : x94 = (.agg [.slice x m y, .int .u64 NX].toArray))
            subst f94
            replace f95 := (f95 : x95 = (.pointer (some ⟨b3, 0, none⟩)))
            subst f95
            replace f96 := (f96 : x96 = (.slice (some ⟨gr, orr, none⟩) n c))
            subst f96
            replace f97 := (f97 : x97 = (.int .i64 (j : Nat)))
            subst f97
            replace f98 := (f98 : x98 = (.pointer (some ⟨gr, orr + j * 34, none⟩)))
            subst f98
            replace f99 := (f99 : x99 = (.pointer (some ⟨gr, orr + j * 34, none⟩)))
            subst f99
            replace f100 := (f100 : x100 = (.int .u64 Z.kid))
            subst f100
            replace f101 := (f101 : x101 = (.tuple #[.agg R.cells.toArray, .bool rb]))
            subst f101
            replace f93 := (f93 : x93 = (.tuple #[.agg R.cells.toArray, .bool rb]))
            subst f93
            replace f102 := (f102 : x102 = (.agg R.cells.toArray))
            subst f102
            obtain ⟨b16, e16, hb16b, hb16l⟩ := f16
            subst e16
            subst hA
            show wpList _ _ _ [_, _, _] _ _
            simp only [Act.put, List.setIfInBounds_toArray, List.set_cons_succ, List.set_cons_zero]
            go_wp2_with ((with_reducible refine wpList_store_all (by with_unfolding_all rfl) 107 _ _ (by with_unfolding_all rfl) _ zky.cells R.cells 107 (by with_unfolding_all rfl) (by with_unfolding_all rfl) hb16b (by rw [HRL.out]; with_unfolding_all rfl) (by rw [HRL.out]; exact Try.size107) (Ky.one _) ?_); intro w30 B30 g30 s30; have HB30 := hid B30; have HG30 := hid g30; have HS30 := hid s30; clear B30 g30 s30)
            have HSq := hid ((HU.out).andThen HG30.out (fun j hj => .inl (by injection hj with hj; have := HHs.out; omega)))
            have HR5 := hid (HR4.out.keep HSq.out)
            clear HU hb16b hb16l HG30 HS30
            by_cases hji : j = i
            · have HNij : Hid (∀ (x y : Operand) (u : World), (do eqGuard .neq 3 x y (.int .i64 (j : Nat)) (.int .i64 (i : Nat)); binOp .neq 3 (.int .i64 (j : Nat)) (.int .i64 (i : Nat)) : Sem Value).run Try.prog u = .ok (.bool false) u) := fun x y u => by rw [neq_int, decide_eq_true hji]; rfl
              clear hji
              go_wp2_with fail
              refine wp_region_list (by kernel_rfl) [fun v _ => v = (Value.int .i64 (j : Nat)), fun v _ => v = (Value.int .i64 (i : Nat)), fun v _ => v = (Value.bool false), fun v _ => v = (Value.bool false), fun v _ => v = undef, fun v _ => v = undef, fun v _ => v = undef, fun v _ => v = undef, fun v _ => v = undef, fun v _ => v = undef, fun v _ => v = undef, fun v _ => v = undef, fun v _ => v = undef, fun v _ => v = undef, fun v _ => v = undef, fun v _ => v = (Value.bool false)] (none) (fun _ => none) 16 (by kernel_rfl) (by kernel_rfl) (by kernel_rfl) (by kernel_rfl) (by decide) noRow_one (fun _ => .inl rfl) ⟨fun i v u u' hki h hg => h, fun i v u u' hki h hg => h, fun i v u u' hki h hg => h, fun i v u u' hki h hg => h, fun i v u u' hki h hg => h, fun i v u u' hki h hg => h, fun i v u u' hki h hg => h, fun i v u u' hki h hg => h, fun i v u u' hki h hg => h, fun i v u u' hki h hg => h, fun i v u u' hki h hg => h, fun i v u u' hki h hg => h, fun i v u u' hki h hg => h, fun i v u u' hki h hg => h, fun i v u u' hki h hg => h, fun i v u u' hki h hg => h, trivial⟩ ⟨?_, ?_, ?_, ?_, ?_, ?_, ?_, ?_, ?_, ?_, ?_, ?_, ?_, ?_, ?_, ?_, trivial⟩ ?_
              · intro A u hu hpu hsz hout hdeps
                have e15 : A.eval (.tmp 15) = (.int .i64 (j : Nat)) := (hout 15 (by kernel_rfl)).trans rfl
                refine ifw_none rfl ?_
                with_reducible refine shown_q (Value.int .i64 (j : Nat)) ?qq_3L_0 (fun _ _ => ?qr_3L_0)
                case qr_3L_0 => exact (rfl : (Value.int .i64 (j : Nat)) = (Value.int .i64 (j : Nat)))
                with_reducible refine quietAt_mv (.tmp 15) (Value.int .i64 (j : Nat)) ?h0_3L_0 ?h1_3L_0
                case h0_3L_0 => rfl
                case h1_3L_0 => exact e15
              · intro A u hu hpu hsz hout hdeps
                have e7 : A.eval (.tmp 7) = (.int .i64 (i : Nat)) := (hout 7 (by kernel_rfl)).trans rfl
                refine ifw_none rfl ?_
                with_reducible refine shown_q (Value.int .i64 (i : Nat)) ?qq_3L_1 (fun _ _ => ?qr_3L_1)
                case qr_3L_1 => exact (rfl : (Value.int .i64 (i : Nat)) = (Value.int .i64 (i : Nat)))
                with_reducible refine quietAt_mv (.tmp 7) (Value.int .i64 (i : Nat)) ?h0_3L_1 ?h1_3L_1
                case h0_3L_1 => rfl
                case h1_3L_1 => exact e7
              · intro A u hu hpu hsz hout hdeps
                have e104 : A.eval (.tmp 104) = (.int .i64 (j : Nat)) := by have h := depL hdeps 0 (by kernel_rfl) 104 (by kernel_rfl); exact h
                have e105 : A.eval (.tmp 105) = (.int .i64 (i : Nat)) := by have h := depL hdeps 1 (by kernel_rfl) 105 (by kernel_rfl); exact h
                refine ifw_none rfl ?_
                with_reducible refine shown_q (Value.bool false) ?qq_3L_2 (fun _ _ => ?qr_3L_2)
                case qr_3L_2 => exact (rfl : (Value.bool false) = (Value.bool false))
                with_reducible refine quietAt_bin .neq 3 (.tmp 104) (.tmp 105) 3 (Value.int .i64 (j : Nat)) (Value.int .i64 (i : Nat)) (Value.bool false) ?h0_3L_2 ?h1_3L_2 ?h2_3L_2 ?h3_3L_2
                case h0_3L_2 => rfl
                case h1_3L_2 => exact e104
                case h2_3L_2 => exact e105
                case h3_3L_2 => exact HNij.out _ _ u
              · intro A u hu hpu hsz hout hdeps
                have e106 : A.eval (.tmp 106) = (.bool false) := by have h := depL hdeps 2 (by kernel_rfl) 106 (by kernel_rfl); exact h
                refine ifw_none rfl ?_
                with_reducible refine shown_q (Value.bool false) ?qq_3L_3 (fun _ _ => ?qr_3L_3)
                case qr_3L_3 => exact (rfl : (Value.bool false) = (Value.bool false))
                with_reducible refine quietAt_mv (.tmp 106) (Value.bool false) ?h0_3L_3 ?h1_3L_3
                case h0_3L_3 => rfl
                case h1_3L_3 => exact e106
              · intro A u hu hpu hsz hout hdeps
                have e107 : A.eval (.tmp 107) = (.bool false) := by have h := depL hdeps 3 (by kernel_rfl) 107 (by kernel_rfl); exact h
                refine ifw_pass 3 true false 107 rfl rfl e107 (by decide) ?_
                exact rfl
              · intro A u hu hpu hsz hout hdeps
                have e107 : A.eval (.tmp 107) = (.bool false) := by have h := depL hdeps 3 (by kernel_rfl) 107 (by kernel_rfl); exact h
                refine ifw_pass 3 true false 107 rfl rfl e107 (by decide) ?_
                exact rfl
              · intro A u hu hpu hsz hout hdeps
                have e107 : A.eval (.tmp 107) = (.bool false) := by have h := depL hdeps 3 (by kernel_rfl) 107 (by kernel_rfl); exact h
                refine ifw_pass 3 true false 107 rfl rfl e107 (by decide) ?_
                exact rfl
              · intro A u hu hpu hsz hout hdeps
                have e110 : A.eval (.tmp 110) = undef := by have h := depL hdeps 6 (by kernel_rfl) 110 (by kernel_rfl); exact h
                refine ifw_undef 6 false 110 rfl rfl e110 ?_
                exact rfl
              · intro A u hu hpu hsz hout hdeps
                have e110 : A.eval (.tmp 110) = undef := by have h := depL hdeps 6 (by kernel_rfl) 110 (by kernel_rfl); exact h
                refine ifw_undef 6 false 110 rfl rfl e110 ?_
                exact rfl
              · intro A u hu hpu hsz hout hdeps
                have e110 : A.eval (.tmp 110) = undef := by have h := depL hdeps 6 (by kernel_rfl) 110 (by kernel_rfl); exact h
                refine ifw_undef 6 false 110 rfl rfl e110 ?_
                exact rfl
              · intro A u hu hpu hsz hout hdeps
                have e110 : A.eval (.tmp 110) = undef := by have h := depL hdeps 6 (by kernel_rfl) 110 (by kernel_rfl); exact h
                refine ifw_undef 6 false 110 rfl rfl e110 ?_
                exact rfl
              · intro A u hu hpu hsz hout hdeps
                have e110 : A.eval (.tmp 110) = undef := by have h := depL hdeps 6 (by kernel_rfl) 110 (by kernel_rfl); exact h
                refine ifw_undef 6 false 110 rfl rfl e110 ?_
                exact rfl
              · intro A u hu hpu hsz hout hdeps
                have e110 : A.eval (.tmp 110) = undef := by have h := depL hdeps 6 (by kernel_rfl) 110 (by kernel_rfl); exact h
                refine ifw_undef 6 false 110 rfl rfl e110 ?_
                exact rfl
              · intro A u hu hpu hsz hout hdeps
                have e110 : A.eval (.tmp 110) = undef := by have h := depL hdeps 6 (by kernel_rfl) 110 (by kernel_rfl); exact h
                refine ifw_undef 6 false 110 rfl rfl e110 ?_
                exact rfl
              · intro A u hu hpu hsz hout hdeps
                have e107 : A.eval (.tmp 107) = (.bool false) := by have h := depL hdeps 3 (by kernel_rfl) 107 (by kernel_rfl); exact h
                refine ifw_pass 3 true false 107 rfl rfl e107 (by decide) ?_
                exact rfl
              · intro A u hu hpu hsz hout hdeps
                have e107 : A.eval (.tmp 107) = (.bool false) := by have h := depL hdeps 3 (by kernel_rfl) 107 (by kernel_rfl); exact h
                refine ifw_none rfl ?_
                with_reducible refine shown_q (Value.bool false) ?qq_3L_15 (fun _ _ => ?qr_3L_15)
                case qr_3L_15 => exact (rfl : (Value.bool false) = (Value.bool false))
                with_reducible refine quietAt_pick (.tmp 107) (.tmp 118) (.const (.bool false)) false (Value.bool false) ?h0_3L_15 ?h1_3L_15 ?h2_3L_15
                case h0_3L_15 => rfl
                case h1_3L_15 => exact e107
                case h2_3L_15 => rw [if_neg (by decide)]; exact rfl
              · intro A u18 listed hh hall
                have hA := hh.frame
                have HU := hid hh.grown
                obtain ⟨x104, hx104⟩ : ∃ x, A.eval (.tmp 104) = x := ⟨_, rfl⟩
                have f104 : (fun v _ => v = (Value.int .i64 (j : Nat))) x104 u18 := by rw [← hx104]; exact hh.got 0 _ 104 rfl rfl (hall 0 (by decide))
                obtain ⟨x105, hx105⟩ : ∃ x, A.eval (.tmp 105) = x := ⟨_, rfl⟩
                have f105 : (fun v _ => v = (Value.int .i64 (i : Nat))) x105 u18 := by rw [← hx105]; exact hh.got 1 _ 105 rfl rfl (hall 1 (by decide))
                obtain ⟨x106, hx106⟩ : ∃ x, A.eval (.tmp 106) = x := ⟨_, rfl⟩
                have f106 : (fun v _ => v = (Value.bool false)) x106 u18 := by rw [← hx106]; exact hh.got 2 _ 106 rfl rfl (hall 2 (by decide))
                obtain ⟨x107, hx107⟩ : ∃ x, A.eval (.tmp 107) = x := ⟨_, rfl⟩
                have f107 : (fun v _ => v = (Value.bool false)) x107 u18 := by rw [← hx107]; exact hh.got 3 _ 107 rfl rfl (hall 3 (by decide))
                obtain ⟨x108, hx108⟩ : ∃ x, A.eval (.tmp 108) = x := ⟨_, rfl⟩
                have f108 : (fun v _ => v = undef) x108 u18 := by rw [← hx108]; exact hh.got 4 _ 108 rfl rfl (hall 4 (by decide))
                obtain ⟨x109, hx109⟩ : ∃ x, A.eval (.tmp 109) = x := ⟨_, rfl⟩
                have f109 : (fun v _ => v = undef) x109 u18 := by rw [← hx109]; exact hh.got 5 _ 109 rfl rfl (hall 5 (by decide))
                obtain ⟨x110, hx110⟩ : ∃ x, A.eval (.tmp 110) = x := ⟨_, rfl⟩
                have f110 : (fun v _ => v = undef) x110 u18 := by rw [← hx110]; exact hh.got 6 _ 110 rfl rfl (hall 6 (by decide))
                obtain ⟨x111, hx111⟩ : ∃ x, A.eval (.tmp 111) = x := ⟨_, rfl⟩
                have f111 : (fun v _ => v = undef) x111 u18 := by rw [← hx111]; exact hh.got 7 _ 111 rfl rfl (hall 7 (by decide))
                obtain ⟨x112, hx112⟩ : ∃ x, A.eval (.tmp 112) = x := ⟨_, rfl⟩
                have f112 : (fun v _ => v = undef) x112 u18 := by rw [← hx112]; exact hh.got 8 _ 112 rfl rfl (hall 8 (by decide))
                obtain ⟨x113, hx113⟩ : ∃ x, A.eval (.tmp 113) = x := ⟨_, rfl⟩
                have f113 : (fun v _ => v = undef) x113 u18 := by rw [← hx113]; exact hh.got 9 _ 113 rfl rfl (hall 9 (by decide))
                obtain ⟨x114, hx114⟩ : ∃ x, A.eval (.tmp 114) = x := ⟨_, rfl⟩
                have f114 : (fun v _ => v = undef) x114 u18 := by rw [← hx114]; exact hh.got 10 _ 114 rfl rfl (hall 10 (by decide))
                obtain ⟨x115, hx115⟩ : ∃ x, A.eval (.tmp 115) = x := ⟨_, rfl⟩
                have f115 : (fun v _ => v = undef) x115 u18 := by rw [← hx115]; exact hh.got 11 _ 115 rfl rfl (hall 11 (by decide))
                obtain ⟨x116, hx116⟩ : ∃ x, A.eval (.tmp 116) = x := ⟨_, rfl⟩
                have f116 : (fun v _ => v = undef) x116 u18 := by rw [← hx116]; exact hh.got 12 _ 116 rfl rfl (hall 12 (by decide))
                obtain ⟨x117, hx117⟩ : ∃ x, A.eval (.tmp 117) = x := ⟨_, rfl⟩
                have f117 : (fun v _ => v = undef) x117 u18 := by rw [← hx117]; exact hh.got 13 _ 117 rfl rfl (hall 13 (by decide))
                obtain ⟨x118, hx118⟩ : ∃ x, A.eval (.tmp 118) = x := ⟨_, rfl⟩
                have f118 : (fun v _ => v = undef) x118 u18 := by rw [← hx118]; exact hh.got 14 _ 118 rfl rfl (hall 14 (by decide))
                obtain ⟨x119, hx119⟩ : ∃ x, A.eval (.tmp 119) = x := ⟨_, rfl⟩
                have f119 : (fun v _ => v = (Value.bool false)) x119 u18 := by rw [← hx119]; exact hh.got 15 _ 119 rfl rfl (hall 15 (by decide))
                dsimp only [wrote, List.foldl] at hA
                rw [hx104, hx105, hx106, hx107, hx108, hx109, hx110, hx111, hx112, hx113, hx114, hx115, hx116, hx117, hx118, hx119] at hA
                clear hh hall hx104 hx105 hx106 hx107 hx108 hx109 hx110 hx111 hx112 hx113 hx114 hx115 hx116 hx117 hx118 hx119
                replace f104 := (f104 : x104 = (.int .i64 (j : Nat)))
                subst f104
                replace f105 := (f105 : x105 = (.int .i64 (i : Nat)))
                subst f105
                replace f106 := (f106 : x106 = (.bool false))
                subst f106
                replace f107 := (f107 : x107 = (.bool false))
                subst f107
                replace f108 := (f108 : x108 = undef)
                subst f108
                replace f109 := (f109 : x109 = undef)
                subst f109
                replace f110 := (f110 : x110 = undef)
                subst f110
                replace f111 := (f111 : x111 = undef)
                subst f111
                replace f112 := (f112 : x112 = undef)
                subst f112
                replace f113 := (f113 : x113 = undef)
                subst f113
                replace f114 := (f114 : x114 = undef)
                subst f114
                replace f115 := (f115 : x115 = undef)
                subst f115
                replace f116 := (f116 : x116 = undef)
                subst f116
                replace f117 := (f117 : x117 = undef)
                subst f117
                replace f118 := (f118 : x118 = undef)
                subst f118
                replace f119 := (f119 : x119 = (.bool false))
                subst f119
                subst hA
                show wpList _ _ _ [] _ _
                unfold wpList
                simp only [Act.put, List.setIfInBounds_toArray, List.set_cons_succ, List.set_cons_zero]
                have HGn := hid (gtrans (gtrans HGq.out HSq.out) HU.out)
                go_wp2_with fail
                go_roundw
                case rel => exact ⟨j + 1, by go_num, by omega, HGn⟩
                case measure => simp [intOf]; omega
            · have HNij : Hid (∀ (x y : Operand) (u : World), (do eqGuard .neq 3 x y (.int .i64 (j : Nat)) (.int .i64 (i : Nat)); binOp .neq 3 (.int .i64 (j : Nat)) (.int .i64 (i : Nat)) : Sem Value).run Try.prog u = .ok (.bool true) u) := fun x y u => by rw [neq_int, decide_eq_false hji]; rfl
              obtain rfl : Z = R := by rw [← HRe.out, HRfs.out hji]; rfl
              obtain rfl : true = rb := by rw [← HRb.out, HRfs.out hji]; rfl
              clear hji
              go_wp2_with fail
              refine wp_region_list (by kernel_rfl) [fun v _ => v = (Value.int .i64 (j : Nat)), fun v _ => v = (Value.int .i64 (i : Nat)), fun v _ => v = (Value.bool true), fun v _ => v = (Value.bool true), fun v _ => v = (Value.bool true), fun v _ => v = (Value.bool false), fun v _ => v = (Value.bool false), fun v _ => v = (Value.agg Z.cells.toArray), fun v _ => v = (Value.pointer (some ⟨b3, 0, none⟩)), fun v _ => v = (Value.slice (some ⟨gr, orr, none⟩) n c), fun v _ => v = (Value.int .i64 (j : Nat)), fun v _ => v = (Value.pointer (some ⟨gr, orr + j * 34, none⟩)), fun v _ => v = (Value.agg Z.cells.toArray), fun v _ => v = (Value.bool false), fun v _ => v = (Value.bool false), fun v _ => v = (Value.bool false)] (none) (fun _ => none) 16 (by kernel_rfl) (by kernel_rfl) (by kernel_rfl) (by kernel_rfl) (by decide) noRow_one (fun _ => .inl rfl) ⟨fun i v u u' hki h hg => h, fun i v u u' hki h hg => h, fun i v u u' hki h hg => h, fun i v u u' hki h hg => h, fun i v u u' hki h hg => h, fun i v u u' hki h hg => h, fun i v u u' hki h hg => h, fun i v u u' hki h hg => h, fun i v u u' hki h hg => h, fun i v u u' hki h hg => h, fun i v u u' hki h hg => h, fun i v u u' hki h hg => h, fun i v u u' hki h hg => h, fun i v u u' hki h hg => h, fun i v u u' hki h hg => h, fun i v u u' hki h hg => h, trivial⟩ ⟨?_, ?_, ?_, ?_, ?_, ?_, ?_, ?_, ?_, ?_, ?_, ?_, ?_, ?_, ?_, ?_, trivial⟩ ?_
              · intro A u hu hpu hsz hout hdeps
                have e15 : A.eval (.tmp 15) = (.int .i64 (j : Nat)) := (hout 15 (by kernel_rfl)).trans rfl
                refine ifw_none rfl ?_
                with_reducible refine shown_q (Value.int .i64 (j : Nat)) ?qq_2L_0 (fun _ _ => ?qr_2L_0)
                case qr_2L_0 => exact (rfl : (Value.int .i64 (j : Nat)) = (Value.int .i64 (j : Nat)))
                with_reducible refine quietAt_mv (.tmp 15) (Value.int .i64 (j : Nat)) ?h0_2L_0 ?h1_2L_0
                case h0_2L_0 => rfl
                case h1_2L_0 => exact e15
              · intro A u hu hpu hsz hout hdeps
                have e7 : A.eval (.tmp 7) = (.int .i64 (i : Nat)) := (hout 7 (by kernel_rfl)).trans rfl
                refine ifw_none rfl ?_
                with_reducible refine shown_q (Value.int .i64 (i : Nat)) ?qq_2L_1 (fun _ _ => ?qr_2L_1)
                case qr_2L_1 => exact (rfl : (Value.int .i64 (i : Nat)) = (Value.int .i64 (i : Nat)))
                with_reducible refine quietAt_mv (.tmp 7) (Value.int .i64 (i : Nat)) ?h0_2L_1 ?h1_2L_1
                case h0_2L_1 => rfl
                case h1_2L_1 => exact e7
              · intro A u hu hpu hsz hout hdeps
                have e104 : A.eval (.tmp 104) = (.int .i64 (j : Nat)) := by have h := depL hdeps 0 (by kernel_rfl) 104 (by kernel_rfl); exact h
                have e105 : A.eval (.tmp 105) = (.int .i64 (i : Nat)) := by have h := depL hdeps 1 (by kernel_rfl) 105 (by kernel_rfl); exact h
                refine ifw_none rfl ?_
                with_reducible refine shown_q (Value.bool true) ?qq_2L_2 (fun _ _ => ?qr_2L_2)
                case qr_2L_2 => exact (rfl : (Value.bool true) = (Value.bool true))
                with_reducible refine quietAt_bin .neq 3 (.tmp 104) (.tmp 105) 3 (Value.int .i64 (j : Nat)) (Value.int .i64 (i : Nat)) (Value.bool true) ?h0_2L_2 ?h1_2L_2 ?h2_2L_2 ?h3_2L_2
                case h0_2L_2 => rfl
                case h1_2L_2 => exact e104
                case h2_2L_2 => exact e105
                case h3_2L_2 => exact HNij.out _ _ u
              · intro A u hu hpu hsz hout hdeps
                have e106 : A.eval (.tmp 106) = (.bool true) := by have h := depL hdeps 2 (by kernel_rfl) 106 (by kernel_rfl); exact h
                refine ifw_none rfl ?_
                with_reducible refine shown_q (Value.bool true) ?qq_2L_3 (fun _ _ => ?qr_2L_3)
                case qr_2L_3 => exact (rfl : (Value.bool true) = (Value.bool true))
                with_reducible refine quietAt_mv (.tmp 106) (Value.bool true) ?h0_2L_3 ?h1_2L_3
                case h0_2L_3 => rfl
                case h1_2L_3 => exact e106
              · intro A u hu hpu hsz hout hdeps
                have e107 : A.eval (.tmp 107) = (.bool true) := by have h := depL hdeps 3 (by kernel_rfl) 107 (by kernel_rfl); exact h
                have e17 : A.eval (.tmp 17) = (.bool true) := (hout 17 (by kernel_rfl)).trans rfl
                refine ifw_want 3 true 107 rfl rfl e107 ?_
                with_reducible refine shown_q (Value.bool true) ?qq_2L_4 (fun _ _ => ?qr_2L_4)
                case qr_2L_4 => exact (rfl : (Value.bool true) = (Value.bool true))
                with_reducible refine quietAt_mv (.tmp 17) (Value.bool true) ?h0_2L_4 ?h1_2L_4
                case h0_2L_4 => rfl
                case h1_2L_4 => exact e17
              · intro A u hu hpu hsz hout hdeps
                have e107 : A.eval (.tmp 107) = (.bool true) := by have h := depL hdeps 3 (by kernel_rfl) 107 (by kernel_rfl); exact h
                have e108 : A.eval (.tmp 108) = (.bool true) := by have h := depL hdeps 4 (by kernel_rfl) 108 (by kernel_rfl); exact h
                refine ifw_want 3 true 107 rfl rfl e107 ?_
                with_reducible refine shown_q (Value.bool false) ?qq_2L_5 (fun _ _ => ?qr_2L_5)
                case qr_2L_5 => exact (rfl : (Value.bool false) = (Value.bool false))
                with_reducible refine quietAt_un .not 4 (.tmp 108) (Value.bool true) (Value.bool false) ?h0_2L_5 ?h1_2L_5 ?h2_2L_5
                case h0_2L_5 => rfl
                case h1_2L_5 => exact e108
                case h2_2L_5 => rfl
              · intro A u hu hpu hsz hout hdeps
                have e107 : A.eval (.tmp 107) = (.bool true) := by have h := depL hdeps 3 (by kernel_rfl) 107 (by kernel_rfl); exact h
                have e109 : A.eval (.tmp 109) = (.bool false) := by have h := depL hdeps 5 (by kernel_rfl) 109 (by kernel_rfl); exact h
                refine ifw_want 3 true 107 rfl rfl e107 ?_
                with_reducible refine shown_q (Value.bool false) ?qq_2L_6 (fun _ _ => ?qr_2L_6)
                case qr_2L_6 => exact (rfl : (Value.bool false) = (Value.bool false))
                with_reducible refine quietAt_mv (.tmp 109) (Value.bool false) ?h0_2L_6 ?h1_2L_6
                case h0_2L_6 => rfl
                case h1_2L_6 => exact e109
              · intro A u hu hpu hsz hout hdeps
                have e110 : A.eval (.tmp 110) = (.bool false) := by have h := depL hdeps 6 (by kernel_rfl) 110 (by kernel_rfl); exact h
                have e16 : A.eval (.tmp 16) = (.pointer (some ⟨b16, 0, none⟩)) := (hout 16 (by kernel_rfl)).trans rfl
                refine ifw_want 6 false 110 rfl rfl e110 ?_
                with_reducible refine shown_q (Value.agg Z.cells.toArray) ?qq_2L_7 (fun _ _ => ?qr_2L_7)
                case qr_2L_7 => exact (rfl : (Value.agg Z.cells.toArray) = (Value.agg Z.cells.toArray))
                with_reducible refine quietAt_load 107 (.tmp 16) ?h0_2L_7 b16 0 Z.cells (.struct (Try.prog.fieldsOf 107)) ?h1_2L_7 ?h2_2L_7 ?h3_2L_7 ?h4_2L_7 ?h5_2L_7
                case h0_2L_7 => rfl
                case h1_2L_7 => exact e16
                case h2_2L_7 => exact (HB30.out.keep hu).whole
                case h3_2L_7 => exact Try.under107
                case h4_2L_7 => rfl
                case h5_2L_7 => exact (by rw [HZL.out]; exact Try.size107)
              · intro A u hu hpu hsz hout hdeps
                have e110 : A.eval (.tmp 110) = (.bool false) := by have h := depL hdeps 6 (by kernel_rfl) 110 (by kernel_rfl); exact h
                have e3 : A.eval (.tmp 3) = (.pointer (some ⟨b3, 0, none⟩)) := (hout 3 (by kernel_rfl)).trans rfl
                refine ifw_want 6 false 110 rfl rfl e110 ?_
                with_reducible refine shown_q (Value.pointer (some ⟨b3, 0, none⟩)) ?qq_2L_8 (fun _ _ => ?qr_2L_8)
                case qr_2L_8 => exact (rfl : (Value.pointer (some ⟨b3, 0, none⟩)) = (Value.pointer (some ⟨b3, 0, none⟩)))
                with_reducible refine quietAt_field 69 (.tmp 3) 0 ?h0_2L_8 ⟨b3, 0, none⟩ ⟨b3, 0, none⟩ ?h1_2L_8 ?h2_2L_8
                case h0_2L_8 => rfl
                case h1_2L_8 => exact e3
                case h2_2L_8 => kernel_rfl
              · intro A u hu hpu hsz hout hdeps
                have e110 : A.eval (.tmp 110) = (.bool false) := by have h := depL hdeps 6 (by kernel_rfl) 110 (by kernel_rfl); exact h
                have e112 : A.eval (.tmp 112) = (.pointer (some ⟨b3, 0, none⟩)) := by have h := depL hdeps 8 (by kernel_rfl) 112 (by kernel_rfl); exact h
                refine ifw_want 6 false 110 rfl rfl e110 ?_
                with_reducible refine shown_q (Value.slice (some ⟨gr, orr, none⟩) n c) ?qq_2L_9 (fun _ _ => ?qr_2L_9)
                case qr_2L_9 => exact (rfl : (Value.slice (some ⟨gr, orr, none⟩) n c) = (Value.slice (some ⟨gr, orr, none⟩) n c))
                with_reducible refine quietAt_ld 55 (.tmp 112) (Value.pointer (some ⟨b3, 0, none⟩)) (Value.slice (some ⟨gr, orr, none⟩) n c) ?h0_2L_9 ?h1_2L_9 ?h2_2L_9
                case h0_2L_9 => rfl
                case h1_2L_9 => exact e112
                case h2_2L_9 => exact ld55 b3 0 n c _ u ((HR5.out.keep hu).cell 0)
              · intro A u hu hpu hsz hout hdeps
                have e110 : A.eval (.tmp 110) = (.bool false) := by have h := depL hdeps 6 (by kernel_rfl) 110 (by kernel_rfl); exact h
                have e15 : A.eval (.tmp 15) = (.int .i64 (j : Nat)) := (hout 15 (by kernel_rfl)).trans rfl
                refine ifw_want 6 false 110 rfl rfl e110 ?_
                with_reducible refine shown_q (Value.int .i64 (j : Nat)) ?qq_2L_10 (fun _ _ => ?qr_2L_10)
                case qr_2L_10 => exact (rfl : (Value.int .i64 (j : Nat)) = (Value.int .i64 (j : Nat)))
                with_reducible refine quietAt_mv (.tmp 15) (Value.int .i64 (j : Nat)) ?h0_2L_10 ?h1_2L_10
                case h0_2L_10 => rfl
                case h1_2L_10 => exact e15
              · intro A u hu hpu hsz hout hdeps
                have e110 : A.eval (.tmp 110) = (.bool false) := by have h := depL hdeps 6 (by kernel_rfl) 110 (by kernel_rfl); exact h
                have e113 : A.eval (.tmp 113) = (.slice (some ⟨gr, orr, none⟩) n c) := by have h := depL hdeps 9 (by kernel_rfl) 113 (by kernel_rfl); exact h
                have e114 : A.eval (.tmp 114) = (.int .i64 (j : Nat)) := by have h := depL hdeps 10 (by kernel_rfl) 114 (by kernel_rfl); exact h
                refine ifw_want 6 false 110 rfl rfl e110 ?_
                with_reducible refine shown_q (Value.pointer (some ⟨gr, orr + j * 34, none⟩)) ?qq_2L_11 (fun _ _ => ?qr_2L_11)
                case qr_2L_11 => exact (rfl : (Value.pointer (some ⟨gr, orr + j * 34, none⟩)) = (Value.pointer (some ⟨gr, orr + j * 34, none⟩)))
                with_reducible refine quietAt_idx 55 (.tmp 113) (.tmp 114) (Value.slice (some ⟨gr, orr, none⟩) n c) (Value.int .i64 (j : Nat)) (Value.pointer (some ⟨gr, orr + j * 34, none⟩)) ?h0_2L_11 ?h1_2L_11 ?h2_2L_11 ?h3_2L_11
                case h0_2L_11 => rfl
                case h1_2L_11 => exact e113
                case h2_2L_11 => exact e114
                case h3_2L_11 => exact idx55 gr orr n c j hjn u
              · intro A u hu hpu hsz hout hdeps
                have e110 : A.eval (.tmp 110) = (.bool false) := by have h := depL hdeps 6 (by kernel_rfl) 110 (by kernel_rfl); exact h
                have e115 : A.eval (.tmp 115) = (.pointer (some ⟨gr, orr + j * 34, none⟩)) := by have h := depL hdeps 11 (by kernel_rfl) 115 (by kernel_rfl); exact h
                refine ifw_want 6 false 110 rfl rfl e110 ?_
                with_reducible refine shown_q (Value.agg Z.cells.toArray) ?qq_2L_12 (fun _ _ => ?qr_2L_12)
                case qr_2L_12 => exact (rfl : (Value.agg Z.cells.toArray) = (Value.agg Z.cells.toArray))
                with_reducible refine quietAt_load 107 (.tmp 115) ?h0_2L_12 gr (orr + j * 34) Z.cells (.struct (Try.prog.fieldsOf 107)) ?h1_2L_12 ?h2_2L_12 ?h3_2L_12 ?h4_2L_12 ?h5_2L_12
                case h0_2L_12 => rfl
                case h1_2L_12 => exact e115
                case h2_2L_12 => exact (HRz.out u (gtrans HSq.out hu))
                case h3_2L_12 => exact Try.under107
                case h4_2L_12 => rfl
                case h5_2L_12 => exact (by rw [HZL.out]; exact Try.size107)
              · intro A u hu hpu hsz hout hdeps
                have e110 : A.eval (.tmp 110) = (.bool false) := by have h := depL hdeps 6 (by kernel_rfl) 110 (by kernel_rfl); exact h
                have e111 : A.eval (.tmp 111) = (.agg Z.cells.toArray) := by have h := depL hdeps 7 (by kernel_rfl) 111 (by kernel_rfl); exact h
                have e116 : A.eval (.tmp 116) = (.agg Z.cells.toArray) := by have h := depL hdeps 12 (by kernel_rfl) 116 (by kernel_rfl); exact h
                refine ifw_want 6 false 110 rfl rfl e110 ?_
                with_reducible refine shown_q (Value.bool false) ?qq_2L_13 (fun _ _ => ?qr_2L_13)
                case qr_2L_13 => exact (rfl : (Value.bool false) = (Value.bool false))
                with_reducible refine quietAt_bin .neq 107 (.tmp 111) (.tmp 116) 107 (Value.agg Z.cells.toArray) (Value.agg Z.cells.toArray) (Value.bool false) ?h0_2L_13 ?h1_2L_13 ?h2_2L_13 ?h3_2L_13
                case h0_2L_13 => rfl
                case h1_2L_13 => exact e111
                case h2_2L_13 => exact e116
                case h3_2L_13 => exact HNz.out _ _ u
              · intro A u hu hpu hsz hout hdeps
                have e107 : A.eval (.tmp 107) = (.bool true) := by have h := depL hdeps 3 (by kernel_rfl) 107 (by kernel_rfl); exact h
                have e110 : A.eval (.tmp 110) = (.bool false) := by have h := depL hdeps 6 (by kernel_rfl) 110 (by kernel_rfl); exact h
                have e117 : A.eval (.tmp 117) = (.bool false) := by have h := depL hdeps 13 (by kernel_rfl) 117 (by kernel_rfl); exact h
                refine ifw_want 3 true 107 rfl rfl e107 ?_
                with_reducible refine shown_q (Value.bool false) ?qq_2L_14 (fun _ _ => ?qr_2L_14)
                case qr_2L_14 => exact (rfl : (Value.bool false) = (Value.bool false))
                with_reducible refine quietAt_pick (.tmp 110) (.const (.bool true)) (.tmp 117) false (Value.bool false) ?h0_2L_14 ?h1_2L_14 ?h2_2L_14
                case h0_2L_14 => rfl
                case h1_2L_14 => exact e110
                case h2_2L_14 => rw [if_neg (by decide)]; exact e117
              · intro A u hu hpu hsz hout hdeps
                have e107 : A.eval (.tmp 107) = (.bool true) := by have h := depL hdeps 3 (by kernel_rfl) 107 (by kernel_rfl); exact h
                have e118 : A.eval (.tmp 118) = (.bool false) := by have h := depL hdeps 14 (by kernel_rfl) 118 (by kernel_rfl); exact h
                refine ifw_none rfl ?_
                with_reducible refine shown_q (Value.bool false) ?qq_2L_15 (fun _ _ => ?qr_2L_15)
                case qr_2L_15 => exact (rfl : (Value.bool false) = (Value.bool false))
                with_reducible refine quietAt_pick (.tmp 107) (.tmp 118) (.const (.bool false)) true (Value.bool false) ?h0_2L_15 ?h1_2L_15 ?h2_2L_15
                case h0_2L_15 => rfl
                case h1_2L_15 => exact e107
                case h2_2L_15 => rw [if_pos rfl]; exact e118
              · intro A u18 listed hh hall
                have hA := hh.frame
                have HU := hid hh.grown
                obtain ⟨x104, hx104⟩ : ∃ x, A.eval (.tmp 104) = x := ⟨_, rfl⟩
                have f104 : (fun v _ => v = (Value.int .i64 (j : Nat))) x104 u18 := by rw [← hx104]; exact hh.got 0 _ 104 rfl rfl (hall 0 (by decide))
                obtain ⟨x105, hx105⟩ : ∃ x, A.eval (.tmp 105) = x := ⟨_, rfl⟩
                have f105 : (fun v _ => v = (Value.int .i64 (i : Nat))) x105 u18 := by rw [← hx105]; exact hh.got 1 _ 105 rfl rfl (hall 1 (by decide))
                obtain ⟨x106, hx106⟩ : ∃ x, A.eval (.tmp 106) = x := ⟨_, rfl⟩
                have f106 : (fun v _ => v = (Value.bool true)) x106 u18 := by rw [← hx106]; exact hh.got 2 _ 106 rfl rfl (hall 2 (by decide))
                obtain ⟨x107, hx107⟩ : ∃ x, A.eval (.tmp 107) = x := ⟨_, rfl⟩
                have f107 : (fun v _ => v = (Value.bool true)) x107 u18 := by rw [← hx107]; exact hh.got 3 _ 107 rfl rfl (hall 3 (by decide))
                obtain ⟨x108, hx108⟩ : ∃ x, A.eval (.tmp 108) = x := ⟨_, rfl⟩
                have f108 : (fun v _ => v = (Value.bool true)) x108 u18 := by rw [← hx108]; exact hh.got 4 _ 108 rfl rfl (hall 4 (by decide))
                obtain ⟨x109, hx109⟩ : ∃ x, A.eval (.tmp 109) = x := ⟨_, rfl⟩
                have f109 : (fun v _ => v = (Value.bool false)) x109 u18 := by rw [← hx109]; exact hh.got 5 _ 109 rfl rfl (hall 5 (by decide))
                obtain ⟨x110, hx110⟩ : ∃ x, A.eval (.tmp 110) = x := ⟨_, rfl⟩
                have f110 : (fun v _ => v = (Value.bool false)) x110 u18 := by rw [← hx110]; exact hh.got 6 _ 110 rfl rfl (hall 6 (by decide))
                obtain ⟨x111, hx111⟩ : ∃ x, A.eval (.tmp 111) = x := ⟨_, rfl⟩
                have f111 : (fun v _ => v = (Value.agg Z.cells.toArray)) x111 u18 := by rw [← hx111]; exact hh.got 7 _ 111 rfl rfl (hall 7 (by decide))
                obtain ⟨x112, hx112⟩ : ∃ x, A.eval (.tmp 112) = x := ⟨_, rfl⟩
                have f112 : (fun v _ => v = (Value.pointer (some ⟨b3, 0, none⟩))) x112 u18 := by rw [← hx112]; exact hh.got 8 _ 112 rfl rfl (hall 8 (by decide))
                obtain ⟨x113, hx113⟩ : ∃ x, A.eval (.tmp 113) = x := ⟨_, rfl⟩
                have f113 : (fun v _ => v = (Value.slice (some ⟨gr, orr, none⟩) n c)) x113 u18 := by rw [← hx113]; exact hh.got 9 _ 113 rfl rfl (hall 9 (by decide))
                obtain ⟨x114, hx114⟩ : ∃ x, A.eval (.tmp 114) = x := ⟨_, rfl⟩
                have f114 : (fun v _ => v = (Value.int .i64 (j : Nat))) x114 u18 := by rw [← hx114]; exact hh.got 10 _ 114 rfl rfl (hall 10 (by decide))
                obtain ⟨x115, hx115⟩ : ∃ x, A.eval (.tmp 115) = x := ⟨_, rfl⟩
                have f115 : (fun v _ => v = (Value.pointer (some ⟨gr, orr + j * 34, none⟩))) x115 u18 := by rw [← hx115]; exact hh.got 11 _ 115 rfl rfl (hall 11 (by decide))
                obtain ⟨x116, hx116⟩ : ∃ x, A.eval (.tmp 116) = x := ⟨_, rfl⟩
                have f116 : (fun v _ => v = (Value.agg Z.cells.toArray)) x116 u18 := by rw [← hx116]; exact hh.got 12 _ 116 rfl rfl (hall 12 (by decide))
                obtain ⟨x117, hx117⟩ : ∃ x, A.eval (.tmp 117) = x := ⟨_, rfl⟩
                have f117 : (fun v _ => v = (Value.bool false)) x117 u18 := by rw [← hx117]; exact hh.got 13 _ 117 rfl rfl (hall 13 (by decide))
                obtain ⟨x118, hx118⟩ : ∃ x, A.eval (.tmp 118) = x := ⟨_, rfl⟩
                have f118 : (fun v _ => v = (Value.bool false)) x118 u18 := by rw [← hx118]; exact hh.got 14 _ 118 rfl rfl (hall 14 (by decide))
                obtain ⟨x119, hx119⟩ : ∃ x, A.eval (.tmp 119) = x := ⟨_, rfl⟩
                have f119 : (fun v _ => v = (Value.bool false)) x119 u18 := by rw [← hx119]; exact hh.got 15 _ 119 rfl rfl (hall 15 (by decide))
                dsimp only [wrote, List.foldl] at hA
                rw [hx104, hx105, hx106, hx107, hx108, hx109, hx110, hx111, hx112, hx113, hx114, hx115, hx116, hx117, hx118, hx119] at hA
                clear hh hall hx104 hx105 hx106 hx107 hx108 hx109 hx110 hx111 hx112 hx113 hx114 hx115 hx116 hx117 hx118 hx119
                replace f104 := (f104 : x104 = (.int .i64 (j : Nat)))
                subst f104
                replace f105 := (f105 : x105 = (.int .i64 (i : Nat)))
                subst f105
                replace f106 := (f106 : x106 = (.bool true))
                subst f106
                replace f107 := (f107 : x107 = (.bool true))
                subst f107
                replace f108 := (f108 : x108 = (.bool true))
                subst f108
                replace f109 := (f109 : x109 = (.bool false))
                subst f109
                replace f110 := (f110 : x110 = (.bool false))
                subst f110
                replace f111 := (f111 : x111 = (.agg Z.cells.toArray))
                subst f111
                replace f112 := (f112 : x112 = (.pointer (some ⟨b3, 0, none⟩)))
                subst f112
                replace f113 := (f113 : x113 = (.slice (some ⟨gr, orr, none⟩) n c))
                subst f113
                replace f114 := (f114 : x114 = (.int .i64 (j : Nat)))
                subst f114
                replace f115 := (f115 : x115 = (.pointer (some ⟨gr, orr + j * 34, none⟩)))
                subst f115
                replace f116 := (f116 : x116 = (.agg Z.cells.toArray))
                subst f116
                replace f117 := (f117 : x117 = (.bool false))
                subst f117
                replace f118 := (f118 : x118 = (.bool false))
                subst f118
                replace f119 := (f119 : x119 = (.bool false))
                subst f119
                subst hA
                show wpList _ _ _ [] _ _
                unfold wpList
                simp only [Act.put, List.setIfInBounds_toArray, List.set_cons_succ, List.set_cons_zero]
                have HGn := hid (gtrans (gtrans HGq.out HSq.out) HU.out)
                go_wp2_with fail
                go_roundw
                case rel => exact ⟨j + 1, by go_num, by omega, HGn⟩
                case measure => simp [intOf]; omega
        · have hge : ¬ (j : Int) < (n : Int) := by omega
          have HLL2 : Hid ((lastK X).cells.length = 34) := hid (Ky.cells_length (HOX4.out.1 _ (lastK_mem (goodL_pos (isRing_good HSw.out.ring).1).1)).2.1)
          have HLm := hid ((HOX4.out.1 _ (lastK_mem (goodL_pos (isRing_good HSw.out.ring).1).1)).2.1)
          have HLs : Hid (K.sec.length = 32) := hid (by rw [← HKe.out]; exact (HOk.out _ HKm.out).2.1)
          have HOld := hid HSw.out.old
          have HNew := hid HSw.out.new
          rw [HKe.out] at HOld HNew
          obtain ⟨L, HLe3⟩ : ∃ x, Hid (lastK X = x) := ⟨_, hid rfl⟩
          rw [HLe3.out] at HLL2 HCX HLm HOld HNew
          rw [HM.out, HN.out] at HOld HNew
          by_cases hqk : Q.kid = K.kid
          · obtain ⟨hL, hNX, hmn⟩ := HNew.out hqk
            have hu1 : ((Q.kid : Int) == (K.kid : Int)) = true := by rw [hqk]; simp
            have hu2 : ((Q.kid : Int) != (K.kid : Int)) = false := by rw [hqk]; simp
            clear hqk
            have HNX := hid (show (NX : Int) = (nx : Int) + 1 by omega)
            subst hmn
            clear hNX
            have HNk : Hid (∀ (x y : Operand) (u : World), (do eqGuard .neq 107 x y (.agg L.cells.toArray) (.agg L.cells.toArray); binOp .neq 107 (.agg L.cells.toArray) (.agg L.cells.toArray) : Sem Value).run Try.prog u = .ok (.bool false) u) := fun x y u => by rw [neq_key HLm.out HLm.out]; simp
            have HBk : Hid (Try.prog.built 107 [(0, .int .u64 (nx : Int)), (1, .agg SC.toArray)] = some L.cells.toArray) := hid (by rw [hL, ← HSC.out]; exact built_kid nx (SI i) (SI_len i))
            clear hL
            go_wp2_with (first
              | (with_reducible refine wpList_load_part (by with_unfolding_all rfl) 69 _ (by with_unfolding_all rfl) b9 0 [.slice x m y, .int .u64 NX] _ (by with_unfolding_all rfl) HX4.out.whole Try.underlying69 (by with_unfolding_all rfl) (by with_unfolding_all exact Try.size69) ?_)
              | (go_at_call 29; (with_reducible refine (HCX.out _ _ HOX4.out).mono ?_); rintro e w20 ⟨rfl, hg20⟩; have HG20 := hid hg20; clear hg20)
              | ((with_reducible refine wpList_alloc_row (by with_unfolding_all rfl) 107 (by with_unfolding_all rfl) zky.cells Try.zero107 ?_); intro w22 B22 s22 g22; have HB22 := hid B22; have HG22 := hid g22; have HS22 := hid s22; clear B22 g22 s22)
              | ((with_reducible refine wpList_store_all (by with_unfolding_all rfl) 107 _ _ (by with_unfolding_all rfl) _ zky.cells L.cells 107 (by with_unfolding_all rfl) (by with_unfolding_all rfl) HB22.out (by rw [HLL2.out]; with_unfolding_all rfl) (by rw [HLL2.out]; exact Try.size107) (Ky.one _) ?_); intro w23 B23 g23 s23; have HB23 := hid B23; have HG23 := hid g23; have HS23 := hid s23; clear B23 g23 s23; have HSe := hid ((gtrans HG20.out HG22.out).andThen HG23.out (fun j hj => .inl (by injection hj with hj; have := HG20.out.size; omega))); have HR5 := hid (HR4.out.keep HSe.out); have HX5 := hid (HX4.out.keep HSe.out); have HK5 := hid ((HK3.out.keep HGq.out).keep HSe.out); clear HG20 HG22 HB22 HG23 HS22 HS23 y0 y1 z0 z1 HR4 HX4; have y0 := HR5.out.cell 0; have y1 := HR5.out.cell 1; have z0 := HX5.out.cell 0; have z1 := HX5.out.cell 1; have k0 : w23.cell? ⟨b5, 0, none⟩ = some (.int .u64 K.kid) := (by rw [HK5.out.cell]; exact Ky.c0 _); have HGz := hid (gtrans (gtrans HGd.out HGq.out) HSe.out); have hnx := HNx.out; have hnX := HNX.out)
              | (with_reducible refine wpList_load_partW (by with_unfolding_all rfl) 107 _ (by with_unfolding_all rfl) w20.heap.size 0 L.cells _ (by with_unfolding_all rfl) HB23.out.whole Try.underlying107 (by with_unfolding_all rfl) (by rw [HLL2.out]; exact Try.size107) ?_)
              | (with_reducible refine wpList_load_partW (by with_unfolding_all rfl) 107 _ (by with_unfolding_all rfl) b5 0 K.cells _ (by with_unfolding_all rfl) HK5.out.whole Try.underlying107 (by with_unfolding_all rfl) (by rw [HKL.out]; exact Try.size107) ?_)
              | (with_reducible refine wpList_binW (by with_unfolding_all rfl) .neq 107 _ _ _ (by with_unfolding_all rfl) _ _ _ (by with_unfolding_all rfl) (by with_unfolding_all rfl) (HNk.out _ _ _) ?_)
              | (with_reducible refine wpList_build_ofW (by with_unfolding_all rfl) 70 _ (by with_unfolding_all rfl) [(0, .int .u8 170), (1, .int .u8 (i : Nat))] (by with_unfolding_all rfl) SC HBu.out ?_)
              | (with_reducible refine wpList_build_ofW (by with_unfolding_all rfl) 107 _ (by with_unfolding_all rfl) [(0, .int .u64 (nx : Int)), (1, .agg SC.toArray)] (by with_unfolding_all rfl) L.cells HBk.out ?_))
            go_roundw
            case rel => exact ⟨i + 1, by go_num, by omega, HGz⟩
            case measure => simp [intOf]; omega
          · obtain ⟨hL, hNX, hmn⟩ := HOld.out hqk
            have hu1 : ((Q.kid : Int) == (K.kid : Int)) = false := by rw [beq_eq_false_iff_ne]; omega
            have hu2 : ((Q.kid : Int) != (K.kid : Int)) = true := by rw [bne_iff_ne]; omega
            clear hqk
            subst hL hNX
            have HNk : Hid (∀ (x y : Operand) (u : World), (do eqGuard .neq 107 x y (.agg L.cells.toArray) (.agg L.cells.toArray); binOp .neq 107 (.agg L.cells.toArray) (.agg L.cells.toArray) : Sem Value).run Try.prog u = .ok (.bool false) u) := fun x y u => by rw [neq_key HLs.out HLs.out]; simp
            have HM1 := hid (show (m : Int) = (n : Int) - 1 by omega)
            clear hmn
            go_wp2_with (first
              | (with_reducible refine wpList_load_part (by with_unfolding_all rfl) 69 _ (by with_unfolding_all rfl) b9 0 [.slice x m y, .int .u64 NX] _ (by with_unfolding_all rfl) HX4.out.whole Try.underlying69 (by with_unfolding_all rfl) (by with_unfolding_all exact Try.size69) ?_)
              | (go_at_call 29; (with_reducible refine (HCX.out _ _ HOX4.out).mono ?_); rintro e w20 ⟨rfl, hg20⟩; have HG20 := hid hg20; clear hg20)
              | ((with_reducible refine wpList_alloc_row (by with_unfolding_all rfl) 107 (by with_unfolding_all rfl) zky.cells Try.zero107 ?_); intro w22 B22 s22 g22; have HB22 := hid B22; have HG22 := hid g22; have HS22 := hid s22; clear B22 g22 s22)
              | ((with_reducible refine wpList_store_all (by with_unfolding_all rfl) 107 _ _ (by with_unfolding_all rfl) _ zky.cells L.cells 107 (by with_unfolding_all rfl) (by with_unfolding_all rfl) HB22.out (by rw [HLL2.out]; with_unfolding_all rfl) (by rw [HLL2.out]; exact Try.size107) (Ky.one _) ?_); intro w23 B23 g23 s23; have HB23 := hid B23; have HG23 := hid g23; have HS23 := hid s23; clear B23 g23 s23; have HSe := hid ((gtrans HG20.out HG22.out).andThen HG23.out (fun j hj => .inl (by injection hj with hj; have := HG20.out.size; omega))); have HR5 := hid (HR4.out.keep HSe.out); have HX5 := hid (HX4.out.keep HSe.out); have HK5 := hid ((HK3.out.keep HGq.out).keep HSe.out); clear HG20 HG22 HB22 HG23 HS22 HS23 y0 y1 z0 z1 HR4 HX4; have y0 := HR5.out.cell 0; have y1 := HR5.out.cell 1; have z0 := HX5.out.cell 0; have z1 := HX5.out.cell 1; have k0 : w23.cell? ⟨b5, 0, none⟩ = some (.int .u64 L.kid) := (by rw [HK5.out.cell]; exact Ky.c0 _); have HGz := hid (gtrans (gtrans HGd.out HGq.out) HSe.out); have hm1 := HM1.out; have hn8 := HN8.out)
              | (with_reducible refine wpList_load_partW (by with_unfolding_all rfl) 107 _ (by with_unfolding_all rfl) w20.heap.size 0 L.cells _ (by with_unfolding_all rfl) HB23.out.whole Try.underlying107 (by with_unfolding_all rfl) (by rw [HLL2.out]; exact Try.size107) ?_)
              | (with_reducible refine wpList_load_partW (by with_unfolding_all rfl) 107 _ (by with_unfolding_all rfl) b5 0 L.cells _ (by with_unfolding_all rfl) HK5.out.whole Try.underlying107 (by with_unfolding_all rfl) (by rw [HLL2.out]; exact Try.size107) ?_)
              | (with_reducible refine wpList_binW (by with_unfolding_all rfl) .neq 107 _ _ _ (by with_unfolding_all rfl) _ _ _ (by with_unfolding_all rfl) (by with_unfolding_all rfl) (HNk.out _ _ _) ?_))
            go_roundw
            case rel => exact ⟨i + 1, by go_num, by omega, HGz⟩
            case measure => simp [intOf]; omega
    · have hge : ¬ (i : Int) < (n : Int) := by omega
      go_wp2_with (go_at_call 26; (with_reducible refine (HWk.out _).mono ?_); rintro e w9 ⟨rfl, hg9⟩; have HG9 := hid hg9; clear hg9)
      go_ret
      exact ⟨rfl, gtrans (gtrans HGa.out HG.out) HG9.out⟩
end Go.Proofs.Ytmpcpakdocaieaa
