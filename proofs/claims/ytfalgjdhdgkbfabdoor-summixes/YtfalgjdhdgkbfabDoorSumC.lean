/- The walk of SumMixes. -/
import Derived.Test.YtfalgjdhdgkbfabDoorSumB
import Derived.Deep.CutRange
import Derived.Deep.CutBlock
namespace Go.Proofs.YtfalgjdhdgkbfabDoor
open Go Go.RowKit
open Go.RowKit (wrap32 wrap64)

set_option maxHeartbeats 400000 in
theorem within_any (x : Int) (n : Nat) (h0 : 0 < n) (hn : n ≤ 1152921504606846976) (w : World) : Calls Tryd.prog 25 #[.int .i64 x, .int .i64 n] w fun e w' => (∃ r : Nat, r < n ∧ e = .returned (.int .i64 r)) ∧ w' = w := by
  have h1 := Int.tmod_lt_of_pos x (show (0 : Int) < (n : Int) by omega)
  have h2 := Int.lt_tmod_of_pos x (show (0 : Int) < (n : Int) by omega)
  have h3 : ¬ (n : Int) = 0 := by omega
  go_enter Tryd.func25, Tryd.ntmps25
  go_wp2
  · go_ret
    exact ⟨⟨(x.tmod n + n).toNat, by omega, ret_int (by omega)⟩, rfl⟩
  · go_ret
    exact ⟨⟨(x.tmod n).toNat, by omega, ret_int (by omega)⟩, rfl⟩
theorem wrap_ok (n : Nat) (h : (n : Int) ≤ 262144) : IntKind.i64.wrap (n : Int) = (n : Int) := by rw [IntKind.wrap_i64]; omega
theorem byteNe (c : UInt8) : ((c.toNat : Int) != 0) = (c != 0) ∧ (c.toNat != 0) = (c != 0) := by
  by_cases h : c = 0
  · subst h; exact ⟨rfl, rfl⟩
  · have h2 : c.toNat ≠ 0 := fun e => h (UInt8.toNat_inj.1 e)
    have h3 : (c != 0) = true := by simpa using h
    rw [h3]
    exact ⟨by simpa using h2, by simpa using h2⟩
/-- Three rows, a place and four bytes, as the walk reads them. -/
def ArgS (W : World) (a : Option Addr) (b o n : Nat) (VA VB VC : Nat → Value) (A B C : Nat → List UInt8) (P : Nat → Int) (Y : Nat → Nat → UInt8) : Prop :=
  (0 < n → a = some ⟨b, o, none⟩ ∧ b < W.heap.size) ∧ ∀ i, i < n → (W.cell? ⟨b, o + i * 8, none⟩ = some (VA i) ∧ W.cell? ⟨b, o + i * 8 + 1, none⟩ = some (VB i) ∧ W.cell? ⟨b, o + i * 8 + 2, none⟩ = some (VC i) ∧ W.cell? ⟨b, o + i * 8 + 3, none⟩ = some (.int .i64 (P i)) ∧
      W.cell? ⟨b, o + i * 8 + 4, none⟩ = some (.int .u8 (Y i 0).toNat) ∧ W.cell? ⟨b, o + i * 8 + 5, none⟩ = some (.int .u8 (Y i 1).toNat) ∧ W.cell? ⟨b, o + i * 8 + 6, none⟩ = some (.int .u8 (Y i 2).toNat) ∧ W.cell? ⟨b, o + i * 8 + 7, none⟩ = some (.int .u8 (Y i 3).toNat)) ∧
    (Rd W (fun _ => True) (VA i) (A i) ∧ Rd W (fun _ => True) (VB i) (B i) ∧ Rd W (fun _ => True) (VC i) (C i)) ∧ (A i).length ≤ 140737488355328 ∧ (B i).length ≤ 140737488355328 ∧ (C i).length ≤ 140737488355328
theorem ArgS.on {W u : World} {a : Option Addr} {b o n : Nat} {VA VB VC : Nat → Value} {A B C : Nat → List UInt8} {P : Nat → Int} {Y : Nat → Nat → UInt8} (h : ArgS W a b o n VA VB VC A B C P Y) (hg : W.grownBy u none) : ArgS u a b o n VA VB VC A B C P Y :=
  ⟨fun h0 => ⟨(h.1 h0).1, Nat.lt_of_lt_of_le (h.1 h0).2 hg.size⟩, fun i hi => by
    have hb := (h.1 (by omega)).2
    obtain ⟨⟨c0, c1, c2, c3, c4, c5, c6, c7⟩, ⟨r1, r2, r3⟩, l1⟩ := h.2 i hi
    exact ⟨⟨(cell_at hg hb (by simp)).trans c0, (cell_at hg hb (by simp)).trans c1, (cell_at hg hb (by simp)).trans c2, (cell_at hg hb (by simp)).trans c3, (cell_at hg hb (by simp)).trans c4, (cell_at hg hb (by simp)).trans c5, (cell_at hg hb (by simp)).trans c6, (cell_at hg hb (by simp)).trans c7⟩, ⟨r1.keep hg, r2.keep hg, r3.keep hg⟩, l1⟩⟩
theorem cells8 {w : World} {k : Nat} {a b c d e f g h : Value} {t : TypeId} (hh : w.heap[k]? = some (.cells #[a, b, c, d, e, f, g, h] t (0, 0))) : (w.cell? ⟨k, 0, none⟩ = some a ∧ w.cell? ⟨k, 1, none⟩ = some b ∧ w.cell? ⟨k, 2, none⟩ = some c ∧ w.cell? ⟨k, 3, none⟩ = some d ∧ w.cell? ⟨k, 4, none⟩ = some e ∧ w.cell? ⟨k, 5, none⟩ = some f ∧ w.cell? ⟨k, 6, none⟩ = some g ∧ w.cell? ⟨k, 7, none⟩ = some h) ∧ ∀ o, w.frozen? ⟨k, o, none⟩ = false :=
  ⟨⟨by simp [World.cell?, hh], by simp [World.cell?, hh], by simp [World.cell?, hh], by simp [World.cell?, hh], by simp [World.cell?, hh], by simp [World.cell?, hh], by simp [World.cell?, hh], by simp [World.cell?, hh]⟩, fun o => by simp [World.frozen?, hh]⟩
theorem Rd.cut {w : World} {F : Nat → Prop} {a : Option Addr} {n c : Nat} {l : List UInt8} (h : Rd w F (.slice a n c) l) (k : Nat) (hk : k ≤ l.length) : Rd w F (.slice a k k) (l.take k) := by
  obtain ⟨a', b, off, c', e, hc, hn, ha, hcell⟩ := h
  injection e with e1 e2 e3
  have hl : (l.take k).length = k := by rw [List.length_take]; omega
  refine ⟨a, b, off, k, by rw [hl], by rw [hl]; exact Nat.le_refl _, fun h => ?_, fun h0 => ?_, fun i hi => ?_⟩
  · have := hn (by rw [← e1]; exact h)
    omega
  · obtain ⟨h1, h2⟩ := ha (by omega)
    exact ⟨by rw [e1]; exact h1, h2⟩
  · have := hcell i (by omega)
    rw [this]
    simp
theorem xor32 (a b : Nat) (ha : a < 2 ^ 32) (hb : b < 2 ^ 32) : bits .xor .u32 (a : Int) (b : Int) = ((a ^^^ b : Nat) : Int) := u32_xor_nat a b ha hb

set_option maxRecDepth 100000 in
set_option maxHeartbeats 16000000 in
theorem sums_walk (w : World) (a : Option Addr) (b o n c : Nat) (VA VB VC : Nat → Value) (A B C : Nat → List UInt8) (P : Nat → Int) (Y : Nat → Nat → UInt8) (ht : Tab w) (hn : n ≤ 140737488355328) (hA : ArgS w a b o n VA VB VC A B C P Y) :
    Calls Tryd.prog 4 #[.slice a n c] w fun e w' => e = .returned (.bool true) ∧ w.grownBy w' none := by
  have HT : Hid (∀ u, w.grownBy u none → Tab u) := fun u hu => ht.keep hu
  have HA : Hid (∀ u, w.grownBy u none → ArgS u a b o n VA VB VC A B C P Y) := fun u hu => hA.on hu
  have HWk : Hid (∀ u, w.grownBy u none → Calls Tryd.prog 10 #[] u fun e w' => e = .returned (.bool true) ∧ u.grownBy w' none) := fun u hu => works_any u (HT.out u hu)
  have hcc := fun (u : World) => Lib.run_convert_bytes_const (P := Tryd.prog) u 29 5 #[.int .u8 49, .int .u8 50, .int .u8 51, .int .u8 52, .int .u8 53, .int .u8 54, .int .u8 55, .int .u8 56, .int .u8 57] 9 9 Tryd.underlying29 Tryd.underlying5
  have HKn : Hid (∀ u : World, w.grownBy u none → Calls Tryd.prog 24 #[.slice (some ⟨u.heap.size, 0, none⟩) 9 9] (u.alloc (.cells #[.int .u8 49, .int .u8 50, .int .u8 51, .int .u8 52, .int .u8 53, .int .u8 54, .int .u8 55, .int .u8 56, .int .u8 57] 5 (9, 10))) fun e w' => e = .returned (.int .u32 3421780262) ∧ w' = u.alloc (.cells #[.int .u8 49, .int .u8 50, .int .u8 51, .int .u8 52, .int .u8 53, .int .u8 54, .int .u8 55, .int .u8 56, .int .u8 57] 5 (9, 10))) := fun u hu => by
    have hh : (u.alloc (.cells #[.int .u8 49, .int .u8 50, .int .u8 51, .int .u8 52, .int .u8 53, .int .u8 54, .int .u8 55, .int .u8 56, .int .u8 57] 5 (9, 10))).heap[u.heap.size]? = some (.cells #[.int .u8 49, .int .u8 50, .int .u8 51, .int .u8 52, .int .u8 53, .int .u8 54, .int .u8 55, .int .u8 56, .int .u8 57] 5 (9, 10)) := by
      show (u.heap.push _)[u.heap.size]? = _
      simp
    have := sum_any [49, 50, 51, 52, 53, 54, 55, 56, 57] (fun _ => True) (.slice (some ⟨u.heap.size, 0, none⟩) 9 9) _ (by decide) ⟨some ⟨u.heap.size, 0, none⟩, u.heap.size, 0, 9, rfl, by decide, (fun h => by cases h), fun _ => ⟨rfl, (Array.getElem?_eq_some_iff.1 hh).1, trivial⟩, fun i hi => by
      simp only [World.cell?, hh]
      have hi' : i < 9 := hi
      match i, hi' with
      | 0, _ => rfl
      | 1, _ => rfl
      | 2, _ => rfl
      | 3, _ => rfl
      | 4, _ => rfl
      | 5, _ => rfl
      | 6, _ => rfl
      | 7, _ => rfl
      | 8, _ => rfl⟩ ((HT.out u hu).keep (galloc _ _ _))
    rw [sum_known] at this
    exact this
  have HNB := hid hn
  clear ht hA hn
  go_enter Tryd.func4, Tryd.ntmps4
  go_wp2_with fail
  go_loopw [3, 4] (fun sv iv wr => ∃ (i s : Nat), iv = .int .i64 i ∧ sv = .int .i64 s ∧ i ≤ n ∧ Hid (s ≤ 262144) ∧ i ≤ s ∧ Hid (w.grownBy wr none)) (fun _ iv _ => n - (intOf iv).toNat)
  case atStart => exact ⟨0, 0, rfl, rfl, Nat.zero_le _, hid (Nat.zero_le _), Nat.le_refl _, grefl _ _⟩
  case round =>
    obtain ⟨i, s, rfl, rfl, hin, HS, his, HG⟩ := hrel
    obtain ⟨Sx, hSx⟩ : ∃ x : Int, (s : Int) = x := ⟨_, rfl⟩
    have s0 : 0 ≤ Sx := by omega
    have s1 : Sx ≤ 262144 := by have := HS.out; omega
    by_cases hlt : i < n
    · obtain ⟨⟨rfl, hbb⟩, _⟩ := And.intro ((HA.out wr HG.out).1 (by omega)) trivial
      obtain ⟨⟨c0, c1, c2, c3, c4, c5, c6, c7⟩, ⟨r1, r2, r3⟩, l1, l2, l3⟩ := (HA.out wr HG.out).2 i hlt
      have HR1 := hid r1
      have HR2 := hid r2
      have HR3 := hid r3
      obtain ⟨a1, b1, o1, q1, e1, m1, n1, -⟩ := r1
      obtain ⟨a2, b2, o2, q2, e2, m2, n2, -⟩ := r2
      obtain ⟨a3, b3, o3, q3, e3, m3, n3, -⟩ := r3
      rw [e1] at c0 HR1
      rw [e2] at c1 HR2
      rw [e3] at c2 HR3
      obtain ⟨LA, HLA⟩ : ∃ x, Hid ((A i).length = x) := ⟨_, hid rfl⟩
      obtain ⟨LB, HLB⟩ : ∃ x, Hid ((B i).length = x) := ⟨_, hid rfl⟩
      obtain ⟨LC, HLC⟩ : ∃ x, Hid ((C i).length = x) := ⟨_, hid rfl⟩
      rw [HLA.out] at c0 HR1 l1 m1
      rw [HLB.out] at c1 HR2 l2 m2
      rw [HLC.out] at c2 HR3 l3 m3
      obtain ⟨Ya, hy⟩ : ∃ x : Int, (LA : Int) = x := ⟨_, rfl⟩
      have y0 : 0 ≤ Ya := by omega
      have y1 : Ya ≤ 140737488355328 := by omega
      have HL1 := hid l1
      have HL2 := hid l2
      have HL3 := hid l3
      have HM1 := hid m1
      have HM2 := hid m2
      have HM3 := hid m3
      obtain ⟨pA, hPA⟩ : ∃ x, P i = x := ⟨_, rfl⟩
      rw [hPA] at c3
      obtain ⟨z0, HZ0⟩ : ∃ x, Hid (Y i 0 = x) := ⟨_, hid rfl⟩
      obtain ⟨z1, HZ1⟩ : ∃ x, Hid (Y i 1 = x) := ⟨_, hid rfl⟩
      obtain ⟨z2, HZ2⟩ : ∃ x, Hid (Y i 2 = x) := ⟨_, hid rfl⟩
      obtain ⟨z3, HZ3⟩ : ∃ x, Hid (Y i 3 = x) := ⟨_, hid rfl⟩
      rw [HZ0.out] at c4
      rw [HZ1.out] at c5
      rw [HZ2.out] at c6
      rw [HZ3.out] at c7
      have i1 : (i : Int) < (n : Int) := by omega
      have hne : ¬ b = wr.heap.size := by omega
      clear l1 l2 l3 m1 m2 m3 n1 n2 n3
      by_cases hbig : 262144 < s + LA + 1
      · have hb2 : (262144 : Int) < Sx + Ya + 1 := by omega
        clear hbig
        go_wp2_with (first
          | (go_at_call 10; refine (HWk.out _ (gtrans HG.out (galloc _ _ _))).mono ?_; rintro e w9 ⟨rfl, hg9⟩; have HG9 := hid (gtrans (gtrans HG.out (galloc _ _ _)) hg9); clear hg9)
          | (go_at_call 24; refine (HKn.out _ HG9.out).mono ?_; rintro e w' ⟨rfl, hw⟩; have hw' := hw.symm; clear hw; subst hw'))
        go_ret
        exact ⟨rfl, gtrans HG9.out (galloc _ _ _)⟩
      · have hb2 : ¬ (262144 : Int) < Sx + Ya + 1 := by omega
        have HBG := hid hbig
        clear hbig
        obtain ⟨W1, hW1⟩ : ∃ x, wr.alloc (.cells #[.slice a1 LA q1, .slice a2 LB q2, .slice a3 LC q3, .int .i64 pA, .int .u8 z0.toNat, .int .u8 z1.toNat, .int .u8 z2.toNat, .int .u8 z3.toNat] 56) = x := ⟨_, rfl⟩
        have hP := heap_new wr #[.slice a1 LA q1, .slice a2 LB q2, .slice a3 LC q3, .int .i64 pA, .int .u8 z0.toNat, .int .u8 z1.toNat, .int .u8 z2.toNat, .int .u8 z3.toNat] 56
        rw [hW1] at hP
        have HP : Hid (∀ u, W1.grownBy u none → u.heap[wr.heap.size]? = some (.cells #[.slice a1 LA q1, .slice a2 LB q2, .slice a3 LC q3, .int .i64 pA, .int .u8 z0.toNat, .int .u8 z1.toNat, .int .u8 z2.toNat, .int .u8 z3.toNat] 56 (0, 0))) := hid (fun u hu => heap_at hu (by simp) hP)
        have HW1 : Hid (wr.grownBy W1 none) := hid (by rw [← hW1]; exact galloc _ _ _)
        have HW1S : Hid (W1.heap.size = wr.heap.size + 1) := hid (by rw [← hW1]; simp)
        obtain ⟨⟨x0, x1, x2, x3, x4, x5, x6, x7⟩, xf⟩ := cells8 hP
        have HTb : Hid (∀ u, W1.grownBy u none → Tab u) := hid (fun u hu => HT.out u (gtrans HG.out (gtrans HW1.out hu)))
        obtain ⟨K, HK⟩ : ∃ x, Hid (min3 LA LB LC = x) := ⟨_, hid rfl⟩
        have HKL : Hid (K ≤ LA ∧ K ≤ LB ∧ K ≤ LC) := hid (by rw [← HK.out]; exact min3_le LA LB LC)
        obtain ⟨X, HX⟩ : ∃ x, Hid (mixI (A i) (B i) (C i) K = x) := ⟨_, hid rfl⟩
        have HXL : Hid (X.length = K) := hid (by rw [← HX.out, mixI_length])
        have HK26 : Hid (K ≤ 262144) := hid (by have := HBG.out; have := HKL.out.1; omega)
        have HMx : Hid (Calls Tryd.prog 23 #[.slice a1 LA q1, .slice a2 LB q2, .slice a3 LC q3] W1 fun e w' => ∃ v', e = .returned v' ∧ Out W1.heap.size w' v' X ∧ W1.grownBy w' none) := hid (by
          have := mixed_any (A i) (B i) (C i) _ _ _ W1 (HR1.out.keep HW1.out) (HR2.out.keep HW1.out) (HR3.out.keep HW1.out) (by rw [HLA.out]; have := HBG.out; omega) (by rw [HLB.out]; exact HL2.out) (by rw [HLC.out]; exact HL3.out)
          rw [HLA.out, HLB.out, HLC.out, HK.out, HX.out] at this
          exact this)
        obtain ⟨KI, hKI⟩ : ∃ x : Int, (K : Int) = x := ⟨_, rfl⟩
        have ki0 : 0 ≤ KI := by omega
        have ki1 : KI ≤ 262144 := by have := HK26.out; omega
        have kt : KI.toNat = K := by omega
        have kA : K ≤ LA := HKL.out.1
        have kB : K ≤ LB := HKL.out.2.1
        have kC : K ≤ LC := HKL.out.2.2
        have kqA : K ≤ q1 := by have := HM1.out; omega
        have kqB : K ≤ q2 := by have := HM2.out; omega
        have kqC : K ≤ q3 := by have := HM3.out; omega
        have kiA : KI ≤ (q1 : Int) := by omega
        have kiB : KI ≤ (q2 : Int) := by omega
        have kiC : KI ≤ (q3 : Int) := by omega
        clear hP
        go_upto_region 10 with (go_at_call 23; refine (HMx.out).mono ?_; rintro e u1 ⟨v1, rfl, hO1, hg1⟩; have HU1 := hid hg1; obtain ⟨ax, bx, ox, cx, ex, -⟩ := hO1.rd; subst ex; have HO1 := hid hO1; clear hO1 hg1; rw [HXL.out] at HO1 ⊢; obtain ⟨⟨x0, x1, x2, x3, x4, x5, x6, x7⟩, xf⟩ := cells8 (HP.out u1 HU1.out))
        obtain ⟨SX, HSX⟩ : ∃ x, Hid (sumL X = x) := ⟨_, hid rfl⟩
        obtain ⟨SA, HSA⟩ : ∃ x, Hid (sumL ((A i).take K) = x) := ⟨_, hid rfl⟩
        obtain ⟨SB, HSB⟩ : ∃ x, Hid (sumL ((B i).take K) = x) := ⟨_, hid rfl⟩
        obtain ⟨SC, HSC⟩ : ∃ x, Hid (sumL ((C i).take K) = x) := ⟨_, hid rfl⟩
        have hsA := sumL_lt ((A i).take K)
        have hsB := sumL_lt ((B i).take K)
        have hsC := sumL_lt ((C i).take K)
        rw [HSA.out] at hsA
        rw [HSB.out] at hsB
        rw [HSC.out] at hsC
        have HMIX : Hid (SX = SA ^^^ SB ^^^ SC) := hid (by
          rw [← HSX.out, ← HX.out, ← HSA.out, ← HSB.out, ← HSC.out]
          exact sum_mixI (A i) (B i) (C i) K (by rw [HLA.out]; exact HKL.out.1) (by rw [HLB.out]; exact HKL.out.2.1) (by rw [HLC.out]; exact HKL.out.2.2))
        have xe1 := xor32 SA SB hsA hsB
        have xe2 := xor32 (SA ^^^ SB) SC (Nat.xor_lt_two_pow hsA hsB) hsC
        rw [← HMIX.out] at xe2
        obtain ⟨TT, HTT⟩ : ∃ x, Hid (SA ^^^ SB = x) := ⟨_, hid rfl⟩
        rw [HTT.out] at xe1 xe2
        have HQX : Hid (∀ k, Calls Tryd.prog 24 #[.slice ax K cx] (u1.drewN k) fun e w' => e = .returned (.int .u32 SX) ∧ w' = u1.drewN k) := fun k => by
          have := sum_any X _ _ (u1.drewN k) (by rw [HXL.out]; have := HK26.out; omega) (HO1.out.keep (gdrew _ _ _)).rd ((HTb.out u1 HU1.out).keep (gdrew _ _ _))
          rw [HSX.out] at this
          exact this
        have HQA : Hid (∀ k, Calls Tryd.prog 24 #[.slice a1 K K] (u1.drewN k) fun e w' => e = .returned (.int .u32 SA) ∧ w' = u1.drewN k) := fun k => by
          have := sum_any ((A i).take K) _ _ (u1.drewN k) (by rw [List.length_take]; have := HK26.out; omega) (Rd.cut ((HR1.out.keep (gtrans HW1.out HU1.out)).keep (gdrew _ k _)) K (by rw [HLA.out]; exact HKL.out.1)) ((HTb.out u1 HU1.out).keep (gdrew _ _ _))
          rw [HSA.out] at this
          exact this
        have HQB : Hid (∀ k, Calls Tryd.prog 24 #[.slice a2 K K] (u1.drewN k) fun e w' => e = .returned (.int .u32 SB) ∧ w' = u1.drewN k) := fun k => by
          have := sum_any ((B i).take K) _ _ (u1.drewN k) (by rw [List.length_take]; have := HK26.out; omega) (Rd.cut ((HR2.out.keep (gtrans HW1.out HU1.out)).keep (gdrew _ k _)) K (by rw [HLB.out]; exact HKL.out.2.1)) ((HTb.out u1 HU1.out).keep (gdrew _ _ _))
          rw [HSB.out] at this
          exact this
        have HQC : Hid (∀ k, Calls Tryd.prog 24 #[.slice a3 K K] (u1.drewN k) fun e w' => e = .returned (.int .u32 SC) ∧ w' = u1.drewN k) := fun k => by
          have := sum_any ((C i).take K) _ _ (u1.drewN k) (by rw [List.length_take]; have := HK26.out; omega) (Rd.cut ((HR3.out.keep (gtrans HW1.out HU1.out)).keep (gdrew _ k _)) K (by rw [HLC.out]; exact HKL.out.2.2)) ((HTb.out u1 HU1.out).keep (gdrew _ _ _))
          rw [HSC.out] at this
          exact this
        clear hsA hsB hsC HMIX
        go_quiet ((first
          | (go_at_call 24; with_reducible exact Calls.quiet_of_same (HQX.out _))
          | (go_at_call 24; with_reducible exact Calls.quiet_of_same (HQA.out _))
          | (go_at_call 24; with_reducible exact Calls.quiet_of_same (HQB.out _))
          | (go_at_call 24; with_reducible exact Calls.quiet_of_same (HQC.out _))))
        rename_i nq
        have HO2 := hid (HO1.out.keep (gdrew u1 nq none))
        have HU2 := hid (gtrans HU1.out (gdrew u1 nq none))
        generalize u1.drewN nq = U2 at HO2 HU2 ⊢
        obtain ⟨⟨x0, x1, x2, x3, x4, x5, x6, x7⟩, xf⟩ := cells8 (HP.out U2 HU2.out)
        have HWi : Hid (∀ u : World, Calls Tryd.prog 25 #[.int .i64 pA, .int .i64 (KI + 1)] u fun e w' => (∃ r : Nat, r < K + 1 ∧ e = .returned (.int .i64 r)) ∧ w' = u) := hid (fun u => by
          have := within_any pA (K + 1) (by omega) (by have := HK26.out; omega) u
          rw [show ((K + 1 : Nat) : Int) = KI + 1 by omega] at this
          exact this)
        have HCp : Hid (Calls Tryd.prog 6 #[.slice ax K cx] U2 fun e w' => ∃ v', e = .returned v' ∧ Out U2.heap.size w' v' X ∧ U2.grownBy w' none) := copy_any X _ _ U2 (by rw [HXL.out]; have := HK26.out; omega) HO2.out.rd
        clear HQX HQA HQB HQC xe1 xe2 HMx
        go_wp2_with (first
          | (go_at_call 6; refine (HCp.out).mono ?_; rintro e w8 ⟨v8, rfl, hO8, hg8⟩; have HO8 := hid hO8; have HX8 := hid (HO2.out.keep hg8); have HU8 := hid (gtrans HU2.out hg8); clear hO8 hg8; obtain ⟨⟨x0, x1, x2, x3, x4, x5, x6, x7⟩, xf⟩ := cells8 (HP.out w8 HU8.out))
          | (go_at_call 25; refine (HWi.out _).mono ?_; rintro e w' ⟨⟨r, hr, rfl⟩, hw⟩; have hw' := hw.symm; clear hw; subst hw'))
        obtain ⟨yf, HYF⟩ : ∃ yf : Nat → UInt8, Hid (Y i = yf) := ⟨_, hid rfl⟩
        have HBY : Hid (∀ u, W1.grownBy u none → ∀ k, k < 4 → u.cell? ⟨wr.heap.size, 4 + k, none⟩ = some (.int .u8 (yf k).toNat)) := hid (fun u hu k hk => by
          obtain ⟨⟨_, _, _, _, y4, y5, y6, y7⟩, _⟩ := cells8 (HP.out u hu)
          rw [← HZ0.out, HYF.out] at y4
          rw [← HZ1.out, HYF.out] at y5
          rw [← HZ2.out, HYF.out] at y6
          rw [← HZ3.out, HYF.out] at y7
          match k, hk with
          | 0, _ => exact y4
          | 1, _ => exact y5
          | 2, _ => exact y6
          | 3, _ => exact y7)
        have HRK : Hid (r ≤ K) := hid (by omega)
        have HAPART : Hid (∀ j, v8.ownBlock = some j → (Value.slice ax K cx).ownBlock ≠ some j) := hid (fun j hj hj2 => by
          have h1 := HO8.out.block j hj
          have h2 := (HO2.out.lt j hj2).2
          omega)
        clear hr
        obtain ⟨wo, hwo⟩ : ∃ x, x = wr := ⟨_, rfl⟩
        subst hwo
        go_loopw [9, 11] (fun cv kv W => ∃ k : Nat, kv = .int .i64 k ∧ cv = .bool (chg yf k) ∧ k ≤ 4 ∧ Hid (r + k ≤ K) ∧ Hid (Out U2.heap.size W v8 (bt X r yf k)) ∧ Hid (Out W1.heap.size W (.slice ax K cx) X) ∧ Hid (W1.grownBy W none)) (fun _ kv _ => 4 - (intOf kv).toNat)
        case atStart => exact ⟨0, rfl, rfl, Nat.zero_le _, hid (by have := HRK.out; omega), HO8, HX8, HU8⟩
        case round =>
          obtain ⟨k, rfl, rfl, hk4, HRK2, HOk, HXk, HUk⟩ := hrel
          have rb1 : (r : Int) + (k : Int) ≤ KI := by have := HRK2.out; omega
          by_cases hc : k < 4 ∧ r + k < K
          · obtain ⟨hc1, hc2⟩ := hc
            have hbl := bt_length X r yf k
            rw [HXL.out] at hbl
            have HBL := hid hbl
            obtain ⟨g8, k8, e8, hk8, hgb, hgl, hgc⟩ := HOk.out.form (by rw [HBL.out]; omega)
            subst e8
            have hcb := hgc (r + k) (by rw [HBL.out]; exact hc2)
            obtain ⟨bx', HBX⟩ : ∃ x, Hid ((bt X r yf k)[r + k]'(by rw [HBL.out]; exact hc2) = x) := ⟨_, hid rfl⟩
            rw [HBX.out] at hcb
            have hby := HBY.out wr HUk.out k hc1
            have hfz : ∀ j, wr.frozen? ⟨g8, j, none⟩ = false := fun j => HOk.out.free j
            have HNX : Hid (bt X r yf (k + 1) = (bt X r yf k).set (r + k) (bx' ^^^ yf k)) := hid (by rw [bt, getD_at _ _ (by rw [HBL.out]; exact hc2), HBX.out])
            have hxx := xor8 bx' (yf k)
            obtain ⟨yk, HYK⟩ : ∃ x, Hid (yf k = x) := ⟨_, hid rfl⟩
            rw [HYK.out] at hby hxx HNX
            obtain ⟨nx, HNXE⟩ : ∃ x, Hid (bx' ^^^ yk = x) := ⟨_, hid rfl⟩
            rw [HNXE.out] at hxx HNX
            have hb1 := u8_bd bx'
            have hb2' := u8_bd yk
            have j1 : (k : Int) < 4 := by omega
            obtain ⟨RK, hRK⟩ : ∃ x : Nat, r + k = x := ⟨_, rfl⟩
            have HRKE := hid hRK
            have hrk : (r : Int) + (k : Int) = (RK : Int) := by omega
            rw [hRK] at hcb HNX
            have j2 : (RK : Int) < KI := by omega
            have j4 : (0 : Int) ≤ (RK : Int) := by omega
            have j5 : (RK : Int) ≤ 262144 := by omega
            have j6 : (0 : Int) ≤ (k : Int) := by omega
            have hw2 : IntKind.i64.wrap (RK : Int) = (RK : Int) := wrap_ok RK j5
            clear hRK rb1 HBX hc2
            have HGE : Hid (U2.heap.size ≤ g8) := hid hgb
            have HAP2 : Hid ((Value.slice ax K cx).ownBlock ≠ some g8) := hid (HAPART.out g8 rfl)
            have HCH := hid (chg_succ yf k)
            rw [HYK.out] at HCH
            obtain ⟨byE1, byE2⟩ := byteNe yk
            clear hgc hgb hgl hbl
            rw [HBL.out] at HOk ⊢
            go_upto_region 18 with fail
            go_cut [] from 69 to 103 (fun wc => Hid (Out U2.heap.size wc (.slice (some ⟨g8, 0, none⟩) K k8) (bt X r yf (k + 1))) ∧ Hid (Out W1.heap.size wc (.slice ax K cx) X) ∧ Hid (W1.grownBy wc none))
            case first =>
              go_region_with fail
              all_goals
                go_wp2_with fail
                go_meet
                refine ⟨?_, ?_, ?_⟩
                · rw [HNX.out]
                  exact hid ((HOk.out.set RK nx).keep (gdrew1 _ _))
                · exact hid ((HXk.out.on (gset wr ⟨g8, RK, none⟩ _) (fun j hj hj2 => HAP2.out (by have h9 : g8 = j := Option.some.inj hj; rw [h9]; exact hj2))).keep (gdrew1 _ _))
                · exact hid (gtrans (HUk.out.andThen (gset wr ⟨g8, RK, none⟩ _) (fun j hj => .inl (by have h9 : g8 = j := Option.some.inj hj; have := HGE.out; have := HU2.out.size; omega))) (gdrew1 _ _))
            case rest =>
              obtain ⟨HO9, HX9, HU9⟩ := hcut
              have hby9 := HBY.out wc HU9.out k hc1
              rw [HYK.out] at hby9
              have HRK9 : Hid (r + (k + 1) ≤ K) := hid (by have := HRKE.out; omega)
              obtain ⟨cb, hcbE⟩ : ∃ x, chg yf k = x := ⟨_, rfl⟩
              rw [hcbE] at HCH ⊢
              cases cb with
              | true =>
                go_wp2_with fail
                refine ⟨⟨k + 1, by go_num, ?_, by omega, HRK9, HO9, HX9, HU9⟩, by simp only [intOf]; omega⟩
                rw [HCH.out]; rfl
              | false =>
                go_wp2_with fail
                refine ⟨⟨k + 1, by go_num, ?_, by omega, HRK9, HO9, HX9, HU9⟩, by simp only [intOf]; omega⟩
                rw [HCH.out]
                simp
          · have HFIN := hid (chg_sum X r yf k hk4 (by rw [HXL.out]; exact HRK2.out))
            obtain ⟨SN, HSN⟩ : ∃ x, Hid (sumL (bt X r yf k) = x) := ⟨_, hid rfl⟩
            rw [HSN.out, HSX.out] at HFIN
            have HQN : Hid (Calls Tryd.prog 24 #[v8] wr fun e w' => e = .returned (.int .u32 SN) ∧ w' = wr) := hid (by
              have := sum_any (bt X r yf k) _ _ wr (by rw [bt_length, HXL.out]; have := HK26.out; omega) HOk.out.rd (HTb.out wr HUk.out)
              rw [HSN.out] at this
              exact this)
            have HQX : Hid (Calls Tryd.prog 24 #[.slice ax K cx] wr fun e w' => e = .returned (.int .u32 SX) ∧ w' = wr) := hid (by
              have := sum_any X _ _ wr (by rw [HXL.out]; have := HK26.out; omega) HXk.out.rd (HTb.out wr HUk.out)
              rw [HSX.out] at this
              exact this)
            obtain ⟨D, hD⟩ : ∃ x : Bool, ((SN : Int) == (SX : Int)) = x := ⟨_, rfl⟩
            have HDD : Hid ((SN == SX) = D) := hid (by rw [← hD, Bool.eq_iff_iff, beq_iff_eq, beq_iff_eq]; omega)
            have hfin : (chg yf k == D) = false := by have := HFIN.out; rw [HDD.out] at this; exact this
            have hDn : (SN == SX) = D := HDD.out
            generalize chg yf k = cb at hfin ⊢
            have HGI : Hid (w.grownBy wr none) := hid (gtrans HG.out (gtrans HW1.out HUk.out))
            have hout : ¬ k < 4 ∨ (k < 4 ∧ ¬ r + k < K) := by omega
            rcases hout with h4 | ⟨h4, hrk⟩
            · have j1 : ¬ (k : Int) < 4 := by omega
              go_wp2_with (first
                | (go_at_call 24; with_reducible refine (HQN.out).mono ?_; rintro e w' ⟨rfl, hw⟩; have hw' := hw.symm; clear hw; subst hw')
                | (go_at_call 24; with_reducible refine (HQX.out).mono ?_; rintro e w' ⟨rfl, hw⟩; have hw' := hw.symm; clear hw; subst hw'))
              all_goals refine ⟨⟨i + 1, s + LA + 1, by go_num, congrArg (Value.int .i64) (by omega), by omega, hid (by have := HBG.out; omega), by omega, HGI⟩, by simp only [intOf]; omega⟩
            · have j1 : (k : Int) < 4 := by omega
              have j2 : ¬ (r : Int) + (k : Int) < KI := by omega
              go_wp2_with (first
                | (go_at_call 24; with_reducible refine (HQN.out).mono ?_; rintro e w' ⟨rfl, hw⟩; have hw' := hw.symm; clear hw; subst hw')
                | (go_at_call 24; with_reducible refine (HQX.out).mono ?_; rintro e w' ⟨rfl, hw⟩; have hw' := hw.symm; clear hw; subst hw'))
              all_goals refine ⟨⟨i + 1, s + LA + 1, by go_num, congrArg (Value.int .i64) (by omega), by omega, hid (by have := HBG.out; omega), by omega, HGI⟩, by simp only [intOf]; omega⟩
    · have i1 : ¬ (i : Int) < (n : Int) := by omega
      go_wp2_with (first
        | (go_at_call 10; refine (HWk.out _ HG.out).mono ?_; rintro e w9 ⟨rfl, hg9⟩; have HG9 := hid (gtrans HG.out hg9); clear hg9)
        | (go_at_call 24; refine (HKn.out _ HG9.out).mono ?_; rintro e w' ⟨rfl, hw⟩; have hw' := hw.symm; clear hw; subst hw'))
      go_ret
      exact ⟨rfl, gtrans HG9.out (galloc _ _ _)⟩
end Go.Proofs.YtfalgjdhdgkbfabDoor
