/- sumBehindKey, Mac. -/
import Derived.Test.YtmiojplbcjhggaaDoorWalkI
namespace Go.Proofs.YtmiojplbcjhggaaDoor
open Go Go.RowKit
open Go.RowKit (wrap32 wrap64)

/-- A key filled up with noughts; bent. -/
def kpad (key : List UInt8) : List UInt8 := key ++ List.replicate (64 - key.length) 0
def bent (key : List UInt8) (x : UInt8) : List UInt8 := (kpad key).map (· ^^^ x)
def short (key : List UInt8) : List UInt8 := if 64 < key.length then sumL key else key
def macL (key b : List UInt8) : List UInt8 := sumL (bent (short key) 0x5c ++ sumL (bent (short key) 0x36 ++ b))
theorem kpad_length (key : List UInt8) (h : key.length ≤ 64) : (kpad key).length = 64 := by simp [kpad]; omega
theorem bent_length (key : List UInt8) (x : UInt8) (h : key.length ≤ 64) : (bent key x).length = 64 := by rw [bent, List.length_map, kpad_length key h]
theorem short_length (key : List UInt8) : (short key).length ≤ 64 := by
  unfold short
  split
  · rw [sumL_length]; decide
  · omega
theorem macL_length (key b : List UInt8) : (macL key b).length = 32 := sumL_length _
def mixk (K : List UInt8) (x : UInt8) (k : Nat) : List UInt8 := (K.take k).map (· ^^^ x) ++ K.drop k
theorem mixk_zero (K : List UInt8) (x : UInt8) : mixk K x 0 = K := by simp [mixk]
theorem mixk_full (K : List UInt8) (x : UInt8) (h : K.length = 64) : mixk K x 64 = K.map (· ^^^ x) := by rw [mixk, List.take_of_length_le (by omega), List.drop_eq_nil_of_le (by omega), List.append_nil]
theorem mixk_get (K : List UInt8) (x : UInt8) (k : Nat) (h : k < K.length) : (Lib.byteCells (mixk K x k))[k]? = some (.int .u8 K[k].toNat) := by
  have e : ((K.take k).map (· ^^^ x)).length = k := by rw [List.length_map, List.length_take]; omega
  rw [Lib.byteCells, List.getElem?_map, mixk, List.getElem?_append_right (by omega), e, Nat.sub_self, List.getElem?_drop, Nat.add_zero, List.getElem?_eq_getElem h]
  rfl
theorem mixk_step (K : List UInt8) (x : UInt8) (k : Nat) (h : k < K.length) : (Lib.byteCells (mixk K x k)).set k (.int .u8 (K[k] ^^^ x).toNat) = Lib.byteCells (mixk K x (k + 1)) := by
  have e : ((K.take k).map (· ^^^ x)).length = k := by rw [List.length_map, List.length_take]; omega
  have e1 : (mixk K x k).set k (K[k] ^^^ x) = mixk K x (k + 1) := by
    rw [mixk, List.set_append_right _ _ (by omega), e, Nat.sub_self, mixk, List.take_succ_eq_append_getElem h, List.map_append, List.drop_eq_getElem_cons h, List.set_cons_zero, List.append_assoc]
    rfl
  rw [← e1, Lib.byteCells, Lib.byteCells, List.map_set]
theorem mixk_length (K : List UInt8) (x : UInt8) (k : Nat) : (mixk K x k).length = K.length := by simp [mixk]; omega
theorem kpad_splice (key : List UInt8) : splice y64 0 (Lib.byteCells (key.take key.length)) = Lib.byteCells (kpad key) := by
  unfold splice kpad
  rw [List.take_length, List.take_zero, List.nil_append, Nat.zero_add, byteCells_length, byteCells_append]
  congr 1
  unfold y64
  rw [List.drop_replicate]
  simp [Lib.byteCells]

set_option maxRecDepth 100000 in
set_option maxHeartbeats 800000 in
theorem sbk_any (w : World) (vk vb : Value) (F G : Nat → Prop) (key x : List UInt8) (d : UInt8) (hk : Rd w F vk key) (hx : Rd w G vb x) (hkl : key.length ≤ 64) (hg : Glob w) (hn : x.length < 1152921504606845000) :
    Calls Tryd.prog 38 #[vk, .int .u8 d.toNat, vb] w fun e w' => e = .returned (.agg (Lib.byteCells (sumL (bent key d ++ x))).toArray) ∧ w.grownBy w' none := by
  have HK0 := hid hk
  have HX := hid (hx.mono (G := fun k => k < w.heap.size) (fun k hk _ => hk))
  have HGl := hid hg
  have HNw : Hid (∀ u, w.grownBy u none → Calls Tryd.prog 16 #[] u fun e w' => e = .returned (.pointer (some ⟨u.heap.size, 0, none⟩)) ∧ Hs w' u.heap.size [] ∧ u.grownBy w' none ∧ w'.heap.size = u.heap.size + 1) := fun u hu => new_any u (hg.keep hu)
  have HBL : Hid ((bent key d).length = 64) := hid (bent_length key d hkl)
  have HW1 : Hid (∀ (u : World) (c bk : Nat), w.grownBy u none → Hs u c [] → w.heap.size ≤ c → Blk u bk (Lib.byteCells (bent key d)) 73 → bk ≠ c → Calls Tryd.prog 18 #[.pointer (some ⟨c, 0, none⟩), .slice (some ⟨bk, 0, none⟩) 64 64] u fun e w' => e = .returned (.tuple #[]) ∧ Hs w' c (bent key d) ∧ u.grownBy w' (some c)) := fun u c bk hu h1 h2 h3 h4 =>
    write_any u c [] _ (fun k => k ≠ c) (bent key d) h1 (h3.rd _ h4 64 HBL.out.symm) (by simp) (hg.keep hu) (by have := hg.sz; omega) (by rw [HBL.out]; simp)
  have HW2 : Hid (∀ (u : World) (c : Nat), w.grownBy u none → Hs u c (bent key d) → w.heap.size ≤ c → Calls Tryd.prog 18 #[.pointer (some ⟨c, 0, none⟩), vb] u fun e w' => e = .returned (.tuple #[]) ∧ Hs w' c (bent key d ++ x) ∧ u.grownBy w' (some c)) := fun u c hu h1 h2 =>
    write_any u c _ vb (fun k => k < w.heap.size) x h1 (HX.out.keep hu) (by omega) (hg.keep hu) (by have := hg.sz; omega) (by rw [HBL.out]; omega)
  obtain ⟨R, HR⟩ : ∃ R, Hid (Lib.byteCells (sumL (bent key d ++ x)) = R) := ⟨_, hid rfl⟩
  have HRL : Hid (R.length = 32) := hid (by rw [← HR.out, byteCells_length, sumL_length])
  have HR1 : Hid (∀ v ∈ R, v.oneCell' = true) := hid (by rw [← HR.out]; exact bcs_one _)
  have HSm : Hid (∀ (u : World) (c : Nat), w.grownBy u none → Hs u c (bent key d ++ x) → Calls Tryd.prog 20 #[.pointer (some ⟨c, 0, none⟩)] u fun e w' => e = .returned (.agg R.toArray) ∧ u.grownBy w' none) := fun u c hu h => by
    have := hsum_any u c _ h (hg.keep hu) (by rw [List.length_append, HBL.out]; omega)
    rw [HR.out] at this
    exact this
  rw [HR.out]
  have HKS := hid (kpad_splice key)
  have HKL := hid (kpad_length key hkl)
  have HBe : Hid (bent key d = (kpad key).map (· ^^^ d)) := hid rfl
  have HKm : Hid (Nat.min key.length 64 = key.length) := hid (Nat.min_eq_left hkl)
  have HKl := hid hkl
  generalize bent key d = BT at HBL HW1 HW2 HSm HBe
  generalize kpad key = KP at HKS HKL HBe
  clear hk hx hg hn hkl
  go_enter Tryd.func38, Tryd.ntmps38
  go_wp2_with (first
    | (refine wpList_alloc_row rfl 24 rfl y32 Tryd.zero24 ?_; intro w1 B1 s1 g1; have HB1 := hid B1; have HG1 := hid g1; have HS1 := hid s1; clear B1 g1 s1)
    | (refine wpList_build_row rfl 73 rfl y64 Tryd.built73 ?_)
    | (refine wpList_alloc_row rfl 73 rfl y64 Tryd.zero73 ?_; intro w2 B2 s2 g2; have HB2 := hid B2; have HG2 := hid g2; have HS2 := hid s2; clear B2 g2 s2)
    | (refine wpList_store_all rfl 73 _ _ rfl _ y64 y64 73 rfl rfl HB2.out rfl Tryd.size73 one_y64 ?_; intro w3 B3 g3 s3; have HB3 := hid B3; have HG3 := hid g3; have HS3 := hid s3; clear B3 g3 s3; have HGa := hid ((gtrans HG1.out HG2.out).andThen HG3.out (fun j hj => .inl (by injection hj with hj; have := HS1.out; omega))); have HK3 := hid (HK0.out.keep HGa.out); have HB13 := hid ((HB1.out.keep HG2.out).on HG3.out (by simp; have := HS1.out; omega)))
    | (refine wpList_copy_blk rfl _ _ rfl w1.heap.size 0 64 64 rfl F key HK3.out y64 73 HB3.out key.length HKm.out (by have := HKl.out; show 0 + key.length ≤ 64; omega) ?_; intro w4 B4 g4 s4; have HB4 := hid B4; have HG4 := hid g4; clear B4 g4 s4; rw [HKS.out] at HB4; have HGb := hid (HGa.out.andThen HG4.out (fun j hj => .inl (by injection hj with hj; have := HS1.out; omega))); have HB14 := hid (HB13.out.on HG4.out (by simp; have := HS1.out; omega))))
  obtain ⟨b1, hb1⟩ : ∃ b1, b1 = w.heap.size := ⟨_, rfl⟩
  obtain ⟨b2, hb2⟩ : ∃ b2, b2 = w1.heap.size := ⟨_, rfl⟩
  rw [← hb1, ← hb2]
  rw [← hb1] at HB14
  rw [← hb2] at HB4 HG4
  have HN := hid (show b1 ≠ b2 ∧ w.heap.size ≤ b2 ∧ w.heap.size ≤ b1 ∧ b2 < w4.heap.size by have := HS1.out; have := HB4.out.lt; omega)
  clear hb1 hb2 HG1 HG2 HG3 HS1 HS2 HS3 HB1 HB2 HB3 HB13 HGa
  go_loopw [14] (fun iv wr => ∃ k : Nat, k ≤ 64 ∧ iv = .int .i64 k ∧ Hid (Blk wr b2 (Lib.byteCells (mixk KP d k)) 73) ∧ Hid (w4.grownBy wr (some b2))) (fun iv _ => 64 - (intOf iv).toNat)
  case atStart => exact ⟨0, by omega, rfl, hid (by rw [mixk_zero]; exact HB4.out), hid (grefl _ _)⟩
  case round =>
    obtain ⟨k, hk, rfl, HK, HW⟩ := hrel
    by_cases hlt : k < 64
    · have cw := HK.out.cell k
      rw [mixk_get _ _ _ (by rw [HKL.out]; exact hlt)] at cw
      have cf := HK.out.frozen k
      have HV3 := hid (mixk_step KP d k (by rw [HKL.out]; exact hlt))
      have hlt' : (k : Int) < 64 := by omega
      obtain ⟨y, HY⟩ : ∃ y, Hid (KP[k]'(by rw [HKL.out]; exact hlt) = y) := ⟨_, hid rfl⟩
      rw [HY.out] at cw HV3
      have e8 := xor8 y d
      go_wp2_with fail
      go_roundw
      case rel => exact ⟨k + 1, by omega, by go_num, hid (by rw [← HV3.out]; exact HK.out.set _ _), hid (gtrans HW.out (gset _ _ _))⟩
      case measure => simp [intOf]; omega
    · obtain rfl : k = 64 := by omega
      have HBk : Hid (Blk wr b2 (Lib.byteCells BT) 73) := hid (by rw [HBe.out, ← mixk_full _ _ HKL.out]; exact HK.out)
      have HB1r := hid (HB14.out.on HW.out (by simp; exact fun e => HN.out.1 e.symm))
      have HGc := hid (HGb.out.andThen HW.out (fun j hj => .inl (by injection hj with hj; have := HN.out; omega)))
      have HNw2 := hid (show b2 < wr.heap.size by have := HW.out.size; have := HN.out; omega)
      have HNw1 := hid HB1r.out.lt
      clear HK
      go_wp2_with (first
        | (go_at_call 16; refine (HNw.out _ HGc.out).mono ?_; rintro e w5 ⟨rfl, hH5, hg5, hs5⟩; have HH5 := hid hH5; have HG5 := hid hg5; have HS5 := hid hs5; clear hH5 hg5 hs5; have HGd := hid (gtrans HGc.out HG5.out); have HBk5 := hid (HBk.out.keep HG5.out); have HB15 := hid (HB1r.out.keep HG5.out))
        | (go_at_call 18; with_reducible refine (HW1.out _ _ _ HGd.out HH5.out (by have := HGc.out.size; omega) HBk5.out (by have := HNw2.out; omega)).mono ?_; rintro e w6 ⟨rfl, hH6, hg6⟩; have HH6 := hid hH6; have HG6 := hid hg6; clear hH6 hg6; have HGe := hid (HGd.out.andThen HG6.out (fun j hj => .inl (by injection hj with hj; have := HGc.out.size; omega))); have HB16 := hid (HB15.out.on HG6.out (by simp; have := HNw1.out; omega)))
        | (go_at_call 18; with_reducible refine (HW2.out _ _ HGe.out HH6.out (by have := HGc.out.size; omega)).mono ?_; rintro e w7 ⟨rfl, hH7, hg7⟩; have HH7 := hid hH7; have HG7 := hid hg7; clear hH7 hg7; have HGf := hid (HGe.out.andThen HG7.out (fun j hj => .inl (by injection hj with hj; have := HGc.out.size; omega))); have HB17 := hid (HB16.out.on HG7.out (by simp; have := HNw1.out; omega)))
        | (go_at_call 20; refine (HSm.out _ _ HGf.out HH7.out).mono ?_; rintro e w8 ⟨rfl, hg8⟩; have HG8 := hid hg8; clear hg8; have HB18 := hid (HB17.out.keep HG8.out))
        | (refine wpList_store_all rfl 24 _ _ rfl _ y32 R 24 rfl rfl HB18.out (by rw [HRL.out]; rfl) (by rw [HRL.out]; exact Tryd.size24) HR1.out ?_; intro w9 B9 g9 s9; have HB9 := hid B9; have HG9 := hid g9; clear B9 g9 s9))
      refine bodyPost_ret (results_blk rfl _ b1 24 R _ rfl HB9.out Tryd.underlying24 rfl (by rw [HRL.out]; exact Tryd.size24)) rfl ?_
      exact ⟨rfl, (gtrans HGf.out HG8.out).andThen HG9.out (fun j hj => .inl (by injection hj with hj; have := HN.out; omega))⟩
end Go.Proofs.YtmiojplbcjhggaaDoor
