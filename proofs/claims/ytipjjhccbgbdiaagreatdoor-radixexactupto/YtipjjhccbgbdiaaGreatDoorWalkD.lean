/- The walk of radix's Text16. -/
import Derived.Test.YtipjjhccbgbdiaaGreatDoorWalkC
import Derived.Deep.RegionLaw
namespace Go.Proofs.YtipjjhccbgbdiaaGreatDoor
open Go Go.RowKit
open Go.RowKit (wrap32 wrap64)

def hexL : List UInt8 := [48, 49, 50, 51, 52, 53, 54, 55, 56, 57, 97, 98, 99, 100, 101, 102]
def hexB : ByteArray := ⟨#[48, 49, 50, 51, 52, 53, 54, 55, 56, 57, 97, 98, 99, 100, 101, 102]⟩
def enc16 : List UInt8 → List UInt8
  | [] => []
  | c :: r => lt hexL (c.toNat / 16) :: lt hexL (c.toNat % 16) :: enc16 r

theorem enc16_snoc (l : List UInt8) (c : UInt8) : enc16 (l ++ [c]) = enc16 l ++ [lt hexL (c.toNat / 16), lt hexL (c.toNat % 16)] := by
  induction l with
  | nil => rfl
  | cons a r ih => simp [enc16, ih]

theorem enc16_append (l m : List UInt8) : enc16 (l ++ m) = enc16 l ++ enc16 m := by
  induction l with
  | nil => rfl
  | cons a r ih => simp [enc16, ih]

theorem enc16_length (l : List UInt8) : (enc16 l).length = 2 * l.length := by
  induction l with
  | nil => rfl
  | cons a r ih => simp [enc16, ih]; omega

set_option maxRecDepth 100000 in
set_option maxHeartbeats 400000 in
theorem text16_any (l : List UInt8) (a : Option Addr) (b off c : Nat) (w : World) (hl : l.length ≤ 1048576) (_hc : l.length ≤ c)
    (ha : 0 < l.length → a = some ⟨b, off, none⟩ ∧ b < w.heap.size)
    (hcell : ∀ i (h : i < l.length), w.cell? ⟨b, off + i, none⟩ = some (.int .u8 l[i].toNat)) :
    Calls Tryz.prog 23 #[.slice a l.length c] w fun e w' => e = .returned (.string ⟨(enc16 l).toArray⟩) ∧ Below w.heap.size w w' := by
  obtain ⟨inf, hi, hz0, hz1, hz2⟩ := info_parts Tryz.info5
  go_enter Tryz.func23, Tryz.ntmps23
  go_wp2_with (at_make; refine wpList_make_own _ rfl _ _ 58 rfl w.heap.size 5 inf (.int .u8 0) 1 Tryz.underlying58 hi hz0 hz1 _ _ _ (2 * l.length) rfl rfl (by omega) (by rw [hz2]; omega) (by unfold maxLen; omega) (Nat.le_refl _) ?_)
  intro w1 hown1 hg1
  go_wp2
  go_loopw [3, 12] (fun tv iv wr => ∃ k : Nat, k ≤ l.length ∧ iv = .int .i64 k ∧ wr.ownsRow w.heap.size 5 1 tv (2 * k) (cb (enc16 (l.take k))) ∧ Below w.heap.size w wr) (fun _ iv _ => l.length - (intOf iv).toNat)
  case atStart => exact ⟨0, Nat.zero_le _, rfl, by simpa [enc16, cb] using hown1, (Below.refl _ _).grown hg1 (Nat.le_refl _) (fun k h => by cases h)⟩
  case round =>
    obtain ⟨k, hk, rfl, hown, hbel⟩ := hrel
    by_cases hlt : k < l.length
    · obtain ⟨rfl, hbw⟩ := ha (by omega)
      have hck := hcell k hlt
      rw [← hbel.cell (p := ⟨b, off + k, none⟩) hbw] at hck
      have bd := u8_bd l[k]
      obtain ⟨y, HY⟩ : ∃ y : Int, Hid ((l[k].toNat : Int) = y) := ⟨(l[k].toNat : Int), show (l[k].toNat : Int) = _ from rfl⟩
      rw [HY.out] at hck bd
      obtain ⟨i1, hi1, li1⟩ : ∃ i1 : Nat, y / 16 = (i1 : Int) ∧ i1 < 16 := ⟨(y / 16).toNat, by omega, by omega⟩
      obtain ⟨i2, hi2, li2⟩ : ∃ i2 : Nat, bits .and .u8 y 15 = (i2 : Int) ∧ i2 < 16 := ⟨(y % 16).toNat, by rw [u8_and15 y bd.1 bd.2]; omega, by omega⟩
      have bd1 := bd.1
      have bd2 := bd.2
      have li1' : (i1 : Int) < 16 := by omega
      have li2' : (i2 : Int) < 16 := by omega
      have hsz := hbel.size
      clear bd
      go_wp2
      go_region_law (refine step_append_lies _ rfl _ _ 58 rfl w.heap.size 5 inf (.int .u8 0) 1 1 Tryz.underlying58 hi hz0 hz1 hz2 rfl (by decide) u3 (2 * k) _ rfl (by exact hown.alloc _) ⟨wr.heap.size, 0, none⟩ 2 2 (cb [hexB[i1]'li1, hexB[i2]'li2]) rfl rfl (by exact fun j u hu => news_new wr _ _ j u hu) (by intro u hu; simp [cb] at hu; rcases hu with rfl | rfl <;> rfl) (by decide) (by unfold maxLen; omega) (by omega) (by simp; omega) (wr.heap.size + 1) (by simp) ?_; intro g cap w2 hown2 hg2 hat hlt2)
      all_goals
        go_wp2
        refine ⟨⟨k + 1, hlt, by go_num, ?_, (hbel.alloc hsz _).drew.grown hg2 (by simp; omega) (fun j hj => (hown.lt j hj).1)⟩, by simp [intOf]; omega⟩
        have e1 : l.take (k + 1) = l.take k ++ [l[k]] := by rw [List.take_succ_eq_append_getElem hlt]
        rw [e1, enc16_snoc, cb_append]
        have g1 : hexB[i1]'li1 = lt hexL (l[k].toNat / 16) := by
          rw [at_base hexB i1 li1]; show lt hexL i1 = _; congr 1; have := HY.out; omega
        have g2 : hexB[i2]'li2 = lt hexL (l[k].toNat % 16) := by
          rw [u8_and15 y bd1 bd2] at hi2
          rw [at_base hexB i2 li2]; show lt hexL i2 = _; congr 1; have := HY.out; omega
        rw [← g1, ← g2]
        exact hown2
    · have he : k = l.length := by omega
      subst he
      rw [List.take_length] at hown
      have hcv := convert_owned hown
      go_wp2
      go_ret
      exact ⟨rfl, hbel⟩
end Go.Proofs.YtipjjhccbgbdiaaGreatDoor
