/- The walks of radix's Lay and Read, and of the law's small functions. -/
import Derived.Test.YtipjjhccbgbdiaaGreatDoorWalkD
import Derived.Deep.OwnRows
namespace Go.Proofs.YtipjjhccbgbdiaaGreatDoor
open Go Go.RowKit
open Go.RowKit (wrap32 wrap64)

theorem num_any (x : Int) (w : World) : Calls Tryz.prog 25 #[.int .i64 x] w fun e w' => e = .returned (.int .i64 x) ∧ w' = w := by
  go_enter Tryz.func25, Tryz.ntmps25
  go_wp2
  go_ret
  exact ⟨rfl, rfl⟩

theorem ret_int {k : IntKind} {a b : Int} (h : a = b) : Ending.returned (.int k a) = .returned (.int k b) := by rw [h]

/-- A number in k bytes, the highest first. -/
def layL (n k : Nat) : List UInt8 := (List.range k).map fun i => UInt8.ofNat (n / 2 ^ (8 * (k - 1 - i)))
theorem layL_length (n k : Nat) : (layL n k).length = k := by simp [layL]

def layF (n k j i : Nat) : Value := if i < j then .int .u8 ((n : Int) / 2 ^ (8 * (k - 1 - i)) % 256) else .int .u8 0

set_option maxRecDepth 100000 in
set_option maxHeartbeats 400000 in
/-- Lay: a number in a width that it fits. -/
theorem lay_ok (n k : Nat) (w : World) (h1 : 1 ≤ k) (h8 : k ≤ 8) (hfit : ((n : Int) / 2 ^ (8 * k) != 0) = false) : Calls Tryz.prog 39 #[.int .u64 n, .int .i64 k] w fun e w' =>
    e = .returned (.tuple #[.slice (some ⟨w.heap.size, 0, none⟩) k k, .int .i64 0]) ∧ w.heap.size < w'.heap.size ∧ (∀ i, i < k → w'.cell? ⟨w.heap.size, i, none⟩ = some (layF n k k i)) ∧ Below w.heap.size w w' := by
  have hmk := fun w => run_make_row' (P := Tryz.prog) 58 5 (.int .u8 0) 1 Tryz.underlying58 Tryz.info5 rfl .i64 .i64 k (by omega) (by omega) w
  have hrow0 := World.rowIs_made w (.int .u8 0) k 5
  go_enter Tryz.func39, Tryz.ntmps39
  go_wp2
  go_loopw [23] (fun iv wr => ∃ j : Nat, j ≤ k ∧ iv = .int .i64 j ∧ wr.rowIs w.heap.size 5 k (layF n k j) ∧ w.heap.size < wr.heap.size ∧ Below w.heap.size w wr) (fun iv _ => k - (intOf iv).toNat)
  case atStart => exact ⟨0, Nat.zero_le _, rfl, hrow0, by simp, (Below.refl _ _).alloc (Nat.le_refl _) _⟩
  case round =>
    obtain ⟨j, hj, rfl, hrow, hlt, hbel⟩ := hrel
    by_cases hjk : j < k
    · have hc := hrow.cell hjk
      have hf := hrow.frozen j
      go_wp2
      refine ⟨⟨j + 1, hjk, by go_num, (hrow.set j _).congr fun i hi => ?_, by simpa [World.setCell] using hlt, hbel.setCell (Nat.le_refl _) _⟩, by simp [intOf]; omega⟩
      unfold layF
      by_cases e : i = j
      · rw [if_pos e, if_pos (by omega), e]
      · rw [if_neg e]
        by_cases e2 : i < j
        · rw [if_pos e2, if_pos (by omega)]
        · rw [if_neg e2, if_neg (by omega)]
    · have he : j = k := by omega
      subst he
      go_wp2
      go_ret2
      exact ⟨rfl, hlt, fun i hi => hrow.cell hi, hbel⟩

set_option maxRecDepth 100000 in
set_option maxHeartbeats 400000 in
/-- Lay: a number that has more bytes. -/
theorem lay_no (n k : Nat) (w : World) (h1 : 1 ≤ k) (h8 : k ≤ 8) (hfit : ((n : Int) / 2 ^ (8 * k) != 0) = true) : Calls Tryz.prog 39 #[.int .u64 n, .int .i64 k] w fun e w' =>
    e = .returned (.tuple #[.slice none 0 0, .int .i64 14]) ∧ w' = w := by
  go_enter Tryz.func39, Tryz.ntmps39
  go_wp2
  go_ret2
  exact ⟨rfl, rfl⟩

theorem layF_at (n k i : Nat) (h : i < k) : layF n k k i = .int .u8 ((layL n k)[i]'(by rw [layL_length]; exact h)).toNat := by
  unfold layF
  rw [if_pos h]
  simp [layL]

/-- Bytes that a slice leads to, as a string. -/
theorem convert_sl (l : List UInt8) (a : Option Addr) (b off c : Nat) (w : World) (ha : 0 < l.length → a = some ⟨b, off, none⟩)
    (hcell : ∀ i (h : i < l.length), w.cell? ⟨b, off + i, none⟩ = some (.int .u8 l[i].toNat)) : (convert 58 9 (.slice a l.length c)).run Tryz.prog w = .ok (.string ⟨l.toArray⟩) w := by
  by_cases hl : 0 < l.length
  · rw [ha hl]
    have := run_convert_bytes_arg w 58 5 Tryz.underlying58 Tryz.underlying5 b off l.length c (l.map fun b => (b.toNat : Int)) (by simp) (fun i hi => by
      simp [hcell i hi, List.getD, List.getElem?_eq_getElem hi]) 9 Tryz.underlying9
    rw [this]
    have e : strOfNums (l.map fun b => (b.toNat : Int)) = ⟨l.toArray⟩ := by
      unfold strOfNums
      rw [List.map_map, show l.map ((fun n : Int => UInt8.ofNat n.toNat) ∘ fun b : UInt8 => (b.toNat : Int)) = l.map id from List.map_congr_left fun x _ => by simp, List.map_id]
    rw [e]
  · have : l = [] := by cases l with | nil => rfl | cons _ _ => simp at hl
    subst this
    rcases a with _ | ⟨b', o', sp⟩
    · exact run_convert_bytes_nil w 58 5 Tryz.underlying58 Tryz.underlying5 0 c 9 Tryz.underlying9
    · rw [run_convert_bytes_string w 58 9 5 _ _ _ Tryz.underlying58 Tryz.underlying5 Tryz.underlying9]
      have hl := run_loadCells_list (P := Tryz.prog) w ⟨b', o', sp⟩ [] (fun j v hj => by simp at hj)
      have := run_bytesToString (P := Tryz.prog) w ⟨b', o', sp⟩ 0 c [] (by simpa using hl)
      exact this

end Go.Proofs.YtipjjhccbgbdiaaGreatDoor
