/- The law's book: its cells; the walks of at and tight. -/
import Derived.Test.YtfalgjdhdgkbfaaGreatDoorBkBase
import Derived.Deep.OwnRows
namespace Go.Proofs.YtfalgjdhdgkbfaaGreatDoor.Bk
open Go Go.RowKit
open Go.RowKit (wrap32 wrap64)

/-- Byte k of the mark of list m. -/
def mark (m k : Nat) : UInt8 := if k % 2 = 0 then UInt8.ofNat (1 + m % 251) else UInt8.ofNat (1 + (7 * m + m / 251) % 251)
def markL (m n : Nat) : List UInt8 := (List.range n).map (mark m)

theorem markL_length (m n : Nat) : (markL m n).length = n := by simp [markL]
theorem markL_succ (m n : Nat) : markL m (n + 1) = markL m n ++ [mark m n] := by simp [markL, List.range_succ]

set_option maxRecDepth 100000 in
set_option maxHeartbeats 400000 in
theorem at_any (m k : Nat) (w : World) (hm : m ≤ 1099511627776) (hk : k ≤ 1099511627776) :
    Calls Tryz.prog 74 #[.int .i64 m, .int .i64 k] w fun e w' => e = .returned (.int .u8 (mark m k).toNat) ∧ w' = w := by
  by_cases h : k % 2 = 0
  · have e : ((mark m k).toNat : Int) = 1 + (m : Int) % 251 := by
      unfold mark
      rw [if_pos h, UInt8.toNat_ofNat']
      omega
    have h' : (k : Int) % 2 = 0 := by omega
    rw [e]
    clear e h
    go_enter Tryz.func74, Tryz.ntmps74
    go_wp2
    go_ret
    exact ⟨rfl, rfl⟩
  · have e : ((mark m k).toNat : Int) = 1 + (7 * (m : Int) + (m : Int) / 251) % 251 := by
      unfold mark
      rw [if_neg h, UInt8.toNat_ofNat']
      obtain ⟨q, hq⟩ : ∃ q, q = 7 * m + m / 251 := ⟨_, rfl⟩
      have hq2 : 7 * (m : Int) + (m : Int) / 251 = (q : Int) := by omega
      rw [← hq, hq2]
      omega
    have h' : ((k : Int) % 2 == 0) = false := beq_eq_false_iff_ne.2 (by omega)
    rw [e]
    clear e h
    go_enter Tryz.func74, Tryz.ntmps74
    go_wp2
    go_ret
    exact ⟨rfl, rfl⟩

/-- What the book's cells hold where it keeps lists of bytes alone. -/
def bkF (v0 v1 : Value) (A T D U : Int) (i : Nat) : Value :=
  if i = 0 then v0 else if i = 1 then v1 else if i = 2 then .int .i64 A else if i = 72 then .int .i64 T else if i = 73 then .int .i64 D else if i = 74 then .int .i64 U
  else if i % 3 = 2 then .int .i64 0 else .slice none 0 0

def Bkc (w : World) (bk : Nat) (v0 v1 : Value) (A T D U : Int) : Prop := w.rowIs bk 59 75 (bkF v0 v1 A T D U)

/-- All blocks but one are as they were. -/
structure But (w w' : World) (bk : Nat) : Prop where
  os : w'.os = w.os
  tape : w'.tape = w.tape
  output : w'.output = w.output
  size : w'.heap.size = w.heap.size
  block : ∀ k, k ≠ bk → w'.heap[k]? = w.heap[k]?

theorem But.refl (w : World) (bk : Nat) : But w w bk := ⟨rfl, rfl, rfl, rfl, fun _ _ => rfl⟩
theorem But.trans {a b c : World} {bk : Nat} (h : But a b bk) (k : But b c bk) : But a c bk :=
  ⟨k.os.trans h.os, k.tape.trans h.tape, k.output.trans h.output, k.size.trans h.size, fun i hi => (k.block i hi).trans (h.block i hi)⟩
theorem But.setCell (w : World) (bk i : Nat) (u : Value) : But w (w.setCell ⟨bk, i, none⟩ u) bk :=
  ⟨rfl, rfl, rfl, by simp [World.setCell], fun k hk => Below.heap_setCell _ _ _ _ hk⟩
theorem But.drewN (w : World) (bk n : Nat) : But w (w.drewN n) bk := ⟨rfl, rfl, rfl, rfl, fun _ _ => rfl⟩

theorem bkF_T (v0 v1 : Value) (A T D U T' : Int) (i : Nat) : (if i = 72 then Value.int .i64 T' else bkF v0 v1 A T D U i) = bkF v0 v1 A T' D U i := by
  unfold bkF
  by_cases h : i = 72
  · subst h; rfl
  · simp [h]
theorem bkF_D (v0 v1 : Value) (A T D U D' : Int) (i : Nat) : (if i = 73 then Value.int .i64 D' else bkF v0 v1 A T D U i) = bkF v0 v1 A T D' U i := by
  unfold bkF
  by_cases h : i = 73
  · subst h; rfl
  · simp [h]
theorem bkF_U (v0 v1 : Value) (A T D U U' : Int) (i : Nat) : (if i = 74 then Value.int .i64 U' else bkF v0 v1 A T D U i) = bkF v0 v1 A T D U' i := by
  unfold bkF
  by_cases h : i = 74
  · subst h; rfl
  · simp [h]
theorem bkF_A (v0 v1 : Value) (A T D U A' : Int) (i : Nat) : (if i = 2 then Value.int .i64 A' else bkF v0 v1 A T D U i) = bkF v0 v1 A' T D U i := by
  unfold bkF
  by_cases h : i = 2
  · subst h; rfl
  · simp [h]
theorem bkF_0 (v0 v1 : Value) (A T D U : Int) (v' : Value) (i : Nat) : (if i = 0 then v' else bkF v0 v1 A T D U i) = bkF v' v1 A T D U i := by
  unfold bkF
  by_cases h : i = 0
  · subst h; rfl
  · simp [h]
theorem bkF_1 (v0 v1 : Value) (A T D U : Int) (v' : Value) (i : Nat) : (if i = 1 then v' else bkF v0 v1 A T D U i) = bkF v0 v' A T D U i := by
  unfold bkF
  by_cases h : i = 1
  · subst h; rfl
  · simp [h]

set_option maxRecDepth 100000 in
set_option maxHeartbeats 400000 in
theorem tight_any (w : World) (bk : Nat) (v0 v1 : Value) (A T D U n : Int) (h : Bkc w bk v0 v1 A T D U) (hU0 : 0 ≤ U) (hU1 : U ≤ 16777216) (hn0 : 0 ≤ n) (hn1 : n ≤ 1099511627776) :
    Calls Tryz.prog 75 #[.pointer (some ⟨bk, 0, none⟩), .int .i64 n] w fun e w' => (e = .returned (.bool true) ∧ w' = w) ∨ (e = .returned (.bool false) ∧ Hid (U + n ≤ 16777216) ∧ Bkc w' bk v0 v1 A T D (U + n) ∧ But w w' bk) := by
  have hc := h.cell (i := 74) (by decide)
  have hc' : w.cell? ⟨bk, 74, none⟩ = some (.int .i64 U) := hc
  have hf := h.frozen 74
  have hlt := h.lt
  have H := hid h
  clear hc h
  by_cases hb : 16777216 < U + n
  · go_enter Tryz.func75, Tryz.ntmps75
    go_wp2
    go_ret
    exact .inl ⟨rfl, rfl⟩
  · have hb' : U + n ≤ 16777216 := by omega
    go_enter Tryz.func75, Tryz.ntmps75
    go_wp2
    go_ret
    exact .inr ⟨rfl, hid trivial, (H.out.set 74 _).congr (fun i _ => bkF_U v0 v1 A T D U (U + n) i), But.setCell _ _ _ _⟩
end Go.Proofs.YtfalgjdhdgkbfaaGreatDoor.Bk
