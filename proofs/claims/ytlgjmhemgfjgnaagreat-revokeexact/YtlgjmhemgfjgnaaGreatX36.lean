/- The reference's First; keys that were lent, written over. -/
import Derived.Test.YtlgjmhemgfjgnaaGreatYA
namespace Go.Proofs.YtlgjmhemgfjgnaaGreat
open Go Go.RowKit
open Go.RowKit (wrap32 wrap64)

def ovK : Ky := ⟨false, 778, z16, -778⟩
theorem built_ov : Tryz.prog.built 85 [(1, .int .u64 778), (3, .int .i64 (-778))] = some ovK.cells.toArray := by kernel_rfl
theorem ovK_len : ovK.cells.length = 19 := by kernel_rfl
theorem ovK_one : ∀ v ∈ ovK.cells, v.oneCell' = true := fun v hv => by
  have h : ovK.cells.all (·.oneCell') = true := by kernel_rfl
  exact List.all_eq_true.1 h v hv
theorem splice_len (cs vs : List Value) (off : Nat) (h : off + vs.length ≤ cs.length) : (splice cs off vs).length = cs.length := by
  unfold splice
  simp
  omega
set_option maxRecDepth 100000 in
set_option maxHeartbeats 1600000 in
theorem overK_any (w : World) (C g c : Nat) (l : List Ky) (hx : LentK C w g c l) (hl : l.length ≤ 1000000) :
    Calls Tryz.prog 11 #[.slice (some ⟨g, 0, none⟩) l.length c] w fun e w' => e = .returned (.tuple #[]) ∧ w.grownBy w' (some g) := by
  have HB : Hid (∃ cs, Blk w g cs 85 ∧ l.length * 19 ≤ cs.length) := hid (by
    obtain ⟨h1, h2⟩ := hx
    rcases h1.2.2 with ⟨h3, _⟩ | ⟨g', cap, cur, he, hB, hb, hn, hm, hs, ht⟩
    · cases h3
    · simp only [Value.slice.injEq, Option.some.injEq, Addr.mk.injEq] at he
      obtain ⟨⟨rfl, _, _⟩, _, rfl⟩ := he
      refine ⟨cur.toList, by simpa [Blk] using hb, ?_⟩
      have hcl : cur.toList.length = c * 19 := by rw [Array.length_toList, hs]
      omega)
  obtain ⟨n, HN⟩ : ∃ n, Hid (l.length = n) := ⟨_, hid rfl⟩
  rw [HN.out] at HB hl ⊢
  clear hx
  go_enter Tryz.func11, Tryz.ntmps11
  go_wp2_with fail
  go_loopw [2] (fun iv wr => ∃ i : Nat, iv = .int .i64 i ∧ i ≤ n ∧ Hid (∃ cs, Blk wr g cs 85 ∧ n * 19 ≤ cs.length) ∧ Hid (w.grownBy wr (some g))) (fun iv _ => n - (intOf iv).toNat)
  case atStart => exact ⟨0, rfl, by omega, HB, hid (grefl _ _)⟩
  case round =>
    clear HB
    obtain ⟨i, rfl, hin, HB, HG⟩ := hrel
    by_cases hlt : i < n
    · have hlt' : (i : Int) < (n : Int) := by omega
      have hix := idx57y g n c i hlt
      obtain ⟨cs, hb, hcs⟩ := HB.out
      have HBc := hid hb
      have HCl := hid hcs
      clear hb hcs HB
      go_wp2_with (first
        | (with_reducible refine wpList_build_of (by with_unfolding_all rfl) 85 _ (by with_unfolding_all rfl) [(1, .int .u64 778), (3, .int .i64 (-778))] (by with_unfolding_all rfl) ovK.cells built_ov ?_)
        | (with_reducible refine wpList_store_part (by with_unfolding_all rfl) 85 _ _ (by with_unfolding_all rfl) g (i * 19) cs ovK.cells 85 (by with_unfolding_all rfl) (by with_unfolding_all rfl) HBc.out (by rw [ovK_len]; have := HCl.out; omega) (by rw [ovK_len]; with_unfolding_all exact Tryz.size85) ovK_one ?_; intro w5 B5 g5 s5; have HB5 := hid B5; have HG5 := hid g5; clear B5 g5 s5))
      go_roundw
      case rel => exact ⟨i + 1, by go_num, by omega, hid ⟨_, HB5.out, by rw [splice_len _ _ _ (by rw [ovK_len]; have := HCl.out; omega)]; exact HCl.out⟩, hid (gtrans HG.out HG5.out)⟩
      case measure => simp [intOf]; omega
    · have hge : ¬ (i : Int) < (n : Int) := by omega
      go_wp2_with fail
      go_end0
      exact ⟨rfl, HG.out⟩
end Go.Proofs.YtlgjmhemgfjgnaaGreat

namespace Go.Proofs.YtlgjmhemgfjgnaaGreat
open Go Go.RowKit
open Go.RowKit (wrap32 wrap64)

/-- What the book's cells hold where it keeps lists of keys alone. -/
def bkF (v0 v1 : Value) (A T D U : Int) (i : Nat) : Value :=
  if i = 30 then v0 else if i = 31 then v1 else if i = 32 then .int .i64 A else if i = 72 then .int .i64 T else if i = 73 then .int .i64 D else if i = 74 then .int .i64 U
  else if i % 3 = 2 then .int .i64 0 else .slice none 0 0

def Bkc (w : World) (bk : Nat) (v0 v1 : Value) (A T D U : Int) : Prop := w.rowIs bk 50 75 (bkF v0 v1 A T D U)

/-- All blocks but one are as they were. -/
structure But (w w' : World) (bk : Nat) : Prop where
  os : w'.os = w.os
  tape : w'.tape = w.tape
  output : w'.output = w.output
  size : w'.heap.size = w.heap.size
  block : ∀ k, k ≠ bk → w'.heap[k]? = w.heap[k]?

theorem But.refl (w : World) (bk : Nat) : But w w bk := ⟨rfl, rfl, rfl, rfl, fun _ _ => rfl⟩
theorem But.trans {a b c : World} {bk : Nat} (h : But a b bk) (k : But b c bk) : But a c bk :=
  ⟨k.os.trans h.os, k.tape.trans h.tape, k.output.trans h.output, k.size.trans h.size, fun i hi => (k.block i hi).trans (h.block i hi)⟩
theorem But.setCell (w : World) (bk i : Nat) (u : Value) : But w (w.setCell ⟨bk, i, none⟩ u) bk :=
  ⟨rfl, rfl, rfl, by simp [World.setCell], fun k hk => Below.heap_setCell _ _ _ _ hk⟩
theorem But.drewN (w : World) (bk n : Nat) : But w (w.drewN n) bk := ⟨rfl, rfl, rfl, rfl, fun _ _ => rfl⟩

theorem bkF_T (v0 v1 : Value) (A T D U T' : Int) (i : Nat) : (if i = 72 then Value.int .i64 T' else bkF v0 v1 A T D U i) = bkF v0 v1 A T' D U i := by
  unfold bkF
  by_cases h : i = 72
  · subst h; rfl
  · simp [h]
theorem bkF_D (v0 v1 : Value) (A T D U D' : Int) (i : Nat) : (if i = 73 then Value.int .i64 D' else bkF v0 v1 A T D U i) = bkF v0 v1 A T D' U i := by
  unfold bkF
  by_cases h : i = 73
  · subst h; rfl
  · simp [h]
theorem bkF_U (v0 v1 : Value) (A T D U U' : Int) (i : Nat) : (if i = 74 then Value.int .i64 U' else bkF v0 v1 A T D U i) = bkF v0 v1 A T D U' i := by
  unfold bkF
  by_cases h : i = 74
  · subst h; rfl
  · simp [h]
theorem bkF_A (v0 v1 : Value) (A T D U A' : Int) (i : Nat) : (if i = 32 then Value.int .i64 A' else bkF v0 v1 A T D U i) = bkF v0 v1 A' T D U i := by
  unfold bkF
  by_cases h : i = 32
  · subst h; rfl
  · simp [h]
theorem bkF_0 (v0 v1 : Value) (A T D U : Int) (v' : Value) (i : Nat) : (if i = 30 then v' else bkF v0 v1 A T D U i) = bkF v' v1 A T D U i := by
  unfold bkF
  by_cases h : i = 30
  · subst h; rfl
  · simp [h]
theorem bkF_1 (v0 v1 : Value) (A T D U : Int) (v' : Value) (i : Nat) : (if i = 31 then v' else bkF v0 v1 A T D U i) = bkF v0 v' A T D U i := by
  unfold bkF
  by_cases h : i = 31
  · subst h; rfl
  · simp [h]
theorem bkF_at (v0 v1 : Value) (A T D U : Int) (o : Nat) (u : Value) (hu : bkF v0 v1 A T D U o = u) (i : Nat) : (if i = o then u else bkF v0 v1 A T D U i) = bkF v0 v1 A T D U i := by
  by_cases h : i = o
  · rw [if_pos h, h, hu]
  · rw [if_neg h]

set_option maxRecDepth 100000 in
set_option maxHeartbeats 400000 in
theorem tight_any (w : World) (bk : Nat) (v0 v1 : Value) (A T D U n : Int) (h : Bkc w bk v0 v1 A T D U) (hU0 : 0 ≤ U) (hU1 : U ≤ 16777216) (hn0 : 0 ≤ n) (hn1 : n ≤ 1099511627776) :
    Calls Tryz.prog 28 #[.pointer (some ⟨bk, 0, none⟩), .int .i64 n] w fun e w' => (e = .returned (.bool true) ∧ w' = w) ∨ (e = .returned (.bool false) ∧ Hid (U + n ≤ 16777216) ∧ Bkc w' bk v0 v1 A T D (U + n) ∧ But w w' bk) := by
  have hc := h.cell (i := 74) (by decide)
  have hc' : w.cell? ⟨bk, 74, none⟩ = some (.int .i64 U) := hc
  have hf := h.frozen 74
  have hlt := h.lt
  have H := hid h
  clear hc h
  by_cases hb : 16777216 < U + n
  · go_enter Tryz.func28, Tryz.ntmps28
    go_wp2
    go_ret
    exact .inl ⟨rfl, rfl⟩
  · have hb' : U + n ≤ 16777216 := by omega
    go_enter Tryz.func28, Tryz.ntmps28
    go_wp2
    go_ret
    exact .inr ⟨rfl, hid trivial, (H.out.set 74 _).congr (fun i _ => bkF_U v0 v1 A T D U (U + n) i), But.setCell _ _ _ _⟩
/-- What stands in a list of keys of that number. -/
def kyM (m : Nat) : Ky := ⟨false, m * 1048576, z16, -7⟩
theorem kyM_ok (m : Nat) (h : m ≤ 1099511627776) : (kyM m).ok := ⟨by show m * 1048576 < 18446744073709551616; omega, by show z16.length = 16; rfl, by show -9223372036854775808 ≤ (-7 : Int) ∧ (-7 : Int) ≤ 9223372036854775807; omega⟩
theorem built_km (n : Nat) : Tryz.prog.built 85 [(1, .int .u64 (n : Int)), (3, .int .i64 (-7))] = some (Ky.mk false n z16 (-7)).cells.toArray := by kernel_rfl
end Go.Proofs.YtlgjmhemgfjgnaaGreat
