/- A Hash in memory; waiting, Len, New. -/
import Derived.Test.YtmiojplbcjhggaaDoorWalkD
namespace Go.Proofs.YtmiojplbcjhggaaDoor
open Go Go.RowKit
open Go.RowKit (wrap32 wrap64)

/-- The cells of a Hash. -/
def hcs (s : S8) (r : List UInt8) (n : Nat) : List Value := s.cells ++ (Lib.byteCells r ++ [.int .u64 n])
theorem hcs_length (s : S8) (r : List UInt8) (n : Nat) (h : r.length = 64) : (hcs s r n).length = 73 := by simp [hcs, S8.cells_length, byteCells_length, h]
theorem hcs_taken (s : S8) (r : List UInt8) (n : Nat) (h : r.length = 64) : (hcs s r n)[72]? = some (.int .u64 n) := by
  have e : (s.cells ++ Lib.byteCells r).length = 72 := by simp [S8.cells_length, byteCells_length, h]
  rw [hcs, ← List.append_assoc, List.getElem?_append_right (by omega), e]
  rfl
theorem hcs_set (s : S8) (r : List UInt8) (n m : Nat) (h : r.length = 64) : (hcs s r n).set 72 (.int .u64 m) = hcs s r m := by
  have e : (s.cells ++ Lib.byteCells r).length = 72 := by simp [S8.cells_length, byteCells_length, h]
  rw [hcs, ← List.append_assoc, List.set_append_right _ _ (by omega), e, hcs, ← List.append_assoc]
  rfl
theorem hcs_state (s t : S8) (r : List UInt8) (n : Nat) : splice (hcs s r n) 0 t.cells = hcs t r n := by
  have := splice_mid [] s.cells (Lib.byteCells r ++ [.int .u64 n]) t.cells 0 rfl rfl
  exact this
/-- part of what is left written over. -/
theorem hcs_rest (s : S8) (p q g : List UInt8) (n : Nat) (h : q.length ≤ g.length) : splice (hcs s (p ++ g) n) (8 + p.length) (Lib.byteCells q) = hcs s (p ++ (q ++ g.drop q.length)) n := by
  have e : hcs s (p ++ g) n = (s.cells ++ Lib.byteCells p) ++ (Lib.byteCells (g.take q.length) ++ (Lib.byteCells (g.drop q.length) ++ [.int .u64 n])) := by
    have eg : Lib.byteCells g = Lib.byteCells (g.take q.length) ++ Lib.byteCells (g.drop q.length) := by rw [← byteCells_append, List.take_append_drop]
    rw [hcs, byteCells_append, eg]
    simp
  rw [e, splice_mid _ _ _ _ _ (by rw [List.length_append, S8.cells_length, byteCells_length]) (by rw [byteCells_length, byteCells_length, List.length_take]; omega), hcs, byteCells_append, byteCells_append]
  simp
/-- A Hash at block b that has taken l. -/
def Hs (w : World) (b : Nat) (l : List UInt8) : Prop := ∃ g : List UInt8, (rs l ++ g).length = 64 ∧ Blk w b (hcs (st l) (rs l ++ g) l.length) 75
theorem Hs.lt {w : World} {b : Nat} {l : List UInt8} (h : Hs w b l) : b < w.heap.size := by obtain ⟨_, _, h⟩ := h; exact h.lt
theorem Hs.on {w w' : World} {b : Nat} {l : List UInt8} {row : Option Nat} (h : Hs w b l) (hg : w.grownBy w' row) (hr : row ≠ some b) : Hs w' b l := by
  obtain ⟨g, h1, h2⟩ := h
  exact ⟨g, h1, h2.on hg hr⟩
theorem Hs.keep {w w' : World} {b : Nat} {l : List UInt8} (h : Hs w b l) (hg : w.grownBy w' none) : Hs w' b l := h.on hg (by simp)
theorem Hs.taken {w : World} {b : Nat} {l : List UInt8} (h : Hs w b l) : w.cell? ⟨b, 72, none⟩ = some (.int .u64 l.length) := by
  obtain ⟨g, h1, h2⟩ := h
  rw [h2.cell, hcs_taken _ _ _ h1]

set_option maxHeartbeats 400000 in
theorem waiting_any (n : Nat) (hn : n < 1152921504606846976) (b : Nat) (w : World) (hc : w.cell? ⟨b, 72, none⟩ = some (.int .u64 n)) :
    Calls Tryd.prog 34 #[.pointer (some ⟨b, 0, none⟩)] w fun e w' => e = .returned (.int .i64 (n % 64 : Nat)) ∧ w' = w := by
  have hn' : (n : Int) < 1152921504606846976 := by omega
  have hm : (n : Int) % 64 < 64 := by omega
  have hm0 : 0 ≤ (n : Int) % 64 := by omega
  go_enter Tryd.func34, Tryd.ntmps34
  go_wp2
  go_ret
  exact ⟨ret_int (by omega), rfl⟩
set_option maxHeartbeats 400000 in
theorem len_any (n : Nat) (b : Nat) (w : World) (hc : w.cell? ⟨b, 72, none⟩ = some (.int .u64 n)) :
    Calls Tryd.prog 21 #[.pointer (some ⟨b, 0, none⟩)] w fun e w' => e = .returned (.int .u64 n) ∧ w' = w := by
  go_enter Tryd.func21, Tryd.ntmps21
  go_wp2
  go_ret
  exact ⟨rfl, rfl⟩

def zb64 : List UInt8 := List.replicate 64 0
theorem Tryd.built75 : Tryd.prog.built 75 [(0, .agg H0.cells.toArray)] = some (hcs H0 zb64 0).toArray := by kernel_rfl
theorem wpList_build_one {P : Program} {ops : Array Oper} {rest : List Oper} {o : Oper} {a : Act} {w : World} {Q : Exit → Act → World → Prop} (hgd : o.guard = none) (t : TypeId) (i : Nat) (x : Operand) (ho : o.op = .build t #[(i, x)]) (v : Value) (hx : a.eval x = v) (z : List Value) (hz : P.built t [(i, v)] = some z.toArray)
    (h : wpList P ops Q rest (a.put o.dst (.agg z.toArray)) w) : wpList P ops Q (o :: rest) a w := by
  have e0 : ((#[(i, x)] : Array (Nat × Operand)).map fun (i, x) => (i, a.eval x)).toList = [(i, v)] := by simp [hx]
  have e : P.built t ((#[(i, x)] : Array (Nat × Operand)).map fun (i, x) => (i, a.eval x)).toList = some z.toArray := by rw [e0]; exact hz
  refine wpList_build hgd t #[(i, x)] ho (by rw [e]; rfl) ?_
  rw [e]
  exact h
set_option maxRecDepth 100000 in
set_option maxHeartbeats 400000 in
theorem new_any (w : World) (hg : Glob w) : Calls Tryd.prog 16 #[] w fun e w' => e = .returned (.pointer (some ⟨w.heap.size, 0, none⟩)) ∧ Hs w' w.heap.size [] ∧ w.grownBy w' none ∧ w'.heap.size = w.heap.size + 1 := by
  obtain ⟨hz, HZ⟩ : ∃ hz, Hid (hcs H0 zb64 0 = hz) := ⟨_, hid rfl⟩
  have HBt := hid Tryd.built75
  obtain ⟨h0, H00⟩ : ∃ h0, Hid (H0.cells = h0) := ⟨_, hid rfl⟩
  have HR := hid hg.h0
  have hsz : h0.length = 8 := by rw [← H00.out]; rfl
  have HS := hid hsz
  rw [HZ.out, H00.out] at HBt
  rw [H00.out] at HR
  clear hg hsz
  go_enter Tryd.func16, Tryd.ntmps16
  go_wp2_with (first
    | (refine wpList_load_part rfl 72 _ rfl 0 0 h0 _ rfl HR.out Tryd.underlying72 rfl (by rw [HS.out]; exact Tryd.size72) ?_)
    | (refine wpList_build_one rfl 75 0 _ rfl _ rfl hz HBt.out ?_)
    | (refine wpList_box_row rfl 75 _ rfl hz rfl ?_; intro w1 B1 s1 g1; have HB1 := hid B1; have HG1 := hid g1; have HS1 := hid s1; clear B1 g1 s1))
  go_ret
  exact ⟨rfl, ⟨zb64, rfl, by rw [← HZ.out] at HB1; exact HB1.out⟩, HG1.out, HS1.out⟩
end Go.Proofs.YtmiojplbcjhggaaDoor
