/- num, Within, works; DiskGreat's walk. -/
import Derived.Test.YtpbiofnncdneoaaDoorDj
import Derived.Laws.BytesArg
import Derived.Laws.BytesString
import Derived.Lib.SlBytesConst
namespace Go.Proofs.YtpbiofnncdneoaaDoor
open Go Go.RowKit Go.MuLone
open Go.RowKit (wrap32 wrap64)

theorem num_any (E : Int) (w : World) : Calls Tryd.prog 9 #[.int .i64 E] w fun e w' => e = .returned (.int .i64 E) ∧ w' = w := by
  go_enter Tryd.func9, Tryd.ntmps9
  go_wp2
  go_ret
  exact ⟨rfl, rfl⟩
theorem within_any (x : Int) (n : Nat) (h0 : 0 < n) (hn : n ≤ 1152921504606846976) (w : World) : Calls Tryd.prog 12 #[.int .i64 x, .int .i64 n] w fun e w' => (∃ r : Nat, r < n ∧ e = .returned (.int .i64 r)) ∧ w' = w := by
  have h1 := Int.tmod_lt_of_pos x (show (0 : Int) < (n : Int) by omega)
  have h2 := Int.lt_tmod_of_pos x (show (0 : Int) < (n : Int) by omega)
  have h3 : ¬ (n : Int) = 0 := by omega
  go_enter Tryd.func12, Tryd.ntmps12
  go_wp2
  · go_ret
    exact ⟨⟨(x.tmod n + n).toNat, by omega, ret_int (by omega)⟩, rfl⟩
  · go_ret
    exact ⟨⟨(x.tmod n).toNat, by omega, ret_int (by omega)⟩, rfl⟩
/-- make: a row of zeros. -/
theorem make_any (w : World) (n : Nat) (hn : n ≤ 140737488355328) : ∃ w', (Instr.makeSlice 36 (.int .i64 (n : Int)) (.int .i64 (n : Int))).run Tryd.prog w = .ok (.slice (some ⟨w.heap.size, 0, none⟩) n n) w' ∧ Rd w' (fun g => w.heap.size = g) (.slice (some ⟨w.heap.size, 0, none⟩) n n) (List.replicate n 0) ∧ w.grownBy w' none := by
  refine ⟨_, run_make_row' (P := Tryd.prog) 36 5 (.int .u8 0) 1 Tryd.underlying36 Tryd.info5 rfl .i64 .i64 n (by omega) (by omega) w, ?_, galloc _ _ _⟩
  have hr := World.rowIs_made w (.int .u8 0) n 5
  refine ⟨some ⟨w.heap.size, 0, none⟩, w.heap.size, 0, n, by simp, by simp, (fun h => by cases h), fun _ => ⟨rfl, hr.lt, rfl⟩, fun i hi => ?_⟩
  have hi' : i < n := by simpa using hi
  rw [Nat.zero_add, hr.cell hi']
  simp
theorem strOfNums_list (l : List UInt8) : strOfNums (l.map fun b => (b.toNat : Int)) = ⟨l.toArray⟩ := by
  unfold strOfNums
  rw [List.map_map, show l.map ((fun n : Int => UInt8.ofNat n.toNat) ∘ fun b : UInt8 => (b.toNat : Int)) = l.map id from List.map_congr_left fun x _ => by simp, List.map_id]
theorem conv33 (w : World) (C : Array Value) (n c : Nat) : (convert 36 36 (.slice (some ⟨w.heap.size, 0, none⟩) n c)).run Tryd.prog (w.alloc (.cells C 5)) = .ok (.slice (some ⟨w.heap.size, 0, none⟩) n c) (w.alloc (.cells C 5 (C.size, C.size + 1))) := Lib.run_convert_bytes_const (P := Tryd.prog) w 36 5 C n c Tryd.underlying36 Tryd.underlying5
/-- string(b). -/
theorem Rd.convert {w : World} {F : Nat → Prop} {v : Value} {l : List UInt8} (h : Rd w F v l) : (convert 36 9 v).run Tryd.prog w = .ok (.string ⟨l.toArray⟩) w := by
  obtain ⟨a, b, off, c, rfl, hc, hn, ha, hcell⟩ := h
  by_cases hl : 0 < l.length
  · rw [(ha hl).1]
    have := run_convert_bytes_arg w 36 5 Tryd.underlying36 Tryd.underlying5 b off l.length c (l.map fun b => (b.toNat : Int)) (by simp) (fun i hi => by
      simp [hcell i hi, List.getD, List.getElem?_eq_getElem hi]) 9 Tryd.underlying9
    rw [this, strOfNums_list]
  · have : l = [] := by cases l with | nil => rfl | cons _ _ => simp at hl
    subst this
    rcases a with _ | ⟨b', o', sp⟩
    · exact run_convert_bytes_nil w 36 5 Tryd.underlying36 Tryd.underlying5 0 c 9 Tryd.underlying9
    · rw [run_convert_bytes_string w 36 9 5 _ _ _ Tryd.underlying36 Tryd.underlying5 Tryd.underlying9]
      have hl := run_loadCells_list (P := Tryd.prog) w ⟨b', o', sp⟩ [] (fun j v hj => by simp at hj)
      have := run_bytesToString (P := Tryd.prog) w ⟨b', o', sp⟩ 0 c [] (by simpa using hl)
      exact this
/-- The law's name of one letter. -/
def nmA : ByteArray := ⟨#[97]⟩
def nmB : ByteArray := ⟨#[98]⟩
theorem good_a : goodN ⟨#[97]⟩ = true := by decide +kernel
theorem good_b : goodN ⟨#[98]⟩ = true := by decide +kernel
/-- Two bytes in a slice of their own. -/
theorem rd_blk {w : World} {g : Nat} {l : List UInt8} (h : Blk w g (Lib.byteCells l) 5) (F : Nat → Prop) (hF : F g) : Rd w F (.slice (some ⟨g, 0, none⟩) l.length l.length) l := by
  refine ⟨some ⟨g, 0, none⟩, g, 0, l.length, rfl, Nat.le_refl _, (fun h => by cases h), fun _ => ⟨rfl, h.lt, hF⟩, fun i hi => ?_⟩
  rw [h.cell, Nat.zero_add]
  simp [Lib.byteCells, List.getElem?_eq_getElem hi]
/-- A disk that lies beyond w, with all that it has. -/
def Wd (w u : World) (b : Nat) (A : Ab) : Prop := DkP u w.heap.size b A (fun k => w.heap.size ≤ k ∧ k < u.heap.size) ∧ w.grownBy u none
theorem Wd.keep {w u u' : World} {b : Nat} {A : Ab} (h : Wd w u b A) (hg : u.grownBy u' none) : Wd w u' b A := ⟨(h.1.keep hg).mono (fun _ _ hk q => ⟨q.1, hk⟩), gtrans h.2 hg⟩
theorem Wd.step {w u u' : World} {b : Nat} {A A' : Ab} {Q : Nat → Prop} (h : Wd w u b A) (hd : DkP u' w.heap.size b A' Q) (hf : DF u u' (fun k => w.heap.size ≤ k ∧ k < u.heap.size)) : Wd w u' b A' :=
  ⟨hd.mono (fun _ h1 h2 _ => ⟨h1, h2⟩), ((DF.of h.2 (P := fun k => w.heap.size ≤ k)).trans hf (fun _ _ q => q.1)).grown (fun _ q => q)⟩
theorem lit_rd (w : World) (x : List UInt8) (fr : Nat × Nat) (cs : Array Value) (hcs : cs.toList = Lib.byteCells x) (n : Nat) (hn : n = x.length) : Rd (w.alloc (.cells cs 5 fr)) (fun k => k = w.heap.size) (.slice (some ⟨w.heap.size, 0, none⟩) n n) x := by
  subst hn
  have hh : (w.alloc (.cells cs 5 fr)).heap[w.heap.size]? = some (.cells cs 5 fr) := heap_alloc_new w _
  refine ⟨some ⟨w.heap.size, 0, none⟩, w.heap.size, 0, x.length, rfl, Nat.le_refl _, (fun h => by cases h), fun _ => ⟨rfl, (Array.getElem?_eq_some_iff.1 hh).1, rfl⟩, fun i hi => ?_⟩
  rw [Nat.zero_add, cell_of_row _ _ i _ 5 fr hh, ← Array.getElem?_toList, hcs]
  simp [Lib.byteCells, hi]
theorem Wd.lit {w u : World} {b : Nat} {A : Ab} (h : Wd w u b A) (s : ByteArray) (l : List UInt8) (cs : Array Value) (fr : Nat × Nat) (hc : cs.toList = Lib.byteCells l) (n : Nat) (hn : n = l.length) (hw : A.wr ≤ 4611686018427387904) :
    Calls Tryd.prog 32 #[.pointer (some ⟨b, 0, none⟩), .string s, .slice (some ⟨u.heap.size, 0, none⟩) n n] (u.alloc (.cells cs 5 fr)) fun e w' => e = .returned (.int .i64 (A.appE s l)) ∧ Wd w w' b (A.app s l) := by
  have hk := h.keep (galloc u (.cells cs 5 fr) none)
  have hk1 := h.1.keep (galloc u (.cells cs 5 fr) none)
  refine (append_p hk1 s (fun k => k = u.heap.size) _ _ _ l (lit_rd u l fr cs hc n hn) (fun k e q => by omega) hw).mono ?_
  rintro e w' ⟨rfl, hd, hf⟩
  exact ⟨rfl, hk.step hd (hf.mono (fun k q => ⟨q.1, by have := (galloc u (.cells cs 5 fr) none).size; omega⟩))⟩
end Go.Proofs.YtpbiofnncdneoaaDoor
