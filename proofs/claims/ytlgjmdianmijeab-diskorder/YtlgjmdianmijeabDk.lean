/- num, Within, works; DiskGreat's walk. -/
import Derived.Test.YtlgjmdianmijeabDj
import Derived.Laws.BytesArg
import Derived.Laws.BytesString
import Derived.Lib.SlBytesConst
namespace Go.Proofs.Ytlgjmdianmijeab
open Go Go.RowKit Go.MuLone
open Go.RowKit (wrap32 wrap64)

theorem num_any (E : Int) (w : World) : Calls Try.prog 9 #[.int .i64 E] w fun e w' => e = .returned (.int .i64 E) ∧ w' = w := by
  go_enter Try.func9, Try.ntmps9
  go_wp2
  go_ret
  exact ⟨rfl, rfl⟩
theorem within_any (x : Int) (n : Nat) (h0 : 0 < n) (hn : n ≤ 1152921504606846976) (w : World) : Calls Try.prog 7 #[.int .i64 x, .int .i64 n] w fun e w' => (∃ r : Nat, r < n ∧ e = .returned (.int .i64 r)) ∧ w' = w := by
  have h1 := Int.tmod_lt_of_pos x (show (0 : Int) < (n : Int) by omega)
  have h2 := Int.lt_tmod_of_pos x (show (0 : Int) < (n : Int) by omega)
  have h3 : ¬ (n : Int) = 0 := by omega
  go_enter Try.func7, Try.ntmps7
  go_wp2
  · go_ret
    exact ⟨⟨(x.tmod n + n).toNat, by omega, ret_int (by omega)⟩, rfl⟩
  · go_ret
    exact ⟨⟨(x.tmod n).toNat, by omega, ret_int (by omega)⟩, rfl⟩
/-- make: a row of zeros. -/
theorem make_any (w : World) (n : Nat) (hn : n ≤ 140737488355328) : ∃ w', (Instr.makeSlice 26 (.int .i64 (n : Int)) (.int .i64 (n : Int))).run Try.prog w = .ok (.slice (some ⟨w.heap.size, 0, none⟩) n n) w' ∧ Rd w' (fun g => w.heap.size = g) (.slice (some ⟨w.heap.size, 0, none⟩) n n) (List.replicate n 0) ∧ w.grownBy w' none := by
  refine ⟨_, run_make_row' (P := Try.prog) 26 5 (.int .u8 0) 1 Try.underlying26 Try.info5 rfl .i64 .i64 n (by omega) (by omega) w, ?_, galloc _ _ _⟩
  have hr := World.rowIs_made w (.int .u8 0) n 5
  refine ⟨some ⟨w.heap.size, 0, none⟩, w.heap.size, 0, n, by simp, by simp, (fun h => by cases h), fun _ => ⟨rfl, hr.lt, rfl⟩, fun i hi => ?_⟩
  have hi' : i < n := by simpa using hi
  rw [Nat.zero_add, hr.cell hi']
  simp
theorem strOfNums_list (l : List UInt8) : strOfNums (l.map fun b => (b.toNat : Int)) = ⟨l.toArray⟩ := by
  unfold strOfNums
  rw [List.map_map, show l.map ((fun n : Int => UInt8.ofNat n.toNat) ∘ fun b : UInt8 => (b.toNat : Int)) = l.map id from List.map_congr_left fun x _ => by simp, List.map_id]
theorem conv33 (w : World) (C : Array Value) (n c : Nat) : (convert 26 26 (.slice (some ⟨w.heap.size, 0, none⟩) n c)).run Try.prog (w.alloc (.cells C 5)) = .ok (.slice (some ⟨w.heap.size, 0, none⟩) n c) (w.alloc (.cells C 5 (C.size, C.size + 1))) := Lib.run_convert_bytes_const (P := Try.prog) w 26 5 C n c Try.underlying26 Try.underlying5
/-- string(b). -/
theorem Rd.convert {w : World} {F : Nat → Prop} {v : Value} {l : List UInt8} (h : Rd w F v l) : (convert 26 9 v).run Try.prog w = .ok (.string ⟨l.toArray⟩) w := by
  obtain ⟨a, b, off, c, rfl, hc, hn, ha, hcell⟩ := h
  by_cases hl : 0 < l.length
  · rw [(ha hl).1]
    have := run_convert_bytes_arg w 26 5 Try.underlying26 Try.underlying5 b off l.length c (l.map fun b => (b.toNat : Int)) (by simp) (fun i hi => by
      simp [hcell i hi, List.getD, List.getElem?_eq_getElem hi]) 9 Try.underlying9
    rw [this, strOfNums_list]
  · have : l = [] := by cases l with | nil => rfl | cons _ _ => simp at hl
    subst this
    rcases a with _ | ⟨b', o', sp⟩
    · exact run_convert_bytes_nil w 26 5 Try.underlying26 Try.underlying5 0 c 9 Try.underlying9
    · rw [run_convert_bytes_string w 26 9 5 _ _ _ Try.underlying26 Try.underlying5 Try.underlying9]
      have hl := run_loadCells_list (P := Try.prog) w ⟨b', o', sp⟩ [] (fun j v hj => by simp at hj)
      have := run_bytesToString (P := Try.prog) w ⟨b', o', sp⟩ 0 c [] (by simpa using hl)
      exact this
/-- The law's name of one letter. -/
def nmA : ByteArray := ⟨#[97]⟩
def nmB : ByteArray := ⟨#[98]⟩
theorem good_a : goodN ⟨#[97]⟩ = true := by decide +kernel
theorem good_b : goodN ⟨#[98]⟩ = true := by decide +kernel
/-- Two bytes in a slice of their own. -/
theorem rd_blk {w : World} {g : Nat} {l : List UInt8} (h : Blk w g (Lib.byteCells l) 5) (F : Nat → Prop) (hF : F g) : Rd w F (.slice (some ⟨g, 0, none⟩) l.length l.length) l := by
  refine ⟨some ⟨g, 0, none⟩, g, 0, l.length, rfl, Nat.le_refl _, (fun h => by cases h), fun _ => ⟨rfl, h.lt, hF⟩, fun i hi => ?_⟩
  rw [h.cell, Nat.zero_add]
  simp [Lib.byteCells, List.getElem?_eq_getElem hi]
/-- A disk that lies beyond w, with all that it has. -/
def Wd (w u : World) (b : Nat) (A : Ab) : Prop := DkP u w.heap.size b A (fun k => w.heap.size ≤ k ∧ k < u.heap.size) ∧ w.grownBy u none
theorem Wd.keep {w u u' : World} {b : Nat} {A : Ab} (h : Wd w u b A) (hg : u.grownBy u' none) : Wd w u' b A := ⟨(h.1.keep hg).mono (fun _ _ hk q => ⟨q.1, hk⟩), gtrans h.2 hg⟩
theorem Wd.step {w u u' : World} {b : Nat} {A A' : Ab} {Q : Nat → Prop} (h : Wd w u b A) (hd : DkP u' w.heap.size b A' Q) (hf : DF u u' (fun k => w.heap.size ≤ k ∧ k < u.heap.size)) : Wd w u' b A' :=
  ⟨hd.mono (fun _ h1 h2 _ => ⟨h1, h2⟩), ((DF.of h.2 (P := fun k => w.heap.size ≤ k)).trans hf (fun _ _ q => q.1)).grown (fun _ q => q)⟩
theorem lit_rd (w : World) (x : List UInt8) (fr : Nat × Nat) (cs : Array Value) (hcs : cs.toList = Lib.byteCells x) (n : Nat) (hn : n = x.length) : Rd (w.alloc (.cells cs 5 fr)) (fun k => k = w.heap.size) (.slice (some ⟨w.heap.size, 0, none⟩) n n) x := by
  subst hn
  have hh : (w.alloc (.cells cs 5 fr)).heap[w.heap.size]? = some (.cells cs 5 fr) := heap_alloc_new w _
  refine ⟨some ⟨w.heap.size, 0, none⟩, w.heap.size, 0, x.length, rfl, Nat.le_refl _, (fun h => by cases h), fun _ => ⟨rfl, (Array.getElem?_eq_some_iff.1 hh).1, rfl⟩, fun i hi => ?_⟩
  rw [Nat.zero_add, cell_of_row _ _ i _ 5 fr hh, ← Array.getElem?_toList, hcs]
  simp [Lib.byteCells, hi]
theorem Wd.lit {w u : World} {b : Nat} {A : Ab} (h : Wd w u b A) (s : ByteArray) (l : List UInt8) (cs : Array Value) (fr : Nat × Nat) (hc : cs.toList = Lib.byteCells l) (n : Nat) (hn : n = l.length) (hw : A.wr ≤ 4611686018427387904) :
    Calls Try.prog 18 #[.pointer (some ⟨b, 0, none⟩), .string s, .slice (some ⟨u.heap.size, 0, none⟩) n n] (u.alloc (.cells cs 5 fr)) fun e w' => e = .returned (.int .i64 (A.appE s l)) ∧ Wd w w' b (A.app s l) := by
  have hk := h.keep (galloc u (.cells cs 5 fr) none)
  have hk1 := h.1.keep (galloc u (.cells cs 5 fr) none)
  refine (append_p hk1 s (fun k => k = u.heap.size) _ _ _ l (lit_rd u l fr cs hc n hn) (fun k e q => by omega) hw).mono ?_
  rintro e w' ⟨rfl, hd, hf⟩
  exact ⟨rfl, hk.step hd (hf.mono (fun k q => ⟨q.1, by have := (galloc u (.cells cs 5 fr) none).size; omega⟩))⟩
def A0 : Ab := Ab.new 10
def A1 : Ab := A0.app ⟨#[97]⟩ [120, 121]
def A2 : Ab := A1.arm 1 1
def A3 : Ab := A2.app ⟨#[97]⟩ [122, 122]
def A4 : Ab := A3.on
theorem wk1 : A0.appE ⟨#[97]⟩ [120, 121] = 0 ∧ A0.wr = 0 := by decide +kernel
theorem wk2 : A2.appE ⟨#[97]⟩ [122, 122] = 94 ∧ A2.wr = 1 := by decide +kernel
theorem wk3 : A3.off = true := by decide +kernel
theorem wk4 : A4.fndE ⟨#[97]⟩ = 0 ∧ A4.fndB ⟨#[97]⟩ = [120, 121, 122] ∧ A4.wr = 2 := by decide +kernel
set_option maxRecDepth 100000 in
set_option maxHeartbeats 3200000 in
theorem works_any (w : World) : Calls Try.prog 5 #[] w fun e w' => e = .returned (.bool true) ∧ w.grownBy w' none := by
  have HNw : Hid (Calls Try.prog 17 #[.int .i64 10] w fun e w' => ∃ b, e = .returned (.tuple #[.pointer (some ⟨b, 0, none⟩), .int .i64 0]) ∧ Wd w w' b A0) := hid ((new_ok w 10 (by omega) (by omega)).mono fun e w' ⟨b, h1, h2, h3⟩ => ⟨b, h1, h2, h3⟩)
  have HA1 : Hid (∀ u b, Wd w u b A0 → Calls Try.prog 18 #[.pointer (some ⟨b, 0, none⟩), .string ⟨#[97]⟩, .slice (some ⟨u.heap.size, 0, none⟩) 2 2] (u.alloc (.cells #[.int .u8 120, .int .u8 121] 5 (2, 3))) fun e w' => e = .returned (.int .i64 0) ∧ Wd w w' b A1) := hid (fun u b h => by
    have := h.lit ⟨#[97]⟩ [120, 121] #[.int .u8 120, .int .u8 121] (2, 3) rfl 2 rfl (by rw [wk1.2]; omega)
    rw [wk1.1] at this
    exact this)
  have HA2 : Hid (∀ u b, Wd w u b A1 → Calls Try.prog 19 #[.pointer (some ⟨b, 0, none⟩), .int .i64 1, .int .i64 1] u fun e w' => e = .returned (.tuple #[]) ∧ Wd w w' b A2) := hid (fun u b h => (arm_p h.1 1 1 (by omega)).mono fun e w' ⟨h1, h2, h3⟩ => ⟨h1, h.step h2 h3⟩)
  have HA3 : Hid (∀ u b, Wd w u b A2 → Calls Try.prog 18 #[.pointer (some ⟨b, 0, none⟩), .string ⟨#[97]⟩, .slice (some ⟨u.heap.size, 0, none⟩) 2 2] (u.alloc (.cells #[.int .u8 122, .int .u8 122] 5 (2, 3))) fun e w' => e = .returned (.int .i64 94) ∧ Wd w w' b A3) := hid (fun u b h => by
    have := h.lit ⟨#[97]⟩ [122, 122] #[.int .u8 122, .int .u8 122] (2, 3) rfl 2 rfl (by rw [wk2.2]; omega)
    rw [wk2.1] at this
    exact this)
  have HOf : Hid (∀ u b, Wd w u b A3 → Calls Try.prog 13 #[.pointer (some ⟨b, 0, none⟩)] u fun e w' => e = .returned (.bool true) ∧ Wd w w' b A3) := hid (fun u b h => by
    have := off_p h.1
    rw [wk3] at this
    exact this.mono fun e w' ⟨h1, h2⟩ => ⟨h1, h.keep h2⟩)
  have HOn : Hid (∀ u b, Wd w u b A3 → Calls Try.prog 20 #[.pointer (some ⟨b, 0, none⟩)] u fun e w' => e = .returned (.tuple #[]) ∧ Wd w w' b A4) := hid (fun u b h => (on_p h.1).mono fun e w' ⟨h1, h2, h3⟩ => ⟨h1, h.step h2 h3⟩)
  have HRd : Hid (∀ u b, Wd w u b A4 → Calls Try.prog 21 #[.pointer (some ⟨b, 0, none⟩), .string ⟨#[97]⟩] u fun e w' => ∃ a c, e = .returned (.tuple #[.slice a 3 c, .int .i64 0]) ∧ Rd w' (fun _ => True) (.slice a 3 c) [120, 121, 122] ∧ Wd w w' b A4) := hid (fun u b h => by
    have := read_p h.1 ⟨#[97]⟩
    rw [wk4.1, wk4.2.1] at this
    refine this.mono ?_
    rintro e w' ⟨v, h1, h2, h3⟩
    obtain ⟨a, c, rfl⟩ := h2.len
    exact ⟨a, c, h1, h2.rd.mono (fun _ _ _ => trivial), h.keep h3⟩)
  have HWr : Hid (∀ u b, Wd w u b A4 → Calls Try.prog 12 #[.pointer (some ⟨b, 0, none⟩)] u fun e w' => e = .returned (.int .i64 2) ∧ Wd w w' b A4) := hid (fun u b h => by
    have := writes_p h.1
    rw [wk4.2.2] at this
    exact this.mono fun e w' ⟨h1, h2⟩ => ⟨h1, h.keep h2⟩)
  have hc33 := conv33
  go_enter Try.func5, Try.ntmps5
  go_wp2_with (first
    | (go_at_call 17; refine HNw.out.mono ?_; rintro e w1 ⟨b, rfl, hd⟩; have HD1 := hid hd; clear hd)
    | (go_at_call 9; refine (num_any _ _).mono ?_; rintro e wn ⟨rfl, rfl⟩)
    | (have := HD3; clear this; go_at_call 18; refine (HA3.out _ _ HD3.out).mono ?_; rintro e w4 ⟨rfl, hd⟩; have HD4 := hid hd; clear hd)
    | (go_at_call 18; refine (HA1.out _ _ HD1.out).mono ?_; rintro e w2 ⟨rfl, hd⟩; have HD2 := hid hd; clear hd)
    | (go_at_call 19; refine (HA2.out _ _ HD2.out).mono ?_; rintro e w3 ⟨rfl, hd⟩; have HD3 := hid hd; clear hd)
    | (go_at_call 13; refine (HOf.out _ _ HD4.out).mono ?_; rintro e w5 ⟨rfl, hd⟩; have HD5 := hid hd; clear hd)
    | (go_at_call 20; refine (HOn.out _ _ HD5.out).mono ?_; rintro e w6 ⟨rfl, hd⟩; have HD6 := hid hd; clear hd)
    | (go_at_call 21; refine (HRd.out _ _ HD6.out).mono ?_; rintro e w7 ⟨ra, rc, rfl, hr, hd⟩; have HD7 := hid hd; have hcv := hr.convert; clear hd hr)
    | (go_at_call 12; refine (HWr.out _ _ HD7.out).mono ?_; rintro e w8 ⟨rfl, hd⟩; have HD8 := hid hd; clear hd))
  go_ret
  exact ⟨rfl, HD8.out.2⟩
end Go.Proofs.Ytlgjmdianmijeab
