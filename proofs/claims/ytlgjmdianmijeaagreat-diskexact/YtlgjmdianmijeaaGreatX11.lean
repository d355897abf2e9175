/- num, Within, works; DiskGreat's walk. -/
import Derived.Test.YtlgjmdianmijeaaGreatX10
import Derived.Laws.BytesArg
import Derived.Laws.BytesString
import Derived.Lib.SlBytesConst
namespace Go.Proofs.YtlgjmdianmijeaaGreat
open Go Go.RowKit Go.MuLone
open Go.RowKit (wrap32 wrap64)

theorem num_any (E : Int) (w : World) : Calls Tryz.prog 12 #[.int .i64 E] w fun e w' => e = .returned (.int .i64 E) ∧ w' = w := by
  go_enter Tryz.func12, Tryz.ntmps12
  go_wp2
  go_ret
  exact ⟨rfl, rfl⟩
/-- make: a row of zeros. -/
theorem make_any (w : World) (n : Nat) (hn : n ≤ 140737488355328) : ∃ w', (Instr.makeSlice 58 (.int .i64 (n : Int)) (.int .i64 (n : Int))).run Tryz.prog w = .ok (.slice (some ⟨w.heap.size, 0, none⟩) n n) w' ∧ Rd w' (fun g => w.heap.size = g) (.slice (some ⟨w.heap.size, 0, none⟩) n n) (List.replicate n 0) ∧ w.grownBy w' none := by
  refine ⟨_, run_make_row' (P := Tryz.prog) 58 5 (.int .u8 0) 1 Tryz.underlying58 Tryz.info5 rfl .i64 .i64 n (by omega) (by omega) w, ?_, galloc _ _ _⟩
  have hr := World.rowIs_made w (.int .u8 0) n 5
  refine ⟨some ⟨w.heap.size, 0, none⟩, w.heap.size, 0, n, by simp, by simp, (fun h => by cases h), fun _ => ⟨rfl, hr.lt, rfl⟩, fun i hi => ?_⟩
  have hi' : i < n := by simpa using hi
  rw [Nat.zero_add, hr.cell hi']
  simp
theorem strOfNums_list (l : List UInt8) : strOfNums (l.map fun b => (b.toNat : Int)) = ⟨l.toArray⟩ := by
  unfold strOfNums
  rw [List.map_map, show l.map ((fun n : Int => UInt8.ofNat n.toNat) ∘ fun b : UInt8 => (b.toNat : Int)) = l.map id from List.map_congr_left fun x _ => by simp, List.map_id]
theorem conv33 (w : World) (C : Array Value) (n c : Nat) : (convert 58 58 (.slice (some ⟨w.heap.size, 0, none⟩) n c)).run Tryz.prog (w.alloc (.cells C 5)) = .ok (.slice (some ⟨w.heap.size, 0, none⟩) n c) (w.alloc (.cells C 5 (C.size, C.size + 1))) := Lib.run_convert_bytes_const (P := Tryz.prog) w 58 5 C n c Tryz.underlying58 Tryz.underlying5
/-- string(b). -/
theorem Rd.convert {w : World} {F : Nat → Prop} {v : Value} {l : List UInt8} (h : Rd w F v l) : (convert 58 9 v).run Tryz.prog w = .ok (.string ⟨l.toArray⟩) w := by
  obtain ⟨a, b, off, c, rfl, hc, hn, ha, hcell⟩ := h
  by_cases hl : 0 < l.length
  · rw [(ha hl).1]
    have := run_convert_bytes_arg w 58 5 Tryz.underlying58 Tryz.underlying5 b off l.length c (l.map fun b => (b.toNat : Int)) (by simp) (fun i hi => by
      simp [hcell i hi, List.getD, List.getElem?_eq_getElem hi]) 9 Tryz.underlying9
    rw [this, strOfNums_list]
  · have : l = [] := by cases l with | nil => rfl | cons _ _ => simp at hl
    subst this
    rcases a with _ | ⟨b', o', sp⟩
    · exact run_convert_bytes_nil w 58 5 Tryz.underlying58 Tryz.underlying5 0 c 9 Tryz.underlying9
    · rw [run_convert_bytes_string w 58 9 5 _ _ _ Tryz.underlying58 Tryz.underlying5 Tryz.underlying9]
      have hl := run_loadCells_list (P := Tryz.prog) w ⟨b', o', sp⟩ [] (fun j v hj => by simp at hj)
      have := run_bytesToString (P := Tryz.prog) w ⟨b', o', sp⟩ 0 c [] (by simpa using hl)
      exact this
/-- The law's name of one letter. -/
def nmA : ByteArray := ⟨#[97]⟩
def nmB : ByteArray := ⟨#[98]⟩
theorem good_a : goodN ⟨#[97]⟩ = true := by decide +kernel
theorem good_b : goodN ⟨#[98]⟩ = true := by decide +kernel
/-- Two bytes in a slice of their own. -/
theorem rd_blk {w : World} {g : Nat} {l : List UInt8} (h : Blk w g (Lib.byteCells l) 5) (F : Nat → Prop) (hF : F g) : Rd w F (.slice (some ⟨g, 0, none⟩) l.length l.length) l := by
  refine ⟨some ⟨g, 0, none⟩, g, 0, l.length, rfl, Nat.le_refl _, (fun h => by cases h), fun _ => ⟨rfl, h.lt, hF⟩, fun i hi => ?_⟩
  rw [h.cell, Nat.zero_add]
  simp [Lib.byteCells, List.getElem?_eq_getElem hi]
/-- A disk that lies beyond w, with all that it has. -/
def Wd (w u : World) (b : Nat) (A : Ab) : Prop := DkP u w.heap.size b A (fun k => w.heap.size ≤ k ∧ k < u.heap.size) ∧ w.grownBy u none
theorem Wd.keep {w u u' : World} {b : Nat} {A : Ab} (h : Wd w u b A) (hg : u.grownBy u' none) : Wd w u' b A := ⟨(h.1.keep hg).mono (fun _ _ hk q => ⟨q.1, hk⟩), gtrans h.2 hg⟩
theorem Wd.step {w u u' : World} {b : Nat} {A A' : Ab} {Q : Nat → Prop} (h : Wd w u b A) (hd : DkP u' w.heap.size b A' Q) (hf : DF u u' (fun k => w.heap.size ≤ k ∧ k < u.heap.size)) : Wd w u' b A' :=
  ⟨hd.mono (fun _ h1 h2 _ => ⟨h1, h2⟩), ((DF.of h.2 (P := fun k => w.heap.size ≤ k)).trans hf (fun _ _ q => q.1)).grown (fun _ q => q)⟩
theorem lit_rd (w : World) (x : List UInt8) (fr : Nat × Nat) (cs : Array Value) (hcs : cs.toList = Lib.byteCells x) (n : Nat) (hn : n = x.length) : Rd (w.alloc (.cells cs 5 fr)) (fun k => k = w.heap.size) (.slice (some ⟨w.heap.size, 0, none⟩) n n) x := by
  subst hn
  have hh : (w.alloc (.cells cs 5 fr)).heap[w.heap.size]? = some (.cells cs 5 fr) := heap_alloc_new w _
  refine ⟨some ⟨w.heap.size, 0, none⟩, w.heap.size, 0, x.length, rfl, Nat.le_refl _, (fun h => by cases h), fun _ => ⟨rfl, (Array.getElem?_eq_some_iff.1 hh).1, rfl⟩, fun i hi => ?_⟩
  rw [Nat.zero_add, cell_of_row _ _ i _ 5 fr hh, ← Array.getElem?_toList, hcs]
  simp [Lib.byteCells, hi]
theorem Wd.lit {w u : World} {b : Nat} {A : Ab} (h : Wd w u b A) (s : ByteArray) (l : List UInt8) (cs : Array Value) (fr : Nat × Nat) (hc : cs.toList = Lib.byteCells l) (n : Nat) (hn : n = l.length) (hw : A.wr ≤ 4611686018427387904) :
    Calls Tryz.prog 13 #[.pointer (some ⟨b, 0, none⟩), .string s, .slice (some ⟨u.heap.size, 0, none⟩) n n] (u.alloc (.cells cs 5 fr)) fun e w' => e = .returned (.int .i64 (A.appE s l)) ∧ Wd w w' b (A.app s l) := by
  have hk := h.keep (galloc u (.cells cs 5 fr) none)
  have hk1 := h.1.keep (galloc u (.cells cs 5 fr) none)
  refine (append_p hk1 s (fun k => k = u.heap.size) _ _ _ l (lit_rd u l fr cs hc n hn) (fun k e q => by omega) hw).mono ?_
  rintro e w' ⟨rfl, hd, hf⟩
  exact ⟨rfl, hk.step hd (hf.mono (fun k q => ⟨q.1, by have := (galloc u (.cells cs 5 fr) none).size; omega⟩))⟩
def A0 : Ab := Ab.new 10
def A1 : Ab := A0.app ⟨#[97]⟩ [120, 121]
def A2 : Ab := A1.arm 1 1
def A3 : Ab := A2.app ⟨#[97]⟩ [122, 122]
def A4 : Ab := A3.on
theorem wk1 : A0.appE ⟨#[97]⟩ [120, 121] = 0 ∧ A0.wr = 0 := by decide +kernel
theorem wk2 : A2.appE ⟨#[97]⟩ [122, 122] = 94 ∧ A2.wr = 1 := by decide +kernel
theorem wk3 : A3.off = true := by decide +kernel
theorem wk4 : A4.fndE ⟨#[97]⟩ = 0 ∧ A4.fndB ⟨#[97]⟩ = [120, 121, 122] ∧ A4.wr = 2 := by decide +kernel
set_option maxRecDepth 100000 in
set_option maxHeartbeats 3200000 in
theorem works_any (w : World) : Calls Tryz.prog 6 #[] w fun e w' => e = .returned (.bool true) ∧ w.grownBy w' none := by
  have HNw : Hid (Calls Tryz.prog 11 #[.int .i64 10] w fun e w' => ∃ b, e = .returned (.tuple #[.pointer (some ⟨b, 0, none⟩), .int .i64 0]) ∧ Wd w w' b A0) := hid ((new_ok w 10 (by omega) (by omega)).mono fun e w' ⟨b, h1, h2, h3⟩ => ⟨b, h1, h2, h3⟩)
  have HA1 : Hid (∀ u b, Wd w u b A0 → Calls Tryz.prog 13 #[.pointer (some ⟨b, 0, none⟩), .string ⟨#[97]⟩, .slice (some ⟨u.heap.size, 0, none⟩) 2 2] (u.alloc (.cells #[.int .u8 120, .int .u8 121] 5 (2, 3))) fun e w' => e = .returned (.int .i64 0) ∧ Wd w w' b A1) := hid (fun u b h => by
    have := h.lit ⟨#[97]⟩ [120, 121] #[.int .u8 120, .int .u8 121] (2, 3) rfl 2 rfl (by rw [wk1.2]; omega)
    rw [wk1.1] at this
    exact this)
  have HA2 : Hid (∀ u b, Wd w u b A1 → Calls Tryz.prog 14 #[.pointer (some ⟨b, 0, none⟩), .int .i64 1, .int .i64 1] u fun e w' => e = .returned (.tuple #[]) ∧ Wd w w' b A2) := hid (fun u b h => (arm_p h.1 1 1 (by omega)).mono fun e w' ⟨h1, h2, h3⟩ => ⟨h1, h.step h2 h3⟩)
  have HA3 : Hid (∀ u b, Wd w u b A2 → Calls Tryz.prog 13 #[.pointer (some ⟨b, 0, none⟩), .string ⟨#[97]⟩, .slice (some ⟨u.heap.size, 0, none⟩) 2 2] (u.alloc (.cells #[.int .u8 122, .int .u8 122] 5 (2, 3))) fun e w' => e = .returned (.int .i64 94) ∧ Wd w w' b A3) := hid (fun u b h => by
    have := h.lit ⟨#[97]⟩ [122, 122] #[.int .u8 122, .int .u8 122] (2, 3) rfl 2 rfl (by rw [wk2.2]; omega)
    rw [wk2.1] at this
    exact this)
  have HOf : Hid (∀ u b, Wd w u b A3 → Calls Tryz.prog 15 #[.pointer (some ⟨b, 0, none⟩)] u fun e w' => e = .returned (.bool true) ∧ Wd w w' b A3) := hid (fun u b h => by
    have := off_p h.1
    rw [wk3] at this
    exact this.mono fun e w' ⟨h1, h2⟩ => ⟨h1, h.keep h2⟩)
  have HOn : Hid (∀ u b, Wd w u b A3 → Calls Tryz.prog 16 #[.pointer (some ⟨b, 0, none⟩)] u fun e w' => e = .returned (.tuple #[]) ∧ Wd w w' b A4) := hid (fun u b h => (on_p h.1).mono fun e w' ⟨h1, h2, h3⟩ => ⟨h1, h.step h2 h3⟩)
  have HRd : Hid (∀ u b, Wd w u b A4 → Calls Tryz.prog 17 #[.pointer (some ⟨b, 0, none⟩), .string ⟨#[97]⟩] u fun e w' => ∃ a c, e = .returned (.tuple #[.slice a 3 c, .int .i64 0]) ∧ Rd w' (fun _ => True) (.slice a 3 c) [120, 121, 122] ∧ Wd w w' b A4) := hid (fun u b h => by
    have := read_p h.1 ⟨#[97]⟩
    rw [wk4.1, wk4.2.1] at this
    refine this.mono ?_
    rintro e w' ⟨v, h1, h2, h3⟩
    obtain ⟨a, c, rfl⟩ := h2.len
    exact ⟨a, c, h1, h2.rd.mono (fun _ _ _ => trivial), h.keep h3⟩)
  have HWr : Hid (∀ u b, Wd w u b A4 → Calls Tryz.prog 18 #[.pointer (some ⟨b, 0, none⟩)] u fun e w' => e = .returned (.int .i64 2) ∧ Wd w w' b A4) := hid (fun u b h => by
    have := writes_p h.1
    rw [wk4.2.2] at this
    exact this.mono fun e w' ⟨h1, h2⟩ => ⟨h1, h.keep h2⟩)
  have hc33 := conv33
  go_enter Tryz.func6, Tryz.ntmps6
  go_wp2_with (first
    | (go_at_call 11; refine HNw.out.mono ?_; rintro e w1 ⟨b, rfl, hd⟩; have HD1 := hid hd; clear hd)
    | (go_at_call 12; refine (num_any _ _).mono ?_; rintro e wn ⟨rfl, rfl⟩)
    | (have := HD3; clear this; go_at_call 13; refine (HA3.out _ _ HD3.out).mono ?_; rintro e w4 ⟨rfl, hd⟩; have HD4 := hid hd; clear hd)
    | (go_at_call 13; refine (HA1.out _ _ HD1.out).mono ?_; rintro e w2 ⟨rfl, hd⟩; have HD2 := hid hd; clear hd)
    | (go_at_call 14; refine (HA2.out _ _ HD2.out).mono ?_; rintro e w3 ⟨rfl, hd⟩; have HD3 := hid hd; clear hd)
    | (go_at_call 15; refine (HOf.out _ _ HD4.out).mono ?_; rintro e w5 ⟨rfl, hd⟩; have HD5 := hid hd; clear hd)
    | (go_at_call 16; refine (HOn.out _ _ HD5.out).mono ?_; rintro e w6 ⟨rfl, hd⟩; have HD6 := hid hd; clear hd)
    | (go_at_call 17; refine (HRd.out _ _ HD6.out).mono ?_; rintro e w7 ⟨ra, rc, rfl, hr, hd⟩; have HD7 := hid hd; have hcv := hr.convert; clear hd hr)
    | (go_at_call 18; refine (HWr.out _ _ HD7.out).mono ?_; rintro e w8 ⟨rfl, hd⟩; have HD8 := hid hd; clear hd))
  go_ret
  exact ⟨rfl, HD8.out.2⟩
end Go.Proofs.YtlgjmdianmijeaaGreat

namespace Go.Proofs.YtlgjmdianmijeaaGreat
open Go Go.RowKit Go.MapKept Go.MuLone
open Go.RowKit (wrap32 wrap64)

/-- The cells of files, one behind the other. -/
def fcs : List Fl → List Value
  | [] => []
  | f :: E => .string f.nm :: f.v :: fcs E
theorem fcs_len : ∀ E : List Fl, (fcs E).length = E.length * 2
  | [] => rfl
  | f :: E => by simp only [fcs, List.length_cons, fcs_len E]; omega
theorem fcs_app : ∀ (E : List Fl) (f : Fl), fcs (E ++ [f]) = fcs E ++ [.string f.nm, f.v]
  | [], f => rfl
  | g :: E, f => by simp only [List.cons_append, fcs, fcs_app E f]
theorem fcs_get : ∀ (E : List Fl) (i : Nat) (h : i < E.length), (fcs E)[i * 2]? = some (.string (E[i]).nm) ∧ (fcs E)[i * 2 + 1]? = some (E[i]).v
  | [], i, h => by cases h
  | f :: E, 0, h => ⟨rfl, rfl⟩
  | f :: E, i + 1, h => by
    have hi : i < E.length := by simpa using h
    have := fcs_get E i hi
    rw [show (i + 1) * 2 = i * 2 + 1 + 1 by omega, show i * 2 + 1 + 1 + 1 = (i * 2 + 1) + 1 + 1 by omega]
    simp only [fcs, List.getElem?_cons_succ, List.getElem_cons_succ]
    exact this
structure OutF (B : Nat) (w : World) (v : Value) (E : List Fl) : Prop where
  row : w.ownsRow B 130 2 v E.length (fcs E)
  own : ∀ f ∈ E, Out B w f.v f.bs
theorem own_ne {w : World} {B B' e e' q q' n n' : Nat} {v v' : Value} {xs xs' : List Value} (h : w.ownsRow B e q v n xs) (h' : w.ownsRow B' e' q' v' n' xs') (hne : e ≠ e') : ∀ k, v.ownBlock = some k → v'.ownBlock ≠ some k := fun k hk hk' => by
  rcases h.2 with ⟨rfl, _⟩ | ⟨g, cap, cur, rfl, _, hg, _⟩
  · cases hk
  · rcases h'.2 with ⟨rfl, _⟩ | ⟨g', cap', cur', rfl, _, hg', _⟩
    · cases hk'
    · injection hk with hk
      injection hk' with hk'
      have e1 : g = k := hk
      have e2 : g' = k := hk'
      subst e1
      rw [e2, hg] at hg'
      injection hg' with hg'
      injection hg' with _ h2 _
      exact hne h2
theorem OutF.keep {B : Nat} {w w' : World} {v : Value} {E : List Fl} (h : OutF B w v E) (hg : w.grownBy w' none) : OutF B w' v E := ⟨World.ownsRow.kept h.row hg (by cases v.ownBlock <;> simp), fun f hf => (h.own f hf).keep hg⟩
theorem OutF.nil {B : Nat} {w : World} {v : Value} (h : w.ownsRow B 130 2 v 0 []) : OutF B w v [] := ⟨h, fun f hf => by cases hf⟩
theorem OutF.len {B : Nat} {w : World} {v : Value} {E : List Fl} (h : OutF B w v E) : ∃ a c, v = .slice a E.length c := by
  rcases h.row.2 with ⟨h1, h2⟩ | ⟨g, cap, cur, h1, _⟩
  · exact ⟨none, 0, by rw [h1, h2]⟩
  · exact ⟨_, _, h1⟩
theorem Tryz.info130 : (Tryz.prog.info? 130).map (fun i => (i.zero, i.size, i.bytes)) = some (some (.agg [Value.string ⟨#[]⟩, .slice none 0 0].toArray), 2, 40) := by kernel_rfl
set_option maxRecDepth 100000 in
/-- append of one file. -/
theorem app_file {w : World} {B g : Nat} {vs : Value} {E : List Fl} {s : ByteArray} {bv : Value} {bs : List UInt8} (h : OutF B w vs E) (hb : Blk w g [.string s, bv] 130) (ho : Out B w bv bs) (hE : E.length ≤ 1000000) (hB : B ≤ w.heap.size) (ty : TypeId) :
    ∃ v' w', (Builtin.append_ #[66, 66] ty #[vs, .slice (some ⟨g, 0, none⟩) 1 1]).run Tryz.prog w = .ok v' w' ∧ OutF B w' v' (E ++ [⟨s, bv, bs⟩]) ∧ w.grownBy w' vs.ownBlock := by
  obtain ⟨inf, hi, hz0, hz1, hz2⟩ := info_parts Tryz.info130
  obtain ⟨ba, bc, hbv⟩ := ho.len
  obtain ⟨v', w', h1, h2, h3, _, h4⟩ := run_append_own_at (P := Tryz.prog) w B 66 ty 130 inf (.agg [Value.string ⟨#[]⟩, .slice none 0 0].toArray) 2 40 Tryz.underlying66 hi hz0 hz1 hz2 rfl (by decide) vs _ _ h.row ⟨g, 0, none⟩ 1 1 [.string s, bv] rfl (by
    intro j u hu
    rw [Addr.add_lit, Nat.zero_add]
    rcases (show j = 0 ∨ j = 1 ∨ 2 ≤ j by omega) with rfl | rfl | h2
    · injection hu with hu; subst hu; exact hb.cell 0
    · injection hu with hu; subst hu; exact hb.cell 1
    · have : ([Value.string s, bv] : List Value)[j]? = none := by simp; omega
      rw [this] at hu; cases hu) (by rw [hbv]; exact file_one s ba bs.length bc) (by unfold maxLen; omega) (by omega) hB
  refine ⟨v', w', h1, ⟨by rw [fcs_app, List.length_append]; exact h2, fun f hf => ?_⟩, h3⟩
  have hx : ∀ f : Fl, Out B w f.v f.bs → Out B w' f.v f.bs := fun f hf => hf.on h3 (fun k hk => own_ne h.row hf (by decide) k hk)
  rcases List.mem_append.1 hf with hf | hf
  · exact hx f (h.own f hf)
  · rw [List.mem_singleton.1 hf]
    exact hx ⟨s, bv, bs⟩ ho
theorem OutF.ar {B : Nat} {w : World} {v : Value} {E : List Fl} (h : OutF B w v E) : ∃ a g c, v = .slice a (cont E).length c ∧ ArF w (fun k => B ≤ k ∧ k < w.heap.size) a g 0 (cont E) := by
  rcases h.row.2 with ⟨h1, h2⟩ | ⟨g, cap, cur, h1, hB, hg, hle, hm, hs, ht⟩
  · have : E = [] := List.eq_nil_of_length_eq_zero h2
    subst this
    exact ⟨none, 0, 0, h1, (fun h => absurd h (by decide)), (fun i hi => absurd hi (by simp [cont]))⟩
  · have hlt := (Array.getElem?_eq_some_iff.1 hg).1
    refine ⟨_, g, cap, by rw [len_cont]; exact h1, ⟨fun _ => ⟨rfl, hlt, hB, hlt⟩, fun i hi => ?_⟩⟩
    have hi' : i < E.length := by rw [len_cont] at hi; exact hi
    have hget : (cont E)[i] = ((E[i]).nm, (E[i]).bs) := by simp [cont]
    obtain ⟨c1, c2⟩ := fcs_get E i hi'
    have hcell : ∀ j x, (fcs E)[j]? = some x → w.cell? ⟨g, j, none⟩ = some x := fun j x hx => by
      rw [← ht] at hx
      have hj : j < E.length * 2 := by
        have := (List.getElem?_eq_some_iff.1 hx).1
        rw [List.length_take] at this
        omega
      rw [List.getElem?_take, if_pos hj] at hx
      have hx' : cur[j]? = some x := by rw [← Array.getElem?_toList]; exact hx
      simp [World.cell?, hg, hx']
    rw [hget]
    refine ⟨by rw [Nat.zero_add]; exact hcell _ _ c1, (E[i]).v, by rw [Nat.zero_add]; exact hcell _ _ c2, ?_⟩
    have ho := h.own E[i] (List.getElem_mem _)
    obtain ⟨a, b, off, c, hv, hc, hn, ha, hcl⟩ := ho.rd
    refine ⟨a, b, off, c, hv, hc, hn, fun hl => ?_, hcl⟩
    obtain ⟨q1, q2, q3⟩ := ha hl
    refine ⟨q1, q2, ?_, q2⟩
    exact ho.block b (by rw [hv, q1]; rfl)
/-- Files in the order of their names. -/
def srtC (C : Cn) : Cn := (srtL (C.map (fun p => p.1.data.toList))).map (fun n => (⟨n.toArray⟩, (getC C ⟨n.toArray⟩).getD []))
theorem srtC_len (C : Cn) : (srtC C).length = C.length := by
  unfold srtC srtL
  rw [List.length_map, List.length_mergeSort, List.length_map]
theorem nmL_cont (F : List Fl) : nmL F = (cont F).map (fun p => p.1.data.toList) := by
  unfold nmL cont
  rw [List.map_map]
  rfl
end Go.Proofs.YtlgjmdianmijeaaGreat
