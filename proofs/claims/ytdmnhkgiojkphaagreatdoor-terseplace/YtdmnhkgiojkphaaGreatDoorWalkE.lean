/- The walks of number, word. -/
import Derived.Test.YtdmnhkgiojkphaaGreatDoorX04
import Derived.Deep.CutRange
namespace Go.Proofs.YtdmnhkgiojkphaaGreatDoor
open Go Go.RowKit
open Go.RowKit (wrap32 wrap64)

/-- What a word counts, or the error. -/
def numR (w : List UInt8) : Except Int Int :=
  if isNum w = false then .error 22
  else match Lib.parseIntB 64 w with
    | .ok v => if w = [45, 48] then .error 23 else .ok v
    | _ => .error 23
def NumEnds (r : Except Int Int) (p : Nat) (e : Ending) : Prop :=
  match r with
  | .ok v => e = .returned (.int .i64 v)
  | .error c => e = faulted c p

theorem bytesWorld_grown (w : World) (t : ByteArray) : w.grownBy (Lib.bytesWorld w 5 t) none := gof (Lib.bytesWorld_below w 5 t) none

theorem str_eq (s : ByteArray) (l : List UInt8) : (s.toList == l) = decide (s.data.toList = l) := by
  rw [ByteArray.toList_eq]
  by_cases h : s.data.toList = l
  · rw [h]; simp
  · rw [decide_eq_false h, beq_eq_false_iff_ne]; exact h

set_option maxRecDepth 100000 in
set_option maxHeartbeats 1000000 in
theorem number_any (w : World) (b : Nat) (s wd : ByteArray) (p : Nat) (d : Int) (h : Rdr w b s p d) (hG : Glob w) (hs : wd.size ≤ 1099511627776) :
    Calls Tryz.prog 147 #[.pointer (some ⟨b, 0, none⟩), .string wd] w fun e w' => NumEnds (numR wd.data.toList) p e ∧ w.grownBy w' none := by
  go_enter Tryz.func147, Tryz.ntmps147
  go_wp2_with fail
  refine (isNumber_any wd w hs).mono ?_
  rintro e w1 ⟨rfl, hg1⟩
  cases hn : isNum wd.data.toList with
  | false =>
    have HF : Hid (numR wd.data.toList = .error 22) := by unfold numR; rw [hn, if_pos rfl]; exact rfl
    clear hn
    go_wp2_with (go_at_call 81; refine (fault_any _ b s p d 22 (h.kept hg1)).mono ?_; rintro e w2 ⟨rfl, hg2⟩)
    exact ⟨rfl, by rw [HF.out]; rfl, gtrans hg1 hg2⟩
  | true =>
    have hG1 := hG.grown hg1 (fun k hk => by cases hk)
    obtain ⟨_, ⟨te4, pe4, h4⟩, ⟨te5, pe5, h5⟩, _⟩ := hG1.here
    have hr1 := h.kept hg1
    have HR1 := hid hr1
    clear hr1
    cases hp : Lib.parseIntB 64 wd.data.toList with
    | ok v =>
      go_wp2_with fail
      refine (Tryz.strconv_ParseInt_10_at64_ok wd (by omega) v hp w1).mono ?_
      rintro e w2 ⟨rfl, hw2⟩
      have hg2 : w1.grownBy w2 none := by
        rcases hw2 with rfl | ⟨t, rfl⟩
        · exact grefl _ _
        · exact bytesWorld_grown _ _
      clear hw2
      by_cases hz : wd.data.toList = [45, 48]
      · have HF : Hid (numR wd.data.toList = .error 23) := by unfold numR; rw [hn, if_neg (by simp), hp]; simp only []; rw [if_pos hz]; exact rfl
        have hzb : (wd.toList == [45, 48]) = true := by rw [str_eq, decide_eq_true hz]
        clear hz hn hp
        go_wp2_with (go_at_call 81; refine (fault_any _ b s p d 23 (HR1.out.kept hg2)).mono ?_; rintro e w3 ⟨rfl, hg3⟩)
        exact ⟨rfl, by rw [HF.out]; rfl, gtrans hg1 (gtrans hg2 hg3)⟩
      · have HF : Hid (numR wd.data.toList = .ok v) := by unfold numR; rw [hn, if_neg (by simp), hp]; simp only []; rw [if_neg hz]; exact rfl
        have hzb : (wd.toList == [45, 48]) = false := by rw [str_eq, decide_eq_false hz]
        clear hz hn hp
        go_wp2_with fail
        go_ret
        exact ⟨by rw [HF.out]; rfl, gtrans hg1 hg2⟩
    | «syntax» =>
      have HF : Hid (numR wd.data.toList = .error 23) := by unfold numR; rw [hn, if_neg (by simp), hp]; exact rfl
      go_wp2_with fail
      refine (Tryz.strconv_ParseInt_10_at64_syntax wd (by omega) hp _ w1 h4 (.inr ⟨_, _, rfl⟩)).mono ?_
      rintro e w2 ⟨N, rfl, _, _, hb2⟩
      go_wp2_with (go_at_call 81; refine (fault_any _ b s p d 23 (HR1.out.kept (gof hb2 none))).mono ?_; rintro e w3 ⟨rfl, hg3⟩)
      exact ⟨rfl, by rw [HF.out]; rfl, gtrans hg1 (gtrans (gof hb2 none) hg3)⟩
    | range =>
      have HF : Hid (numR wd.data.toList = .error 23) := by unfold numR; rw [hn, if_neg (by simp), hp]; exact rfl
      go_wp2_with fail
      refine (Tryz.strconv_ParseInt_10_at64_range wd (by omega) hp _ w1 h5 (.inr ⟨_, _, rfl⟩)).mono ?_
      rintro e w2 ⟨N, rfl, _, _, hb2⟩
      go_wp2_with (go_at_call 81; refine (fault_any _ b s p d 23 (HR1.out.kept (gof hb2 none))).mono ?_; rintro e w3 ⟨rfl, hg3⟩)
      exact ⟨rfl, by rw [HF.out]; rfl, gtrans hg1 (gtrans (gof hb2 none) hg3)⟩

theorem gdrew1 (w : World) (row : Option Nat) : w.grownBy w.drew row := ⟨rfl, rfl, rfl, Nat.le_refl _, fun _ _ _ => rfl⟩
theorem galloc (w : World) (o : Obj) (row : Option Nat) : w.grownBy (w.alloc o) row := World.grownBy_alloc w o row
/-- A block of six cells: what its cells hold, and that they may be written. -/
theorem cells6 {w : World} {k : Nat} {a b c d e f : Value} {t : TypeId} (h : w.heap[k]? = some (.cells #[a, b, c, d, e, f] t (0, 0))) :
    (w.cell? ⟨k, 0, none⟩ = some a ∧ w.cell? ⟨k, 1, none⟩ = some b ∧ w.cell? ⟨k, 2, none⟩ = some c ∧ w.cell? ⟨k, 3, none⟩ = some d ∧ w.cell? ⟨k, 4, none⟩ = some e ∧ w.cell? ⟨k, 5, none⟩ = some f) ∧ ∀ o, w.frozen? ⟨k, o, none⟩ = false := by
  refine ⟨?_, ?_⟩
  · simp [World.cell?, h]
  · intro o; simp [World.frozen?, h]

theorem Rdr.far {w w' : World} {b k : Nat} {s : ByteArray} {p d : Int} (h : Rdr w b s p d) (hg : w.grownBy w' (some k)) (hne : b ≠ k) : Rdr w' b s p d := by
  unfold Rdr at h ⊢
  rw [hg.block b (Array.getElem?_eq_some_iff.1 h).1 (by simpa using hne), h]
/-- Six cells of a block written one behind the other. -/
def put6 (w : World) (k : Nat) (a b c d e f : Value) : World :=
  (((((w.setCell ⟨k, 0, none⟩ a).setCell ⟨k, 1, none⟩ b).setCell ⟨k, 2, none⟩ c).setCell ⟨k, 3, none⟩ d).setCell ⟨k, 4, none⟩ e).setCell ⟨k, 5, none⟩ f
theorem put6_grown (w : World) (k : Nat) (a b c d e f : Value) : w.grownBy (put6 w k a b c d e f) (some k) :=
  gtrans (gset w ⟨k, 0, none⟩ a) (gtrans (gset _ ⟨k, 1, none⟩ b) (gtrans (gset _ ⟨k, 2, none⟩ c) (gtrans (gset _ ⟨k, 3, none⟩ d) (gtrans (gset _ ⟨k, 4, none⟩ e) (gset _ ⟨k, 5, none⟩ f)))))
theorem put6_heap {w : World} {k : Nat} {a0 b0 c0 d0 e0 f0 : Value} {t : TypeId} (h : w.heap[k]? = some (.cells #[a0, b0, c0, d0, e0, f0] t (0, 0))) (a b c d e f : Value) : (put6 w k a b c d e f).heap[k]? = some (.cells #[a, b, c, d, e, f] t (0, 0)) := by
  simp [put6, World.setCell, Array.getElem?_modify, h]
theorem alloc_keeps {w : World} {k : Nat} {x : Obj} (h : w.heap[k]? = some x) (o : Obj) : (w.alloc o).heap[k]? = some x := by
  rw [Below.heap_alloc w o k (Array.getElem?_eq_some_iff.1 h).1, h]

/-- A value without keys and items. -/
def leafV (t : Tree) : Value := .agg #[.int .i64 t.kind, .bool t.flag, .int .i64 t.n, .string t.text, .slice none 0 0, .slice none 0 0]
/-- How word ends. -/
def WordEnds (r : Except Int Tree) (b : Nat) (s : ByteArray) (p len : Nat) (d : Int) (e : Ending) (w' : World) : Prop :=
  match r with
  | .ok t => e = .returned (leafV t) ∧ Rdr w' b s (p + len : Nat) d
  | .error c => e = faulted c p ∧ Rdr w' b s p d

theorem readWord_num {w : List UInt8} (h1 : w ≠ nullW) (h2 : w ≠ falseW) (h3 : w ≠ trueW) : readWord w = match numR w with | .ok v => .ok (.mk 3 false v ⟨#[]⟩ [] []) | .error c => .error c := by
  unfold readWord numR
  rw [if_neg h1, if_neg h2, if_neg h3]
  by_cases h4 : isNum w = false
  · rw [if_pos h4, if_pos h4]
  · rw [if_neg h4, if_neg h4]
    cases Lib.parseIntB 64 w with
    | ok v =>
      simp only []
      by_cases h5 : w = [45, 48]
      · rw [if_pos h5, if_pos h5]
      · rw [if_neg h5, if_neg h5]
    | «syntax» => rfl
    | range => rfl

set_option maxRecDepth 100000 in
set_option maxHeartbeats 1000000 in
theorem word_any (w : World) (b : Nat) (s : ByteArray) (p : Nat) (d : Int) (h : Rdr w b s p d) (hG : Glob w) (hp : p ≤ s.size) (hs : s.size ≤ 4294967280) :
    Calls Tryz.prog 80 #[.pointer (some ⟨b, 0, none⟩)] w fun e w' => WordEnds (readWord (wordOf (from_ s p))) b s p (wordOf (from_ s p)).length d e w' ∧ w.grownBy w' (some b) := by
  have h0 := h.text
  have h1 := h.at_
  have hf := h.free
  have hlt := h.lt
  have hne : ¬ b = w.heap.size := by omega
  have hpi : (p : Int) ≤ (s.size : Int) := by omega
  obtain ⟨s1, e1⟩ : ∃ s1, s.extract p s.size = s1 := ⟨_, rfl⟩
  obtain ⟨hl1, hz1⟩ := extk e1
  have hl1' : s1.data.toList = from_ s p := hl1
  obtain ⟨wd, hwd⟩ : ∃ wd, str (wordOf (from_ s p)) = wd := ⟨_, rfl⟩
  have hwl : wordOf (from_ s p) = wd.data.toList := by rw [← hwd, str_list]
  have hwle := wordOf_le (from_ s p)
  rw [from_length, hwl, length_data] at hwle
  rw [hwl, length_data]
  have hcall : ∀ w, Calls Tryz.prog 146 #[.string s1] w fun e w' => e = .returned (.string wd) ∧ w.grownBy w' none := fun w => by
    have := wordAhead_any s1 w (by omega)
    rw [hl1', hwd] at this
    exact this
  have HC := hid hcall
  have HR := hid h
  clear hcall h hl1 hl1' hz1 hwd hwl
  by_cases c1 : wd.data.toList = nullW
  · have HF : Hid (readWord wd.data.toList = .ok (.mk 1 false 0 ⟨#[]⟩ [] [])) := by rw [c1]; exact rfl
    have b1 : (wd.toList == [110, 117, 108, 108]) = true := by rw [str_eq]; exact decide_eq_true c1
    clear c1
    go_enter Tryz.func80, Tryz.ntmps80
    go_wp2_with fail
    go_cut [3] from 5 to 14 (fun s3 wc => s3 = .string wd ∧ ∃ g : (w.alloc (.cells #[.int .i64 0, .bool false, .int .i64 0, .string ⟨#[]⟩, .slice none 0 0, .slice none 0 0] 26)).drew.grownBy wc none, True)
    case first =>
      go_region_with (go_at_call 146; refine (HC.out _).mono ?_; rintro e w2 ⟨rfl, hg2⟩)
      all_goals (go_wp2_with fail; go_meet; exact ⟨rfl, ‹_›, trivial⟩)
    case rest =>
      obtain ⟨rfl, hg2, _⟩ := hcut
      have hg : w.grownBy wc none := gtrans (galloc w _ none) (gtrans (gdrew1 _ none) hg2)
      have g1 : wc.heap[w.heap.size]? = some (.cells #[.int .i64 0, .bool false, .int .i64 0, .string ⟨#[]⟩, .slice none 0 0, .slice none 0 0] 26 (0, 0)) := by
        rw [hg2.block _ (by show w.heap.size < (w.heap.push _).size; simp) (by simp)]
        exact heap_alloc_new w _
      have hsz : w.heap.size < wc.heap.size := (Array.getElem?_eq_some_iff.1 g1).1
      have g2 : Rdr wc b s p d := HR.out.kept hg
      have q1 := g2.at_
      have q2 := g2.free
      have q3 := g2.lt
      obtain ⟨⟨z0, z1, z2, z3, z4, z5⟩, zf⟩ := cells6 g1
      have HG := hid hg
      have HG1 := hid g1
      have HG2 := hid g2
      have n1 : ¬ b = wc.heap.size := by omega
      have n2 : ¬ w.heap.size = wc.heap.size := by omega
      clear hg g1 g2 hg2 h0 h1 hf
      go_wp2_with fail
      have HFin := put6_heap (w := wc.setCell ⟨b, 1, none⟩ (.int .i64 ((p : Int) + (wd.size : Int)))) (by rw [Below.heap_setCell _ _ _ _ (by show w.heap.size ≠ b; omega)]; exact HG1.out) (.int .i64 1) (.bool false) (.int .i64 0) (.string ⟨#[]⟩) (.slice none 0 0) (.slice none 0 0)
      obtain ⟨⟨y0, y1, y2, y3, y4, y5⟩, _⟩ := cells6 (alloc_keeps HFin (.cells #[.int .i64 1, .bool false, .int .i64 0, .string ⟨#[]⟩, .slice none 0 0, .slice none 0 0] 26))
      unfold put6 at y0 y1 y2 y3 y4 y5
      refine bodyPost_ret (v := .agg #[.int .i64 1, .bool false, .int .i64 0, .string ⟨#[]⟩, .slice none 0 0, .slice none 0 0]) ?_ rfl ⟨?_, ?_⟩
      · simp [results, Tryz.results80, go_sem, y0, y1, y2, y3, y4, y5]
      · rw [HF.out]
        refine ⟨rfl, ?_⟩
        have hR := (HG2.out.set ((p : Int) + (wd.size : Int))).far (put6_grown _ w.heap.size (.int .i64 1) (.bool false) (.int .i64 0) (.string ⟨#[]⟩) (.slice none 0 0) (.slice none 0 0)) (by omega)
        rw [show ((p + wd.size : Nat) : Int) = (p : Int) + (wd.size : Int) by omega]
        exact hR.kept (galloc _ _ none)
      · exact (((HG.out.but (some b)).andThen (gset wc ⟨b, 1, none⟩ _) (fun j hj => .inr hj)).andThen (put6_grown _ w.heap.size (.int .i64 1) (.bool false) (.int .i64 0) (.string ⟨#[]⟩) (.slice none 0 0) (.slice none 0 0)) (fun j hj => .inl (by injection hj with hj; omega))).andThen (galloc _ _ none) (fun j hj => by cases hj)
  · have b1 : (wd.toList == [110, 117, 108, 108]) = false := by rw [str_eq]; exact decide_eq_false c1
    by_cases c2 : wd.data.toList = falseW
    · have HF : Hid (readWord wd.data.toList = .ok (.mk 2 false 0 ⟨#[]⟩ [] [])) := by rw [c2]; exact rfl
      have b2 : (wd.toList == [102, 97, 108, 115, 101]) = true := by rw [str_eq]; exact decide_eq_true c2
      have b3 : (wd.toList == [116, 114, 117, 101]) = false := by rw [str_eq, c2]; rfl
      clear c1 c2
      go_enter Tryz.func80, Tryz.ntmps80
      go_wp2_with fail
      go_cut [3] from 5 to 14 (fun s3 wc => s3 = .string wd ∧ ∃ g : (w.alloc (.cells #[.int .i64 0, .bool false, .int .i64 0, .string ⟨#[]⟩, .slice none 0 0, .slice none 0 0] 26)).drew.grownBy wc none, True)
      case first =>
        go_region_with (go_at_call 146; refine (HC.out _).mono ?_; rintro e w2 ⟨rfl, hg2⟩)
        all_goals (go_wp2_with fail; go_meet; exact ⟨rfl, ‹_›, trivial⟩)
      case rest =>
        obtain ⟨rfl, hg2, _⟩ := hcut
        have hg : w.grownBy wc none := gtrans (galloc w _ none) (gtrans (gdrew1 _ none) hg2)
        have g1 : wc.heap[w.heap.size]? = some (.cells #[.int .i64 0, .bool false, .int .i64 0, .string ⟨#[]⟩, .slice none 0 0, .slice none 0 0] 26 (0, 0)) := by
          rw [hg2.block _ (by show w.heap.size < (w.heap.push _).size; simp) (by simp)]
          exact heap_alloc_new w _
        have hsz : w.heap.size < wc.heap.size := (Array.getElem?_eq_some_iff.1 g1).1
        have g2 : Rdr wc b s p d := HR.out.kept hg
        have q1 := g2.at_
        have q2 := g2.free
        have q3 := g2.lt
        obtain ⟨⟨z0, z1, z2, z3, z4, z5⟩, zf⟩ := cells6 g1
        have HG := hid hg
        have HG1 := hid g1
        have HG2 := hid g2
        have n1 : ¬ b = wc.heap.size := by omega
        have n2 : ¬ w.heap.size = wc.heap.size := by omega
        clear hg g1 g2 hg2 h0 h1 hf
        go_wp2_with fail
        have HFin := put6_heap (w := wc.setCell ⟨b, 1, none⟩ (.int .i64 ((p : Int) + (wd.size : Int)))) (by rw [Below.heap_setCell _ _ _ _ (by show w.heap.size ≠ b; omega)]; exact HG1.out) (.int .i64 2) (.bool false) (.int .i64 0) (.string ⟨#[]⟩) (.slice none 0 0) (.slice none 0 0)
        obtain ⟨⟨y0, y1, y2, y3, y4, y5⟩, _⟩ := cells6 (alloc_keeps HFin (.cells #[.int .i64 2, .bool false, .int .i64 0, .string ⟨#[]⟩, .slice none 0 0, .slice none 0 0] 26))
        unfold put6 at y0 y1 y2 y3 y4 y5
        refine bodyPost_ret (v := .agg #[.int .i64 2, .bool false, .int .i64 0, .string ⟨#[]⟩, .slice none 0 0, .slice none 0 0]) ?_ rfl ⟨?_, ?_⟩
        · simp [results, Tryz.results80, go_sem, y0, y1, y2, y3, y4, y5]
        · rw [HF.out]
          refine ⟨rfl, ?_⟩
          have hR := (HG2.out.set ((p : Int) + (wd.size : Int))).far (put6_grown _ w.heap.size (.int .i64 2) (.bool false) (.int .i64 0) (.string ⟨#[]⟩) (.slice none 0 0) (.slice none 0 0)) (by omega)
          rw [show ((p + wd.size : Nat) : Int) = (p : Int) + (wd.size : Int) by omega]
          exact hR.kept (galloc _ _ none)
        · exact (((HG.out.but (some b)).andThen (gset wc ⟨b, 1, none⟩ _) (fun j hj => .inr hj)).andThen (put6_grown _ w.heap.size (.int .i64 2) (.bool false) (.int .i64 0) (.string ⟨#[]⟩) (.slice none 0 0) (.slice none 0 0)) (fun j hj => .inl (by injection hj with hj; omega))).andThen (galloc _ _ none) (fun j hj => by cases hj)
    · have b2 : (wd.toList == [102, 97, 108, 115, 101]) = false := by rw [str_eq]; exact decide_eq_false c2
      by_cases c3 : wd.data.toList = trueW
      · have HF : Hid (readWord wd.data.toList = .ok (.mk 2 true 0 ⟨#[]⟩ [] [])) := by rw [c3]; exact rfl
        have b3 : (wd.toList == [116, 114, 117, 101]) = true := by rw [str_eq]; exact decide_eq_true c3
        clear c1 c2 c3
        go_enter Tryz.func80, Tryz.ntmps80
        go_wp2_with fail
        go_cut [3] from 5 to 14 (fun s3 wc => s3 = .string wd ∧ ∃ g : (w.alloc (.cells #[.int .i64 0, .bool false, .int .i64 0, .string ⟨#[]⟩, .slice none 0 0, .slice none 0 0] 26)).drew.grownBy wc none, True)
        case first =>
          go_region_with (go_at_call 146; refine (HC.out _).mono ?_; rintro e w2 ⟨rfl, hg2⟩)
          all_goals (go_wp2_with fail; go_meet; exact ⟨rfl, ‹_›, trivial⟩)
        case rest =>
          obtain ⟨rfl, hg2, _⟩ := hcut
          have hg : w.grownBy wc none := gtrans (galloc w _ none) (gtrans (gdrew1 _ none) hg2)
          have g1 : wc.heap[w.heap.size]? = some (.cells #[.int .i64 0, .bool false, .int .i64 0, .string ⟨#[]⟩, .slice none 0 0, .slice none 0 0] 26 (0, 0)) := by
            rw [hg2.block _ (by show w.heap.size < (w.heap.push _).size; simp) (by simp)]
            exact heap_alloc_new w _
          have hsz : w.heap.size < wc.heap.size := (Array.getElem?_eq_some_iff.1 g1).1
          have g2 : Rdr wc b s p d := HR.out.kept hg
          have q1 := g2.at_
          have q2 := g2.free
          have q3 := g2.lt
          obtain ⟨⟨z0, z1, z2, z3, z4, z5⟩, zf⟩ := cells6 g1
          have HG := hid hg
          have HG1 := hid g1
          have HG2 := hid g2
          have n1 : ¬ b = wc.heap.size := by omega
          have n2 : ¬ w.heap.size = wc.heap.size := by omega
          clear hg g1 g2 hg2 h0 h1 hf
          go_wp2_with fail
          have HFin := put6_heap (w := wc.setCell ⟨b, 1, none⟩ (.int .i64 ((p : Int) + (wd.size : Int)))) (by rw [Below.heap_setCell _ _ _ _ (by show w.heap.size ≠ b; omega)]; exact HG1.out) (.int .i64 2) (.bool true) (.int .i64 0) (.string ⟨#[]⟩) (.slice none 0 0) (.slice none 0 0)
          obtain ⟨⟨y0, y1, y2, y3, y4, y5⟩, _⟩ := cells6 (alloc_keeps HFin (.cells #[.int .i64 2, .bool true, .int .i64 0, .string ⟨#[]⟩, .slice none 0 0, .slice none 0 0] 26))
          unfold put6 at y0 y1 y2 y3 y4 y5
          refine bodyPost_ret (v := .agg #[.int .i64 2, .bool true, .int .i64 0, .string ⟨#[]⟩, .slice none 0 0, .slice none 0 0]) ?_ rfl ⟨?_, ?_⟩
          · simp [results, Tryz.results80, go_sem, y0, y1, y2, y3, y4, y5]
          · rw [HF.out]
            refine ⟨rfl, ?_⟩
            have hR := (HG2.out.set ((p : Int) + (wd.size : Int))).far (put6_grown _ w.heap.size (.int .i64 2) (.bool true) (.int .i64 0) (.string ⟨#[]⟩) (.slice none 0 0) (.slice none 0 0)) (by omega)
            rw [show ((p + wd.size : Nat) : Int) = (p : Int) + (wd.size : Int) by omega]
            exact hR.kept (galloc _ _ none)
          · exact (((HG.out.but (some b)).andThen (gset wc ⟨b, 1, none⟩ _) (fun j hj => .inr hj)).andThen (put6_grown _ w.heap.size (.int .i64 2) (.bool true) (.int .i64 0) (.string ⟨#[]⟩) (.slice none 0 0) (.slice none 0 0)) (fun j hj => .inl (by injection hj with hj; omega))).andThen (galloc _ _ none) (fun j hj => by cases hj)
      · have b3 : (wd.toList == [116, 114, 117, 101]) = false := by rw [str_eq]; exact decide_eq_false c3
        have HF := hid (readWord_num c1 c2 c3)
        clear c1 c2 c3
        go_enter Tryz.func80, Tryz.ntmps80
        go_wp2_with fail
        go_cut [3] from 5 to 14 (fun s3 wc => s3 = .string wd ∧ ∃ g : (w.alloc (.cells #[.int .i64 0, .bool false, .int .i64 0, .string ⟨#[]⟩, .slice none 0 0, .slice none 0 0] 26)).drew.grownBy wc none, True)
        case first =>
          go_region_with (go_at_call 146; refine (HC.out _).mono ?_; rintro e w2 ⟨rfl, hg2⟩)
          all_goals (go_wp2_with fail; go_meet; exact ⟨rfl, ‹_›, trivial⟩)
        case rest =>
          obtain ⟨rfl, hg2, _⟩ := hcut
          have hg : w.grownBy wc none := gtrans (galloc w _ none) (gtrans (gdrew1 _ none) hg2)
          have g1 : wc.heap[w.heap.size]? = some (.cells #[.int .i64 0, .bool false, .int .i64 0, .string ⟨#[]⟩, .slice none 0 0, .slice none 0 0] 26 (0, 0)) := by
            rw [hg2.block _ (by show w.heap.size < (w.heap.push _).size; simp) (by simp)]
            exact heap_alloc_new w _
          have hsz : w.heap.size < wc.heap.size := (Array.getElem?_eq_some_iff.1 g1).1
          have g2 : Rdr wc b s p d := HR.out.kept hg
          have q1 := g2.at_
          have q2 := g2.free
          have q3 := g2.lt
          obtain ⟨⟨z0, z1, z2, z3, z4, z5⟩, zf⟩ := cells6 g1
          have HG := hid hg
          have HG1 := hid g1
          have HG2 := hid g2
          have n1 : ¬ b = wc.heap.size := by omega
          have n2 : ¬ w.heap.size = wc.heap.size := by omega
          clear hg g1 g2 hg2 h0 h1 hf
          have hra : Rdr (wc.alloc (.cells #[.int .i64 1, .bool false, .int .i64 0, .string ⟨#[]⟩, .slice none 0 0, .slice none 0 0] 26)) b s p d := HG2.out.kept (galloc _ _ none)
          have hga : Glob (wc.alloc (.cells #[.int .i64 1, .bool false, .int .i64 0, .string ⟨#[]⟩, .slice none 0 0, .slice none 0 0] 26)) := (hG.grown HG.out (fun k hk => by cases hk)).grown (galloc _ _ none) (fun k hk => by cases hk)
          go_wp2_with fail
          refine (number_any _ b s wd p d hra hga (by omega)).mono ?_
          rintro e w3 ⟨he, hg3⟩
          cases hnr : numR wd.data.toList with
          | error c =>
            rw [hnr] at he
            have he' : e = .panicked [{ v := faultV c p, recovered := false }] := he
            subst he'
            have HF2 : Hid (readWord wd.data.toList = .error c) := by rw [HF.out, hnr]; exact rfl
            go_wp2_with fail
            exact ⟨rfl, by rw [HF2.out]; exact ⟨rfl, hra.kept hg3⟩, ((HG.out.but (some b)).andThen (galloc _ _ none) (fun j hj => by cases hj)).andThen hg3 (fun j hj => by cases hj)⟩
          | ok v =>
            rw [hnr] at he
            have he' : e = .returned (.int .i64 v) := he
            subst he'
            have HF2 : Hid (readWord wd.data.toList = .ok (.mk 3 false v ⟨#[]⟩ [] [])) := by rw [HF.out, hnr]; exact rfl
            have g3 := hg3.block wc.heap.size (by simp) (by simp)
            rw [heap_alloc_new wc _] at g3
            have g4 : w3.heap[w.heap.size]? = some (.cells #[.int .i64 0, .bool false, .int .i64 0, .string ⟨#[]⟩, .slice none 0 0, .slice none 0 0] 26 (0, 0)) := by
              rw [hg3.block _ (by simp; omega) (by simp)]
              exact alloc_keeps HG1.out _
            have g5 := hra.kept hg3
            have HG5 := hid g5
            have HG4 := hid g4
            have HG3 := hid g3
            have r1 := g5.at_
            have r2 := g5.free
            obtain ⟨⟨x0, x1, x2, x3, x4, x5⟩, xf⟩ := cells6 g3
            obtain ⟨⟨y0, y1, y2, y3, y4, y5⟩, yf⟩ := cells6 g4
            have hsz3 : wc.heap.size < w3.heap.size := (Array.getElem?_eq_some_iff.1 g3).1
            clear z0 z1 z2 z3 z4 z5 zf q1 q2 g3 g4 g5 hra hga
            have HGG := hid hg3
            clear hg3
            go_wp2_with fail
            have HA := put6_grown w3 wc.heap.size (.int .i64 3) (.bool false) (.int .i64 v) (.string ⟨#[]⟩) (.slice none 0 0) (.slice none 0 0)
            have HB := gset (put6 w3 wc.heap.size (.int .i64 3) (.bool false) (.int .i64 v) (.string ⟨#[]⟩) (.slice none 0 0) (.slice none 0 0)) ⟨b, 1, none⟩ (.int .i64 ((p : Int) + (wd.size : Int)))
            have HC2 := put6_grown ((put6 w3 wc.heap.size (.int .i64 3) (.bool false) (.int .i64 v) (.string ⟨#[]⟩) (.slice none 0 0) (.slice none 0 0)).setCell ⟨b, 1, none⟩ (.int .i64 ((p : Int) + (wd.size : Int)))) w.heap.size (.int .i64 3) (.bool false) (.int .i64 v) (.string ⟨#[]⟩) (.slice none 0 0) (.slice none 0 0)
            have HFin := put6_heap (k := w.heap.size) (w := (put6 w3 wc.heap.size (.int .i64 3) (.bool false) (.int .i64 v) (.string ⟨#[]⟩) (.slice none 0 0) (.slice none 0 0)).setCell ⟨b, 1, none⟩ (.int .i64 ((p : Int) + (wd.size : Int)))) (by rw [HB.block _ (by have := HA.size; omega) (by simp; omega), HA.block _ (by omega) (by simp; omega)]; exact HG4.out) (.int .i64 3) (.bool false) (.int .i64 v) (.string ⟨#[]⟩) (.slice none 0 0) (.slice none 0 0)
            obtain ⟨⟨k0, k1, k2, k3, k4, k5⟩, _⟩ := cells6 HFin
            unfold put6 at k0 k1 k2 k3 k4 k5
            refine bodyPost_ret (v := .agg #[.int .i64 3, .bool false, .int .i64 v, .string ⟨#[]⟩, .slice none 0 0, .slice none 0 0]) ?_ rfl ⟨?_, ?_⟩
            · simp [results, Tryz.results80, go_sem, k0, k1, k2, k3, k4, k5]
            · rw [HF2.out]
              refine ⟨rfl, ?_⟩
              have hR := ((HG5.out.far HA (by omega)).set ((p : Int) + (wd.size : Int))).far HC2 (by omega)
              rw [show ((p + wd.size : Nat) : Int) = (p : Int) + (wd.size : Int) by omega]
              exact hR
            · exact (((((HG.out.but (some b)).andThen (galloc _ _ none) (fun j hj => by cases hj)).andThen HGG.out (fun j hj => by cases hj)).andThen HA (fun j hj => .inl (by injection hj with hj; omega))).andThen HB (fun j hj => .inr hj)).andThen HC2 (fun j hj => .inl (by injection hj with hj; omega))
end Go.Proofs.YtdmnhkgiojkphaaGreatDoor
