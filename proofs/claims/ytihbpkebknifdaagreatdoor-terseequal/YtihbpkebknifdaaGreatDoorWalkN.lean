/- The walk of Parse. -/
import Derived.Test.YtihbpkebknifdaaGreatDoorWalkM
namespace Go.Proofs.YtihbpkebknifdaaGreatDoor
open Go Go.RowKit Go.Maps
open Go.RowKit (wrap32 wrap64)

def zeroV6 : Value := .agg #[.int .i64 0, .bool false, .int .i64 0, .string ⟨#[]⟩, .slice none 0 0, .slice none 0 0]
/-- How Parse ends. -/
def ParseEnds (r : Res Tree) (B : Nat) (s : ByteArray) (e : Ending) (w' : World) : Prop :=
  match r with
  | .ok t _ => ∃ v, e = .returned (.tuple #[v, .agg #[.int .i64 0, .int .i64 0]]) ∧ RdT w' (fun g => B ≤ g) t v
  | .bad c q => ∃ p : Nat, p ≤ s.size ∧ q = from_ s p ∧ e = .returned (.tuple #[zeroV6, .agg #[.int .i64 c, .int .i64 p]])

theorem laidV {w : World} {p r : Nat} {a0 a1 a2 a3 a4 a5 b0 b1 : Value} (hp : w.heap[p]? = some (.cells #[a0, a1, a2, a3, a4, a5] 25 (0, 0))) (hr : w.heap[r]? = some (.cells #[b0, b1] 40 (0, 0))) (hpr : p ≠ r) (a b c d e f x y : Value) :
    ∃ W : World, (((((((w.setCell ⟨p, 0, none⟩ a).setCell ⟨p, 1, none⟩ b).setCell ⟨p, 2, none⟩ c).setCell ⟨p, 3, none⟩ d).setCell ⟨p, 4, none⟩ e).setCell ⟨p, 5, none⟩ f).setCell ⟨r, 0, none⟩ x).setCell ⟨r, 1, none⟩ y = W ∧ W.heap[p]? = some (.cells #[a, b, c, d, e, f] 25 (0, 0)) ∧ W.heap[r]? = some (.cells #[x, y] 40 (0, 0)) ∧ Two p r w W := by
  have g6 := put6_grown w p a b c d e f
  have h6 := put6_heap hp a b c d e f
  have r6 : (put6 w p a b c d e f).heap[r]? = some (.cells #[b0, b1] 40 (0, 0)) := (g6.block r (Array.getElem?_eq_some_iff.1 hr).1 (by simp; exact hpr.symm)).trans hr
  refine ⟨((put6 w p a b c d e f).setCell ⟨r, 0, none⟩ x).setCell ⟨r, 1, none⟩ y, rfl, ?_⟩
  generalize put6 w p a b c d e f = W6 at g6 h6 r6
  have g1 := gset W6 ⟨r, 0, none⟩ x
  have g2 := gset (W6.setCell ⟨r, 0, none⟩ x) ⟨r, 1, none⟩ y
  have hl := (Array.getElem?_eq_some_iff.1 h6).1
  refine ⟨?_, ?_, (Two.of g6 (.inr (.inl rfl))).trans ((Two.of g1 (.inr (.inr rfl))).trans (Two.of g2 (.inr (.inr rfl))))⟩
  · rw [g2.block p (Nat.lt_of_lt_of_le hl g1.size) (by simp; exact hpr), g1.block p hl (by simp; exact hpr)]
    exact h6
  · simp [World.setCell, Array.getElem?_modify, r6]

set_option maxRecDepth 100000 in
set_option maxHeartbeats 1000000 in
theorem parse_any (w : World) (s : ByteArray) (d : Nat) (hG : Glob w) (hw : 8 ≤ w.heap.size) (hs : s.size ≤ 4294967280) (hd : d ≤ 32) :
    Calls Tryz.prog 13 #[.string s, .int .i64 d] w fun e w' => ParseEnds (parseR d (from_ s 0)) w.heap.size s e w' ∧ w.grownBy w' none := by
  have hmf : ∀ (fn : Fn) (first cap : Array Value) (w : World), (Instr.makeFunc fn first cap).run Tryz.prog w = .ok (.func fn first cap) w := fun _ _ _ _ => rfl
  obtain ⟨R, HRR⟩ : ∃ R, Hid (parseR d (from_ s 0) = R) := ⟨_, hid rfl⟩
  rw [HRR.out]
  go_enter_defers Tryz.func13, Tryz.ntmps13
  go_wp2_with fail
  have HW2 : Hid (∀ a b c : Obj, w.grownBy (((w.alloc a).alloc b).alloc c) none) := fun a b c => gtrans (galloc w a none) (gtrans (galloc _ b none) (galloc _ c none))
  obtain ⟨W0, hW0⟩ : ∃ W0, ((w.alloc (.cells #[.int .i64 0, .bool false, .int .i64 0, .string ⟨#[]⟩, .slice none 0 0, .slice none 0 0] 25)).alloc (.cells #[.int .i64 0, .int .i64 0] 40)).alloc (.cells #[.string s, .int .i64 0, .int .i64 (d : Int)] 48) = W0 := ⟨_, rfl⟩
  have c0 : W0.heap[w.heap.size]? = some (.cells #[.int .i64 0, .bool false, .int .i64 0, .string ⟨#[]⟩, .slice none 0 0, .slice none 0 0] 25 (0, 0)) := by
    rw [← hW0]; exact alloc_keeps (alloc_keeps (heap_alloc_new w _) _) _
  have c1 : W0.heap[w.heap.size + 1]? = some (.cells #[.int .i64 0, .int .i64 0] 40 (0, 0)) := by
    rw [← hW0]
    refine alloc_keeps ?_ _
    have := heap_alloc_new (w.alloc (.cells #[.int .i64 0, .bool false, .int .i64 0, .string ⟨#[]⟩, .slice none 0 0, .slice none 0 0] 25)) (.cells #[.int .i64 0, .int .i64 0] 40)
    simpa using this
  have hr0 : Rdr W0 (w.heap.size + 1 + 1) s (0 : Nat) d := by
    unfold Rdr
    rw [← hW0]
    have := heap_alloc_new ((w.alloc (.cells #[.int .i64 0, .bool false, .int .i64 0, .string ⟨#[]⟩, .slice none 0 0, .slice none 0 0] 25)).alloc (.cells #[.int .i64 0, .int .i64 0] 40)) (.cells #[.string s, .int .i64 0, .int .i64 (d : Int)] 48)
    simpa using this
  have hg0 : w.grownBy W0 none := by rw [← hW0]; exact HW2.out _ _ _
  have hz0 : W0.heap.size = w.heap.size + 3 := by rw [← hW0]; simp
  rw [hW0]
  have hGl : Glob W0 := hG.grown hg0 (fun k hk => by cases hk)
  refine (item_any d W0 (w.heap.size + 1 + 1) s 0 d 0 hr0 hGl (by omega) (Nat.zero_le _) hs (by omega) (by omega) (by omega)).mono ?_
  rintro e w1 ⟨he, hg1⟩
  have HC0 : Hid (w1.heap[w.heap.size]? = some (.cells #[.int .i64 0, .bool false, .int .i64 0, .string ⟨#[]⟩, .slice none 0 0, .slice none 0 0] 25 (0, 0))) := by
    rw [hg1.block _ (by omega) (by simp; omega)]; exact c0
  have HC1 : Hid (w1.heap[w.heap.size + 1]? = some (.cells #[.int .i64 0, .int .i64 0] 40 (0, 0))) := by
    rw [hg1.block _ (by omega) (by simp)]; exact c1
  have HG1 : Hid (w.grownBy w1 none) := hg0.andThen hg1 (fun j hj => .inl (by injection hj with hj; omega))
  have hz1 : w.heap.size + 3 ≤ w1.heap.size := by have := hg1.size; omega
  clear hW0 c0 c1 hr0 hg0 hGl hg1 HW2
  cases hres : itemR d (from_ s 0) with
  | bad c r =>
    rw [hres] at he
    obtain ⟨p', h1, h2, he⟩ := he
    have he' : e = .panicked [{ v := faultV c p', recovered := false }] := he
    subst he'
    have HF : Hid (R = .bad c r) := by rw [← HRR.out]; unfold parseR; rw [hres]; exact rfl
    have HH2 := hid h2
    clear he hres h2
    go_wp2_with fail
    refine leaves_cons (f := 19) (args := #[.pointer (some ⟨w.heap.size, 0, none⟩), .pointer (some ⟨w.heap.size + 1, 0, none⟩)]) (by simp) (by simp [go_sem]) ?_
    refine (catch_panicking w.heap.size (w.heap.size + 1) c p' [] w1 _ _ _ _ _ _ _ _ HC0.out HC1.out (by omega)).mono ?_
    rintro e u' w2 ⟨rfl, rfl, hA, hB, hT⟩
    have hgT : w.grownBy w2 none := ⟨hT.os.trans HG1.out.os, hT.tape.trans HG1.out.tape, hT.output.trans HG1.out.output, Nat.le_trans HG1.out.size hT.size, fun k hk _ => (hT.block k (by omega) (by omega) (by omega)).trans (HG1.out.block k hk (by simp))⟩
    obtain ⟨⟨k0, k1, k2, k3, k4, k5⟩, _⟩ := cells6 hA
    have m0 : w2.cell? ⟨w.heap.size + 1, 0, none⟩ = some (.int .i64 c) := by simp [World.cell?, hB]
    have m1 : w2.cell? ⟨w.heap.size + 1, 1, none⟩ = some (.int .i64 p') := by simp [World.cell?, hB]
    simp [Leaves, settle, results, Tryz.results13, go_sem, k0, k1, k2, k3, k4, k5, m0, m1]
    refine ⟨?_, hgT⟩
    rw [HF.out]
    exact ⟨p', h1, HH2.out, rfl⟩
  | ok t r =>
    rw [hres] at he
    obtain ⟨v, he, h2, p', h3, h4, h5⟩ := he
    have h2' := h2
    rw [RdT_eq] at h2'
    obtain ⟨kv, ia, ic, rfl, hkv, _, _⟩ := h2'
    obtain ⟨ka, kc, rfl, _⟩ := hkv
    have HT := hid h2
    have HR3 := hid h5
    have HH4 := hid h4
    obtain ⟨A, HA⟩ : ∃ A, Hid (t.items.length = A) := ⟨_, hid rfl⟩
    obtain ⟨KN, HKN⟩ : ∃ A, Hid (t.keys.length = A) := ⟨_, hid rfl⟩
    rw [HA.out, HKN.out] at he HT
    subst he
    have HRES := hid hres
    have HZ0 := hid hz0
    clear hres h2 h4 h5 hz0
    obtain ⟨⟨x0, x1, x2, x3, x4, x5⟩, xf⟩ := cells6 HC0.out
    go_wp2_with fail
    have HFin := put6_heap (k := w.heap.size) HC0.out (.int .i64 t.kind) (.bool t.flag) (.int .i64 t.n) (.string t.text) (.slice ka KN kc) (.slice ia A ic)
    have HPg := put6_grown w1 w.heap.size (.int .i64 t.kind) (.bool t.flag) (.int .i64 t.n) (.string t.text) (.slice ka KN kc) (.slice ia A ic)
    have HR4 := HR3.out.far HPg (by omega)
    have HEnd := hid (end_any _ (w.heap.size + 1 + 1) s p' d HR4 h3 (by omega))
    obtain ⟨W6, HW6⟩ : ∃ W6, Hid (put6 w1 w.heap.size (.int .i64 t.kind) (.bool t.flag) (.int .i64 t.n) (.string t.text) (.slice ka KN kc) (.slice ia A ic) = W6) := ⟨_, hid rfl⟩
    refine HEnd.out.mono ?_
    clear HEnd
    unfold faulted
    rw [HW6.out] at HFin HPg ⊢
    clear HR4 HW6
    rintro e w3 ⟨q, hq, hr3, hg3', hsk, ht⟩
    have hp6 := HPg.size
    have hz3 := hg3'.size
    have HD : Hid (w3.heap[w.heap.size]? = some (.cells #[.int .i64 t.kind, .bool t.flag, .int .i64 t.n, .string t.text, .slice ka KN kc, .slice ia A ic] 25 (0, 0))) := (hg3'.block _ (by omega) (by simp; omega)).trans HFin
    have HE : Hid (w3.heap[w.heap.size + 1]? = some (.cells #[.int .i64 0, .int .i64 0] 40 (0, 0))) := (hg3'.block _ (by omega) (by simp)).trans ((HPg.block _ (by omega) (by simp)).trans HC1.out)
    have HG3 : Hid (w.grownBy w3 none) := (HG1.out.andThen HPg (fun j hj => .inl (by injection hj with hj; omega))).andThen hg3' (fun j hj => .inl (by injection hj with hj; omega))
    have HT3 : Hid (RdT w3 (fun g => w.heap.size + 3 ≤ g) t (.agg #[.int .i64 t.kind, .bool t.flag, .int .i64 t.n, .string t.text, .slice ka KN kc, .slice ia A ic])) :=
      (HT.out.up (B := w.heap.size + 3) HPg (by have := HZ0.out; omega) (by have := HZ0.out; omega)).up (B := w.heap.size + 3) hg3' (by omega) (Nat.le_refl _)
    have hz33 : w.heap.size + 3 ≤ w3.heap.size := by omega
    clear hg3' hr3 HPg HFin x0 x1 x2 x3 x4 x5 xf hp6 hz3
    rcases ht with ⟨rfl, hnil⟩ | ⟨rfl, hne⟩
    · have HF : Hid (R = .ok t []) := by
        rw [← HRR.out]; unfold parseR; rw [HRES.out]
        show (match skip r with | [] => _ | p => _) = _
        rw [HH4.out, hsk, hnil]
      clear hsk hnil
      obtain ⟨⟨x0, x1, x2, x3, x4, x5⟩, xf⟩ := cells6 HD.out
      have z0 : w3.cell? ⟨w.heap.size + 1, 0, none⟩ = some (.int .i64 0) := by simp [World.cell?, HE.out]
      have z1 : w3.cell? ⟨w.heap.size + 1, 1, none⟩ = some (.int .i64 0) := by simp [World.cell?, HE.out]
      have zf : ∀ o, w3.frozen? ⟨w.heap.size + 1, o, none⟩ = false := fun o => by simp [World.frozen?, HE.out]
      have HL := laidV HD.out HE.out (by omega) (.int .i64 t.kind) (.bool t.flag) (.int .i64 t.n) (.string t.text) (.slice ka KN kc) (.slice ia A ic) (.int .i64 0) (.int .i64 0)
      obtain ⟨W, hW, hWp, hWr, hTw⟩ := HL
      have HW := hid hW
      have HWp := hid hWp
      have HWr := hid hWr
      have HTw := hid hTw
      clear hW hWp hWr hTw
      go_wp2_with fail
      rw [HW.out]
      refine leaves_cons (f := 19) (args := #[.pointer (some ⟨w.heap.size, 0, none⟩), .pointer (some ⟨w.heap.size + 1, 0, none⟩)]) (by simp) (by simp [go_sem]) ?_
      refine (catch_idle ⟨w.heap.size, 0, none⟩ ⟨w.heap.size + 1, 0, none⟩ W).mono ?_
      rintro e u' w2 ⟨rfl, rfl, rfl⟩
      have hgT : w.grownBy w2 none := ⟨HTw.out.os.trans HG3.out.os, HTw.out.tape.trans HG3.out.tape, HTw.out.output.trans HG3.out.output, Nat.le_trans HG3.out.size HTw.out.size, fun k hk _ => (HTw.out.block k (by omega) (by omega) (by omega)).trans (HG3.out.block k hk (by simp))⟩
      obtain ⟨⟨k0, k1, k2, k3, k4, k5⟩, _⟩ := cells6 HWp.out
      have m0 : w2.cell? ⟨w.heap.size + 1, 0, none⟩ = some (.int .i64 0) := by simp [World.cell?, HWr.out]
      have m1 : w2.cell? ⟨w.heap.size + 1, 1, none⟩ = some (.int .i64 0) := by simp [World.cell?, HWr.out]
      simp [Leaves, settle, results, Tryz.results13, go_sem, k0, k1, k2, k3, k4, k5, m0, m1]
      refine ⟨?_, hgT⟩
      rw [HF.out]
      refine ⟨_, rfl, ?_⟩
      exact RdT.kept (F := fun g => w.heap.size + 3 ≤ g) ⟨HTw.out.size, fun g hg hl => HTw.out.block g hl (by omega) (by omega)⟩ (fun g hg _ => by omega) t HT3.out
    · have HF : Hid (R = .bad 25 (from_ s q)) := by
        rw [← HRR.out]; unfold parseR; rw [HRES.out]
        show (match skip r with | [] => _ | p => _) = _
        rw [HH4.out, hsk]
        split
        · rename_i h0; exact absurd h0 hne
        · rfl
      clear hsk hne
      go_wp2_with fail
      refine leaves_cons (f := 19) (args := #[.pointer (some ⟨w.heap.size, 0, none⟩), .pointer (some ⟨w.heap.size + 1, 0, none⟩)]) (by simp) (by simp [go_sem]) ?_
      refine (catch_panicking w.heap.size (w.heap.size + 1) 25 q [] w3 _ _ _ _ _ _ _ _ HD.out HE.out (by omega)).mono ?_
      rintro e u' w2 ⟨rfl, rfl, hA, hB, hT⟩
      have hgT : w.grownBy w2 none := ⟨hT.os.trans HG3.out.os, hT.tape.trans HG3.out.tape, hT.output.trans HG3.out.output, Nat.le_trans HG3.out.size hT.size, fun k hk _ => (hT.block k (by omega) (by omega) (by omega)).trans (HG3.out.block k hk (by simp))⟩
      obtain ⟨⟨k0, k1, k2, k3, k4, k5⟩, _⟩ := cells6 hA
      have m0 : w2.cell? ⟨w.heap.size + 1, 0, none⟩ = some (.int .i64 25) := by simp [World.cell?, hB]
      have m1 : w2.cell? ⟨w.heap.size + 1, 1, none⟩ = some (.int .i64 q) := by simp [World.cell?, hB]
      simp [Leaves, settle, results, Tryz.results13, go_sem, k0, k1, k2, k3, k4, k5, m0, m1]
      refine ⟨?_, hgT⟩
      rw [HF.out]
      exact ⟨q, hq, rfl, rfl⟩

set_option maxRecDepth 100000 in
set_option maxHeartbeats 1000000 in
theorem parse_depth (w : World) (s : ByteArray) (d : Int) (hd : d < 0 ∨ 32 < d) :
    Calls Tryz.prog 13 #[.string s, .int .i64 d] w fun e w' => e = .returned (.tuple #[zeroV6, .agg #[.int .i64 20, .int .i64 0]]) ∧ w.grownBy w' none := by
  have hmf : ∀ (fn : Fn) (first cap : Array Value) (w : World), (Instr.makeFunc fn first cap).run Tryz.prog w = .ok (.func fn first cap) w := fun _ _ _ _ => rfl
  have HW2 : Hid (∀ a b : Obj, w.grownBy ((w.alloc a).alloc b) none) := fun a b => gtrans (galloc w a none) (galloc _ b none)
  have hh : (decide (d < 0) || decide (32 < d)) = true := by rcases hd with h | h <;> simp [h]
  rcases hd with h | h
  · have h1 : decide (d < 0) = true := decide_eq_true h
    go_enter_defers Tryz.func13, Tryz.ntmps13
    go_wp2_with fail
    show Leaves _ _ _ _ _ _ _
    have c0 : ((w.alloc (.cells #[.int .i64 0, .bool false, .int .i64 0, .string ⟨#[]⟩, .slice none 0 0, .slice none 0 0] 25)).alloc (.cells #[.int .i64 20, .int .i64 0] 40)).heap[w.heap.size]? = some (.cells #[.int .i64 0, .bool false, .int .i64 0, .string ⟨#[]⟩, .slice none 0 0, .slice none 0 0] 25 (0, 0)) := alloc_keeps (heap_alloc_new w _) _
    have c1 : ((w.alloc (.cells #[.int .i64 0, .bool false, .int .i64 0, .string ⟨#[]⟩, .slice none 0 0, .slice none 0 0] 25)).alloc (.cells #[.int .i64 20, .int .i64 0] 40)).heap[w.heap.size + 1]? = some (.cells #[.int .i64 20, .int .i64 0] 40 (0, 0)) := by
      have := heap_alloc_new (w.alloc (.cells #[.int .i64 0, .bool false, .int .i64 0, .string ⟨#[]⟩, .slice none 0 0, .slice none 0 0] 25)) (.cells #[.int .i64 20, .int .i64 0] 40)
      simpa using this
    have hgW := HW2.out (.cells #[.int .i64 0, .bool false, .int .i64 0, .string ⟨#[]⟩, .slice none 0 0, .slice none 0 0] 25) (.cells #[.int .i64 20, .int .i64 0] 40)
    generalize (w.alloc (.cells #[.int .i64 0, .bool false, .int .i64 0, .string ⟨#[]⟩, .slice none 0 0, .slice none 0 0] 25)).alloc (.cells #[.int .i64 20, .int .i64 0] 40) = W at c0 c1 hgW ⊢
    obtain ⟨⟨k0, k1, k2, k3, k4, k5⟩, _⟩ := cells6 c0
    have m0 : W.cell? ⟨w.heap.size + 1, 0, none⟩ = some (.int .i64 20) := by simp [World.cell?, c1]
    have m1 : W.cell? ⟨w.heap.size + 1, 1, none⟩ = some (.int .i64 0) := by simp [World.cell?, c1]
    simp [Leaves, results, Tryz.results13, go_sem, k0, k1, k2, k3, k4, k5, m0, m1, zeroV6]
    exact hgW
  · have h1 : decide (d < 0) = false := decide_eq_false (by omega)
    have h2 : decide (32 < d) = true := decide_eq_true h
    go_enter_defers Tryz.func13, Tryz.ntmps13
    go_wp2_with fail
    show Leaves _ _ _ _ _ _ _
    have c0 : ((w.alloc (.cells #[.int .i64 0, .bool false, .int .i64 0, .string ⟨#[]⟩, .slice none 0 0, .slice none 0 0] 25)).alloc (.cells #[.int .i64 20, .int .i64 0] 40)).heap[w.heap.size]? = some (.cells #[.int .i64 0, .bool false, .int .i64 0, .string ⟨#[]⟩, .slice none 0 0, .slice none 0 0] 25 (0, 0)) := alloc_keeps (heap_alloc_new w _) _
    have c1 : ((w.alloc (.cells #[.int .i64 0, .bool false, .int .i64 0, .string ⟨#[]⟩, .slice none 0 0, .slice none 0 0] 25)).alloc (.cells #[.int .i64 20, .int .i64 0] 40)).heap[w.heap.size + 1]? = some (.cells #[.int .i64 20, .int .i64 0] 40 (0, 0)) := by
      have := heap_alloc_new (w.alloc (.cells #[.int .i64 0, .bool false, .int .i64 0, .string ⟨#[]⟩, .slice none 0 0, .slice none 0 0] 25)) (.cells #[.int .i64 20, .int .i64 0] 40)
      simpa using this
    have hgW := HW2.out (.cells #[.int .i64 0, .bool false, .int .i64 0, .string ⟨#[]⟩, .slice none 0 0, .slice none 0 0] 25) (.cells #[.int .i64 20, .int .i64 0] 40)
    generalize (w.alloc (.cells #[.int .i64 0, .bool false, .int .i64 0, .string ⟨#[]⟩, .slice none 0 0, .slice none 0 0] 25)).alloc (.cells #[.int .i64 20, .int .i64 0] 40) = W at c0 c1 hgW ⊢
    obtain ⟨⟨k0, k1, k2, k3, k4, k5⟩, _⟩ := cells6 c0
    have m0 : W.cell? ⟨w.heap.size + 1, 0, none⟩ = some (.int .i64 20) := by simp [World.cell?, c1]
    have m1 : W.cell? ⟨w.heap.size + 1, 1, none⟩ = some (.int .i64 0) := by simp [World.cell?, c1]
    simp [Leaves, results, Tryz.results13, go_sem, k0, k1, k2, k3, k4, k5, m0, m1, zeroV6]
    exact hgW
end Go.Proofs.YtihbpkebknifdaaGreatDoor
