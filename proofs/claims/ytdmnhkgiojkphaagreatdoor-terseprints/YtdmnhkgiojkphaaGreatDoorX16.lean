/- The walk of Parse. -/
import Derived.Test.YtdmnhkgiojkphaaGreatDoorX15
import Derived.Test.YtdmnhkgiojkphaaGreatDoorMem
namespace Go.Proofs.YtdmnhkgiojkphaaGreatDoor
open Go Go.RowKit Go.Maps
open Go.RowKit (wrap32 wrap64)

def zeroV6 : Value := .agg #[.int .i64 0, .bool false, .int .i64 0, .string ⟨#[]⟩, .slice none 0 0, .slice none 0 0]
/-- How Parse ends. -/
def ParseEnds (r : Res Tree) (B : Nat) (s : ByteArray) (e : Ending) (w' : World) : Prop :=
  match r with
  | .ok t _ => ∃ v, e = .returned (.tuple #[v, .agg #[.int .i64 0, .int .i64 0]]) ∧ RdT w' (fun g => B ≤ g) t v
  | .bad c q => ∃ p : Nat, p ≤ s.size ∧ q = from_ s p ∧ e = .returned (.tuple #[zeroV6, .agg #[.int .i64 c, .int .i64 p]])

theorem laidV {w : World} {p r : Nat} {a0 a1 a2 a3 a4 a5 b0 b1 : Value} (hp : w.heap[p]? = some (.cells #[a0, a1, a2, a3, a4, a5] 26 (0, 0))) (hr : w.heap[r]? = some (.cells #[b0, b1] 69 (0, 0))) (hpr : p ≠ r) (a b c d e f x y : Value) :
    ∃ W : World, (((((((w.setCell ⟨p, 0, none⟩ a).setCell ⟨p, 1, none⟩ b).setCell ⟨p, 2, none⟩ c).setCell ⟨p, 3, none⟩ d).setCell ⟨p, 4, none⟩ e).setCell ⟨p, 5, none⟩ f).setCell ⟨r, 0, none⟩ x).setCell ⟨r, 1, none⟩ y = W ∧ W.heap[p]? = some (.cells #[a, b, c, d, e, f] 26 (0, 0)) ∧ W.heap[r]? = some (.cells #[x, y] 69 (0, 0)) ∧ Two p r w W := by
  have g6 := put6_grown w p a b c d e f
  have h6 := put6_heap hp a b c d e f
  have r6 : (put6 w p a b c d e f).heap[r]? = some (.cells #[b0, b1] 69 (0, 0)) := (g6.block r (Array.getElem?_eq_some_iff.1 hr).1 (by simp; exact hpr.symm)).trans hr
  refine ⟨((put6 w p a b c d e f).setCell ⟨r, 0, none⟩ x).setCell ⟨r, 1, none⟩ y, rfl, ?_⟩
  generalize put6 w p a b c d e f = W6 at g6 h6 r6
  have g1 := gset W6 ⟨r, 0, none⟩ x
  have g2 := gset (W6.setCell ⟨r, 0, none⟩ x) ⟨r, 1, none⟩ y
  have hl := (Array.getElem?_eq_some_iff.1 h6).1
  refine ⟨?_, ?_, (Two.of g6 (.inr (.inl rfl))).trans ((Two.of g1 (.inr (.inr rfl))).trans (Two.of g2 (.inr (.inr rfl))))⟩
  · rw [g2.block p (Nat.lt_of_lt_of_le hl g1.size) (by simp; exact hpr), g1.block p hl (by simp; exact hpr)]
    exact h6
  · simp [World.setCell, Array.getElem?_modify, r6]

set_option maxRecDepth 100000 in
set_option maxHeartbeats 1000000 in
theorem parse_any (w : World) (s : ByteArray) (d : Nat) (hG : Glob w) (hw : 8 ≤ w.heap.size) (hs : s.size ≤ 4294967280) (hd : d ≤ 32) :
    Calls Tryz.prog 18 #[.string s, .int .i64 d] w fun e w' => ParseEnds (parseR d (from_ s 0)) w.heap.size s e w' ∧ w.grownBy w' none := by
  have hmf : ∀ (fn : Fn) (first cap : Array Value) (w : World), (Instr.makeFunc fn first cap).run Tryz.prog w = .ok (.func fn first cap) w := fun _ _ _ _ => rfl
  obtain ⟨R, HRR⟩ : ∃ R, Hid (parseR d (from_ s 0) = R) := ⟨_, hid rfl⟩
  rw [HRR.out]
  go_enter_defers Tryz.func18, Tryz.ntmps18
  go_wp2_with fail
  have HW2 : Hid (∀ a b c : Obj, w.grownBy (((w.alloc a).alloc b).alloc c) none) := fun a b c => gtrans (galloc w a none) (gtrans (galloc _ b none) (galloc _ c none))
  obtain ⟨W0, hW0⟩ : ∃ W0, ((w.alloc (.cells #[.int .i64 0, .bool false, .int .i64 0, .string ⟨#[]⟩, .slice none 0 0, .slice none 0 0] 26)).alloc (.cells #[.int .i64 0, .int .i64 0] 69)).alloc (.cells #[.string s, .int .i64 0, .int .i64 (d : Int)] 111) = W0 := ⟨_, rfl⟩
  have c0 : W0.heap[w.heap.size]? = some (.cells #[.int .i64 0, .bool false, .int .i64 0, .string ⟨#[]⟩, .slice none 0 0, .slice none 0 0] 26 (0, 0)) := by
    rw [← hW0]; exact alloc_keeps (alloc_keeps (heap_alloc_new w _) _) _
  have c1 : W0.heap[w.heap.size + 1]? = some (.cells #[.int .i64 0, .int .i64 0] 69 (0, 0)) := by
    rw [← hW0]
    refine alloc_keeps ?_ _
    have := heap_alloc_new (w.alloc (.cells #[.int .i64 0, .bool false, .int .i64 0, .string ⟨#[]⟩, .slice none 0 0, .slice none 0 0] 26)) (.cells #[.int .i64 0, .int .i64 0] 69)
    simpa using this
  have hr0 : Rdr W0 (w.heap.size + 1 + 1) s (0 : Nat) d := by
    unfold Rdr
    rw [← hW0]
    have := heap_alloc_new ((w.alloc (.cells #[.int .i64 0, .bool false, .int .i64 0, .string ⟨#[]⟩, .slice none 0 0, .slice none 0 0] 26)).alloc (.cells #[.int .i64 0, .int .i64 0] 69)) (.cells #[.string s, .int .i64 0, .int .i64 (d : Int)] 111)
    simpa using this
  have hg0 : w.grownBy W0 none := by rw [← hW0]; exact HW2.out _ _ _
  have hz0 : W0.heap.size = w.heap.size + 3 := by rw [← hW0]; simp
  rw [hW0]
  have hGl : Glob W0 := hG.grown hg0 (fun k hk => by cases hk)
  refine (item_any d W0 (w.heap.size + 1 + 1) s 0 d 0 hr0 hGl (by omega) (Nat.zero_le _) hs (by omega) (by omega) (by omega)).mono ?_
  rintro e w1 ⟨he, hg1⟩
  have HC0 : Hid (w1.heap[w.heap.size]? = some (.cells #[.int .i64 0, .bool false, .int .i64 0, .string ⟨#[]⟩, .slice none 0 0, .slice none 0 0] 26 (0, 0))) := by
    rw [hg1.block _ (by omega) (by simp; omega)]; exact c0
  have HC1 : Hid (w1.heap[w.heap.size + 1]? = some (.cells #[.int .i64 0, .int .i64 0] 69 (0, 0))) := by
    rw [hg1.block _ (by omega) (by simp)]; exact c1
  have HG1 : Hid (w.grownBy w1 none) := hg0.andThen hg1 (fun j hj => .inl (by injection hj with hj; omega))
  have hz1 : w.heap.size + 3 ≤ w1.heap.size := by have := hg1.size; omega
  clear hW0 c0 c1 hr0 hg0 hGl hg1 HW2
  cases hres : itemR d (from_ s 0) with
  | bad c r =>
    rw [hres] at he
    obtain ⟨p', h1, h2, he⟩ := he
    have he' : e = .panicked [{ v := faultV c p', recovered := false }] := he
    subst he'
    have HF : Hid (R = .bad c r) := by rw [← HRR.out]; unfold parseR; rw [hres]; exact rfl
    have HH2 := hid h2
    clear he hres h2
    go_wp2_with fail
    refine leaves_cons (f := 45) (args := #[.pointer (some ⟨w.heap.size, 0, none⟩), .pointer (some ⟨w.heap.size + 1, 0, none⟩)]) (by simp) (by simp [go_sem]) ?_
    refine (catch_panicking w.heap.size (w.heap.size + 1) c p' [] w1 _ _ _ _ _ _ _ _ HC0.out HC1.out (by omega)).mono ?_
    rintro e u' w2 ⟨rfl, rfl, hA, hB, hT⟩
    have hgT : w.grownBy w2 none := ⟨hT.os.trans HG1.out.os, hT.tape.trans HG1.out.tape, hT.output.trans HG1.out.output, Nat.le_trans HG1.out.size hT.size, fun k hk _ => (hT.block k (by omega) (by omega) (by omega)).trans (HG1.out.block k hk (by simp))⟩
    obtain ⟨⟨k0, k1, k2, k3, k4, k5⟩, _⟩ := cells6 hA
    have m0 : w2.cell? ⟨w.heap.size + 1, 0, none⟩ = some (.int .i64 c) := by simp [World.cell?, hB]
    have m1 : w2.cell? ⟨w.heap.size + 1, 1, none⟩ = some (.int .i64 p') := by simp [World.cell?, hB]
    simp [Leaves, settle, results, Tryz.results18, go_sem, k0, k1, k2, k3, k4, k5, m0, m1]
    refine ⟨?_, hgT⟩
    rw [HF.out]
    exact ⟨p', h1, HH2.out, rfl⟩
  | ok t r =>
    rw [hres] at he
    obtain ⟨v, he, h2, p', h3, h4, h5⟩ := he
    have h2' := h2
    rw [RdT_eq] at h2'
    obtain ⟨kv, ia, ic, rfl, hkv, _, _⟩ := h2'
    obtain ⟨ka, kc, rfl, _⟩ := hkv
    have HT := hid h2
    have HR3 := hid h5
    have HH4 := hid h4
    obtain ⟨A, HA⟩ : ∃ A, Hid (t.items.length = A) := ⟨_, hid rfl⟩
    obtain ⟨KN, HKN⟩ : ∃ A, Hid (t.keys.length = A) := ⟨_, hid rfl⟩
    rw [HA.out, HKN.out] at he HT
    subst he
    have HRES := hid hres
    have HZ0 := hid hz0
    clear hres h2 h4 h5 hz0
    obtain ⟨⟨x0, x1, x2, x3, x4, x5⟩, xf⟩ := cells6 HC0.out
    go_wp2_with fail
    have HFin := put6_heap (k := w.heap.size) HC0.out (.int .i64 t.kind) (.bool t.flag) (.int .i64 t.n) (.string t.text) (.slice ka KN kc) (.slice ia A ic)
    have HPg := put6_grown w1 w.heap.size (.int .i64 t.kind) (.bool t.flag) (.int .i64 t.n) (.string t.text) (.slice ka KN kc) (.slice ia A ic)
    have HR4 := HR3.out.far HPg (by omega)
    have HEnd := hid (end_any _ (w.heap.size + 1 + 1) s p' d HR4 h3 (by omega))
    obtain ⟨W6, HW6⟩ : ∃ W6, Hid (put6 w1 w.heap.size (.int .i64 t.kind) (.bool t.flag) (.int .i64 t.n) (.string t.text) (.slice ka KN kc) (.slice ia A ic) = W6) := ⟨_, hid rfl⟩
    refine HEnd.out.mono ?_
    clear HEnd
    unfold faulted
    rw [HW6.out] at HFin HPg ⊢
    clear HR4 HW6
    rintro e w3 ⟨q, hq, hr3, hg3', hsk, ht⟩
    have hp6 := HPg.size
    have hz3 := hg3'.size
    have HD : Hid (w3.heap[w.heap.size]? = some (.cells #[.int .i64 t.kind, .bool t.flag, .int .i64 t.n, .string t.text, .slice ka KN kc, .slice ia A ic] 26 (0, 0))) := (hg3'.block _ (by omega) (by simp; omega)).trans HFin
    have HE : Hid (w3.heap[w.heap.size + 1]? = some (.cells #[.int .i64 0, .int .i64 0] 69 (0, 0))) := (hg3'.block _ (by omega) (by simp)).trans ((HPg.block _ (by omega) (by simp)).trans HC1.out)
    have HG3 : Hid (w.grownBy w3 none) := (HG1.out.andThen HPg (fun j hj => .inl (by injection hj with hj; omega))).andThen hg3' (fun j hj => .inl (by injection hj with hj; omega))
    have HT3 : Hid (RdT w3 (fun g => w.heap.size + 3 ≤ g) t (.agg #[.int .i64 t.kind, .bool t.flag, .int .i64 t.n, .string t.text, .slice ka KN kc, .slice ia A ic])) :=
      (HT.out.up (B := w.heap.size + 3) HPg (by have := HZ0.out; omega) (by have := HZ0.out; omega)).up (B := w.heap.size + 3) hg3' (by omega) (Nat.le_refl _)
    have hz33 : w.heap.size + 3 ≤ w3.heap.size := by omega
    clear hg3' hr3 HPg HFin x0 x1 x2 x3 x4 x5 xf hp6 hz3
    rcases ht with ⟨rfl, hnil⟩ | ⟨rfl, hne⟩
    · have HF : Hid (R = .ok t []) := by
        rw [← HRR.out]; unfold parseR; rw [HRES.out]
        show (match skip r with | [] => _ | p => _) = _
        rw [HH4.out, hsk, hnil]
      clear hsk hnil
      obtain ⟨⟨x0, x1, x2, x3, x4, x5⟩, xf⟩ := cells6 HD.out
      have z0 : w3.cell? ⟨w.heap.size + 1, 0, none⟩ = some (.int .i64 0) := by simp [World.cell?, HE.out]
      have z1 : w3.cell? ⟨w.heap.size + 1, 1, none⟩ = some (.int .i64 0) := by simp [World.cell?, HE.out]
      have zf : ∀ o, w3.frozen? ⟨w.heap.size + 1, o, none⟩ = false := fun o => by simp [World.frozen?, HE.out]
      have HL := laidV HD.out HE.out (by omega) (.int .i64 t.kind) (.bool t.flag) (.int .i64 t.n) (.string t.text) (.slice ka KN kc) (.slice ia A ic) (.int .i64 0) (.int .i64 0)
      obtain ⟨W, hW, hWp, hWr, hTw⟩ := HL
      have HW := hid hW
      have HWp := hid hWp
      have HWr := hid hWr
      have HTw := hid hTw
      clear hW hWp hWr hTw
      go_wp2_with fail
      rw [HW.out]
      refine leaves_cons (f := 45) (args := #[.pointer (some ⟨w.heap.size, 0, none⟩), .pointer (some ⟨w.heap.size + 1, 0, none⟩)]) (by simp) (by simp [go_sem]) ?_
      refine (catch_idle ⟨w.heap.size, 0, none⟩ ⟨w.heap.size + 1, 0, none⟩ W).mono ?_
      rintro e u' w2 ⟨rfl, rfl, rfl⟩
      have hgT : w.grownBy w2 none := ⟨HTw.out.os.trans HG3.out.os, HTw.out.tape.trans HG3.out.tape, HTw.out.output.trans HG3.out.output, Nat.le_trans HG3.out.size HTw.out.size, fun k hk _ => (HTw.out.block k (by omega) (by omega) (by omega)).trans (HG3.out.block k hk (by simp))⟩
      obtain ⟨⟨k0, k1, k2, k3, k4, k5⟩, _⟩ := cells6 HWp.out
      have m0 : w2.cell? ⟨w.heap.size + 1, 0, none⟩ = some (.int .i64 0) := by simp [World.cell?, HWr.out]
      have m1 : w2.cell? ⟨w.heap.size + 1, 1, none⟩ = some (.int .i64 0) := by simp [World.cell?, HWr.out]
      simp [Leaves, settle, results, Tryz.results18, go_sem, k0, k1, k2, k3, k4, k5, m0, m1]
      refine ⟨?_, hgT⟩
      rw [HF.out]
      refine ⟨_, rfl, ?_⟩
      exact RdT.kept (F := fun g => w.heap.size + 3 ≤ g) ⟨HTw.out.size, fun g hg hl => HTw.out.block g hl (by omega) (by omega)⟩ (fun g hg _ => by omega) t HT3.out
    · have HF : Hid (R = .bad 25 (from_ s q)) := by
        rw [← HRR.out]; unfold parseR; rw [HRES.out]
        show (match skip r with | [] => _ | p => _) = _
        rw [HH4.out, hsk]
        split
        · rename_i h0; exact absurd h0 hne
        · rfl
      clear hsk hne
      go_wp2_with fail
      refine leaves_cons (f := 45) (args := #[.pointer (some ⟨w.heap.size, 0, none⟩), .pointer (some ⟨w.heap.size + 1, 0, none⟩)]) (by simp) (by simp [go_sem]) ?_
      refine (catch_panicking w.heap.size (w.heap.size + 1) 25 q [] w3 _ _ _ _ _ _ _ _ HD.out HE.out (by omega)).mono ?_
      rintro e u' w2 ⟨rfl, rfl, hA, hB, hT⟩
      have hgT : w.grownBy w2 none := ⟨hT.os.trans HG3.out.os, hT.tape.trans HG3.out.tape, hT.output.trans HG3.out.output, Nat.le_trans HG3.out.size hT.size, fun k hk _ => (hT.block k (by omega) (by omega) (by omega)).trans (HG3.out.block k hk (by simp))⟩
      obtain ⟨⟨k0, k1, k2, k3, k4, k5⟩, _⟩ := cells6 hA
      have m0 : w2.cell? ⟨w.heap.size + 1, 0, none⟩ = some (.int .i64 25) := by simp [World.cell?, hB]
      have m1 : w2.cell? ⟨w.heap.size + 1, 1, none⟩ = some (.int .i64 q) := by simp [World.cell?, hB]
      simp [Leaves, settle, results, Tryz.results18, go_sem, k0, k1, k2, k3, k4, k5, m0, m1]
      refine ⟨?_, hgT⟩
      rw [HF.out]
      exact ⟨q, hq, rfl, rfl⟩

set_option maxRecDepth 100000 in
set_option maxHeartbeats 1000000 in
theorem parse_depth (w : World) (s : ByteArray) (d : Int) (hd : d < 0 ∨ 32 < d) :
    Calls Tryz.prog 18 #[.string s, .int .i64 d] w fun e w' => e = .returned (.tuple #[zeroV6, .agg #[.int .i64 20, .int .i64 0]]) ∧ w.grownBy w' none := by
  have hmf : ∀ (fn : Fn) (first cap : Array Value) (w : World), (Instr.makeFunc fn first cap).run Tryz.prog w = .ok (.func fn first cap) w := fun _ _ _ _ => rfl
  have HW2 : Hid (∀ a b : Obj, w.grownBy ((w.alloc a).alloc b) none) := fun a b => gtrans (galloc w a none) (galloc _ b none)
  have hh : (decide (d < 0) || decide (32 < d)) = true := by rcases hd with h | h <;> simp [h]
  rcases hd with h | h
  · have h1 : decide (d < 0) = true := decide_eq_true h
    go_enter_defers Tryz.func18, Tryz.ntmps18
    go_wp2_with fail
    show Leaves _ _ _ _ _ _ _
    have c0 : ((w.alloc (.cells #[.int .i64 0, .bool false, .int .i64 0, .string ⟨#[]⟩, .slice none 0 0, .slice none 0 0] 26)).alloc (.cells #[.int .i64 20, .int .i64 0] 69)).heap[w.heap.size]? = some (.cells #[.int .i64 0, .bool false, .int .i64 0, .string ⟨#[]⟩, .slice none 0 0, .slice none 0 0] 26 (0, 0)) := alloc_keeps (heap_alloc_new w _) _
    have c1 : ((w.alloc (.cells #[.int .i64 0, .bool false, .int .i64 0, .string ⟨#[]⟩, .slice none 0 0, .slice none 0 0] 26)).alloc (.cells #[.int .i64 20, .int .i64 0] 69)).heap[w.heap.size + 1]? = some (.cells #[.int .i64 20, .int .i64 0] 69 (0, 0)) := by
      have := heap_alloc_new (w.alloc (.cells #[.int .i64 0, .bool false, .int .i64 0, .string ⟨#[]⟩, .slice none 0 0, .slice none 0 0] 26)) (.cells #[.int .i64 20, .int .i64 0] 69)
      simpa using this
    have hgW := HW2.out (.cells #[.int .i64 0, .bool false, .int .i64 0, .string ⟨#[]⟩, .slice none 0 0, .slice none 0 0] 26) (.cells #[.int .i64 20, .int .i64 0] 69)
    generalize (w.alloc (.cells #[.int .i64 0, .bool false, .int .i64 0, .string ⟨#[]⟩, .slice none 0 0, .slice none 0 0] 26)).alloc (.cells #[.int .i64 20, .int .i64 0] 69) = W at c0 c1 hgW ⊢
    obtain ⟨⟨k0, k1, k2, k3, k4, k5⟩, _⟩ := cells6 c0
    have m0 : W.cell? ⟨w.heap.size + 1, 0, none⟩ = some (.int .i64 20) := by simp [World.cell?, c1]
    have m1 : W.cell? ⟨w.heap.size + 1, 1, none⟩ = some (.int .i64 0) := by simp [World.cell?, c1]
    simp [Leaves, results, Tryz.results18, go_sem, k0, k1, k2, k3, k4, k5, m0, m1, zeroV6]
    exact hgW
  · have h1 : decide (d < 0) = false := decide_eq_false (by omega)
    have h2 : decide (32 < d) = true := decide_eq_true h
    go_enter_defers Tryz.func18, Tryz.ntmps18
    go_wp2_with fail
    show Leaves _ _ _ _ _ _ _
    have c0 : ((w.alloc (.cells #[.int .i64 0, .bool false, .int .i64 0, .string ⟨#[]⟩, .slice none 0 0, .slice none 0 0] 26)).alloc (.cells #[.int .i64 20, .int .i64 0] 69)).heap[w.heap.size]? = some (.cells #[.int .i64 0, .bool false, .int .i64 0, .string ⟨#[]⟩, .slice none 0 0, .slice none 0 0] 26 (0, 0)) := alloc_keeps (heap_alloc_new w _) _
    have c1 : ((w.alloc (.cells #[.int .i64 0, .bool false, .int .i64 0, .string ⟨#[]⟩, .slice none 0 0, .slice none 0 0] 26)).alloc (.cells #[.int .i64 20, .int .i64 0] 69)).heap[w.heap.size + 1]? = some (.cells #[.int .i64 20, .int .i64 0] 69 (0, 0)) := by
      have := heap_alloc_new (w.alloc (.cells #[.int .i64 0, .bool false, .int .i64 0, .string ⟨#[]⟩, .slice none 0 0, .slice none 0 0] 26)) (.cells #[.int .i64 20, .int .i64 0] 69)
      simpa using this
    have hgW := HW2.out (.cells #[.int .i64 0, .bool false, .int .i64 0, .string ⟨#[]⟩, .slice none 0 0, .slice none 0 0] 26) (.cells #[.int .i64 20, .int .i64 0] 69)
    generalize (w.alloc (.cells #[.int .i64 0, .bool false, .int .i64 0, .string ⟨#[]⟩, .slice none 0 0, .slice none 0 0] 26)).alloc (.cells #[.int .i64 20, .int .i64 0] 69) = W at c0 c1 hgW ⊢
    obtain ⟨⟨k0, k1, k2, k3, k4, k5⟩, _⟩ := cells6 c0
    have m0 : W.cell? ⟨w.heap.size + 1, 0, none⟩ = some (.int .i64 20) := by simp [World.cell?, c1]
    have m1 : W.cell? ⟨w.heap.size + 1, 1, none⟩ = some (.int .i64 0) := by simp [World.cell?, c1]
    simp [Leaves, results, Tryz.results18, go_sem, k0, k1, k2, k3, k4, k5, m0, m1, zeroV6]
    exact hgW
end Go.Proofs.YtdmnhkgiojkphaaGreatDoor

namespace Go.Proofs.YtdmnhkgiojkphaaGreatDoor
open Go Go.RowKit
open Go.RowKit (wrap32 wrap64)

def keyN : List ByteArray → Nat
  | [] => 0
  | k :: r => k.size + 1 + keyN r
mutual
/-- How much stands in a tree. -/
def cntT : Tree → Nat
  | .mk _ _ _ t ks is => cntL is + (t.size + keyN ks) + 1
def cntL : List Tree → Nat
  | [] => 0
  | t :: r => cntT t + cntL r
end
theorem cntT_eq (t : Tree) : cntT t = cntL t.items + (t.text.size + keyN t.keys) + 1 := by cases t with | mk => rw [cntT]; rfl
theorem keyN_length (l : List ByteArray) : l.length ≤ keyN l := by
  induction l with
  | nil => simp [keyN]
  | cons a r ih => rw [keyN, List.length_cons]; omega
theorem keyN_mem {l : List ByteArray} {k : ByteArray} (h : k ∈ l) : k.size ≤ keyN l := by
  induction l with
  | nil => cases h
  | cons a r ih =>
    rw [keyN]
    rcases List.mem_cons.1 h with rfl | h
    · omega
    · have := ih h; omega
theorem cntL_mem {l : List Tree} {t : Tree} (h : t ∈ l) : cntT t ≤ cntL l := by
  induction l with
  | nil => cases h
  | cons a r ih =>
    rw [cntL]
    rcases List.mem_cons.1 h with rfl | h
    · omega
    · have := ih h; omega
theorem cntL_length (l : List Tree) : l.length ≤ cntL l := by
  induction l with
  | nil => simp [cntL]
  | cons a r ih =>
    rw [cntL, List.length_cons]
    have := cntT_eq a
    omega
mutual
theorem depth_cnt : ∀ t, depthT t ≤ cntT t
  | .mk k f n t ks is => by
    rw [depthT, cntT]
    have := depthL_cnt is
    split <;> omega
theorem depthL_cnt : ∀ l, depthL l ≤ cntL l
  | [] => by simp [depthL]
  | t :: r => by
    rw [depthL, cntL]
    have := depth_cnt t
    have := depthL_cnt r
    omega
end

/-- The cells of a new block of a value. -/
theorem boxed (w : World) (a b c d e f : Value) : (w.alloc (.cells #[a, b, c, d, e, f] 26)).heap[w.heap.size]? = some (.cells #[a, b, c, d, e, f] 26 (0, 0)) := heap_alloc_new w _
theorem Stays.none {F : Nat → Prop} {w w' : World} (hg : w.grownBy w' none) : Stays F w w' := Stays.grown hg fun _ _ => by simp

/-- The cells of an item, as an index finds them. -/
theorem RdIs.at {w wr : World} {F : Nat → Prop} {g o : Nat} {l : List Tree} (h : RdIs w F g o l) (hs : Stays F w wr) (hF : F g) (hg : g < w.heap.size) (i : Nat) (hi : i < l.length) :
    ∃ a b c d e f, wr.cell? ⟨g, o + i * 6, none⟩ = some a ∧ wr.cell? ⟨g, o + i * 6 + 1, none⟩ = some b ∧ wr.cell? ⟨g, o + i * 6 + 2, none⟩ = some c ∧ wr.cell? ⟨g, o + i * 6 + 3, none⟩ = some d ∧ wr.cell? ⟨g, o + i * 6 + 4, none⟩ = some e ∧ wr.cell? ⟨g, o + i * 6 + 5, none⟩ = some f ∧ RdT wr F l[i] (.agg #[a, b, c, d, e, f]) := by
  have := RdIs.get _ (RdIs.kept hs (fun _ h _ => h) hF hg _ h) i _ (List.getElem?_eq_getElem hi)
  rw [Nat.mul_comm 6 i] at this
  exact this

set_option maxRecDepth 100000 in
set_option maxHeartbeats 1000000 in
theorem depth_any : ∀ (n : Nat) (t : Tree), cntT t ≤ n → n ≤ 1099511627776 → ∀ (w : World) (F : Nat → Prop) (v : Value), RdT w F t v →
    Calls Tryz.prog 33 #[v] w fun e w' => e = .returned (.int .i64 (depthT t)) ∧ w.grownBy w' none
  | 0, t, hn, _, _, _, _, _ => by rw [cntT_eq] at hn; omega
  | n + 1, t, hn, hN, w, F, v, hv => by
    have ih := depth_any n
    have hv' := hv
    rw [RdT_eq] at hv'
    obtain ⟨kv, ia, ic, rfl, hkv, hc, hi⟩ := hv'
    obtain ⟨ka, kc, rfl, hkr⟩ := hkv
    obtain ⟨A, HA⟩ : ∃ A, Hid (t.items.length = A) := ⟨_, hid rfl⟩
    obtain ⟨KN, HKN⟩ : ∃ A, Hid (t.keys.length = A) := ⟨_, hid rfl⟩
    rw [HA.out, HKN.out] at hv
    obtain ⟨K, HKK⟩ : ∃ K, Hid (t.kind = K) := ⟨_, hid rfl⟩
    rw [HKK.out] at hv
    have hA : A ≤ 1099511627776 := by have := cntL_length t.items; rw [cntT_eq] at hn; rw [HA.out] at this; omega
    rw [HA.out, HKN.out, HKK.out]
    have HV := hid hv
    have HI := hid hi
    have HIH := hid ih
    have HN := hid hn
    have HNN := hid hN
    clear hv hi ih hn hN hc
    obtain ⟨W0, hW0⟩ : ∃ W0, w.alloc (.cells #[.int .i64 K, .bool t.flag, .int .i64 t.n, .string t.text, .slice ka KN kc, .slice ia A ic] 26) = W0 := ⟨_, rfl⟩
    have c0 := boxed w (.int .i64 K) (.bool t.flag) (.int .i64 t.n) (.string t.text) (.slice ka KN kc) (.slice ia A ic)
    have g0 : w.grownBy W0 none := by rw [← hW0]; exact galloc _ _ none
    rw [hW0] at c0
    have HW0 := hid hW0
    have HC0 := hid c0
    have HG0 := hid g0
    obtain ⟨⟨x0, x1, x2, x3, x4, x5⟩, xf⟩ := cells6 c0
    clear c0 g0
    by_cases h56 : hasItems K = true
    · have HD : Hid (depthT t = depthL t.items + 1) := by rw [depthT_eq, HKK.out, if_pos h56]; exact rfl
      have hL : ∀ u : World, u.heap[w.heap.size]? = W0.heap[w.heap.size]? → u.cell? ⟨w.heap.size, 5, none⟩ = some (.slice ia A ic) := fun u hu => by
        rw [World.cell?_of_block (w := W0) (a := ⟨w.heap.size, 5, none⟩) hu]; exact x5
      have HL := hid hL
      clear hL
      have hk : K = 5 ∨ K = 6 := by simpa [hasItems] using h56
      clear h56 hkr
      rcases hk with rfl | rfl
      all_goals
        go_enter Tryz.func33, Tryz.ntmps33
        go_wp2_with fail
        go_loopw [3, 4] (fun nv iv wr => ∃ (m i : Nat), nv = .int .i64 m ∧ iv = .int .i64 i ∧ i ≤ A ∧ m ≤ 1099511627776 ∧ Hid (depthL t.items = max m (depthL (t.items.drop i))) ∧ Hid (W0.grownBy wr none)) (fun _ iv _ => A - (intOf iv).toNat)
        case atStart => exact ⟨0, 0, rfl, rfl, Nat.zero_le _, by omega, by rw [List.drop_zero]; exact hid (by omega), grefl _ _⟩
        case round =>
          obtain ⟨m, i, rfl, rfl, hi, hm, HM, HG⟩ := hrel
          have y5 := HL.out wr (HG.out.block _ (Array.getElem?_eq_some_iff.1 HC0.out).1 (by simp))
          by_cases hlt : i < A
          · have hd : decide ((i : Int) < (A : Int)) = true := decide_eq_true (by omega)
            have hit : i < t.items.length := by have := HA.out; omega
            obtain ⟨g, o, rfl, hg, hF, hRd⟩ := HI.out (by omega)
            have hSt : Stays F w wr := Stays.none (gtrans HG0.out HG.out)
            obtain ⟨a0, a1, a2, a3, a4, a5, z0, z1, z2, z3, z4, z5, hT⟩ := hRd.at hSt hF hg i hit
            have HT := hid hT
            have hci : cntT t.items[i] ≤ n := by
              have h1 := cntL_mem (List.getElem_mem hit)
              have h2 := HN.out
              rw [cntT_eq] at h2
              omega
            have HDr : Hid (depthL (t.items.drop i) = max (depthT t.items[i]) (depthL (t.items.drop (i + 1)))) := by
              rw [List.drop_eq_getElem_cons hit, depthL]; exact rfl
            clear hT hRd hSt
            go_wp2_with fail
            refine (HIH.out t.items[i] hci (by have := HNN.out; omega) wr F _ HT.out).mono ?_
            rintro e w' ⟨rfl, hg'⟩
            have hdc := depth_cnt t.items[i]
            have HG' := hid (gtrans HG.out hg')
            obtain ⟨D, HDD⟩ : ∃ D, Hid (depthT t.items[i] = D) := ⟨_, hid rfl⟩
            rw [HDD.out] at HDr hdc ⊢
            have hD : D ≤ 1099511627776 := by have := HNN.out; omega
            clear hg' hdc
            by_cases hmd : m < D
            · have hd2 : decide ((m : Int) < (D : Int)) = true := decide_eq_true (by omega)
              go_wp2_with fail
              exact ⟨⟨D, i + 1, rfl, rfl, by omega, hD, hid (by have h1 := HM.out; have h2 := HDr.out; omega), HG'⟩, by simp only [intOf]; omega⟩
            · have hd2 : decide ((m : Int) < (D : Int)) = false := decide_eq_false (by omega)
              go_wp2_with fail
              exact ⟨⟨m, i + 1, rfl, rfl, by omega, hm, hid (by have h1 := HM.out; have h2 := HDr.out; omega), HG'⟩, by simp only [intOf]; omega⟩
          · have hd : decide ((i : Int) < (A : Int)) = false := decide_eq_false (by omega)
            go_wp2_with fail
            go_ret
            refine ⟨?_, gtrans HG0.out HG.out⟩
            have : t.items.drop i = [] := List.drop_eq_nil_of_le (by have := HA.out; omega)
            have h2 := HM.out
            rw [this] at h2
            rw [HD.out, h2]
            simp [depthL]
    · have h5 : K ≠ 5 := by intro h; subst h; exact h56 rfl
      have h6 : K ≠ 6 := by intro h; subst h; exact h56 rfl
      have b5 : (K != 5) = true := by simpa using h5
      have b6 : (K != 6) = true := by simpa using h6
      have HD : Hid (depthT t = 0) := by rw [depthT_eq, HKK.out, if_neg h56]; exact rfl
      go_enter Tryz.func33, Tryz.ntmps33
      go_wp2_with fail
      go_ret
      exact ⟨by rw [HD.out]; rfl, HG0.out⟩
end Go.Proofs.YtdmnhkgiojkphaaGreatDoor
