/- The walks of the Writer's methods. -/
import Derived.Test.YtfalgjdhdgkbfaaGreatDoorWalkB
namespace Go.Proofs.YtfalgjdhdgkbfaaGreatDoor
open Go Go.RowKit
open Go.RowKit (wrap32 wrap64)

/-- Parts that have been laid, the last one first. -/
def laid : List (List UInt8) → List UInt8
  | [] => []
  | x :: r => laid r ++ x
def Chain (w : World) (F : Nat → Prop) : Option Addr → List (List UInt8) → Prop
  | p, [] => p = none
  | p, x :: r => ∃ g v q, p = some ⟨g, 0, none⟩ ∧ g < w.heap.size ∧ F g ∧ w.heap[g]? = some (.cells #[.pointer q, v] 130 (0, 0)) ∧ Rd w F v x ∧ (∀ a, q = some a → a.block < g) ∧ Chain w F q r
theorem Chain.on {w w' : World} {F : Nat → Prop} {row : Option Nat} (hg : w.grownBy w' row) (hr : ∀ k, row = some k → ¬ F k) : ∀ {ps : List (List UInt8)} {p : Option Addr}, Chain w F p ps → Chain w' F p ps
  | [], _, h => h
  | _ :: _, _, ⟨g, v, q, e, hl, hF, hh, hx, hd, hc⟩ => ⟨g, v, q, e, Nat.lt_of_lt_of_le hl hg.size, hF, heap_at hg (fun e => hr g e hF) hh, hx.on hg hr, hd, Chain.on hg hr hc⟩
theorem Chain.mono {w : World} {F G : Nat → Prop} (hf : ∀ k, k < w.heap.size → F k → G k) : ∀ {ps : List (List UInt8)} {p : Option Addr}, Chain w F p ps → Chain w G p ps
  | [], _, h => h
  | _ :: _, _, ⟨g, v, q, e, hl, hF, hh, hx, hd, hc⟩ => ⟨g, v, q, e, hl, hf g hl hF, hh, hx.mono hf, hd, Chain.mono hf hc⟩
theorem Chain.lt {w : World} {F : Nat → Prop} : ∀ {ps : List (List UInt8)} {p : Option Addr}, Chain w F p ps → ∀ a, p = some a → a.block < w.heap.size
  | [], _, h, a, e => by rw [show _ = none from h] at e; cases e
  | _ :: _, _, ⟨g, v, q, e, hl, _⟩, a, ea => by rw [e] at ea; injection ea with ea; rw [← ea]; exact hl

/-- A Writer at place o of block b: what it has laid, its refusal. -/
def Wr (w : World) (b t n o : Nat) (f : Nat → Value) (F : Nat → Prop) (l : List UInt8) (bad : Nat) : Prop :=
  w.rowIs b t n f ∧ o + 3 ≤ n ∧ ¬ F b ∧ ∃ p ps, f o = .pointer p ∧ f (o + 1) = .int .i64 (l.length : Int) ∧ f (o + 2) = .int .i64 (bad : Int) ∧ Chain w F p ps ∧ laid ps = l
/-- Other cells of the block stay. -/
def Els (o : Nat) (f f' : Nat → Value) : Prop := ∀ j, (j < o ∨ o + 3 ≤ j) → f' j = f j
theorem Els.refl (o : Nat) (f : Nat → Value) : Els o f f := fun _ _ => rfl
theorem Els.trans {o : Nat} {f g h : Nat → Value} (a : Els o f g) (b : Els o g h) : Els o f h := fun j hj => (b j hj).trans (a j hj)
theorem Wr.on {w w' : World} {b t n o : Nat} {f : Nat → Value} {F : Nat → Prop} {l : List UInt8} {bad : Nat} {row : Option Nat} (h : Wr w b t n o f F l bad) (hg : w.grownBy w' row) (hb : row ≠ some b) (hr : ∀ k, row = some k → ¬ F k) : Wr w' b t n o f F l bad := by
  obtain ⟨h1, h2, h3, p, ps, e1, e2, e3, hc, hl⟩ := h
  exact ⟨h1.of_block (hg.block b h1.lt (fun e => hb e.symm)), h2, h3, p, ps, e1, e2, e3, hc.on hg hr, hl⟩
theorem Wr.keep {w w' : World} {b t n o : Nat} {f : Nat → Value} {F : Nat → Prop} {l : List UInt8} {bad : Nat} (h : Wr w b t n o f F l bad) (hg : w.grownBy w' none) : Wr w' b t n o f F l bad := h.on hg (by simp) (fun k hk => by cases hk)
theorem Wr.mono {w : World} {b t n o : Nat} {f : Nat → Value} {F G : Nat → Prop} {l : List UInt8} {bad : Nat} (h : Wr w b t n o f F l bad) (hf : ∀ k, k < w.heap.size → F k → G k) (hG : ¬ G b) : Wr w b t n o f G l bad := by
  obtain ⟨h1, h2, h3, p, ps, e1, e2, e3, hc, hl⟩ := h
  exact ⟨h1, h2, hG, p, ps, e1, e2, e3, hc.mono hf, hl⟩

/-- What Wr tells the walk. -/
theorem Wr.cells {w : World} {b t n o : Nat} {f : Nat → Value} {F : Nat → Prop} {l : List UInt8} {bad : Nat} (h : Wr w b t n o f F l bad) :
    ∃ p, w.cell? ⟨b, o, none⟩ = some (.pointer p) ∧ w.cell? ⟨b, o + 1, none⟩ = some (.int .i64 (l.length : Int)) ∧ w.cell? ⟨b, o + 2, none⟩ = some (.int .i64 (bad : Int)) ∧ (∀ j, w.frozen? ⟨b, j, none⟩ = false) ∧ b < w.heap.size ∧ f o = .pointer p := by
  obtain ⟨h1, h2, h3, p, ps, e1, e2, e3, hc, hl⟩ := h
  refine ⟨p, ?_, ?_, ?_, fun j => h1.frozen j, h1.lt, e1⟩
  · rw [h1.cell (by omega), e1]
  · rw [h1.cell (by omega), e2]
  · rw [h1.cell (by omega), e3]
theorem Wr.push {w : World} {b t n o : Nat} {f : Nat → Value} {F : Nat → Prop} {l : List UInt8} {bad : Nat} {p : Option Addr} {v : Value} {x : List UInt8} (h : Wr w b t n o f F l bad) (hp : f o = .pointer p) (hv : Rd w F v x) (hF : F w.heap.size) :
    (∃ f', Wr (((w.setCell ⟨b, o, none⟩ (.pointer (some ⟨w.heap.size, 0, none⟩))).setCell ⟨b, o + 1, none⟩ (.int .i64 ((l.length : Int) + (x.length : Int)))).alloc (.cells #[.pointer p, v] 130)) b t n o f' F (l ++ x) bad ∧ Els o f f') ∧ w.grownBy (((w.setCell ⟨b, o, none⟩ (.pointer (some ⟨w.heap.size, 0, none⟩))).setCell ⟨b, o + 1, none⟩ (.int .i64 ((l.length : Int) + (x.length : Int)))).alloc (.cells #[.pointer p, v] 130)) (some b) := by
  obtain ⟨h1, h2, h3, q, ps, e1, e2, e3, hc, hl⟩ := h
  obtain rfl : p = q := by rw [hp] at e1; injection e1
  have g1 := gset w ⟨b, o, none⟩ (.pointer (some ⟨w.heap.size, 0, none⟩))
  have g2 := gset (w.setCell ⟨b, o, none⟩ (.pointer (some ⟨w.heap.size, 0, none⟩))) ⟨b, o + 1, none⟩ (.int .i64 ((l.length : Int) + (x.length : Int)))
  have hz : ((w.setCell ⟨b, o, none⟩ (.pointer (some ⟨w.heap.size, 0, none⟩))).setCell ⟨b, o + 1, none⟩ (.int .i64 ((l.length : Int) + (x.length : Int)))).heap.size = w.heap.size := by simp [World.setCell]
  have hnew := heap_new ((w.setCell ⟨b, o, none⟩ (.pointer (some ⟨w.heap.size, 0, none⟩))).setCell ⟨b, o + 1, none⟩ (.int .i64 ((l.length : Int) + (x.length : Int)))) #[.pointer p, v] 130
  rw [hz] at hnew
  have g3 := gtrans (gtrans g1 g2) (galloc _ (.cells #[.pointer p, v] 130) (some b))
  have hlt := h1.lt
  have hr : ∀ k, some b = some k → ¬ F k := fun k e => by injection e with e; rw [← e]; exact h3
  refine ⟨⟨_, ⟨((h1.set o _).set (o + 1) _).alloc _, h2, h3, some ⟨w.heap.size, 0, none⟩, x :: ps, ?_, ?_, ?_, ⟨w.heap.size, v, p, rfl, (Array.getElem?_eq_some_iff.1 hnew).1, hF, hnew, hv.on g3 hr, hc.lt, hc.on g3 hr⟩, by rw [laid, hl]⟩, fun j hj => ?_⟩, g3⟩
  · simp
  · simp
  · simp; exact e3
  · rw [if_neg (by omega), if_neg (by omega)]
theorem Wr.reset {w : World} {b t n o : Nat} {f : Nat → Value} {F : Nat → Prop} {l : List UInt8} {bad : Nat} (h : Wr w b t n o f F l bad) (e : Nat) :
    (∃ f', Wr (((w.setCell ⟨b, o, none⟩ (.pointer none)).setCell ⟨b, o + 1, none⟩ (.int .i64 0)).setCell ⟨b, o + 2, none⟩ (.int .i64 (e : Int))) b t n o f' F [] e ∧ Els o f f') ∧ w.grownBy (((w.setCell ⟨b, o, none⟩ (.pointer none)).setCell ⟨b, o + 1, none⟩ (.int .i64 0)).setCell ⟨b, o + 2, none⟩ (.int .i64 (e : Int))) (some b) := by
  obtain ⟨h1, h2, h3, q, ps, e1, e2, e3, hc, hl⟩ := h
  refine ⟨⟨_, ⟨((h1.set o _).set (o + 1) _).set (o + 2) _, h2, h3, none, [], ?_, ?_, ?_, rfl, rfl⟩, fun j hj => ?_⟩, gtrans (gtrans (gset _ _ _) (gset _ _ _)) (gset _ _ _)⟩
  · simp
  · simp
  · simp
  · rw [if_neg (by omega), if_neg (by omega), if_neg (by omega)]

set_option maxRecDepth 100000 in
set_option maxHeartbeats 1000000 in
theorem lay_any (w : World) (b t n o : Nat) (f : Nat → Value) (F : Nat → Prop) (l : List UInt8) (bad : Nat) (v : Value) (x : List UInt8) (h : Wr w b t n o f F l bad) (hv : Rd w F v x) (hF : ∀ g, w.heap.size ≤ g → F g) (hl : l.length + x.length ≤ 140737488355328) :
    Calls Tryz.prog 68 #[.pointer (some ⟨b, o, none⟩), v] w fun e w' => e = .returned (.tuple #[]) ∧ (∃ f', Wr w' b t n o f' F (if bad = 0 then l ++ x else l) bad ∧ Els o f f') ∧ w.grownBy w' (some b) := by
  obtain ⟨p, c0, c1, c2, hfz, hlt, hp⟩ := h.cells
  have HW := hid h
  have HV := hid hv
  have HP := hid hp
  obtain ⟨a, b', off, c, rfl, -⟩ := hv
  clear h hp
  have hne : ¬ b = w.heap.size := by omega
  by_cases hb : bad = 0
  · subst hb
    rw [if_pos rfl]
    go_enter Tryz.func68, Tryz.ntmps68
    go_wp2_with fail
    go_end0
    exact ⟨rfl, HW.out.push HP.out HV.out (hF _ (Nat.le_refl _))⟩
  · have hd : ((bad : Int) == 0) = false := by simpa using hb
    have hd2 : (bad == 0) = false := by simpa using hb
    rw [if_neg hb]
    clear hb
    go_enter Tryz.func68, Tryz.ntmps68
    go_wp2_with fail
    go_end0
    exact ⟨rfl, ⟨f, HW.out, Els.refl _ _⟩, grefl _ _⟩

def ref (bad e : Nat) : Nat := if bad = 0 then e else bad
set_option maxRecDepth 100000 in
set_option maxHeartbeats 1000000 in
theorem wrefuse_any (w : World) (b t n o : Nat) (f : Nat → Value) (F : Nat → Prop) (l : List UInt8) (bad e : Nat) (h : Wr w b t n o f F l bad) :
    Calls Tryz.prog 67 #[.pointer (some ⟨b, o, none⟩), .int .i64 e] w fun r w' => r = .returned (.tuple #[]) ∧ (∃ f', Wr w' b t n o f' F (if bad = 0 then [] else l) (ref bad e) ∧ Els o f f') ∧ w.grownBy w' (some b) := by
  obtain ⟨p, c0, c1, c2, hfz, hlt, hp⟩ := h.cells
  have HW := hid h
  clear h hp
  by_cases hb : bad = 0
  · subst hb
    rw [if_pos rfl, show ref 0 e = e from rfl]
    go_enter Tryz.func67, Tryz.ntmps67
    go_wp2_with fail
    go_end0
    exact ⟨rfl, HW.out.reset e⟩
  · have hd : ((bad : Int) == 0) = false := by simpa using hb
    have hd2 : (bad == 0) = false := by simpa using hb
    rw [if_neg hb, show ref bad e = bad from if_neg hb]
    clear hb
    go_enter Tryz.func67, Tryz.ntmps67
    go_wp2_with fail
    go_end0
    exact ⟨rfl, ⟨f, HW.out, Els.refl _ _⟩, grefl _ _⟩
end Go.Proofs.YtfalgjdhdgkbfaaGreatDoor
