/- The walks of appendNumber, Clone, Copy and of small functions. -/
import Derived.Test.YtfalgjdhdgkbfaaGreatDoorX00
import Derived.Lib.LazyBuf
import Derived.Laws.MakeOwn
namespace Go.Proofs.YtfalgjdhdgkbfaaGreatDoor
open Go Go.RowKit
open Go.RowKit (wrap32 wrap64)

theorem num_any (x : Int) (w : World) : Calls Tryz.prog 19 #[.int .i64 x] w fun e w' => e = .returned (.int .i64 x) ∧ w' = w := by
  go_enter Tryz.func19, Tryz.ntmps19
  go_wp2
  go_ret
  exact ⟨rfl, rfl⟩

def isW (x : Int) : Bool := decide (0 < x ∧ x < 9)
set_option maxHeartbeats 400000 in
theorem isWidth_any (x : Int) (w : World) : Calls Tryz.prog 66 #[.int .i64 x] w fun e w' => e = .returned (.bool (isW x)) ∧ w' = w := by
  have HI : Hid (isW x = (decide (0 < x) && decide (x < 9))) := hid (by unfold isW; by_cases h1 : 0 < x <;> by_cases h2 : x < 9 <;> simp [h1, h2])
  generalize isW x = R at HI
  go_enter Tryz.func66, Tryz.ntmps66
  go_wp2
  all_goals
    go_ret
    exact ⟨by rw [HI.out]; first | (simp [*]; done) | (simp; omega), rfl⟩

theorem below_grown {w w' : World} {row : Option Nat} {B : Nat} (hg : w.grownBy w' row) (hB : B ≤ w.heap.size) (hr : ∀ k, row = some k → B ≤ k) : Below B w w' :=
  ⟨hg.os, hg.tape, hg.output, hg.size, fun k hk => hg.block k (by omega) (fun e => by have := hr k e.symm; omega)⟩
theorem Below.size' {B : Nat} {w w' : World} (h : Below B w w') (hB : B ≤ w.heap.size) : B ≤ w'.heap.size := Nat.le_trans hB h.size
theorem lay_byte (N J : Nat) : (N : Int) / 2 ^ (8 * J) % 256 = ((UInt8.ofNat (N / 2 ^ (8 * J))).toNat : Int) := by
  simp

set_option maxRecDepth 100000 in
set_option maxHeartbeats 1000000 in
theorem appendNumber_any (B N k : Nat) (v : Value) (acc : List UInt8) (w : World) (_hN : N < 18446744073709551616) (hk : k ≤ 8) (ho : Out B w v acc) (hB : B ≤ w.heap.size) (hacc : acc.length ≤ 17592186044416) :
    Calls Tryz.prog 69 #[v, .int .u64 N, .int .i64 k] w fun e w' => ∃ v', e = .returned v' ∧ Out B w' v' (acc ++ layL N k) ∧ Below B w w' := by
  have HO := hid ho
  clear ho
  go_enter Tryz.func69, Tryz.ntmps69
  go_wp2_with fail
  go_loopw [0, 7] (fun ov iv wr => ∃ j : Nat, j ≤ k ∧ iv = .int .i64 ((j : Int) - 1) ∧ Hid (Out B wr ov (acc ++ layP N k (k - j))) ∧ Hid (Below B w wr) ∧ B ≤ wr.heap.size) (fun _ iv _ => (intOf iv + 1).toNat)
  case atStart => exact ⟨k, Nat.le_refl _, rfl, by rw [Nat.sub_self]; show Hid (Out B w v (acc ++ [])); rw [List.append_nil]; exact HO, Below.refl _ _, hB⟩
  case round =>
    obtain ⟨j, hj, rfl, HW, HL, hBr⟩ := hrel
    by_cases hj0 : j = 0
    · subst hj0
      have hd : decide ((0 : Int) ≤ ((0 : Nat) : Int) - 1) = false := by decide
      go_wp2_with fail
      go_ret
      exact ⟨_, rfl, HW.out, HL.out⟩
    · obtain ⟨J, rfl⟩ : ∃ J, j = J + 1 := ⟨j - 1, by omega⟩
      have e0 : ((J + 1 : Nat) : Int) - 1 = (J : Int) := by omega
      rw [e0]
      have eb := lay_byte N J
      obtain ⟨c, HC⟩ : ∃ c, Hid (UInt8.ofNat (N / 2 ^ (8 * J)) = c) := ⟨_, hid rfl⟩
      rw [HC.out] at eb
      have t8 : (8 * (J : Int)).toNat = 8 * J := by omega
      have HS := hid (layP_succ N k (k - (J + 1)))
      have HK : Hid (k - 1 - (k - (J + 1)) = J) := hid (by omega)
      have hll : (acc ++ layP N k (k - (J + 1))).length ≤ 17592186044416 + 8 := by rw [List.length_append, layP_length]; omega
      go_wp2_with (at_builtin; refine wpList_append_byte rfl _ _ rfl B wr.heap.size _ c (HW.out.keep (galloc wr _ none)) rfl (litL wr _) (by omega) (by simp; omega) ?_; intro v2 w2 hO2 hg2)
      refine ⟨⟨J, by omega, rfl, ?_, ?_, ?_⟩, by simp only [intOf]; omega⟩
      · rw [show k - J = k - (J + 1) + 1 by omega, HS.out, HK.out, HC.out, ← List.append_assoc]
        exact hid hO2
      · exact hid ((HL.out.trans ((Below.refl _ _).alloc hBr _)).trans (below_grown hg2 (by simp; omega) (fun j hj => HW.out.block j hj)))
      · have := hg2.size
        simp at this
        omega

theorem Rd.eval_own {w : World} {F : Nat → Prop} {v : Value} {l : List UInt8} (h : Rd w F v l) : ∃ a c, v = .slice a l.length c := by
  obtain ⟨a, b, off, c, e, _⟩ := h
  exact ⟨a, c, e⟩
theorem made0 (w : World) : Out w.heap.size (w.alloc (.cells #[] 5)) (.slice (some ⟨w.heap.size, 0, none⟩) 0 0) [] :=
  ⟨rfl, .inr ⟨w.heap.size, 0, #[], rfl, Nat.le_refl _, heap_new w _ _, Nat.le_refl _, by decide, rfl, rfl⟩⟩

set_option maxRecDepth 100000 in
set_option maxHeartbeats 1000000 in
/-- Copy: the same bytes in a row of its own. -/
theorem copy_any (l : List UInt8) (F : Nat → Prop) (v : Value) (w : World) (hl : l.length ≤ 17592186044416) (hr : Rd w F v l) :
    Calls Tryz.prog 51 #[v] w fun e w' => ∃ v', e = .returned v' ∧ Out w.heap.size w' v' l ∧ w.grownBy w' none := by
  have HR := hid hr
  clear hr
  go_enter Tryz.func51, Tryz.ntmps51
  go_wp2_with (at_builtin; refine wpList_append_rd rfl _ _ rfl w.heap.size F [] l (Out.nil _ _) HR.out (by simp; omega) (Nat.le_refl _) ?_; intro v2 w2 hO2 hg2 _)
  go_ret
  exact ⟨_, rfl, hO2, hg2⟩

set_option maxRecDepth 100000 in
set_option maxHeartbeats 1000000 in
/-- bytes.Clone: the same bytes in a row of its own; nil of nil. -/
theorem clone_any (l : List UInt8) (F : Nat → Prop) (v : Value) (w : World) (hl : l.length ≤ 17592186044416) (hr : Rd w F v l) :
    Calls Tryz.prog 50 #[v] w fun e w' => ∃ v', e = .returned v' ∧ Out w.heap.size w' v' l ∧ w.grownBy w' none := by
  have HR := hid hr
  obtain ⟨a, b, off, c, rfl, hc, hn, ha, hcell⟩ := hr
  clear hcell
  have hnil := fun w a l c => Go.run_eql_slice_nil (P := Tryz.prog) w 28 5 a l c Tryz.underlying28
  cases a with
  | none =>
    have c0 := hn rfl
    have hl0 : l = [] := List.eq_nil_of_length_eq_zero (by omega)
    subst hl0
    subst c0
    go_enter Tryz.func50, Tryz.ntmps50
    go_wp2_with fail
    go_ret
    exact ⟨_, rfl, Out.nil _ _, grefl _ _⟩
  | some q =>
    clear ha hn
    go_enter Tryz.func50, Tryz.ntmps50
    go_wp2_with (at_builtin; refine wpList_append_rd rfl _ _ rfl w.heap.size F [] l (made0 w) (HR.out.keep (galloc w _ none)) (by simp; omega) (by simp) ?_; intro v2 w2 hO2 hg2 _)
    go_ret
    exact ⟨_, rfl, hO2, (galloc w _ none).andThen hg2 (fun j hj => .inl ((made0 w).block j hj))⟩

set_option maxHeartbeats 400000 in
theorem isSum_any (l m : List UInt8) (F G : Nat → Prop) (v u : Value) (w : World) (hl : l.length ≤ 8) (hm : m.length ≤ 140737488355328) (hv : Rd w F v l) (hu : Rd w G u m) (ht : Tab w) :
    Calls Tryz.prog 113 #[v, u] w fun e w' => e = .returned (.bool (decide (numL l = sumL m))) ∧ w' = w := by
  have H1 := hid (number_any l F v w hl hv)
  have H2 := hid (sum_any m G u w hm hu ht)
  have hb := sumL_lt m
  clear hv hu ht
  generalize sumL m = S at H2 hb
  generalize numL l = N at H1
  have HD : Hid (decide (N = S) = ((N : Int) == (S : Int))) := hid (by by_cases h : N = S <;> simp [h, Int.ofNat_inj])
  go_enter Tryz.func113, Tryz.ntmps113
  go_wp2_with (first
    | (go_at_call 108; refine (H1.out).mono ?_; rintro e w' ⟨rfl, hw⟩; have hw' := hw.symm; clear hw; subst hw')
    | (go_at_call 63; refine (H2.out).mono ?_; rintro e w' ⟨rfl, hw⟩; have hw' := hw.symm; clear hw; subst hw'))
  go_ret
  exact ⟨by rw [HD.out]; rfl, rfl⟩

set_option maxRecDepth 100000 in
set_option maxHeartbeats 1000000 in
theorem appendSum_any (B : Nat) (m : List UInt8) (F : Nat → Prop) (v u : Value) (acc : List UInt8) (w : World) (ho : Out B w v acc) (hB : B ≤ w.heap.size) (hacc : acc.length ≤ 17592186044416) (hm : m.length ≤ 140737488355328) (hu : Rd w F u m) (ht : Tab w) :
    Calls Tryz.prog 111 #[v, u] w fun e w' => ∃ v', e = .returned v' ∧ Out B w' v' (acc ++ layL (sumL m) 4) ∧ Below B w w' := by
  have H2 := hid (sum_any m F u w hm hu ht)
  have hb := sumL_lt m
  have H1 := hid (appendNumber_any B (sumL m) 4 v acc w (by omega) (by decide) ho hB hacc)
  clear hu ht ho
  generalize sumL m = S at H2 hb H1 ⊢
  go_enter Tryz.func111, Tryz.ntmps111
  go_wp2_with (first
    | (go_at_call 63; refine (H2.out).mono ?_; rintro e w' ⟨rfl, hw⟩; have hw' := hw.symm; clear hw; subst hw')
    | (go_at_call 69; refine (H1.out).mono ?_; rintro e w' ⟨v', rfl, hO, hb⟩))
  go_ret
  exact ⟨_, rfl, hO, hb⟩
end Go.Proofs.YtfalgjdhdgkbfaaGreatDoor

namespace Go.Proofs.YtfalgjdhdgkbfaaGreatDoor
open Go Go.RowKit
open Go.RowKit (wrap32 wrap64)

/-- Parts that have been laid, the last one first. -/
def laid : List (List UInt8) → List UInt8
  | [] => []
  | x :: r => laid r ++ x
def Chain (w : World) (F : Nat → Prop) : Option Addr → List (List UInt8) → Prop
  | p, [] => p = none
  | p, x :: r => ∃ g v q, p = some ⟨g, 0, none⟩ ∧ g < w.heap.size ∧ F g ∧ w.heap[g]? = some (.cells #[.pointer q, v] 130 (0, 0)) ∧ Rd w F v x ∧ (∀ a, q = some a → a.block < g) ∧ Chain w F q r
theorem Chain.on {w w' : World} {F : Nat → Prop} {row : Option Nat} (hg : w.grownBy w' row) (hr : ∀ k, row = some k → ¬ F k) : ∀ {ps : List (List UInt8)} {p : Option Addr}, Chain w F p ps → Chain w' F p ps
  | [], _, h => h
  | _ :: _, _, ⟨g, v, q, e, hl, hF, hh, hx, hd, hc⟩ => ⟨g, v, q, e, Nat.lt_of_lt_of_le hl hg.size, hF, heap_at hg (fun e => hr g e hF) hh, hx.on hg hr, hd, Chain.on hg hr hc⟩
theorem Chain.mono {w : World} {F G : Nat → Prop} (hf : ∀ k, k < w.heap.size → F k → G k) : ∀ {ps : List (List UInt8)} {p : Option Addr}, Chain w F p ps → Chain w G p ps
  | [], _, h => h
  | _ :: _, _, ⟨g, v, q, e, hl, hF, hh, hx, hd, hc⟩ => ⟨g, v, q, e, hl, hf g hl hF, hh, hx.mono hf, hd, Chain.mono hf hc⟩
theorem Chain.lt {w : World} {F : Nat → Prop} : ∀ {ps : List (List UInt8)} {p : Option Addr}, Chain w F p ps → ∀ a, p = some a → a.block < w.heap.size
  | [], _, h, a, e => by rw [show _ = none from h] at e; cases e
  | _ :: _, _, ⟨g, v, q, e, hl, _⟩, a, ea => by rw [e] at ea; injection ea with ea; rw [← ea]; exact hl

/-- A Writer at place o of block b: what it has laid, its refusal. -/
def Wr (w : World) (b t n o : Nat) (f : Nat → Value) (F : Nat → Prop) (l : List UInt8) (bad : Nat) : Prop :=
  w.rowIs b t n f ∧ o + 3 ≤ n ∧ ¬ F b ∧ ∃ p ps, f o = .pointer p ∧ f (o + 1) = .int .i64 (l.length : Int) ∧ f (o + 2) = .int .i64 (bad : Int) ∧ Chain w F p ps ∧ laid ps = l
/-- Other cells of the block stay. -/
def Els (o : Nat) (f f' : Nat → Value) : Prop := ∀ j, (j < o ∨ o + 3 ≤ j) → f' j = f j
theorem Els.refl (o : Nat) (f : Nat → Value) : Els o f f := fun _ _ => rfl
theorem Els.trans {o : Nat} {f g h : Nat → Value} (a : Els o f g) (b : Els o g h) : Els o f h := fun j hj => (b j hj).trans (a j hj)
theorem Wr.on {w w' : World} {b t n o : Nat} {f : Nat → Value} {F : Nat → Prop} {l : List UInt8} {bad : Nat} {row : Option Nat} (h : Wr w b t n o f F l bad) (hg : w.grownBy w' row) (hb : row ≠ some b) (hr : ∀ k, row = some k → ¬ F k) : Wr w' b t n o f F l bad := by
  obtain ⟨h1, h2, h3, p, ps, e1, e2, e3, hc, hl⟩ := h
  exact ⟨h1.of_block (hg.block b h1.lt (fun e => hb e.symm)), h2, h3, p, ps, e1, e2, e3, hc.on hg hr, hl⟩
theorem Wr.keep {w w' : World} {b t n o : Nat} {f : Nat → Value} {F : Nat → Prop} {l : List UInt8} {bad : Nat} (h : Wr w b t n o f F l bad) (hg : w.grownBy w' none) : Wr w' b t n o f F l bad := h.on hg (by simp) (fun k hk => by cases hk)
theorem Wr.mono {w : World} {b t n o : Nat} {f : Nat → Value} {F G : Nat → Prop} {l : List UInt8} {bad : Nat} (h : Wr w b t n o f F l bad) (hf : ∀ k, k < w.heap.size → F k → G k) (hG : ¬ G b) : Wr w b t n o f G l bad := by
  obtain ⟨h1, h2, h3, p, ps, e1, e2, e3, hc, hl⟩ := h
  exact ⟨h1, h2, hG, p, ps, e1, e2, e3, hc.mono hf, hl⟩

/-- What Wr tells the walk. -/
theorem Wr.cells {w : World} {b t n o : Nat} {f : Nat → Value} {F : Nat → Prop} {l : List UInt8} {bad : Nat} (h : Wr w b t n o f F l bad) :
    ∃ p, w.cell? ⟨b, o, none⟩ = some (.pointer p) ∧ w.cell? ⟨b, o + 1, none⟩ = some (.int .i64 (l.length : Int)) ∧ w.cell? ⟨b, o + 2, none⟩ = some (.int .i64 (bad : Int)) ∧ (∀ j, w.frozen? ⟨b, j, none⟩ = false) ∧ b < w.heap.size ∧ f o = .pointer p := by
  obtain ⟨h1, h2, h3, p, ps, e1, e2, e3, hc, hl⟩ := h
  refine ⟨p, ?_, ?_, ?_, fun j => h1.frozen j, h1.lt, e1⟩
  · rw [h1.cell (by omega), e1]
  · rw [h1.cell (by omega), e2]
  · rw [h1.cell (by omega), e3]
theorem Wr.push {w : World} {b t n o : Nat} {f : Nat → Value} {F : Nat → Prop} {l : List UInt8} {bad : Nat} {p : Option Addr} {v : Value} {x : List UInt8} (h : Wr w b t n o f F l bad) (hp : f o = .pointer p) (hv : Rd w F v x) (hF : F w.heap.size) :
    (∃ f', Wr (((w.setCell ⟨b, o, none⟩ (.pointer (some ⟨w.heap.size, 0, none⟩))).setCell ⟨b, o + 1, none⟩ (.int .i64 ((l.length : Int) + (x.length : Int)))).alloc (.cells #[.pointer p, v] 130)) b t n o f' F (l ++ x) bad ∧ Els o f f') ∧ w.grownBy (((w.setCell ⟨b, o, none⟩ (.pointer (some ⟨w.heap.size, 0, none⟩))).setCell ⟨b, o + 1, none⟩ (.int .i64 ((l.length : Int) + (x.length : Int)))).alloc (.cells #[.pointer p, v] 130)) (some b) := by
  obtain ⟨h1, h2, h3, q, ps, e1, e2, e3, hc, hl⟩ := h
  obtain rfl : p = q := by rw [hp] at e1; injection e1
  have g1 := gset w ⟨b, o, none⟩ (.pointer (some ⟨w.heap.size, 0, none⟩))
  have g2 := gset (w.setCell ⟨b, o, none⟩ (.pointer (some ⟨w.heap.size, 0, none⟩))) ⟨b, o + 1, none⟩ (.int .i64 ((l.length : Int) + (x.length : Int)))
  have hz : ((w.setCell ⟨b, o, none⟩ (.pointer (some ⟨w.heap.size, 0, none⟩))).setCell ⟨b, o + 1, none⟩ (.int .i64 ((l.length : Int) + (x.length : Int)))).heap.size = w.heap.size := by simp [World.setCell]
  have hnew := heap_new ((w.setCell ⟨b, o, none⟩ (.pointer (some ⟨w.heap.size, 0, none⟩))).setCell ⟨b, o + 1, none⟩ (.int .i64 ((l.length : Int) + (x.length : Int)))) #[.pointer p, v] 130
  rw [hz] at hnew
  have g3 := gtrans (gtrans g1 g2) (galloc _ (.cells #[.pointer p, v] 130) (some b))
  have hlt := h1.lt
  have hr : ∀ k, some b = some k → ¬ F k := fun k e => by injection e with e; rw [← e]; exact h3
  refine ⟨⟨_, ⟨((h1.set o _).set (o + 1) _).alloc _, h2, h3, some ⟨w.heap.size, 0, none⟩, x :: ps, ?_, ?_, ?_, ⟨w.heap.size, v, p, rfl, (Array.getElem?_eq_some_iff.1 hnew).1, hF, hnew, hv.on g3 hr, hc.lt, hc.on g3 hr⟩, by rw [laid, hl]⟩, fun j hj => ?_⟩, g3⟩
  · simp
  · simp
  · simp; exact e3
  · rw [if_neg (by omega), if_neg (by omega)]
theorem Wr.reset {w : World} {b t n o : Nat} {f : Nat → Value} {F : Nat → Prop} {l : List UInt8} {bad : Nat} (h : Wr w b t n o f F l bad) (e : Nat) :
    (∃ f', Wr (((w.setCell ⟨b, o, none⟩ (.pointer none)).setCell ⟨b, o + 1, none⟩ (.int .i64 0)).setCell ⟨b, o + 2, none⟩ (.int .i64 (e : Int))) b t n o f' F [] e ∧ Els o f f') ∧ w.grownBy (((w.setCell ⟨b, o, none⟩ (.pointer none)).setCell ⟨b, o + 1, none⟩ (.int .i64 0)).setCell ⟨b, o + 2, none⟩ (.int .i64 (e : Int))) (some b) := by
  obtain ⟨h1, h2, h3, q, ps, e1, e2, e3, hc, hl⟩ := h
  refine ⟨⟨_, ⟨((h1.set o _).set (o + 1) _).set (o + 2) _, h2, h3, none, [], ?_, ?_, ?_, rfl, rfl⟩, fun j hj => ?_⟩, gtrans (gtrans (gset _ _ _) (gset _ _ _)) (gset _ _ _)⟩
  · simp
  · simp
  · simp
  · rw [if_neg (by omega), if_neg (by omega), if_neg (by omega)]

set_option maxRecDepth 100000 in
set_option maxHeartbeats 1000000 in
theorem lay_any (w : World) (b t n o : Nat) (f : Nat → Value) (F : Nat → Prop) (l : List UInt8) (bad : Nat) (v : Value) (x : List UInt8) (h : Wr w b t n o f F l bad) (hv : Rd w F v x) (hF : ∀ g, w.heap.size ≤ g → F g) (hl : l.length + x.length ≤ 140737488355328) :
    Calls Tryz.prog 68 #[.pointer (some ⟨b, o, none⟩), v] w fun e w' => e = .returned (.tuple #[]) ∧ (∃ f', Wr w' b t n o f' F (if bad = 0 then l ++ x else l) bad ∧ Els o f f') ∧ w.grownBy w' (some b) := by
  obtain ⟨p, c0, c1, c2, hfz, hlt, hp⟩ := h.cells
  have HW := hid h
  have HV := hid hv
  have HP := hid hp
  obtain ⟨a, b', off, c, rfl, -⟩ := hv
  clear h hp
  have hne : ¬ b = w.heap.size := by omega
  by_cases hb : bad = 0
  · subst hb
    rw [if_pos rfl]
    go_enter Tryz.func68, Tryz.ntmps68
    go_wp2_with fail
    go_end0
    exact ⟨rfl, HW.out.push HP.out HV.out (hF _ (Nat.le_refl _))⟩
  · have hd : ((bad : Int) == 0) = false := by simpa using hb
    have hd2 : (bad == 0) = false := by simpa using hb
    rw [if_neg hb]
    clear hb
    go_enter Tryz.func68, Tryz.ntmps68
    go_wp2_with fail
    go_end0
    exact ⟨rfl, ⟨f, HW.out, Els.refl _ _⟩, grefl _ _⟩

def ref (bad e : Nat) : Nat := if bad = 0 then e else bad
set_option maxRecDepth 100000 in
set_option maxHeartbeats 1000000 in
theorem wrefuse_any (w : World) (b t n o : Nat) (f : Nat → Value) (F : Nat → Prop) (l : List UInt8) (bad e : Nat) (h : Wr w b t n o f F l bad) :
    Calls Tryz.prog 67 #[.pointer (some ⟨b, o, none⟩), .int .i64 e] w fun r w' => r = .returned (.tuple #[]) ∧ (∃ f', Wr w' b t n o f' F (if bad = 0 then [] else l) (ref bad e) ∧ Els o f f') ∧ w.grownBy w' (some b) := by
  obtain ⟨p, c0, c1, c2, hfz, hlt, hp⟩ := h.cells
  have HW := hid h
  clear h hp
  by_cases hb : bad = 0
  · subst hb
    rw [if_pos rfl, show ref 0 e = e from rfl]
    go_enter Tryz.func67, Tryz.ntmps67
    go_wp2_with fail
    go_end0
    exact ⟨rfl, HW.out.reset e⟩
  · have hd : ((bad : Int) == 0) = false := by simpa using hb
    have hd2 : (bad == 0) = false := by simpa using hb
    rw [if_neg hb, show ref bad e = bad from if_neg hb]
    clear hb
    go_enter Tryz.func67, Tryz.ntmps67
    go_wp2_with fail
    go_end0
    exact ⟨rfl, ⟨f, HW.out, Els.refl _ _⟩, grefl _ _⟩
end Go.Proofs.YtfalgjdhdgkbfaaGreatDoor

namespace Go.Proofs.YtfalgjdhdgkbfaaGreatDoor
open Go Go.RowKit
open Go.RowKit (wrap32 wrap64)

theorem make0 (w : World) (n : Nat) (hn : n ≤ 140737488355328) : ∃ w', (Instr.makeSlice 28 (.int .i64 0) (.int .i64 (n : Int))).run Tryz.prog w = .ok (.slice (some ⟨w.heap.size, 0, none⟩) 0 n) w' ∧ Out w.heap.size w' (.slice (some ⟨w.heap.size, 0, none⟩) 0 n) [] ∧ w.grownBy w' none := by
  obtain ⟨inf, hi, hz0, hz1, hz2⟩ := info_parts Tryz.info5
  exact run_make_own w w.heap.size 28 5 inf (.int .u8 0) 1 Tryz.underlying28 hi hz0 hz1 .i64 .i64 n (by rw [hz2]; omega) (by unfold maxLen; omega) (Nat.le_refl _)

set_option maxRecDepth 100000 in
set_option maxHeartbeats 2000000 in
/-- Frame of a body that may be. -/
theorem frame_ok (l : List UInt8) (F : Nat → Prop) (v : Value) (w : World) (hl : l.length ≤ 16777216) (hr : Rd w F v l) (ht : Tab w) :
    Calls Tryz.prog 47 #[v] w fun e w' => ∃ v', e = .returned (.tuple #[v', .int .i64 0]) ∧ Out w.heap.size w' v' (frameL l) ∧ w.grownBy w' none := by
  have HR : Hid (∀ u : World, Below w.heap.size w u → Rd u F v l) := fun u hu => hr.keep (gof hu none)
  have HT : Hid (∀ u : World, Below w.heap.size w u → Tab u) := fun u hu => ht.keep (gof hu none)
  obtain ⟨w1, hmk, ho1, hg1⟩ := make0 w (l.length + 13) (by omega)
  rw [show ((l.length + 13 : Nat) : Int) = 9 + (l.length : Int) + 4 by omega] at hmk
  have HO1 := hid ho1
  have HB1 := hid (gbelow hg1)
  have hz1 := hg1.size
  obtain ⟨a, b, off, c, rfl, -⟩ := hr
  have hd : decide ((16777216 : Int) < (l.length : Int)) = false := decide_eq_false (by omega)
  have HFL : Hid (frameL l = [] ++ [201] ++ layL l.length 4 ++ layL (sumL ([] ++ [201] ++ layL l.length 4)) 4 ++ l ++ layL (sumL l) 4) := hid (by simp [frameL, head5])
  clear ho1 hg1 ht
  have k1 := layL_length l.length 4
  have k2 := layL_length (sumL ([] ++ [201] ++ layL l.length 4)) 4
  obtain ⟨L, HL⟩ : ∃ L, Hid (l.length = L) := ⟨_, hid rfl⟩
  have HLE : Hid (∀ x : List UInt8, x.length ≤ 33554432 → x.length ≤ 17592186044416 ∧ x.length ≤ 140737488355328) := hid (fun x hx => by omega)
  have HLA : Hid (([] ++ [201] : List UInt8).length ≤ 33554432 ∧ ([] ++ [201] ++ layL l.length 4).length ≤ 33554432 ∧ ([] ++ [201] ++ layL l.length 4 ++ layL (sumL ([] ++ [201] ++ layL l.length 4)) 4).length ≤ 33554432 ∧ ([] ++ [201] ++ layL l.length 4 ++ layL (sumL ([] ++ [201] ++ layL l.length 4)) 4 ++ l).length ≤ 33554432 ∧ l.length ≤ 33554432 ∧ ([] ++ [201] ++ layL l.length 4 ++ layL (sumL ([] ++ [201] ++ layL l.length 4)) 4).length + l.length ≤ 33554432) := hid (by
    simp only [List.length_append, List.length_cons, List.length_nil, layL_length]; omega)
  clear k1 k2
  go_enter Tryz.func47, Tryz.ntmps47
  go_wp2_with (first
    | (at_builtin; refine wpList_append_byte rfl _ _ rfl w.heap.size w1.heap.size _ 201 (HO1.out.keep (galloc w1 _ none)) rfl (litL w1 _) (by simp) (by simp; omega) ?_; intro v2 w2 hO2 hg2; have HO2 := hid hO2; have HB2 := hid ((HB1.out.trans ((Below.refl _ _).alloc hz1 _)).trans (below_grown hg2 (by simp; omega) (fun j hj => HO1.out.block j hj))); have hz2 := HB2.out.size; clear hO2 hg2)
    | (go_at_call 69; refine (appendNumber_any w.heap.size l.length 4 _ _ _ (by omega) (by decide) HO2.out hz2 (HLE.out _ HLA.out.1).1).mono ?_; rintro e w3 ⟨v3, rfl, hO3, hB3⟩; have HO3 := hid hO3; have HB3 := hid (HB2.out.trans hB3); have hz3 := HB3.out.size; clear hO3 hB3)
    | (go_at_call 111; refine (appendSum_any w.heap.size _ _ _ _ _ _ HO3.out hz3 (HLE.out _ HLA.out.2.1).1 (HLE.out _ HLA.out.2.1).2 HO3.out.rd (HT.out _ HB3.out)).mono ?_; rintro e w4 ⟨v4, rfl, hO4, hB4⟩; have HO4 := hid hO4; have HB4 := hid (HB3.out.trans hB4); have hz4 := HB4.out.size; clear hO4 hB4)
    | (at_builtin; refine wpList_append_rd rfl _ _ rfl w.heap.size F _ l HO4.out (HR.out _ HB4.out) (by have := HLA.out.2.2.2.2.2; omega) hz4 ?_; intro v5 w5 hO5 hg5 _; have HO5 := hid hO5; have HB5 := hid (HB4.out.trans (below_grown hg5 hz4 (fun j hj => HO4.out.block j hj))); have hz5 := HB5.out.size; clear hO5 hg5)
    | (go_at_call 111; refine (appendSum_any w.heap.size l F _ _ _ _ HO5.out hz5 (HLE.out _ HLA.out.2.2.2.1).1 (HLE.out _ HLA.out.2.2.2.2.1).2 (HR.out _ HB5.out) (HT.out _ HB5.out)).mono ?_; rintro e w6 ⟨v6, rfl, hO6, hB6⟩; have HO6 := hid hO6; have HB6 := hid (HB5.out.trans hB6); clear hO6 hB6))
  go_ret2
  exact ⟨_, rfl, by rw [HFL.out]; exact HO6.out, gof HB6.out none⟩

set_option maxHeartbeats 400000 in
theorem frame_no (v : Value) (n c : Nat) (a : Option Addr) (w : World) (hv : v = .slice a n c) (hn : 16777216 < n) (hn2 : n ≤ 140737488355328) :
    Calls Tryz.prog 47 #[v] w fun e w' => e = .returned (.tuple #[.slice none 0 0, .int .i64 31]) ∧ w' = w := by
  subst hv
  have hd : decide ((16777216 : Int) < (n : Int)) = true := decide_eq_true (by omega)
  go_enter Tryz.func47, Tryz.ntmps47
  go_wp2_with fail
  go_ret2
  exact ⟨rfl, rfl⟩

/-- A part of a slice that can be read. -/
theorem Rd.part {w : World} {F : Nat → Prop} {a : Option Addr} {b off : Nat} {l : List UInt8} (ha : 0 < l.length → a = some ⟨b, off, none⟩ ∧ b < w.heap.size ∧ F b) (hcell : ∀ i (h : i < l.length), w.cell? ⟨b, off + i, none⟩ = some (.int .u8 l[i].toNat))
    (i n cc : Nat) (h : i + n ≤ l.length) (hn : 0 < n) (hcc : n ≤ cc) : Rd w F (.slice (some ⟨b, off + i, none⟩) n cc) ((l.drop i).take n) := by
  have hl : ((l.drop i).take n).length = n := by rw [List.length_take, List.length_drop]; omega
  refine ⟨some ⟨b, off + i, none⟩, b, off + i, cc, by rw [hl], by rw [hl]; exact hcc, (fun h => by cases h), fun _ => ⟨rfl, (ha (by omega)).2⟩, fun j hj => ?_⟩
  rw [hl] at hj
  have := hcell (i + j) (by omega)
  rw [show off + i + j = off + (i + j) by omega, this]
  simp
end Go.Proofs.YtfalgjdhdgkbfaaGreatDoor

namespace Go.Proofs.YtfalgjdhdgkbfaaGreatDoor
open Go Go.RowKit
open Go.RowKit (wrap32 wrap64)

/-- A Reader: what is left, its refusal. -/
def Rr (w : World) (b : Nat) (F : Nat → Prop) (l : List UInt8) (bad : Nat) : Prop :=
  ∃ v, w.heap[b]? = some (.cells #[v, .int .i64 (bad : Int)] 113 (0, 0)) ∧ Rd w F v l ∧ ¬ F b ∧ l.length ≤ 140737488355328
theorem Rr.lt {w : World} {b : Nat} {F : Nat → Prop} {l : List UInt8} {bad : Nat} (h : Rr w b F l bad) : b < w.heap.size := by
  obtain ⟨v, hh, _⟩ := h
  exact (Array.getElem?_eq_some_iff.1 hh).1
theorem Rr.on {w w' : World} {b : Nat} {F : Nat → Prop} {l : List UInt8} {bad : Nat} {row : Option Nat} (h : Rr w b F l bad) (hg : w.grownBy w' row) (hb : row ≠ some b) (hr : ∀ k, row = some k → ¬ F k) : Rr w' b F l bad := by
  obtain ⟨v, hh, hv, hF, hl⟩ := h
  exact ⟨v, heap_at hg hb hh, hv.on hg hr, hF, hl⟩
theorem Rr.keep {w w' : World} {b : Nat} {F : Nat → Prop} {l : List UInt8} {bad : Nat} (h : Rr w b F l bad) (hg : w.grownBy w' none) : Rr w' b F l bad := h.on hg (by simp) (fun k hk => by cases hk)
theorem Rr.mono {w : World} {b : Nat} {F G : Nat → Prop} {l : List UInt8} {bad : Nat} (h : Rr w b F l bad) (hf : ∀ k, k < w.heap.size → F k → G k) (hG : ¬ G b) : Rr w b G l bad := by
  obtain ⟨v, hh, hv, _, hl⟩ := h
  exact ⟨v, hh, hv.mono hf, hG, hl⟩
theorem cells2 {w : World} {k : Nat} {a b : Value} {t : TypeId} (h : w.heap[k]? = some (.cells #[a, b] t (0, 0))) : w.cell? ⟨k, 0, none⟩ = some a ∧ w.cell? ⟨k, 1, none⟩ = some b ∧ ∀ o, w.frozen? ⟨k, o, none⟩ = false :=
  ⟨by simp [World.cell?, h], by simp [World.cell?, h], fun o => by simp [World.frozen?, h]⟩
theorem set1 {w : World} {k : Nat} {a b c : Value} {t : TypeId} (h : w.heap[k]? = some (.cells #[a, b] t (0, 0))) : (w.setCell ⟨k, 1, none⟩ c).heap[k]? = some (.cells #[a, c] t (0, 0)) := by
  simp [World.setCell, Array.getElem?_modify, h]
theorem set0 {w : World} {k : Nat} {a b c : Value} {t : TypeId} (h : w.heap[k]? = some (.cells #[a, b] t (0, 0))) : (w.setCell ⟨k, 0, none⟩ c).heap[k]? = some (.cells #[c, b] t (0, 0)) := by
  simp [World.setCell, Array.getElem?_modify, h]
theorem notb {F : Nat → Prop} {b : Nat} (h : ¬ F b) : ∀ k, some b = some k → ¬ F k := fun k e => by injection e with e; rw [← e]; exact h

set_option maxHeartbeats 400000 in
theorem rrefuse_any (w : World) (b : Nat) (F : Nat → Prop) (l : List UInt8) (bad e : Nat) (h : Rr w b F l bad) :
    Calls Tryz.prog 107 #[.pointer (some ⟨b, 0, none⟩), .int .i64 e] w fun r w' => r = .returned (.tuple #[]) ∧ Rr w' b F l (ref bad e) ∧ w.grownBy w' (some b) := by
  have HR := hid h
  obtain ⟨v, hh, hv, hF, hl⟩ := h
  obtain ⟨c0, c1, fz⟩ := cells2 hh
  have hlt := HR.out.lt
  have HH := hid hh
  have HV := hid hv
  clear hh hv
  by_cases hb : bad = 0
  · subst hb
    rw [show ref 0 e = e from rfl]
    go_enter Tryz.func107, Tryz.ntmps107
    go_wp2_with fail
    go_end0
    exact ⟨rfl, ⟨v, set1 HH.out, HV.out.on (gset _ _ _) (notb hF), hF, hl⟩, gset _ _ _⟩
  · have hd : ((bad : Int) == 0) = false := by simpa using hb
    have hd2 : (bad == 0) = false := by simpa using hb
    rw [show ref bad e = bad from if_neg hb]
    clear hb
    go_enter Tryz.func107, Tryz.ntmps107
    go_wp2_with fail
    go_end0
    exact ⟨rfl, HR.out, grefl _ _⟩

/-- What front finds: the refusal behind it, and the field. -/
def rb (l : List UInt8) (bad size : Nat) : Nat := if l.length < size then ref bad 30 else bad
def rt (l : List UInt8) (bad size : Nat) : List UInt8 := if rb l bad size = 0 then l.take size else []
theorem rb_zero {l : List UInt8} {bad size : Nat} (h : rb l bad size = 0) : bad = 0 ∧ size ≤ l.length := by
  unfold rb ref at h
  split at h
  · split at h
    · cases h
    · omega
  · omega
theorem rt_length (l : List UInt8) (bad size : Nat) : (rt l bad size).length ≤ size ∧ (rt l bad size).length ≤ l.length := by
  unfold rt
  split
  · rw [List.length_take]; omega
  · simp

set_option maxRecDepth 100000 in
set_option maxHeartbeats 1000000 in
theorem front_bad (w : World) (b : Nat) (F : Nat → Prop) (l : List UInt8) (bad : Nat) (x : Int) (h : Rr w b F l bad) (hb : bad ≠ 0) :
    Calls Tryz.prog 116 #[.pointer (some ⟨b, 0, none⟩), .int .i64 x] w fun r w' => r = .returned (.slice none 0 0) ∧ Rr w' b F l bad ∧ w.grownBy w' (some b) := by
  have HF : Hid (Calls Tryz.prog 107 #[.pointer (some ⟨b, 0, none⟩), .int .i64 30] w fun r w' => r = .returned (.tuple #[]) ∧ Rr w' b F l bad ∧ w.grownBy w' (some b)) := by
    have := rrefuse_any w b F l bad 30 h
    rw [show ref bad 30 = bad from if_neg hb] at this
    exact this
  have HR := hid h
  obtain ⟨v, hh, hv, hF, hl⟩ := h
  obtain ⟨c0, c1, fz⟩ := cells2 hh
  have hlt := HR.out.lt
  obtain ⟨a, b', off, c, rfl, -⟩ := hv
  have hd : ((bad : Int) != 0) = true := by simpa using hb
  have hd2 : (bad != 0) = true := by simpa using hb
  clear hh hb
  by_cases hx : (l.length : Int) < x
  · go_enter Tryz.func116, Tryz.ntmps116
    go_wp2_with (go_at_call 107; refine (HF.out).mono ?_; rintro e w1 ⟨rfl, hR1, hg1⟩; have HR1 := hid hR1; have HG1 := hid hg1; clear hg1; obtain ⟨v1, hh1, _⟩ := hR1; obtain ⟨d0, d1, dz⟩ := cells2 hh1; clear hh1)
    go_ret
    exact ⟨rfl, HR1.out, HG1.out⟩
  · go_enter Tryz.func116, Tryz.ntmps116
    go_wp2_with fail
    go_ret
    exact ⟨rfl, HR.out, grefl _ _⟩

set_option maxRecDepth 100000 in
set_option maxHeartbeats 1000000 in
theorem front_any (w : World) (b : Nat) (F : Nat → Prop) (l : List UInt8) (bad n : Nat) (h : Rr w b F l bad) (h1 : 1 ≤ n) (hn : n ≤ 140737488355328) :
    Calls Tryz.prog 116 #[.pointer (some ⟨b, 0, none⟩), .int .i64 n] w fun r w' => ∃ v, r = .returned v ∧ Rd w' F v (rt l bad n) ∧ Rr w' b F l (rb l bad n) ∧ w.grownBy w' (some b) := by
  by_cases hb : bad = 0
  · subst hb
    by_cases hs : l.length < n
    · have e1 : rb l 0 n = 30 := by unfold rb ref; rw [if_pos hs]; rfl
      have e2 : rt l 0 n = [] := by unfold rt; rw [e1, if_neg (by decide)]
      rw [e1, e2]
      have HF := hid (rrefuse_any w b F l 0 30 h)
      rw [show ref 0 30 = 30 from rfl] at HF
      have HR := hid h
      obtain ⟨v, hh, hv, hF, hl⟩ := h
      obtain ⟨c0, c1, fz⟩ := cells2 hh
      obtain ⟨a, b', off, c, rfl, -⟩ := hv
      have hi : (l.length : Int) < (n : Int) := by omega
      clear hh
      go_enter Tryz.func116, Tryz.ntmps116
      go_wp2_with (go_at_call 107; refine (HF.out).mono ?_; rintro e w1 ⟨rfl, hR1, hg1⟩; have HR1 := hid hR1; have HG1 := hid hg1; clear hg1; obtain ⟨v1, hh1, _⟩ := hR1; obtain ⟨d0, d1, dz⟩ := cells2 hh1; clear hh1)
      go_ret
      exact ⟨_, rfl, Rd.nil _ _, HR1.out, HG1.out⟩
    · have e1 : rb l 0 n = 0 := by unfold rb; rw [if_neg hs]
      have e2 : rt l 0 n = l.take n := by unfold rt; rw [e1, if_pos rfl]
      rw [e1, e2]
      have HR := hid h
      obtain ⟨v, hh, hv, hF, hl⟩ := h
      obtain ⟨c0, c1, fz⟩ := cells2 hh
      obtain ⟨a, b', off, c, rfl, hlc, hnn, ha, hcell⟩ := hv
      have hp := Rd.part ha hcell 0 n n (by omega) (by omega) (Nat.le_refl _)
      rw [List.drop_zero, Nat.add_zero] at hp
      have HP := hid hp
      obtain ⟨rfl, hb', hFb⟩ := ha (by omega)
      have hi : ¬ (l.length : Int) < (n : Int) := by omega
      clear hh ha hcell hnn hp
      generalize l.length = L at *
      go_enter Tryz.func116, Tryz.ntmps116
      go_wp2_with fail
      go_ret
      exact ⟨_, rfl, HP.out, HR.out, grefl _ _⟩
  · have e1 : rb l bad n = bad := by unfold rb ref; rw [if_neg hb]; split <;> rfl
    have e2 : rt l bad n = [] := by unfold rt; rw [e1, if_neg hb]
    rw [e1, e2]
    refine (front_bad w b F l bad n h hb).mono ?_
    rintro e w' ⟨rfl, hR, hg⟩
    exact ⟨_, rfl, Rd.nil _ _, hR, hg⟩

theorem Rd.rest {w : World} {F : Nat → Prop} {a : Option Addr} {b off c : Nat} {l : List UInt8} (ha : 0 < l.length → a = some ⟨b, off, none⟩ ∧ b < w.heap.size ∧ F b) (hcell : ∀ i (h : i < l.length), w.cell? ⟨b, off + i, none⟩ = some (.int .u8 l[i].toNat)) (hc : l.length ≤ c)
    (n : Nat) (h : n ≤ l.length) (p : Option Addr) (hp : n < l.length → p = some ⟨b, off + n, none⟩) (hn : p = none → c - n = 0) : Rd w F (.slice p (l.length - n) (c - n)) (l.drop n) := by
  have hl : (l.drop n).length = l.length - n := List.length_drop ..
  refine ⟨p, b, off + n, c - n, by rw [hl], by rw [hl]; omega, hn, fun h0 => ⟨hp (by omega), (ha (by omega)).2⟩, fun j hj => ?_⟩
  rw [hl] at hj
  have := hcell (n + j) (by omega)
  rw [show off + n + j = off + (n + j) by omega, this]
  simp
theorem Rr.setLeft {w : World} {b : Nat} {F : Nat → Prop} {l l' : List UInt8} {bad : Nat} {v : Value} (h : Rr w b F l bad) (hv : Rd w F v l') (hl : l'.length ≤ l.length) : Rr (w.setCell ⟨b, 0, none⟩ v) b F l' bad := by
  obtain ⟨u, hh, _, hF, hll⟩ := h
  exact ⟨v, set0 hh, hv.on (gset _ _ _) (notb hF), hF, by omega⟩

set_option maxRecDepth 100000 in
set_option maxHeartbeats 1000000 in
theorem take_bad (w : World) (b : Nat) (F : Nat → Prop) (l : List UInt8) (bad : Nat) (x : Int) (h : Rr w b F l bad) (hb : bad ≠ 0) :
    Calls Tryz.prog 109 #[.pointer (some ⟨b, 0, none⟩), .int .i64 x] w fun r w' => r = .returned (.slice none 0 0) ∧ Rr w' b F l bad ∧ w.grownBy w' (some b) := by
  have HF := hid (front_bad w b F l bad x h hb)
  clear h
  go_enter Tryz.func109, Tryz.ntmps109
  go_wp2_with fail
  refine (HF.out).mono ?_
  rintro e w1 ⟨rfl, hR1, hg1⟩
  have HR1 := hid hR1
  have HG1 := hid hg1
  clear hg1
  obtain ⟨v, hh, hv, hF, hl⟩ := hR1
  obtain ⟨c0, c1, fz⟩ := cells2 hh
  have hlt := HR1.out.lt
  have HV := hid hv
  obtain ⟨a, b', off, c, rfl, hlc, hnn, -⟩ := hv
  clear hh
  cases a with
  | none =>
    have c00 := hnn rfl
    subst c00
    have hl0 : l.length = 0 := by omega
    rw [hl0] at c0 HV
    go_wp2_with fail
    go_ret
    exact ⟨rfl, HR1.out.setLeft HV.out (Nat.le_refl _), gtrans HG1.out (gset _ _ _)⟩
  | some q =>
    obtain ⟨qb, qo, qs⟩ := q
    generalize hL : l.length = L at *
    have HL := hid hL
    clear hL hnn
    go_wp2_with fail
    all_goals
      go_ret
      exact ⟨rfl, HR1.out.setLeft HV.out (Nat.le_refl _), gtrans HG1.out (gset _ _ _)⟩

/-- What is left behind a field. -/
def rl (l : List UInt8) (bad size : Nat) : List UInt8 := if rb l bad size = 0 then l.drop size else l

set_option maxRecDepth 100000 in
set_option maxHeartbeats 1000000 in
theorem take_any (w : World) (b : Nat) (F : Nat → Prop) (l : List UInt8) (bad n : Nat) (h : Rr w b F l bad) (h1 : 1 ≤ n) (hn : n ≤ 140737488355328) :
    Calls Tryz.prog 109 #[.pointer (some ⟨b, 0, none⟩), .int .i64 n] w fun r w' => ∃ v, r = .returned v ∧ Rd w' F v (rt l bad n) ∧ Rr w' b F (rl l bad n) (rb l bad n) ∧ w.grownBy w' (some b) := by
  have HF := hid (front_any w b F l bad n h h1 hn)
  clear h
  go_enter Tryz.func109, Tryz.ntmps109
  go_wp2_with fail
  refine (HF.out).mono ?_
  rintro e w1 ⟨v1, rfl, hv1, hR1, hg1⟩
  have HR1 := hid hR1
  have HG1 := hid hg1
  have HV1 := hid hv1
  clear hg1 HF
  obtain ⟨v, hh, hv, hF, hl⟩ := hR1
  obtain ⟨c0, c1, fz⟩ := cells2 hh
  have hlt := HR1.out.lt
  have HV := hid hv
  obtain ⟨a, b', off, c, rfl, hlc, hnn, ha, hcell⟩ := hv
  clear hh
  by_cases hz : rb l bad n = 0
  · obtain ⟨hb0, hnl⟩ := rb_zero hz
    have e1 : rt l bad n = l.take n := by unfold rt; rw [if_pos hz]
    have e2 : rl l bad n = l.drop n := by unfold rl; rw [if_pos hz]
    have e3 : (rt l bad n).length = n := by rw [e1, List.length_take]; omega
    have HREST : Hid (∀ p, (n < l.length → p = some ⟨b', off + n, none⟩) → (p = none → c - n = 0) → Rd w1 F (.slice p (l.length - n) (c - n)) (rl l bad n)) := hid (fun p hp hq => by rw [e2]; exact Rd.rest ha hcell hlc n hnl p hp hq)
    have hdl : (rl l bad n).length ≤ l.length := by rw [e2, List.length_drop]; omega
    obtain ⟨rfl, hb', hFb⟩ := ha (by omega)
    obtain ⟨a2, b2, off2, c2, rfl, -⟩ := hv1
    rw [e3] at HV1 ⊢
    have HDL := hid hdl
    clear ha hcell hnn e1 e2 e3 hdl HV
    by_cases hcn : c = n
    · have hLn : l.length = n := by omega
      have HLn := hid hLn
      subst hcn
      rw [HLn.out] at c0 HREST
      clear hLn
      go_wp2_with fail
      go_ret
      refine ⟨_, rfl, HV1.out.on (gset _ _ _) (notb hF), HR1.out.setLeft ?_ HDL.out, gtrans HG1.out (gset _ _ _)⟩
      have := HREST.out (some ⟨b', off, none⟩) (fun h => by omega) (fun h => by cases h)
      rw [Nat.sub_self] at this
      exact this
    · have d1 : ¬ c - n = 0 := by omega
      have d2 : ¬ c ≤ n := by omega
      have d3 : ¬ n = c := by omega
      go_wp2_with fail
      go_ret
      refine ⟨_, rfl, HV1.out.on (gset _ _ _) (notb hF), HR1.out.setLeft ?_ HDL.out, gtrans HG1.out (gset _ _ _)⟩
      exact HREST.out _ (fun _ => rfl) (fun h => by cases h)
  · have e1 : rt l bad n = [] := by unfold rt; rw [if_neg hz]
    have e2 : rl l bad n = l := by unfold rl; rw [if_neg hz]
    have HE1 := hid e1
    have HE2 := hid e2
    rw [e1] at HV1 hv1
    obtain ⟨a2, b2, off2, c2, rfl, -⟩ := hv1
    clear ha hcell e1 e2 hz
    cases a with
    | none =>
      have c00 := hnn rfl
      subst c00
      have hl0 : l.length = 0 := by omega
      rw [hl0] at c0 HV
      go_wp2_with fail
      go_ret
      exact ⟨_, rfl, by rw [HE1.out]; exact HV1.out.on (gset _ _ _) (notb hF), by rw [HE2.out]; exact HR1.out.setLeft HV.out (Nat.le_refl _), gtrans HG1.out (gset _ _ _)⟩
    | some q =>
      obtain ⟨qb, qo, qs⟩ := q
      generalize hL : l.length = L at *
      have HL := hid hL
      clear hL hnn
      go_wp2_with fail
      all_goals
        go_ret
        exact ⟨_, rfl, by rw [HE1.out]; exact HV1.out.on (gset _ _ _) (notb hF), by rw [HE2.out]; exact HR1.out.setLeft HV.out (Nat.le_refl _), gtrans HG1.out (gset _ _ _)⟩
end Go.Proofs.YtfalgjdhdgkbfaaGreatDoor
