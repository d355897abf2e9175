/- TerseEqual's walk. -/
import Derived.Test.YtihbpkebknifdaaGreatDoorX48
import Derived.Test.YtihbpkebknifdaaGreatDoorTuD
import Derived.Test.YtihbpkebknifdaaGreatDoorGrowX
import Derived.Test.YtihbpkebknifdaaGreatDoorEqC
import Derived.Test.YtihbpkebknifdaaGreatDoorBackB
import Derived.Test.YtihbpkebknifdaaGreatDoorX33
import Derived.Test.YtihbpkebknifdaaGreatDoorX31
import Derived.Test.YtihbpkebknifdaaGreatDoorWalkY
namespace Go.Proofs.YtihbpkebknifdaaGreatDoor
open Go Go.RowKit Go.Maps
open Go.RowKit (wrap32 wrap64)

theorem cells7 {w : World} {k : Nat} {a b c d e f g : Value} {t : TypeId} (h : w.heap[k]? = some (.cells #[a, b, c, d, e, f, g] t (0, 0))) :
    (w.cell? ⟨k, 0, none⟩ = some a ∧ w.cell? ⟨k, 1, none⟩ = some b ∧ w.cell? ⟨k, 2, none⟩ = some c ∧ w.cell? ⟨k, 3, none⟩ = some d ∧ w.cell? ⟨k, 4, none⟩ = some e ∧ w.cell? ⟨k, 5, none⟩ = some f ∧ w.cell? ⟨k, 6, none⟩ = some g) ∧ ∀ o, w.frozen? ⟨k, o, none⟩ = false := by
  refine ⟨?_, ?_⟩
  · simp [World.cell?, h]
  · intro o; simp [World.frozen?, h]
theorem grown_at {w u : World} {k : Nat} {x : Obj} (hg : w.grownBy u none) (h : w.heap[k]? = some x) : u.heap[k]? = some x :=
  (hg.block _ (Array.getElem?_eq_some_iff.1 h).1 (by simp)).trans h
theorem within_eq (x : Int) (n : Nat) (h0 : 0 < n) (hn : n ≤ 1152921504606846976) (w : World) : Calls Tryz.prog 9 #[.int .i64 x, .int .i64 n] w fun e w' => (∃ r : Nat, r < n ∧ e = .returned (.int .i64 r)) ∧ w' = w := by
  have h1 := Int.tmod_lt_of_pos x (show (0 : Int) < (n : Int) by omega)
  have h2 := Int.lt_tmod_of_pos x (show (0 : Int) < (n : Int) by omega)
  have h3 : ¬ (n : Int) = 0 := by omega
  go_enter Tryz.func9, Tryz.ntmps9
  go_wp2
  · go_ret
    exact ⟨⟨(x.tmod n + n).toNat, by omega, by rw [show ((x.tmod n + n).toNat : Int) = x.tmod n + n by omega]; rfl⟩, rfl⟩
  · go_ret
    exact ⟨⟨(x.tmod n).toNat, by omega, by rw [show ((x.tmod n).toNat : Int) = x.tmod n by omega]; rfl⟩, rfl⟩
theorem moreT_good {t : Tree} (hk : t.kind = 5) (h : checkT t 0 = 0) : checkT (moreT t) 0 = 0 := by
  obtain ⟨h1, h2⟩ := check_one h
  obtain ⟨k1, k2, k3, k4, k5, k6, k7⟩ := one_kind h1
  have hm : (moreT t).kind = t.kind ∧ (moreT t).flag = t.flag ∧ (moreT t).n = t.n ∧ (moreT t).text = t.text ∧ (moreT t).keys = t.keys ∧ (moreT t).items = t.items ++ [.mk 1 false 0 ⟨#[]⟩ [] []] := ⟨rfl, rfl, rfl, rfl, rfl, rfl⟩
  have hone : oneE (moreT t) 0 = 0 := by
    have h5 : hasItems (5 : Int) = true := by decide
    unfold oneE
    unfold spareB at k3 ⊢
    rw [hm.1, hm.2.1, hm.2.2.1, hm.2.2.2.1, hm.2.2.2.2.1, k4, k5]
    rw [hk] at k3 ⊢
    simp only [Bool.and_eq_true, Bool.or_eq_true, beq_iff_eq] at k3
    have e : ((!t.flag || (5 : Int) == 2) && (t.n == 0 || (5 : Int) == 3) && (t.text.size == 0 || (5 : Int) == 4) && (t.keys.length == 0 || (5 : Int) == 6) && ((moreT t).items.length == 0 || hasItems 5)) = true := by
      rw [h5]
      simp only [Bool.and_eq_true, Bool.or_eq_true, beq_iff_eq]
      exact ⟨k3.1, .inr trivial⟩
    rw [e, show ((5 : Int) == 6 && !keysFit (moreT t)) = false by simp]
    decide
  rw [checkT_eq, if_pos hone, hm.2.2.2.2.2]
  refine checkL_zero.2 (fun x hx => ?_)
  rcases List.mem_append.1 hx with q | q
  · exact h2 x q
  · rw [List.mem_singleton.1 q]; decide
theorem moreT_cnt (t : Tree) : cntT (moreT t) = cntT t + 1 := by
  rw [cntT_eq, cntT_eq t]
  have : ∀ l : List Tree, cntL (l ++ [.mk 1 false 0 ⟨#[]⟩ [] []]) = cntL l + 1 := by
    intro l
    induction l with
    | nil => rfl
    | cons x r ih => rw [List.cons_append, cntL, cntL, ih]; omega
  show cntL (t.items ++ _) + (t.text.size + keyN t.keys) + 1 = _
  rw [this]
  omega
theorem set6 {w : World} {b : Nat} {a0 a1 a2 a3 a4 a5 : Value} {ty : TypeId} (h : w.heap[b]? = some (.cells #[a0, a1, a2, a3, a4, a5] ty (0, 0))) (c0 c1 c2 c3 c4 c5 : Value) :
    ((((((w.setCell ⟨b, 0, none⟩ c0).setCell ⟨b, 1, none⟩ c1).setCell ⟨b, 2, none⟩ c2).setCell ⟨b, 3, none⟩ c3).setCell ⟨b, 4, none⟩ c4).setCell ⟨b, 5, none⟩ c5).heap[b]? = some (.cells #[c0, c1, c2, c3, c4, c5] ty (0, 0)) ∧ w.grownBy ((((((w.setCell ⟨b, 0, none⟩ c0).setCell ⟨b, 1, none⟩ c1).setCell ⟨b, 2, none⟩ c2).setCell ⟨b, 3, none⟩ c3).setCell ⟨b, 4, none⟩ c4).setCell ⟨b, 5, none⟩ c5) (some b) := by
  have h' : Blk w b [a0, a1, a2, a3, a4, a5] ty := h
  refine ⟨((((((h'.set 0 c0).set 1 c1).set 2 c2).set 3 c3).set 4 c4).set 5 c5), ?_⟩
  exact gtrans (gtrans (gtrans (gtrans (gtrans (gset _ _ _) (gset _ _ _)) (gset _ _ _)) (gset _ _ _)) (gset _ _ _)) (gset _ _ _)
theorem wp_store_all {P : Program} {o : Oper} {a : Act} {w : World} {Q : Exit → Act → World → Prop} {K : Act → World → Prop} (ty : TypeId) (x y : Operand) (ho : o.op = .store ty x y) (b : Nat) (cs vs : List Value) (t : TypeId) (hx : a.eval x = .pointer (some ⟨b, 0, none⟩)) (hy : a.eval y = .agg vs.toArray)
    (hb : Blk w b cs t) (hfit : vs.length = cs.length) (hi : (P.info? ty).map (·.size) = some vs.length) (h1 : ∀ v ∈ vs, v.oneCell' = true)
    (h : ∀ w', Blk w' b vs t → w.grownBy w' (some b) → w'.heap.size = w.heap.size → K (a.put o.dst undef) w') : o.wp P a w K Q := by
  refine wp_store_part ty x y ho b 0 cs vs t hx hy hb (by omega) hi h1 (fun w' h1 h2 h3 => h w' ?_ h2 h3)
  have e : splice cs 0 vs = vs := by unfold splice; rw [List.take_zero, List.nil_append, Nat.zero_add, hfit, List.drop_length, List.append_nil]
  rw [e] at h1
  exact h1
theorem step_store_all {P : Program} {ops : Array Oper} {o : Oper} {a : Act} {w : World} {Q : Exit → Act → World → Prop} {K : Act → World → Prop} {E : Prop} (hgd : o.guard = none) (hd : o.dst = none) (ty : TypeId) (x y : Operand) (ho : o.op = .store ty x y) (b : Nat) (cs vs : List Value) (t : TypeId) (hx : a.eval x = .pointer (some ⟨b, 0, none⟩)) (hy : a.eval y = .agg vs.toArray)
    (hb : Blk w b cs t) (hfit : vs.length = cs.length) (hi : (P.info? ty).map (·.size) = some vs.length) (h1 : ∀ v ∈ vs, v.oneCell' = true)
    (h : ∀ w', Blk w' b vs t → w.grownBy w' (some b) → w'.heap.size = w.heap.size → K a w') : if Region.wanted o (yielded ops a.tmps) = true then Oper.wp P o a w K Q else E := by
  have hw : Region.wanted o (yielded ops a.tmps) = true := by simp [Region.wanted, hgd]
  rw [if_pos hw]
  refine wp_store_all ty x y ho b cs vs t hx hy hb hfit hi h1 (fun w' q1 q2 q3 => ?_)
  have e : a.put o.dst undef = a := by rw [hd]; rfl
  rw [e]
  exact h w' q1 q2 q3
theorem own_len {w : World} {B e z n m c : Nat} {a : Option Addr} {xs : List Value} (h : w.ownsRow B e z (.slice a m c) n xs) : m = n := by
  obtain ⟨p1, p2, p3⟩ := own_slice h
  injection p3
theorem more_rd {w4 w6 w7 w8 : World} {B b4 g cap : Nat} {t : Tree} {o : Obj} {ka : Option Addr} {kn kc : Nat} {iv : Value} {xs : List Value} (hB0 : 0 < B) (hB : B ≤ w4.heap.size) (hb4 : w4.heap.size = b4)
    (hk : w4.ownsRow B 9 1 (.slice ka kn kc) t.keys.length (t.keys.map .string)) (h1 : w4.ownsRow B 25 6 iv t.items.length xs) (h2 : Elems w4 (fun g => B ≤ g ∧ some g ≠ iv.ownBlock) t.items xs)
    (hg46 : w4.grownBy w6 none) (hb6 : b4 < w6.heap.size) (hg : (w6.alloc o).grownBy w7 iv.ownBlock) (ho : w7.ownsRow B 25 6 (.slice (some ⟨g, 0, none⟩) (t.items.length + 1) cap) (t.items.length + 1) (xs ++ [.int .i64 1, .bool false, .int .i64 0, .string ⟨#[]⟩, .slice none 0 0, .slice none 0 0])) (hat : iv.ownBlock = some g ∨ g = w6.heap.size + 1) (hg8 : w7.grownBy w8 (some b4)) :
    OwnV w8 B (moreT t) (.agg #[.int .i64 t.kind, .bool t.flag, .int .i64 t.n, .string t.text, .slice ka kn kc, .slice (some ⟨g, 0, none⟩) (t.items.length + 1) cap]) := by
  have hsz6 := hg46.size
  have hgb : g ≠ b4 := by
    rcases hat with h | h
    · have := (h1.lt g h).2; omega
    · omega
  refine ⟨ka, kn, kc, some ⟨g, 0, none⟩, t.items.length + 1, cap, rfl, ?_, ?_⟩
  · have k6 := own_keep hk hg46
    have h16 := own_keep h1 hg46
    have hap : Value.ownBlock (.slice ka kn kc) = none ∨ Value.ownBlock (.slice ka kn kc) ≠ iv.ownBlock := own_ne_type k6 h16 (by decide)
    have k7 := (own_keep k6 (galloc w6 o none)).kept hg hap
    refine k7.kept hg8 ?_
    cases hv : Value.ownBlock (.slice ka kn kc) with
    | none => exact .inl rfl
    | some q => exact .inr (fun e => by injection e with e; have := (hk.lt q hv).2; omega)
  · have e : (moreT t).items = t.items ++ [.mk 1 false 0 ⟨#[]⟩ [] []] := rfl
    refine ⟨_, by rw [e, List.length_append]; exact ho.kept hg8 (.inr (fun e => hgb (by injection e))), ?_⟩
    rw [e]
    have hE6 : Elems w6 (fun g => (B ≤ g ∧ g ≠ b4) ∧ some g ≠ iv.ownBlock) t.items xs := Elems.kept (F := fun g => B ≤ g ∧ some g ≠ iv.ownBlock) (Stays.none hg46) (fun g hg hl => ⟨⟨hg.1, by omega⟩, hg.2⟩) h2
    have hN : RdT (w6.alloc o) (fun g => w6.heap.size ≤ g) (.mk 1 false 0 ⟨#[]⟩ [] []) (.agg #[.int .i64 1, .bool false, .int .i64 0, .string ⟨#[]⟩, .slice none 0 0, .slice none 0 0]) := by
      rw [RdT]
      exact ⟨_, none, 0, rfl, ⟨none, 0, rfl, Nat.le_refl _, fun h => absurd h (by decide)⟩, Nat.le_refl _, fun h => absurd h (by decide)⟩
    have q := elems_moreX (b := 0) (g := g) (X := fun g => g ≠ b4) hB0 (by omega) (own_keep h1 hg46) hE6 (gsome (galloc w6 o none) _) hN (fun g hg => by omega) hg (by simpa using hat)
    exact Elems.kept (Stays.grown hg8 (fun g hg e => hg.1.2 (by injection e))) (fun g hg _ => ⟨hg.1.1, hg.2⟩) q
set_option maxRecDepth 100000 in
set_option maxHeartbeats 20000000 in
theorem equal_walk (w : World) (t : Tree) (hb : BndT t) (hG : Glob w) (ka : Option Addr) (kc : Nat) (ia : Option Addr) (ic : Nat) (X : Int)
    (hT : RdT w (fun _ => True) t (.agg #[.int .i64 t.kind, .bool t.flag, .int .i64 t.n, .string t.text, .slice ka t.keys.length kc, .slice ia t.items.length ic])) :
    Calls Tryz.prog 3 #[.agg #[.int .i64 t.kind, .bool t.flag, .int .i64 t.n, .string t.text, .slice ka t.keys.length kc, .slice ia t.items.length ic, .int .i64 X]] w fun e w' => e = .returned (.bool true) ∧ w.grownBy w' none := by
  obtain ⟨i26, hi26, hz26, hs26, hb26⟩ := info_parts Tryz.info25
  obtain ⟨KN, HKN⟩ : ∃ A, Hid (t.keys.length = A) := ⟨_, hid rfl⟩
  obtain ⟨IL, HIL⟩ : ∃ A, Hid (t.items.length = A) := ⟨_, hid rfl⟩
  obtain ⟨k0, HK0⟩ : ∃ A, Hid (t.kind = A) := ⟨_, hid rfl⟩
  obtain ⟨f0, HF0⟩ : ∃ A, Hid (t.flag = A) := ⟨_, hid rfl⟩
  obtain ⟨n0, HN0⟩ : ∃ A, Hid (t.n = A) := ⟨_, hid rfl⟩
  obtain ⟨s0, HS0⟩ : ∃ A, Hid (t.text = A) := ⟨_, hid rfl⟩
  rw [HKN.out, HIL.out, HK0.out, HF0.out, HN0.out, HS0.out] at hT ⊢
  obtain ⟨W0, hW0⟩ : ∃ W0, w.alloc (.cells #[.int .i64 k0, .bool f0, .int .i64 n0, .string s0, .slice ka KN kc, .slice ia IL ic, .int .i64 X] 27) = W0 := ⟨_, rfl⟩
  have c0 : W0.heap[w.heap.size]? = some (.cells #[.int .i64 k0, .bool f0, .int .i64 n0, .string s0, .slice ka KN kc, .slice ia IL ic, .int .i64 X] 27 (0, 0)) := by
    rw [← hW0]; exact heap_alloc_new w _
  have g0 : w.grownBy W0 none := by rw [← hW0]; exact galloc _ _ none
  have HB0 : Hid (∀ u : World, W0.grownBy u none → u.heap[w.heap.size]? = some (.cells #[.int .i64 k0, .bool f0, .int .i64 n0, .string s0, .slice ka KN kc, .slice ia IL ic, .int .i64 X] 27 (0, 0))) := fun u hu => grown_at hu c0
  have HTW : Hid (∀ u : World, W0.grownBy u none → RdT u (fun _ => True) t (.agg #[.int .i64 k0, .bool f0, .int .i64 n0, .string s0, .slice ka KN kc, .slice ia IL ic])) := fun u hu => hT.on (Stays.none (gtrans g0 hu))
  have HGl : Hid (∀ u : World, W0.grownBy u none → Glob u) := fun u hu => hG.grown (gtrans g0 hu) (fun k hk => by cases hk)
  have HMu : Hid (∀ (u : World) (b : Nat), W0.grownBy u none → u.heap[b]? = some (.cells #[.int .i64 k0, .bool f0, .int .i64 n0, .string s0, .slice ka KN kc, .slice ia IL ic] 25 (0, 0)) →
      Calls Tryz.prog 4 #[.slice (some ⟨b, 0, none⟩) 1 1, .int .i64 5000] u fun e w' => ∃ r : Nat, e = .returned (.int .i64 r) ∧ u.grownBy w' none ∧ ((r = muchL [t] ∧ r ≤ 5000) ∨ (5000 < r ∧ r ≤ 5000 + 562949953421312))) := fun u b hu hbb => by
    refine much_any _ [t] (Nat.le_refl _) (by rw [BndL]; exact ⟨hb, trivial⟩) (by simp) 5000 (by decide) u (fun _ => True) _ ?_
    have hc := (cells6 hbb).1
    refine ⟨some ⟨b, 0, none⟩, 1, rfl, Nat.le_refl _, fun _ => ⟨b, 0, rfl, (Array.getElem?_eq_some_iff.1 hbb).1, trivial, ?_⟩⟩
    rw [RdIs, RdIs]
    exact ⟨⟨_, _, _, _, _, _, hc.1, hc.2.1, hc.2.2.1, hc.2.2.2.1, hc.2.2.2.2.1, hc.2.2.2.2.2, HTW.out u hu⟩, trivial⟩
  have HWk : Hid (∀ u : World, W0.grownBy u none → Calls Tryz.prog 7 #[] u fun e w' => e = .returned (.bool true) ∧ u.grownBy w' none) := fun u hu => wakes_any u (HGl.out u hu)
  have HNu : Hid (∀ (u : World) (E : Int), Calls Tryz.prog 5 #[.int .i64 E] u fun e w' => e = .returned (.int .i64 E) ∧ w' = u) := fun u E => num_any u E
  have HG0 := hid g0
  have HTu : Hid (∀ m, m ≤ 1099511627776 → TurnOk m) := hid turned_any
  obtain ⟨⟨x0, x1, x2, x3, x4, x5, x6⟩, xf⟩ := cells7 c0
  clear hT hb hG c0 g0
  go_enter Tryz.func3, Tryz.ntmps3
  go_wp2_with fail
  have ga : W0.grownBy (W0.alloc (.cells #[.int .i64 k0, .bool f0, .int .i64 n0, .string s0, .slice ka KN kc, .slice ia IL ic] 25)) none := galloc _ _ none
  refine (HMu.out _ W0.heap.size ga (boxed W0 _ _ _ _ _ _)).mono ?_
  rintro e u1 ⟨r, rfl, hg1, hr⟩
  have HU1 := hid (gtrans ga hg1)
  obtain ⟨⟨x0, x1, x2, x3, x4, x5, x6⟩, xf⟩ := cells7 (HB0.out u1 HU1.out)
  by_cases hr2 : r ≤ 5000
  · have hd : decide ((5000 : Int) < (r : Int)) = false := decide_eq_false (by omega)
    have hm : muchT t ≤ 5000 := by
      rcases hr with h | h
      · have := h.1
        simp only [muchL] at this
        omega
      · omega
    have hct := cntT_much t
    have hcn2 : cntT t ≤ 1000000 := by omega
    clear hr ga hg1
    have HCk : Hid (∀ u : World, W0.grownBy u none → Calls Tryz.prog 6 #[.agg #[.int .i64 k0, .bool f0, .int .i64 n0, .string s0, .slice ka KN kc, .slice ia IL ic]] u fun e w' => e = .returned (.int .i64 (checkT t 0)) ∧ u.grownBy w' none) := fun u hu => checkF_any t (by omega) u _ _ (HTW.out u hu) (HGl.out u hu)
    by_cases hc : checkT t 0 = 0
    · rw [hc] at HCk
      have HCn := hid hcn2
      have HC0 := hid hc
      clear hm hct hcn2 hc
      go_upto_region 3 with (first
        | (go_at_call 5; (with_reducible refine (HNu.out _ _).mono ?_); rintro e u4 ⟨rfl, hu4⟩; have hu4' := hu4.symm; clear hu4; subst hu4')
        | (go_at_call 6; (with_reducible refine (HCk.out _ HU1.out).mono ?_); rintro e u2 ⟨rfl, hg2⟩; have HU2 := hid (gtrans HU1.out hg2); clear hg2))
      clear x0 x1 x2 x3 x4 x5 x6 xf hd hr2 HMu
      obtain ⟨wb, hwb⟩ : ∃ z, w.heap.size = z := ⟨_, rfl⟩
      rw [hwb] at HB0 ⊢
      have HS7 : Hid (∀ v, W0.grownBy v none → v.cell? ⟨wb, 0, none⟩ = some (.int .i64 k0) ∧ v.cell? ⟨wb, 1, none⟩ = some (.bool f0) ∧ v.cell? ⟨wb, 2, none⟩ = some (.int .i64 n0) ∧ v.cell? ⟨wb, 3, none⟩ = some (.string s0) ∧ v.cell? ⟨wb, 4, none⟩ = some (.slice ka KN kc) ∧ v.cell? ⟨wb, 5, none⟩ = some (.slice ia IL ic) ∧ v.cell? ⟨wb, 6, none⟩ = some (.int .i64 X)) := hid (fun v hv => (cells7 (HB0.out v hv)).1)
      have HWi : Hid (∀ u : World, Calls Tryz.prog 9 #[.int .i64 X, .int .i64 1000] u fun e w' => (∃ r : Nat, r < 1000 ∧ e = .returned (.int .i64 r)) ∧ w' = u) := hid (fun u => within_eq X 1000 (by decide) (by decide) u)
      have HTn : Hid (∀ (u : World) (q : Nat), q < 1000 → W0.grownBy u none → Calls Tryz.prog 8 #[.agg #[.int .i64 k0, .bool f0, .int .i64 n0, .string s0, .slice ka KN kc, .slice ia IL ic], .int .i64 (q : Nat)] u fun e w' => ∃ v' tt, e = .returned v' ∧ Hid (∃ q, turnT q t = tt) ∧ RdT w' (fun g => u.heap.size ≤ g) tt v' ∧ u.grownBy w' none) := hid (fun u q hq hu => (HTu.out _ (Nat.le_refl _) t (by have := HCn.out; omega) ⟨0, HC0.out⟩ q hq u _ _ (HTW.out u hu)).mono fun e w' ⟨v', q1, q2, q3⟩ => ⟨v', _, q1, hid ⟨q, rfl⟩, q2, q3⟩)
      have s7 := HS7.out u2 HU2.out
      go_cut [3] from 18 to 23 (fun p3 wc => ∃ (b3 : Nat) (tt : Tree) (sa : Option Addr) (sc : Nat) (ta : Option Addr) (tc : Nat), p3 = .pointer (some ⟨b3, 0, none⟩) ∧ Hid (∃ q, turnT q t = tt) ∧ Hid (wc.heap[b3]? = some (.cells #[.int .i64 tt.kind, .bool tt.flag, .int .i64 tt.n, .string tt.text, .slice sa tt.keys.length sc, .slice ta tt.items.length tc] 25 (0, 0))) ∧ Hid (W0.grownBy wc none) ∧ Hid (RdT wc (fun _ => True) tt (.agg #[.int .i64 tt.kind, .bool tt.flag, .int .i64 tt.n, .string tt.text, .slice sa tt.keys.length sc, .slice ta tt.items.length tc])))
      case first =>
        refine wp_region_held_drew (S := fun v => W0.grownBy v none) (by kernel_rfl) (gtrans HU2.out (gd1 _ _)) (fun hHeld => ?_)
        refine wpAnyH_take (i := 0) (oi := { dst := some 18, op := Op.fieldAddr 27 (Operand.tmp 1) 0, type := 0, pos := "plain.go:130", after := #[], guard := none }) (v := (.pointer (some ⟨wb, 0, none⟩))) rfl (by kernel_rfl) (by kernel_rfl) (by kernel_rfl) (fun _ _ _ h => h) (Or.inl ⟨by rfl, by intro u hSu; go_simp⟩) (by assumption) ?_
        (try simp only [Act.put, List.setIfInBounds_toArray, List.set_cons_zero, List.set_cons_succ])
        refine wpAnyH_take (i := 2) (oi := { dst := some 20, op := Op.fieldAddr 27 (Operand.tmp 1) 1, type := 0, pos := "plain.go:130", after := #[], guard := none }) (v := (.pointer (some ⟨wb, 6, none⟩))) rfl (by kernel_rfl) (by kernel_rfl) (by kernel_rfl) (fun _ _ _ h => h) (Or.inl ⟨by rfl, by intro u hSu; go_simp⟩) (by assumption) ?_
        (try simp only [Act.put, List.setIfInBounds_toArray, List.set_cons_zero, List.set_cons_succ])
        refine wpAnyH_take (i := 1) (oi := { dst := some 19, op := Op.load 25 (Operand.tmp 18), type := 25, pos := "plain.go:130", after := #[{ on := 0, ground := Ground.data }], guard := none }) (v := (.agg #[.int .i64 k0, .bool f0, .int .i64 n0, .string s0, .slice ka KN kc, .slice ia IL ic])) rfl (by kernel_rfl) (by kernel_rfl) (by kernel_rfl) (fun _ _ _ h => h) (Or.inl ⟨by rfl, by intro u hSu; have s7 := HS7.out u hSu; go_simp⟩) (by assumption) ?_
        (try simp only [Act.put, List.setIfInBounds_toArray, List.set_cons_zero, List.set_cons_succ])
        refine wpAnyH_take (i := 3) (oi := { dst := some 21, op := Op.load 3 (Operand.tmp 20), type := 3, pos := "plain.go:130", after := #[{ on := 2, ground := Ground.data }], guard := none }) (v := (.int .i64 X)) rfl (by kernel_rfl) (by kernel_rfl) (by kernel_rfl) (fun _ _ _ h => h) (Or.inl ⟨by rfl, by intro u hSu; have s7 := HS7.out u hSu; go_simp⟩) (by assumption) ?_
        (try simp only [Act.put, List.setIfInBounds_toArray, List.set_cons_zero, List.set_cons_succ])
        refine wpAnyH_ready (rs := [4, 6]) (by kernel_rfl) (by simp) ?_
        refine AllReadyH.cons rfl (fun K hK => ?_) (AllReadyH.cons rfl (fun K hK => ?_) AllReadyH.nil)
        · go_simp
          refine (HWi.out _).mono ?_
          rintro e u5 ⟨⟨q, hq, rfl⟩, hu5⟩
          have HQ := hid hq
          subst u5
          clear hq
          refine hK.out _ _ ?_ (fun hHeld => ?_)
          · assumption
          clear hK K
          (try simp only [Act.put, List.setIfInBounds_toArray, List.set_cons_zero, List.set_cons_succ])
          refine wpAnyH_ready (rs := [5, 6]) (by kernel_rfl) (by simp) ?_
          refine AllReadyH.cons rfl (fun K hK => ?_) (AllReadyH.cons rfl (fun K hK => ?_) AllReadyH.nil)
          · go_simp
            refine (HTn.out _ _ HQ.out (gtrans HU2.out (gd1 _ _))).mono ?_
            rintro e u3 ⟨v3, tt, rfl, HQt, hT3, hg3⟩
            have HT3 := hid hT3
            obtain ⟨sv, tv, e3, hsv, htv⟩ := RdT_split hT3
            obtain ⟨sa, sc, rfl, -, -⟩ := hsv
            obtain ⟨ta, tc, rfl, -, -⟩ := htv
            subst e3
            have HU3 : Hid (W0.grownBy u3 none) := hid (gtrans (gtrans HU2.out (gd1 _ _)) hg3)
            refine hK.out _ _ ?_ (fun hHeld => ?_)
            · exact HU3.out
            clear hK K
            (try simp only [Act.put, List.setIfInBounds_toArray, List.set_cons_zero, List.set_cons_succ])
            refine wpAnyH_ready (rs := [6]) (by kernel_rfl) (by simp) ?_
            refine AllReadyH.cons rfl (fun K hK => ?_) AllReadyH.nil
            go_simp
            have BZ0 : Blk (u3.alloc (.cells #[.int .i64 0, .bool false, .int .i64 0, .string ⟨#[]⟩, .slice none 0 0, .slice none 0 0] 25)) u3.heap.size Z6 25 := Blk.new u3 Z6 25
            have gz0 : u3.grownBy (u3.alloc (.cells #[.int .i64 0, .bool false, .int .i64 0, .string ⟨#[]⟩, .slice none 0 0, .slice none 0 0] 25)) none := galloc _ _ none
            have sz0 : (u3.alloc (.cells #[.int .i64 0, .bool false, .int .i64 0, .string ⟨#[]⟩, .slice none 0 0, .slice none 0 0] 25)).heap.size = u3.heap.size + 1 := by simp
            generalize (u3.alloc (.cells #[.int .i64 0, .bool false, .int .i64 0, .string ⟨#[]⟩, .slice none 0 0, .slice none 0 0] 25)) = wz at *
            have BZ := BZ0
            have gz := gz0
            have sz := sz0
            clear BZ0 gz0 sz0
            have HZg : Hid (W0.grownBy wz none) := hid (gtrans (HU3.out) gz)
            refine hK.out _ _ ?_ (fun hHeld => ?_)
            · exact HZg.out
            clear hK K
            (try simp only [Act.put, List.setIfInBounds_toArray, List.set_cons_zero, List.set_cons_succ])
            have HBz : Hid (Blk wz u3.heap.size Z6 25) := hid BZ
            have HGz := hid HZg.out
            have HLz : Hid (W0.heap.size ≤ u3.heap.size) := hid HU3.out.size
            have HTz : Hid (RdT wz (fun g => g ≠ u3.heap.size) tt (.agg #[.int .i64 tt.kind, .bool tt.flag, .int .i64 tt.n, .string tt.text, .slice sa tt.keys.length sc, .slice ta tt.items.length tc])) := hid (RdT.kept (Stays.none gz) (fun g hg hl e => by omega) tt HT3.out)
            clear BZ hT3 hg3 sz gz HZg HT3
            refine wpAnyH_ready (rs := [7]) (by kernel_rfl) (by simp) ?_
            refine AllReadyH.cons rfl (fun K hK => ?_) AllReadyH.nil
            refine step_store_all (by rfl) (by rfl) 25 _ _ (by rfl) (u3.heap.size) Z6 [.int .i64 tt.kind, .bool tt.flag, .int .i64 tt.n, .string tt.text, .slice sa tt.keys.length sc, .slice ta tt.items.length tc] 25 (by with_unfolding_all rfl) (by with_unfolding_all rfl) HBz.out rfl Tryz.size25 (six_one _ _ _ _ _ _ _ _ _ _) ?_
            intro w7 B7 g7 s7
            have HG7 : Hid (W0.grownBy w7 none) := hid (HGz.out.andThen g7 (fun x hx => .inl (by injection hx with hx; have := HLz.out; omega)))
            refine hK.out _ _ ?_ (fun hHeld => ?_)
            · exact HG7.out
            clear hK K
            (try simp only [Act.put, List.setIfInBounds_toArray, List.set_cons_zero, List.set_cons_succ])
            refine wpAnyH_done (by kernel_rfl) ?_ _
            go_wp2_with fail
            go_meet
            exact ⟨_, tt, sa, sc, ta, tc, rfl, HQt, hid B7, HG7, hid ((HTz.out.on (Stays.grown g7 (fun g hg e => hg (by injection e)))).wide (fun _ _ _ => trivial))⟩
          · go_simp
            have BZ0 : Blk (u2.alloc (.cells #[.int .i64 0, .bool false, .int .i64 0, .string ⟨#[]⟩, .slice none 0 0, .slice none 0 0] 25)).drew u2.heap.size Z6 25 := Blk.new u2 Z6 25
            have gz0 : u2.grownBy (u2.alloc (.cells #[.int .i64 0, .bool false, .int .i64 0, .string ⟨#[]⟩, .slice none 0 0, .slice none 0 0] 25)).drew none := gtrans (galloc _ _ none) (gd1 _ _)
            have sz0 : (u2.alloc (.cells #[.int .i64 0, .bool false, .int .i64 0, .string ⟨#[]⟩, .slice none 0 0, .slice none 0 0] 25)).drew.heap.size = u2.heap.size + 1 := by simp
            generalize (u2.alloc (.cells #[.int .i64 0, .bool false, .int .i64 0, .string ⟨#[]⟩, .slice none 0 0, .slice none 0 0] 25)).drew = wz at *
            have BZ := BZ0
            have gz := gz0
            have sz := sz0
            clear BZ0 gz0 sz0
            have HZg : Hid (W0.grownBy wz none) := hid (gtrans (HU2.out) gz)
            refine hK.out _ _ ?_ (fun hHeld => ?_)
            · exact HZg.out
            clear hK K
            (try simp only [Act.put, List.setIfInBounds_toArray, List.set_cons_zero, List.set_cons_succ])
            refine wpAnyH_ready (rs := [5]) (by kernel_rfl) (by simp) ?_
            refine AllReadyH.cons rfl (fun K hK => ?_) AllReadyH.nil
            go_simp
            refine (HTn.out _ _ HQ.out (HZg.out)).mono ?_
            rintro e u3 ⟨v3, tt, rfl, HQt, hT3, hg3⟩
            have HT3 := hid hT3
            obtain ⟨sv, tv, e3, hsv, htv⟩ := RdT_split hT3
            obtain ⟨sa, sc, rfl, -, -⟩ := hsv
            obtain ⟨ta, tc, rfl, -, -⟩ := htv
            subst e3
            have HU3 : Hid (W0.grownBy u3 none) := hid (gtrans (HZg.out) hg3)
            refine hK.out _ _ ?_ (fun hHeld => ?_)
            · exact HU3.out
            clear hK K
            (try simp only [Act.put, List.setIfInBounds_toArray, List.set_cons_zero, List.set_cons_succ])
            have sz' : wz.heap.size = u2.heap.size + 1 := sz
            have HBz : Hid (Blk u3 u2.heap.size Z6 25) := hid (Blk.keep BZ hg3)
            have HGz := hid HU3.out
            have HLz : Hid (W0.heap.size ≤ u2.heap.size) := hid HU2.out.size
            have HTz : Hid (RdT u3 (fun g => g ≠ u2.heap.size) tt (.agg #[.int .i64 tt.kind, .bool tt.flag, .int .i64 tt.n, .string tt.text, .slice sa tt.keys.length sc, .slice ta tt.items.length tc])) := hid (HT3.out.wide (fun g hg hl e => by omega))
            clear BZ hT3 hg3 sz sz' gz HZg HT3
            refine wpAnyH_ready (rs := [7]) (by kernel_rfl) (by simp) ?_
            refine AllReadyH.cons rfl (fun K hK => ?_) AllReadyH.nil
            refine step_store_all (by rfl) (by rfl) 25 _ _ (by rfl) (u2.heap.size) Z6 [.int .i64 tt.kind, .bool tt.flag, .int .i64 tt.n, .string tt.text, .slice sa tt.keys.length sc, .slice ta tt.items.length tc] 25 (by with_unfolding_all rfl) (by with_unfolding_all rfl) HBz.out rfl Tryz.size25 (six_one _ _ _ _ _ _ _ _ _ _) ?_
            intro w7 B7 g7 s7
            have HG7 : Hid (W0.grownBy w7 none) := hid (HGz.out.andThen g7 (fun x hx => .inl (by injection hx with hx; have := HLz.out; omega)))
            refine hK.out _ _ ?_ (fun hHeld => ?_)
            · exact HG7.out
            clear hK K
            (try simp only [Act.put, List.setIfInBounds_toArray, List.set_cons_zero, List.set_cons_succ])
            refine wpAnyH_done (by kernel_rfl) ?_ _
            go_wp2_with fail
            go_meet
            exact ⟨_, tt, sa, sc, ta, tc, rfl, HQt, hid B7, HG7, hid ((HTz.out.on (Stays.grown g7 (fun g hg e => hg (by injection e)))).wide (fun _ _ _ => trivial))⟩
        · go_simp
          have BZ0 : Blk (u2.alloc (.cells #[.int .i64 0, .bool false, .int .i64 0, .string ⟨#[]⟩, .slice none 0 0, .slice none 0 0] 25)).drew u2.heap.size Z6 25 := Blk.new u2 Z6 25
          have gz0 : u2.grownBy (u2.alloc (.cells #[.int .i64 0, .bool false, .int .i64 0, .string ⟨#[]⟩, .slice none 0 0, .slice none 0 0] 25)).drew none := gtrans (galloc _ _ none) (gd1 _ _)
          have sz0 : (u2.alloc (.cells #[.int .i64 0, .bool false, .int .i64 0, .string ⟨#[]⟩, .slice none 0 0, .slice none 0 0] 25)).drew.heap.size = u2.heap.size + 1 := by simp
          generalize (u2.alloc (.cells #[.int .i64 0, .bool false, .int .i64 0, .string ⟨#[]⟩, .slice none 0 0, .slice none 0 0] 25)).drew = wz at *
          have BZ := BZ0
          have gz := gz0
          have sz := sz0
          clear BZ0 gz0 sz0
          have HZg : Hid (W0.grownBy wz none) := hid (gtrans (HU2.out) gz)
          refine hK.out _ _ ?_ (fun hHeld => ?_)
          · exact HZg.out
          clear hK K
          (try simp only [Act.put, List.setIfInBounds_toArray, List.set_cons_zero, List.set_cons_succ])
          refine wpAnyH_ready (rs := [4]) (by kernel_rfl) (by simp) ?_
          refine AllReadyH.cons rfl (fun K hK => ?_) AllReadyH.nil
          go_simp
          refine (HWi.out _).mono ?_
          rintro e u5 ⟨⟨q, hq, rfl⟩, hu5⟩
          have HQ := hid hq
          subst u5
          clear hq
          refine hK.out _ _ ?_ (fun hHeld => ?_)
          · assumption
          clear hK K
          (try simp only [Act.put, List.setIfInBounds_toArray, List.set_cons_zero, List.set_cons_succ])
          refine wpAnyH_ready (rs := [5]) (by kernel_rfl) (by simp) ?_
          refine AllReadyH.cons rfl (fun K hK => ?_) AllReadyH.nil
          go_simp
          refine (HTn.out _ _ HQ.out (HZg.out)).mono ?_
          rintro e u3 ⟨v3, tt, rfl, HQt, hT3, hg3⟩
          have HT3 := hid hT3
          obtain ⟨sv, tv, e3, hsv, htv⟩ := RdT_split hT3
          obtain ⟨sa, sc, rfl, -, -⟩ := hsv
          obtain ⟨ta, tc, rfl, -, -⟩ := htv
          subst e3
          have HU3 : Hid (W0.grownBy u3 none) := hid (gtrans (HZg.out) hg3)
          refine hK.out _ _ ?_ (fun hHeld => ?_)
          · exact HU3.out
          clear hK K
          (try simp only [Act.put, List.setIfInBounds_toArray, List.set_cons_zero, List.set_cons_succ])
          have sz' : wz.heap.size = u2.heap.size + 1 := sz
          have HBz : Hid (Blk u3 u2.heap.size Z6 25) := hid (Blk.keep BZ hg3)
          have HGz := hid HU3.out
          have HLz : Hid (W0.heap.size ≤ u2.heap.size) := hid HU2.out.size
          have HTz : Hid (RdT u3 (fun g => g ≠ u2.heap.size) tt (.agg #[.int .i64 tt.kind, .bool tt.flag, .int .i64 tt.n, .string tt.text, .slice sa tt.keys.length sc, .slice ta tt.items.length tc])) := hid (HT3.out.wide (fun g hg hl e => by omega))
          clear BZ hT3 hg3 sz sz' gz HZg HT3
          refine wpAnyH_ready (rs := [7]) (by kernel_rfl) (by simp) ?_
          refine AllReadyH.cons rfl (fun K hK => ?_) AllReadyH.nil
          refine step_store_all (by rfl) (by rfl) 25 _ _ (by rfl) (u2.heap.size) Z6 [.int .i64 tt.kind, .bool tt.flag, .int .i64 tt.n, .string tt.text, .slice sa tt.keys.length sc, .slice ta tt.items.length tc] 25 (by with_unfolding_all rfl) (by with_unfolding_all rfl) HBz.out rfl Tryz.size25 (six_one _ _ _ _ _ _ _ _ _ _) ?_
          intro w7 B7 g7 s7
          have HG7 : Hid (W0.grownBy w7 none) := hid (HGz.out.andThen g7 (fun x hx => .inl (by injection hx with hx; have := HLz.out; omega)))
          refine hK.out _ _ ?_ (fun hHeld => ?_)
          · exact HG7.out
          clear hK K
          (try simp only [Act.put, List.setIfInBounds_toArray, List.set_cons_zero, List.set_cons_succ])
          refine wpAnyH_done (by kernel_rfl) ?_ _
          go_wp2_with fail
          go_meet
          exact ⟨_, tt, sa, sc, ta, tc, rfl, HQt, hid B7, HG7, hid ((HTz.out.on (Stays.grown g7 (fun g hg e => hg (by injection e)))).wide (fun _ _ _ => trivial))⟩
      case rest =>
        obtain ⟨b3, tt, sa, sc, ta, tc, rfl, HQt, HB3, HU3, HT3⟩ := hcut
        have HGd : Hid (GoodP t) := hid ⟨0, HC0.out⟩
        have HQe : Hid (cntT tt = cntT t ∧ checkT tt 0 = 0 ∧ eqT t tt = true ∧ eqT tt t = true ∧ eqT t t = true) := hid (by
          obtain ⟨q, hq⟩ := HQt.out
          rw [← hq]
          exact ⟨turn_cnt _ q t (Nat.le_refl _) HGd.out, turn_check _ q t 0 (Nat.le_refl _) HC0.out, (turn_eq _ q t (Nat.le_refl _) HGd.out).1, (turn_eq _ q t (Nat.le_refl _) HGd.out).2, eqT_self _ t (Nat.le_refl _) HGd.out⟩)
        have HTt : Hid (∀ u, wc.grownBy u none → RdT u (fun _ => True) tt (.agg #[.int .i64 tt.kind, .bool tt.flag, .int .i64 tt.n, .string tt.text, .slice sa tt.keys.length sc, .slice ta tt.items.length tc])) := hid (fun u hu => HT3.out.on (Stays.none hu))
        have HE1 : Hid (∀ u, wc.grownBy u none → Calls Tryz.prog 11 #[(.agg #[.int .i64 k0, .bool f0, .int .i64 n0, .string s0, .slice ka KN kc, .slice ia IL ic]), (.agg #[.int .i64 tt.kind, .bool tt.flag, .int .i64 tt.n, .string tt.text, .slice sa tt.keys.length sc, .slice ta tt.items.length tc])] u fun e w' => e = .returned (.bool true) ∧ u.grownBy w' none) := hid (fun u hu => by
          have := equalF_any t tt (by have := HCn.out; have := HQe.out.1; omega) (by have := HCn.out; have := HQe.out.1; omega) HC0.out HQe.out.2.1 u _ _ _ _ (HTW.out u (gtrans HU3.out hu)) (HTt.out u hu) (HGl.out u (gtrans HU3.out hu))
          rw [HQe.out.2.2.1] at this
          exact this)
        have HE2 : Hid (∀ u, wc.grownBy u none → Calls Tryz.prog 11 #[(.agg #[.int .i64 tt.kind, .bool tt.flag, .int .i64 tt.n, .string tt.text, .slice sa tt.keys.length sc, .slice ta tt.items.length tc]), (.agg #[.int .i64 k0, .bool f0, .int .i64 n0, .string s0, .slice ka KN kc, .slice ia IL ic])] u fun e w' => e = .returned (.bool true) ∧ u.grownBy w' none) := hid (fun u hu => by
          have := equalF_any tt t (by have := HCn.out; have := HQe.out.1; omega) (by have := HCn.out; have := HQe.out.1; omega) HQe.out.2.1 HC0.out u _ _ _ _ (HTt.out u hu) (HTW.out u (gtrans HU3.out hu)) (HGl.out u (gtrans HU3.out hu))
          rw [HQe.out.2.2.2.1] at this
          exact this)
        have HE3 : Hid (∀ u, wc.grownBy u none → Calls Tryz.prog 11 #[(.agg #[.int .i64 k0, .bool f0, .int .i64 n0, .string s0, .slice ka KN kc, .slice ia IL ic]), (.agg #[.int .i64 k0, .bool f0, .int .i64 n0, .string s0, .slice ka KN kc, .slice ia IL ic])] u fun e w' => e = .returned (.bool true) ∧ u.grownBy w' none) := hid (fun u hu => by
          have := equalF_any t t (by have := HCn.out; have := HQe.out.1; omega) (by have := HCn.out; have := HQe.out.1; omega) HC0.out HC0.out u _ _ _ _ (HTW.out u (gtrans HU3.out hu)) (HTW.out u (gtrans HU3.out hu)) (HGl.out u (gtrans HU3.out hu))
          rw [HQe.out.2.2.2.2] at this
          exact this)
        have HC3 : Hid (∀ u, wc.grownBy u none → Calls Tryz.prog 6 #[(.agg #[.int .i64 tt.kind, .bool tt.flag, .int .i64 tt.n, .string tt.text, .slice sa tt.keys.length sc, .slice ta tt.items.length tc])] u fun e w' => e = .returned (.int .i64 0) ∧ u.grownBy w' none) := hid (fun u hu => by
          have := checkF_any tt (by have := HCn.out; have := HQe.out.1; omega) u _ _ (HTt.out u hu) (HGl.out u (gtrans HU3.out hu))
          rw [HQe.out.2.1] at this
          exact this)
        have HCp : Hid (Calls Tryz.prog 10 #[(.agg #[.int .i64 k0, .bool f0, .int .i64 n0, .string s0, .slice ka KN kc, .slice ia IL ic])] wc fun e w' => ∃ v', e = .returned v' ∧ OwnV w' wc.heap.size t v' ∧ wc.grownBy w' none) := hid (copyValue_any (cntT t) (by have := HCn.out; omega) t (Nat.le_refl _) wc _ _ (HTW.out wc HU3.out))
        have HV3 : Hid (∀ u, wc.grownBy u none → u.cell? ⟨b3, 0, none⟩ = some (.int .i64 tt.kind) ∧ u.cell? ⟨b3, 1, none⟩ = some (.bool tt.flag) ∧ u.cell? ⟨b3, 2, none⟩ = some (.int .i64 tt.n) ∧ u.cell? ⟨b3, 3, none⟩ = some (.string tt.text) ∧ u.cell? ⟨b3, 4, none⟩ = some (.slice sa tt.keys.length sc) ∧ u.cell? ⟨b3, 5, none⟩ = some (.slice ta tt.items.length tc)) := hid (fun u hu => (cells6 (grown_at hu HB3.out)).1)
        have HW0 : Hid (0 < wc.heap.size) := hid (by have := (Array.getElem?_eq_some_iff.1 HB3.out).1; omega)
        have HIb : Hid (IL ≤ 1000000) := hid (by have h1 := HCn.out; have h2 := cntT_eq t; have h3 := cntL_length t.items; have h4 := HIL.out; omega)
        have HM1 : Hid True := hid trivial
        have HM2 : Hid True := hid trivial
        have HM3 : Hid True := hid trivial
        clear HTu HWi HTn HCk HB3 HT3 HU1 HQt HKN
        obtain ⟨x0, x1, x2, x3, x4, x5, x6⟩ := HS7.out wc (gtrans HU3.out (grefl _ _))
        go_upto_region 5 with (first
          | ((with_reducible refine wpList_store_all (by with_unfolding_all rfl) 25 _ _ (by with_unfolding_all rfl) w4.heap.size Z6 [.int .i64 k0, .bool f0, .int .i64 n0, .string s0, .slice ka4 kn4 kc4, .slice ia4 IL ic4] 25 (by with_unfolding_all rfl) (by with_unfolding_all rfl) HB5.out (by with_unfolding_all rfl) (by with_unfolding_all exact Tryz.size25) (six_one _ _ _ _ _ _ _ _ _ _) ?_); intro w6 B6 g6 s6; have HB6 := hid B6; have HG46 : Hid (w4.grownBy w6 none) := hid (HG5.out.andThen g6 (fun x hx => .inl (by injection hx with hx; omega))); have HL6 : Hid (w4.heap.size < w6.heap.size) := hid (by have := B6.lt; exact this); clear B6 g6 s6 HB5 HG5)
          | ((with_reducible refine wpList_alloc_row (by with_unfolding_all rfl) 25 (by with_unfolding_all rfl) Z6 Tryz.zero25 ?_); intro w5 B5 s5 g5; have HB5 := hid B5; have HG5 := hid g5; clear B5 s5 g5)
          | (go_at_call 10; (with_reducible refine HCp.out.mono ?_); rintro e w4 ⟨v4, rfl, ho4, hg4⟩; have HG4 := hid hg4; obtain ⟨ka4, kn4, kc4, ia4, il4, ic4, e4, hk4, xs4, hi4, hE4⟩ := ho4; rw [HK0.out, HF0.out, HN0.out, HS0.out] at e4; have hil : il4 = IL := (own_len hi4).trans HIL.out; subst il4; subst e4; have HK4 := hid hk4; have HI4 := hid hi4; have HE4 := hid hE4; clear hk4 hi4 hE4 hg4))
        obtain ⟨b4, hb4⟩ : ∃ z, w4.heap.size = z := ⟨_, rfl⟩
        have HS4 := hid hb4
        rw [hb4] at HB6 HL6 ⊢
        clear hb4 HCp
        have HW6 := hid (gtrans HG4.out HG46.out)
        have y0 : w6.cell? ⟨b4, 0, none⟩ = some (.int .i64 k0) := HB6.out.cell 0
        have y5 : w6.cell? ⟨b4, 5, none⟩ = some (.slice ia4 IL ic4) := HB6.out.cell 5
        have yf := HB6.out.frozen 5
        clear x0 x1 x2 x3 x4 x5 x6
        by_cases hk5 : k0 = 5
        · have hk5b : (k0 == 5) = true := beq_iff_eq.2 hk5
          have HMk : Hid (t.kind = 5) := hid (HK0.out.trans hk5)
          clear hk5
          have HI6 := hid (own_keep HI4.out HG46.out)
          have HI6' : Hid (w6.ownsRow wc.heap.size 25 6 (.slice ia4 IL ic4) IL xs4) := hid (by have := HI6.out; rw [HIL.out] at this; exact this)
          go_upto_region 7 with (at_builtin; refine wpList_append_lies _ rfl _ _ 23 rfl wc.heap.size 25 i26 _ 6 88 Tryz.underlying23 hi26 hz26 hs26 hb26 rfl (by decide) _ IL xs4 rfl (HI6'.out.alloc _) ⟨w6.heap.size, 0, none⟩ 1 1 [.int .i64 1, .bool false, .int .i64 0, .string ⟨#[]⟩, .slice none 0 0, .slice none 0 0] rfl rfl (news_new w6 _ _) (one6 _ _ _ _ _ _ _ _ _ _) (by decide) (by have := HIb.out; unfold maxLen; omega) (by have := HIb.out; omega) (by have := HW6.out.size; simp; omega) (w6.heap.size + 1) (by simp) ?_; intro g7 cap7 w7 hown7 hg7 hat7 hlt7; have HO7 := hid hown7; have HG7 := hid hg7; have HA7 := hid hat7; have B7 : Blk w7 b4 [.int .i64 k0, .bool f0, .int .i64 n0, .string s0, .slice ka4 kn4 kc4, .slice ia4 IL ic4] 25 := ((HB6.out.keep (galloc w6 _ none)).on hg7 (fun e => by have := (HI4.out.lt b4 e).2; have := HS4.out; omega)); have HB7 := hid B7; have yf7 := B7.frozen 5; have y57 : w7.cell? ⟨b4, 5, none⟩ = some (.slice ia4 IL ic4) := B7.cell 5; clear hown7 hg7 hat7 hlt7 B7 y0 y5 yf)
          obtain ⟨w8, hw8⟩ : ∃ z, w7.setCell ⟨b4, 5, none⟩ (.slice (some ⟨g7, 0, none⟩) (IL + 1) cap7) = z := ⟨_, rfl⟩
          have HG8 : Hid (w7.grownBy w8 (some b4)) := hid (by rw [← hw8]; exact gset w7 ⟨b4, 5, none⟩ _)
          have HB8 : Hid (Blk w8 b4 [.int .i64 k0, .bool f0, .int .i64 n0, .string s0, .slice ka4 kn4 kc4, .slice (some ⟨g7, 0, none⟩) (IL + 1) cap7] 25) := hid (by rw [← hw8]; exact HB7.out.set 5 _)
          rw [hw8]
          clear hw8 y57 yf7
          have HM : Hid (OwnV w8 wc.heap.size (moreT t) (.agg #[.int .i64 k0, .bool f0, .int .i64 n0, .string s0, .slice ka4 kn4 kc4, .slice (some ⟨g7, 0, none⟩) (IL + 1) cap7])) := hid (by
            have := more_rd HW0.out HG4.out.size HS4.out HK4.out HI4.out HE4.out HG46.out HL6.out HG7.out (by rw [HIL.out]; exact HO7.out) HA7.out HG8.out
            rw [HK0.out, HF0.out, HN0.out, HS0.out, HIL.out] at this
            exact this)
          have HW8 : Hid (wc.grownBy w8 none) := hid (((gtrans HW6.out (galloc w6 _ none)).andThen HG7.out (fun j hj => .inl (HI4.out.lt j hj).1)).andThen HG8.out (fun j hj => .inl (by injection hj with hj; have := HG4.out.size; have := HS4.out; omega)))
          have HN1 : Hid (∀ u, w8.grownBy u none → Calls Tryz.prog 11 #[(.agg #[.int .i64 k0, .bool f0, .int .i64 n0, .string s0, .slice ka KN kc, .slice ia IL ic]), (.agg #[.int .i64 k0, .bool f0, .int .i64 n0, .string s0, .slice ka4 kn4 kc4, .slice (some ⟨g7, 0, none⟩) (IL + 1) cap7])] u fun e w' => e = .returned (.bool false) ∧ u.grownBy w' none) := hid (fun u hu => by
            have := equalF_any t (moreT t) (by have := HCn.out; omega) (by rw [moreT_cnt]; have := HCn.out; omega) HC0.out (moreT_good HMk.out HC0.out) u _ _ _ _ (HTW.out u (gtrans HU3.out (gtrans HW8.out hu))) ((HM.out.keep hu).rd) (HGl.out u (gtrans HU3.out (gtrans HW8.out hu)))
            rw [(more_ne t).1] at this
            exact this)
          have HN2 : Hid (∀ u, w8.grownBy u none → Calls Tryz.prog 11 #[(.agg #[.int .i64 k0, .bool f0, .int .i64 n0, .string s0, .slice ka4 kn4 kc4, .slice (some ⟨g7, 0, none⟩) (IL + 1) cap7]), (.agg #[.int .i64 k0, .bool f0, .int .i64 n0, .string s0, .slice ka KN kc, .slice ia IL ic])] u fun e w' => e = .returned (.bool false) ∧ u.grownBy w' none) := hid (fun u hu => by
            have := equalF_any (moreT t) t (by rw [moreT_cnt]; have := HCn.out; omega) (by have := HCn.out; omega) (moreT_good HMk.out HC0.out) HC0.out u _ _ _ _ ((HM.out.keep hu).rd) (HTW.out u (gtrans HU3.out (gtrans HW8.out hu))) (HGl.out u (gtrans HU3.out (gtrans HW8.out hu)))
            rw [(more_ne t).2] at this
            exact this)
          have HY : Hid (∀ u, w8.grownBy u none → u.cell? ⟨b4, 0, none⟩ = some (.int .i64 k0) ∧ u.cell? ⟨b4, 1, none⟩ = some (.bool f0) ∧ u.cell? ⟨b4, 2, none⟩ = some (.int .i64 n0) ∧ u.cell? ⟨b4, 3, none⟩ = some (.string s0) ∧ u.cell? ⟨b4, 4, none⟩ = some (.slice ka4 kn4 kc4) ∧ u.cell? ⟨b4, 5, none⟩ = some (.slice (some ⟨g7, 0, none⟩) (IL + 1) cap7)) := hid (fun u hu => (cells6 (HB8.out.keep hu)).1)
          clear HG7 HO7 HA7 HB7 HB8 HG8 HI6 HI6' HK4 HI4 HE4 HG46 HL6 HB6 HM HMk hk5b
          obtain ⟨x0, x1, x2, x3, x4, x5, x6⟩ := HS7.out w8 (gtrans HU3.out HW8.out)
          obtain ⟨y0, y1, y2, y3, y4, y5⟩ := HY.out w8 (grefl _ _)
          go_upto_region 9 with (first
            | (have hq := HM3.out; clear hq HM3; go_at_call 11; (with_reducible refine (HN1.out _ (grefl _ _)).mono ?_); rintro e v8 ⟨rfl, q1⟩; have HV8 := hid q1; clear q1 x0 x1 x2 x3 x4 x5 x6 y0 y1 y2 y3 y4 y5; obtain ⟨x0, x1, x2, x3, x4, x5, x6⟩ := HS7.out v8 (gtrans HU3.out (gtrans HW8.out HV8.out)); obtain ⟨y0, y1, y2, y3, y4, y5⟩ := HY.out v8 HV8.out)
            | (go_at_call 11; (with_reducible refine (HN2.out _ HV8.out).mono ?_); rintro e v9 ⟨rfl, q1⟩; have HV9 := hid (gtrans HW8.out (gtrans HV8.out q1)); clear q1 x0 x1 x2 x3 x4 x5 x6 y0 y1 y2 y3 y4 y5))
          obtain ⟨x0, x1, x2, x3, x4, x5, x6⟩ := HS7.out v9 (gtrans HU3.out HV9.out)
          obtain ⟨z0, z1, z2, z3, z4, z5⟩ := HV3.out v9 HV9.out
          go_wp2_with (first
            | (have hq := HM1.out; clear hq HM1; go_at_call 11; (with_reducible refine (HE1.out _ HV9.out).mono ?_); rintro e v1 ⟨rfl, q1⟩; have HV1 := hid (gtrans HV9.out q1); clear q1 x0 x1 x2 x3 x4 x5 x6 z0 z1 z2 z3 z4 z5; obtain ⟨x0, x1, x2, x3, x4, x5, x6⟩ := HS7.out v1 (gtrans HU3.out HV1.out); obtain ⟨z0, z1, z2, z3, z4, z5⟩ := HV3.out v1 HV1.out)
            | (have hq := HM2.out; clear hq HM2; go_at_call 11; (with_reducible refine (HE2.out _ HV1.out).mono ?_); rintro e v2 ⟨rfl, q1⟩; have HV2 := hid (gtrans HV1.out q1); clear q1 x0 x1 x2 x3 x4 x5 x6 z0 z1 z2 z3 z4 z5; obtain ⟨x0, x1, x2, x3, x4, x5, x6⟩ := HS7.out v2 (gtrans HU3.out HV2.out); obtain ⟨z0, z1, z2, z3, z4, z5⟩ := HV3.out v2 HV2.out)
            | (go_at_call 11; (with_reducible refine (HE3.out _ HV2.out).mono ?_); rintro e v3 ⟨rfl, q1⟩; have HV3x := hid (gtrans HV2.out q1); clear q1 x0 x1 x2 x3 x4 x5 x6 z0 z1 z2 z3 z4 z5; obtain ⟨x0, x1, x2, x3, x4, x5, x6⟩ := HS7.out v3 (gtrans HU3.out HV3x.out); obtain ⟨z0, z1, z2, z3, z4, z5⟩ := HV3.out v3 HV3x.out)
            | (go_at_call 6; (with_reducible refine (HC3.out _ HV3x.out).mono ?_); rintro e v4 ⟨rfl, q1⟩; have HV4 := hid (gtrans HV3x.out q1); clear q1)
            | (go_at_call 5; (with_reducible refine (HNu.out _ _).mono ?_); rintro e u4 ⟨rfl, hu4⟩; have hu4' := hu4.symm; clear hu4; subst hu4')
            | (go_at_call 7; (with_reducible refine (HWk.out _ (gtrans HU3.out HV4.out)).mono ?_); rintro e v5 ⟨rfl, q1⟩; have HV5 := hid (gtrans HV4.out q1); clear q1))
          go_ret
          exact ⟨rfl, gtrans HG0.out (gtrans HU3.out HV5.out)⟩
        · have hk5b : (k0 == 5) = false := beq_eq_false_iff_ne.2 hk5
          clear hk5
          obtain ⟨x0, x1, x2, x3, x4, x5, x6⟩ := HS7.out w6 (gtrans HU3.out HW6.out)
          obtain ⟨z0, z1, z2, z3, z4, z5⟩ := HV3.out w6 HW6.out
          go_upto_region 9 with fail
          clear y0 y5 yf hk5b
          go_wp2_with (first
            | (have hq := HM1.out; clear hq HM1; go_at_call 11; (with_reducible refine (HE1.out _ HW6.out).mono ?_); rintro e v1 ⟨rfl, q1⟩; have HV1 := hid (gtrans HW6.out q1); clear q1 x0 x1 x2 x3 x4 x5 x6 z0 z1 z2 z3 z4 z5; obtain ⟨x0, x1, x2, x3, x4, x5, x6⟩ := HS7.out v1 (gtrans HU3.out HV1.out); obtain ⟨z0, z1, z2, z3, z4, z5⟩ := HV3.out v1 HV1.out)
            | (have hq := HM2.out; clear hq HM2; go_at_call 11; (with_reducible refine (HE2.out _ HV1.out).mono ?_); rintro e v2 ⟨rfl, q1⟩; have HV2 := hid (gtrans HV1.out q1); clear q1 x0 x1 x2 x3 x4 x5 x6 z0 z1 z2 z3 z4 z5; obtain ⟨x0, x1, x2, x3, x4, x5, x6⟩ := HS7.out v2 (gtrans HU3.out HV2.out); obtain ⟨z0, z1, z2, z3, z4, z5⟩ := HV3.out v2 HV2.out)
            | (go_at_call 11; (with_reducible refine (HE3.out _ HV2.out).mono ?_); rintro e v3 ⟨rfl, q1⟩; have HV3x := hid (gtrans HV2.out q1); clear q1 x0 x1 x2 x3 x4 x5 x6 z0 z1 z2 z3 z4 z5; obtain ⟨x0, x1, x2, x3, x4, x5, x6⟩ := HS7.out v3 (gtrans HU3.out HV3x.out); obtain ⟨z0, z1, z2, z3, z4, z5⟩ := HV3.out v3 HV3x.out)
            | (go_at_call 6; (with_reducible refine (HC3.out _ HV3x.out).mono ?_); rintro e v4 ⟨rfl, q1⟩; have HV4 := hid (gtrans HV3x.out q1); clear q1)
            | (go_at_call 5; (with_reducible refine (HNu.out _ _).mono ?_); rintro e u4 ⟨rfl, hu4⟩; have hu4' := hu4.symm; clear hu4; subst hu4')
            | (go_at_call 7; (with_reducible refine (HWk.out _ (gtrans HU3.out HV4.out)).mono ?_); rintro e v5 ⟨rfl, q1⟩; have HV5 := hid (gtrans HV4.out q1); clear q1))
          go_ret
          exact ⟨rfl, gtrans HG0.out (gtrans HU3.out HV5.out)⟩
    · have hcb : (checkT t 0 != 0) = true := bne_iff_ne.2 hc
      obtain ⟨E, HE⟩ : ∃ z, Hid (checkT t 0 = z) := ⟨_, hid rfl⟩
      rw [HE.out] at HCk hcb
      clear hm hct hcn2 hc
      go_wp2_with (first
        | (go_at_call 7; (with_reducible refine (HWk.out _ HU2.out).mono ?_); rintro e u3 ⟨rfl, hg3⟩; have HU3 := hid (gtrans HU2.out hg3); clear hg3)
        | (go_at_call 5; (with_reducible refine (HNu.out _ _).mono ?_); rintro e u4 ⟨rfl, hu4⟩; have hu4' := hu4.symm; clear hu4; subst hu4')
        | (go_at_call 6; (with_reducible refine (HCk.out _ HU1.out).mono ?_); rintro e u2 ⟨rfl, hg2⟩; have HU2 := hid (gtrans HU1.out hg2); clear hg2))
      go_ret
      exact ⟨rfl, gtrans HG0.out HU3.out⟩
  · have hd : decide ((5000 : Int) < (r : Int)) = true := decide_eq_true (by omega)
    clear hr ga hg1 hr2
    go_wp2_with (go_at_call 7; (with_reducible refine (HWk.out _ HU1.out).mono ?_); rintro e u3 ⟨rfl, hg3⟩; have HU3 := hid (gtrans HU1.out hg3); clear hg3)
    go_ret
    exact ⟨rfl, gtrans HG0.out HU3.out⟩
end Go.Proofs.YtihbpkebknifdaaGreatDoor
