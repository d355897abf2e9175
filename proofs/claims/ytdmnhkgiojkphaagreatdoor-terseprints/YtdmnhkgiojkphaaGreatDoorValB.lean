/- A value of the argument, as a tree in memory. -/
import Derived.Test.YtdmnhkgiojkphaaGreatDoorX27
namespace Go.Proofs.YtdmnhkgiojkphaaGreatDoor
open Go Go.RowKit Go.ChangeShapes Go.WideShapes Go.Deep

theorem Tryz.cells26 : Tryz.prog.cellsOf 26 = 6 := by kernel_rfl
theorem Tryz.cells24 : Tryz.prog.cellsOf 24 = 1 := by kernel_rfl
theorem Tryz.cells22 : Tryz.prog.cellsOf 22 = 1 := by kernel_rfl
theorem Tryz.cells4 : Tryz.prog.cellsOf 4 = 1 := by kernel_rfl
theorem Tryz.cells2 : Tryz.prog.cellsOf 2 = 1 := by kernel_rfl

theorem RdIs.of {w : World} {F : Nat → Prop} {g : Nat} : ∀ (l : List Tree) (o : Nat), (∀ (i : Nat) (h : i < l.length), ∃ a b c d e f, w.cell? ⟨g, o + i * 6, none⟩ = some a ∧ w.cell? ⟨g, o + i * 6 + 1, none⟩ = some b ∧ w.cell? ⟨g, o + i * 6 + 2, none⟩ = some c ∧ w.cell? ⟨g, o + i * 6 + 3, none⟩ = some d ∧ w.cell? ⟨g, o + i * 6 + 4, none⟩ = some e ∧ w.cell? ⟨g, o + i * 6 + 5, none⟩ = some f ∧ RdT w F l[i] (.agg #[a, b, c, d, e, f])) → RdIs w F g o l
  | [], o, _ => by rw [RdIs]; trivial
  | t :: r, o, h => by
    rw [RdIs]
    refine ⟨?_, RdIs.of r (o + 6) fun i hi => ?_⟩
    · have := h 0 (by simp)
      simpa using this
    · have := h (i + 1) (by simpa using hi)
      rw [show o + (i + 1) * 6 = o + 6 + i * 6 by omega] at this
      simpa using this
theorem six_of {cs : List Value} (h : cs.length = 6) : ∃ a b c d e f, cs = [a, b, c, d, e, f] := by
  match cs, h with
  | [a, b, c, d, e, f], _ => exact ⟨a, b, c, d, e, f, rfl⟩
instance : Inhabited Tree := ⟨zeroT⟩
theorem keyN_range (S : Nat → ByteArray) (n : Nat) : keyN ((List.range n).map S) ≤ Rows.uptoBulkAll (H := Unit) ((List.range n).map fun i => .lit (.string (S i).data.toList)) := by
  generalize List.range n = l
  induction l with
  | nil => simp [keyN]
  | cons a r ih =>
    simp only [List.map_cons, keyN, Rows.uptoBulkAll, Rows.uptoBulk, Array.length_toList]
    have : (S a).data.size = (S a).size := rfl
    omega
theorem bulk_any {H K : Type} (S : Nat → ByteArray) (l : List Nat) : Rows.uptoBulkAll (H := H) (l.map fun i => .lit (.string (S i).data.toList)) = Rows.uptoBulkAll (H := K) (l.map fun i => .lit (.string (S i).data.toList)) := by
  induction l with
  | nil => rfl
  | cons a r ih => simp only [List.map_cons, Rows.uptoBulkAll, Rows.uptoBulk, ih]
theorem cntL_bulk {H : Type} : ∀ (ts : List Tree) (ds : List (DataW H)), ts.length = ds.length → (∀ (i : Nat) (h : i < ts.length) (h' : i < ds.length), cntT ts[i] ≤ Rows.uptoBulk ds[i]) → cntL ts ≤ Rows.uptoBulkAll ds
  | [], [], _, _ => by simp [cntL]
  | [], _ :: _, h, _ => by simp at h
  | _ :: _, [], h, _ => by simp at h
  | t :: r, d :: q, h, hh => by
    have h0 := hh 0 (by simp) (by simp)
    have ih := cntL_bulk r q (by simpa using h) (fun i h1 h2 => by have := hh (i + 1) (by simpa using h1) (by simpa using h2); simpa using this)
    simp only [cntL, Rows.uptoBulkAll]
    simp only [List.getElem_cons_zero] at h0
    omega

section
variable {H : Type} {enc : TypeId × Value → H} {W : World}
/-- What a reading of a value gives. -/
def IsVal (W : World) (cs : List Value) (d : DataW H) : Prop := ∃ t : Tree, RdT W (fun _ => True) t (.agg cs.toArray) ∧ Fits t ∧ cntT t ≤ Rows.uptoBulk d
set_option maxRecDepth 100000 in
theorem open_V : ∀ (fuel : Nat) (cs : List Value) (y : DataW H × List MemPlace), DataW.trod enc Tryz.prog W 0 (fun _ => true) true fuel 26 cs = some y → IsVal W cs y.1
  | fuel, cs, y, h => by
    obtain ⟨xs, n, rfl, rfl, hl, hxl, hf⟩ := DataW.trod_struct Tryz.underlying26 h
    rw [Tryz.cells26] at hl
    obtain ⟨c0, c1, c2, c3, c4, c5, rfl⟩ := six_of hl
    have hxl6 : xs.length = 6 := hxl
    obtain ⟨x0, x1, x2, x3, x4, x5, rfl⟩ : ∃ x0 x1 x2 x3 x4 x5, xs = [x0, x1, x2, x3, x4, x5] := by
      match xs, hxl6 with
      | [a, b, c, d, e, f], _ => exact ⟨a, b, c, d, e, f, rfl⟩
    have f0 : DataW.trod enc Tryz.prog W 0 (fun _ => true) true n 3 [c0] = some x0 := by
      have := hf 0 _ rfl
      change DataW.trod enc Tryz.prog W 0 (fun _ => true) true n 3 ((([c0, c1, c2, c3, c4, c5] : List Value).drop 0).take (Tryz.prog.cellsOf 3)) = some x0 at this
      rw [Tryz.cells3] at this
      exact this
    have f1 : DataW.trod enc Tryz.prog W 0 (fun _ => true) true n 4 [c1] = some x1 := by
      have := hf 1 _ rfl
      change DataW.trod enc Tryz.prog W 0 (fun _ => true) true n 4 ((([c0, c1, c2, c3, c4, c5] : List Value).drop 1).take (Tryz.prog.cellsOf 4)) = some x1 at this
      rw [Tryz.cells4] at this
      exact this
    have f2 : DataW.trod enc Tryz.prog W 0 (fun _ => true) true n 2 [c2] = some x2 := by
      have := hf 2 _ rfl
      change DataW.trod enc Tryz.prog W 0 (fun _ => true) true n 2 ((([c0, c1, c2, c3, c4, c5] : List Value).drop 2).take (Tryz.prog.cellsOf 2)) = some x2 at this
      rw [Tryz.cells2] at this
      exact this
    have f3 : DataW.trod enc Tryz.prog W 0 (fun _ => true) true n 9 [c3] = some x3 := by
      have := hf 3 _ rfl
      change DataW.trod enc Tryz.prog W 0 (fun _ => true) true n 9 ((([c0, c1, c2, c3, c4, c5] : List Value).drop 3).take (Tryz.prog.cellsOf 9)) = some x3 at this
      rw [Tryz.cells9] at this
      exact this
    have f4 : DataW.trod enc Tryz.prog W 0 (fun _ => true) true n 24 [c4] = some x4 := by
      have := hf 4 _ rfl
      change DataW.trod enc Tryz.prog W 0 (fun _ => true) true n 24 ((([c0, c1, c2, c3, c4, c5] : List Value).drop 4).take (Tryz.prog.cellsOf 24)) = some x4 at this
      rw [Tryz.cells24] at this
      exact this
    have f5 : DataW.trod enc Tryz.prog W 0 (fun _ => true) true n 22 [c5] = some x5 := by
      have := hf 5 _ rfl
      change DataW.trod enc Tryz.prog W 0 (fun _ => true) true n 22 ((([c0, c1, c2, c3, c4, c5] : List Value).drop 5).take (Tryz.prog.cellsOf 22)) = some x5 at this
      rw [Tryz.cells22] at this
      exact this
    obtain ⟨k, e0, g0, _⟩ := DataW.trod_int (k := .i64) Tryz.underlying3 f0
    obtain ⟨fl, e1, g1⟩ := DataW.trod_bool Tryz.underlying4 f1
    obtain ⟨z, e2, g2, w2⟩ := DataW.trod_int (k := .i64) Tryz.underlying2 f2
    obtain ⟨s, e3, g3, _⟩ := DataW.trod_string Tryz.underlying9 f3
    simp only [List.cons.injEq, and_true] at e0 e1 e2 e3
    subst e0 e1 e2 e3 g0 g1 g2 g3
    have bz := bounds_i64 w2
    have hK : ∃ ks : List ByteArray, RdK W (fun _ => True) ks c4 ∧ keyN ks + 1 ≤ Rows.uptoBulk x4.1 := by
      rcases open_strs Tryz.underlying24 Tryz.underlying9 Tryz.cells9 f4 with ⟨hcs, hx⟩ | ⟨a, len, cap, m, Sx, hcs, _, hl', _, hmm, hx, hr⟩
      · simp only [List.cons.injEq, and_true] at hcs
        refine ⟨[], ?_, by rw [hx]; simp [keyN, Rows.uptoBulk]⟩
        rw [hcs]
        exact RdK.nil _ _
      · simp only [List.cons.injEq, and_true] at hcs
        simp only [if_true] at hmm
        refine ⟨(List.range len).map Sx, ⟨some a, cap, by rw [hcs]; simp, by simpa using hl', fun h0 => ?_⟩, ?_⟩
        · simp only [List.length_map, List.length_range] at h0
          obtain ⟨b, off, spot⟩ := a
          have q0 := (hr 0 (by omega)).1
          have hspot : spot = none := by simpa [Addr.add] using World.cell?_spot q0
          subst hspot
          rw [add_none] at q0
          refine ⟨b, off, rfl, World.block_lt_of_cell? W _ q0, trivial, fun i kk hi => ?_⟩
          have hil : i < len := by
            have := (List.getElem?_eq_some_iff.1 hi).1
            simpa using this
          have e : ((List.range len).map Sx)[i]? = some (Sx i) := by simp [hil]
          rw [e] at hi
          injection hi with hi
          have := (hr i (by omega)).1
          rw [add_none] at this
          rw [this, hi]
        · rw [hx]
          simp only [Rows.uptoBulk]
          have h1 := keyN_range Sx len
          rw [bulk_any (K := H)] at h1
          omega
    have hI : ∃ ts : List Tree, (∃ (a : Option Addr) (c : Nat), c5 = .slice a ts.length c ∧ ts.length ≤ c ∧ (0 < ts.length → ∃ g o, a = some ⟨g, o, none⟩ ∧ g < W.heap.size ∧ True ∧ RdIs W (fun _ => True) g o ts)) ∧ FitsL ts ∧ cntL ts + 1 ≤ Rows.uptoBulk x5.1 := by
      rcases DataW.trod_slice Tryz.underlying22 f5 with ⟨hcs, hx⟩ | ⟨a, len, cap, elems, rest, n2, hn2, hcs, hx, _, hl', _, hlen, hel, _, _⟩
      · simp only [List.cons.injEq, and_true] at hcs
        exact ⟨[], ⟨none, 0, hcs, Nat.le_refl _, fun h => by simp at h⟩, trivial, by rw [hx]; simp [cntL, Rows.uptoBulk]⟩
      · simp only [List.cons.injEq, and_true] at hcs
        rw [Tryz.cells26] at hel
        have hex : ∀ i, i < len → ∃ t : Tree, (∃ a0 a1 a2 a3 a4 a5, W.cell? ((a.add (i * 6)).add 0) = some a0 ∧ W.cell? ((a.add (i * 6)).add 1) = some a1 ∧ W.cell? ((a.add (i * 6)).add 2) = some a2 ∧ W.cell? ((a.add (i * 6)).add 3) = some a3 ∧ W.cell? ((a.add (i * 6)).add 4) = some a4 ∧ W.cell? ((a.add (i * 6)).add 5) = some a5 ∧ RdT W (fun _ => True) t (.agg #[a0, a1, a2, a3, a4, a5])) ∧ Fits t ∧ ∀ (hi : i < elems.length), cntT t ≤ Rows.uptoBulk elems[i].1 := by
          intro i hi
          have hi' := hel i hi
          rw [List.getElem?_eq_getElem (by omega), Option.bind_eq_some_iff] at hi'
          obtain ⟨cs', hc', ht'⟩ := hi'
          obtain ⟨_, hl6, hc6⟩ := World.cells?_some hc'
          obtain ⟨a0, a1, a2, a3, a4, a5, rfl⟩ := six_of hl6
          obtain ⟨t, hT, hF, hB⟩ := open_V n2 _ _ ht'
          exact ⟨t, ⟨a0, a1, a2, a3, a4, a5, hc6 0 (by omega), hc6 1 (by omega), hc6 2 (by omega), hc6 3 (by omega), hc6 4 (by omega), hc6 5 (by omega), hT⟩, hF, fun _ => hB⟩
        obtain ⟨f, hf'⟩ := choose_lt hex
        refine ⟨(List.range len).map f, ⟨some a, cap, by rw [hcs]; simp, by simpa using hl', fun h0 => ?_⟩, ?_, ?_⟩
        · simp only [List.length_map, List.length_range] at h0
          obtain ⟨b, off, spot⟩ := a
          obtain ⟨⟨q0, _, _, _, _, _, z0, _⟩, _⟩ := hf' 0 (by omega)
          have hspot : spot = none := by simpa [Addr.add] using World.cell?_spot z0
          subst hspot
          rw [add_none, add_none] at z0
          refine ⟨b, off, rfl, World.block_lt_of_cell? W _ z0, trivial, RdIs.of _ _ fun i hi => ?_⟩
          have hil : i < len := by simpa using hi
          obtain ⟨⟨a0, a1, a2, a3, a4, a5, z0, z1, z2, z3, z4, z5, hT⟩, _⟩ := hf' i hil
          simp only [add_none] at z0 z1 z2 z3 z4 z5
          refine ⟨a0, a1, a2, a3, a4, a5, z0, z1, z2, z3, z4, z5, ?_⟩
          simpa using hT
        · refine FitsL_of fun t ht => ?_
          obtain ⟨i, hi, rfl⟩ := List.mem_map.1 ht
          exact (hf' i (List.mem_range.1 hi)).2.1
        · rw [hx]
          simp only [Rows.uptoBulk]
          have := cntL_bulk ((List.range len).map f) (elems.map (·.1)) (by simp <;> omega) (fun i h1 h2 => by
            have hil : i < len := by simpa using h1
            have := (hf' i hil).2.2 (by simpa using h2)
            simpa using this)
          omega
    obtain ⟨ks, hKr, hKb⟩ := hK
    obtain ⟨ts, ⟨a, c, e5, hle, hrd⟩, hFt, hIb⟩ := hI
    refine ⟨.mk k fl z s ks ts, ?_, ?_, ?_⟩
    · rw [RdT]
      exact ⟨c4, a, c, by rw [e5], hKr, hle, hrd⟩
    · rw [Fits_eq]
      exact ⟨bz, hFt⟩
    · rw [cntT]
      simp only [List.map_cons, List.map_nil, Rows.uptoBulk, Rows.uptoBulkAll, Array.length_toList]
      have : s.data.size = s.size := rfl
      omega
  termination_by fuel => fuel
  decreasing_by omega
end

/-! ### whatever its size -/
mutual
/-- No text, no key and no row of it is longer than a machine can hold. -/
def BndT : Tree → Prop
  | .mk _ _ _ t ks is => t.size ≤ 140737488355328 ∧ ks.length ≤ 140737488355328 ∧ (∀ k ∈ ks, k.size ≤ 140737488355328) ∧ is.length ≤ 140737488355328 ∧ BndL is
def BndL : List Tree → Prop
  | [] => True
  | t :: r => BndT t ∧ BndL r
end
theorem BndT_eq (t : Tree) : BndT t = (t.text.size ≤ 140737488355328 ∧ t.keys.length ≤ 140737488355328 ∧ (∀ k ∈ t.keys, k.size ≤ 140737488355328) ∧ t.items.length ≤ 140737488355328 ∧ BndL t.items) := by cases t with | mk => rw [BndT]; rfl
theorem BndL_mem {l : List Tree} (h : BndL l) : ∀ t ∈ l, BndT t := by
  induction l with
  | nil => intro t ht; cases ht
  | cons a r ih =>
    rw [BndL] at h
    intro t ht
    rcases List.mem_cons.1 ht with rfl | ht
    · exact h.1
    · exact ih h.2 t ht
theorem BndL_of {l : List Tree} (h : ∀ t ∈ l, BndT t) : BndL l := by
  induction l with
  | nil => trivial
  | cons a r ih =>
    rw [BndL]
    exact ⟨h a (by simp), ih (fun t ht => h t (by simp [ht]))⟩
theorem Tryz.bytes26 : Tryz.prog.bytesOf 26 = 88 := by kernel_rfl
theorem Tryz.bytes9 : Tryz.prog.bytesOf 9 = 16 := by kernel_rfl
theorem weightsAll_memV {H : Type} {P : Program} {e : TypeId} {d : DataW H} : ∀ {l : List (DataW H)}, d ∈ l → ∀ n ∈ d.weights P e, n ∈ DataW.weightsAll P e l
  | x :: r, hd, n, hn => by
    simp only [DataW.weightsAll, List.mem_append]
    rcases List.mem_cons.1 hd with rfl | h
    · exact .inl hn
    · exact .inr (weightsAll_memV h n hn)
theorem all_sliceV {H : Type} {P : Program} {t e : TypeId} {elems spare : List (DataW H)} (hu : P.underlying t = some (.slice e)) (h : ((DataW.slice elems spare).weights P t).all (· ≤ reachBytes) = true) :
    (elems.length + spare.length) * P.bytesOf e ≤ reachBytes ∧ ∀ d ∈ elems, (d.weights P e).all (· ≤ reachBytes) = true := by
  simp only [DataW.weights, hu] at h
  rw [List.all_eq_true] at h
  refine ⟨of_decide_eq_true (h _ (List.mem_cons_self ..)), fun d hd => List.all_eq_true.2 fun n hn => h n (List.mem_cons_of_mem _ (List.mem_append_left _ (weightsAll_memV hd n hn)))⟩
theorem val_sized {H : Type} {d0 d1 d2 d3 d4 d5 : DataW H} (h : ((DataW.agg [d0, d1, d2, d3, d4, d5]).weights Tryz.prog 26).all (· ≤ reachBytes) = true) :
    (d3.weights Tryz.prog 9).all (· ≤ reachBytes) = true ∧ (d4.weights Tryz.prog 24).all (· ≤ reachBytes) = true ∧ (d5.weights Tryz.prog 22).all (· ≤ reachBytes) = true := by
  simp only [DataW.weights, Tryz.underlying26] at h
  simp only [List.map_cons, List.map_nil, DataW.weightsEach, List.append_nil, List.all_append, Bool.and_eq_true] at h
  exact ⟨h.2.2.2.1, h.2.2.2.2.1, h.2.2.2.2.2⟩

section
variable {H : Type} {enc : TypeId × Value → H} {W : World}
/-- What a reading of a value gives. -/
def IsValB (W : World) (cs : List Value) : Prop := ∃ t : Tree, RdT W (fun _ => True) t (.agg cs.toArray) ∧ Fits t ∧ BndT t
set_option maxRecDepth 100000 in
theorem open_VB : ∀ (fuel : Nat) (cs : List Value) (y : DataW H × List MemPlace), DataW.trod enc Tryz.prog W 0 (fun _ => true) true fuel 26 cs = some y → (y.1.weights Tryz.prog 26).all (· ≤ reachBytes) = true → IsValB W cs
  | fuel, cs, y, h, hsz => by
    have hrb : reachBytes ≤ 140737488355328 := by decide
    obtain ⟨xs, n, rfl, rfl, hl, hxl, hf⟩ := DataW.trod_struct Tryz.underlying26 h
    rw [Tryz.cells26] at hl
    obtain ⟨c0, c1, c2, c3, c4, c5, rfl⟩ := six_of hl
    have hxl6 : xs.length = 6 := hxl
    obtain ⟨x0, x1, x2, x3, x4, x5, rfl⟩ : ∃ x0 x1 x2 x3 x4 x5, xs = [x0, x1, x2, x3, x4, x5] := by
      match xs, hxl6 with
      | [a, b, c, d, e, f], _ => exact ⟨a, b, c, d, e, f, rfl⟩
    have f0 : DataW.trod enc Tryz.prog W 0 (fun _ => true) true n 3 [c0] = some x0 := by
      have := hf 0 _ rfl
      change DataW.trod enc Tryz.prog W 0 (fun _ => true) true n 3 ((([c0, c1, c2, c3, c4, c5] : List Value).drop 0).take (Tryz.prog.cellsOf 3)) = some x0 at this
      rw [Tryz.cells3] at this
      exact this
    have f1 : DataW.trod enc Tryz.prog W 0 (fun _ => true) true n 4 [c1] = some x1 := by
      have := hf 1 _ rfl
      change DataW.trod enc Tryz.prog W 0 (fun _ => true) true n 4 ((([c0, c1, c2, c3, c4, c5] : List Value).drop 1).take (Tryz.prog.cellsOf 4)) = some x1 at this
      rw [Tryz.cells4] at this
      exact this
    have f2 : DataW.trod enc Tryz.prog W 0 (fun _ => true) true n 2 [c2] = some x2 := by
      have := hf 2 _ rfl
      change DataW.trod enc Tryz.prog W 0 (fun _ => true) true n 2 ((([c0, c1, c2, c3, c4, c5] : List Value).drop 2).take (Tryz.prog.cellsOf 2)) = some x2 at this
      rw [Tryz.cells2] at this
      exact this
    have f3 : DataW.trod enc Tryz.prog W 0 (fun _ => true) true n 9 [c3] = some x3 := by
      have := hf 3 _ rfl
      change DataW.trod enc Tryz.prog W 0 (fun _ => true) true n 9 ((([c0, c1, c2, c3, c4, c5] : List Value).drop 3).take (Tryz.prog.cellsOf 9)) = some x3 at this
      rw [Tryz.cells9] at this
      exact this
    have f4 : DataW.trod enc Tryz.prog W 0 (fun _ => true) true n 24 [c4] = some x4 := by
      have := hf 4 _ rfl
      change DataW.trod enc Tryz.prog W 0 (fun _ => true) true n 24 ((([c0, c1, c2, c3, c4, c5] : List Value).drop 4).take (Tryz.prog.cellsOf 24)) = some x4 at this
      rw [Tryz.cells24] at this
      exact this
    have f5 : DataW.trod enc Tryz.prog W 0 (fun _ => true) true n 22 [c5] = some x5 := by
      have := hf 5 _ rfl
      change DataW.trod enc Tryz.prog W 0 (fun _ => true) true n 22 ((([c0, c1, c2, c3, c4, c5] : List Value).drop 5).take (Tryz.prog.cellsOf 22)) = some x5 at this
      rw [Tryz.cells22] at this
      exact this
    obtain ⟨k, e0, g0, _⟩ := DataW.trod_int (k := .i64) Tryz.underlying3 f0
    obtain ⟨fl, e1, g1⟩ := DataW.trod_bool Tryz.underlying4 f1
    obtain ⟨z, e2, g2, w2⟩ := DataW.trod_int (k := .i64) Tryz.underlying2 f2
    obtain ⟨s, e3, g3, _⟩ := DataW.trod_string Tryz.underlying9 f3
    simp only [List.cons.injEq, and_true] at e0 e1 e2 e3
    subst e0 e1 e2 e3 g0 g1 g2 g3
    have bz := bounds_i64 w2
    obtain ⟨hs3, hs4, hs5⟩ := val_sized hsz
    have hst : s.size ≤ 140737488355328 := by
      have h1 := of_decide_eq_true (List.all_eq_true.1 hs3 s.data.toList.length (by simp [DataW.weights]))
      rw [Array.length_toList] at h1
      have : s.data.size = s.size := rfl
      omega
    have hK : ∃ ks : List ByteArray, RdK W (fun _ => True) ks c4 ∧ ks.length ≤ 140737488355328 ∧ (∀ k ∈ ks, k.size ≤ 140737488355328) := by
      rcases open_strs Tryz.underlying24 Tryz.underlying9 Tryz.cells9 f4 with ⟨hcs, hx⟩ | ⟨a, len, cap, m, Sx, hcs, _, hl', _, hmm, hx, hr⟩
      · simp only [List.cons.injEq, and_true] at hcs
        refine ⟨[], ?_, by simp, fun k hk => by cases hk⟩
        rw [hcs]
        exact RdK.nil _ _
      · simp only [List.cons.injEq, and_true] at hcs
        simp only [if_true] at hmm
        rw [hx] at hs4
        obtain ⟨s1, s2⟩ := all_sliceV Tryz.underlying24 hs4
        refine ⟨(List.range len).map Sx, ⟨some a, cap, by rw [hcs]; simp, by simpa using hl', fun h0 => ?_⟩, ?_, ?_⟩
        · simp only [List.length_map, List.length_range] at h0
          obtain ⟨b, off, spot⟩ := a
          have q0 := (hr 0 (by omega)).1
          have hspot : spot = none := by simpa [Addr.add] using World.cell?_spot q0
          subst hspot
          rw [add_none] at q0
          refine ⟨b, off, rfl, World.block_lt_of_cell? W _ q0, trivial, fun i kk hi => ?_⟩
          have hil : i < len := by
            have := (List.getElem?_eq_some_iff.1 hi).1
            simpa using this
          have e : ((List.range len).map Sx)[i]? = some (Sx i) := by simp [hil]
          rw [e] at hi
          injection hi with hi
          have := (hr i (by omega)).1
          rw [add_none] at this
          rw [this, hi]
        · rw [Tryz.bytes9] at s1
          simp at s1 ⊢
          omega
        · intro kk hkk
          obtain ⟨i, hi, rfl⟩ := List.mem_map.1 hkk
          have h1 := s2 (.lit (.string (Sx i).data.toList)) (by first | exact List.mem_map.2 ⟨i, hi, rfl⟩ | simpa using ⟨i, List.mem_range.1 hi, rfl⟩)
          have h2 := of_decide_eq_true (List.all_eq_true.1 h1 (Sx i).data.toList.length (by simp [DataW.weights]))
          rw [Array.length_toList] at h2
          have : (Sx i).data.size = (Sx i).size := rfl
          omega
    have hI : ∃ ts : List Tree, (∃ (a : Option Addr) (c : Nat), c5 = .slice a ts.length c ∧ ts.length ≤ c ∧ (0 < ts.length → ∃ g o, a = some ⟨g, o, none⟩ ∧ g < W.heap.size ∧ True ∧ RdIs W (fun _ => True) g o ts)) ∧ FitsL ts ∧ ts.length ≤ 140737488355328 ∧ BndL ts := by
      rcases DataW.trod_slice Tryz.underlying22 f5 with ⟨hcs, hx⟩ | ⟨a, len, cap, elems, rest, n2, hn2, hcs, hx, _, hl', _, hlen, hel, _, _⟩
      · simp only [List.cons.injEq, and_true] at hcs
        exact ⟨[], ⟨none, 0, hcs, Nat.le_refl _, fun h => by simp at h⟩, trivial, by simp, trivial⟩
      · simp only [List.cons.injEq, and_true] at hcs
        rw [Tryz.cells26] at hel
        rw [hx] at hs5
        obtain ⟨s1, s2⟩ := all_sliceV Tryz.underlying22 hs5
        have hex : ∀ i, i < len → ∃ t : Tree, (∃ a0 a1 a2 a3 a4 a5, W.cell? ((a.add (i * 6)).add 0) = some a0 ∧ W.cell? ((a.add (i * 6)).add 1) = some a1 ∧ W.cell? ((a.add (i * 6)).add 2) = some a2 ∧ W.cell? ((a.add (i * 6)).add 3) = some a3 ∧ W.cell? ((a.add (i * 6)).add 4) = some a4 ∧ W.cell? ((a.add (i * 6)).add 5) = some a5 ∧ RdT W (fun _ => True) t (.agg #[a0, a1, a2, a3, a4, a5])) ∧ Fits t ∧ BndT t := by
          intro i hi
          have hi' := hel i hi
          rw [List.getElem?_eq_getElem (by omega), Option.bind_eq_some_iff] at hi'
          obtain ⟨cs', hc', ht'⟩ := hi'
          obtain ⟨_, hl6, hc6⟩ := World.cells?_some hc'
          obtain ⟨a0, a1, a2, a3, a4, a5, rfl⟩ := six_of hl6
          obtain ⟨t, hT, hF, hB⟩ := open_VB n2 _ _ ht' (s2 _ (List.mem_map.2 ⟨_, List.getElem_mem _, rfl⟩))
          exact ⟨t, ⟨a0, a1, a2, a3, a4, a5, hc6 0 (by omega), hc6 1 (by omega), hc6 2 (by omega), hc6 3 (by omega), hc6 4 (by omega), hc6 5 (by omega), hT⟩, hF, hB⟩
        obtain ⟨f, hf'⟩ := choose_lt hex
        refine ⟨(List.range len).map f, ⟨some a, cap, by rw [hcs]; simp, by simpa using hl', fun h0 => ?_⟩, ?_, ?_, ?_⟩
        · simp only [List.length_map, List.length_range] at h0
          obtain ⟨b, off, spot⟩ := a
          obtain ⟨⟨q0, _, _, _, _, _, z0, _⟩, _⟩ := hf' 0 (by omega)
          have hspot : spot = none := by simpa [Addr.add] using World.cell?_spot z0
          subst hspot
          rw [add_none, add_none] at z0
          refine ⟨b, off, rfl, World.block_lt_of_cell? W _ z0, trivial, RdIs.of _ _ fun i hi => ?_⟩
          have hil : i < len := by simpa using hi
          obtain ⟨⟨a0, a1, a2, a3, a4, a5, z0, z1, z2, z3, z4, z5, hT⟩, _⟩ := hf' i hil
          simp only [add_none] at z0 z1 z2 z3 z4 z5
          refine ⟨a0, a1, a2, a3, a4, a5, z0, z1, z2, z3, z4, z5, ?_⟩
          simpa using hT
        · refine FitsL_of fun t ht => ?_
          obtain ⟨i, hi, rfl⟩ := List.mem_map.1 ht
          exact (hf' i (List.mem_range.1 hi)).2.1
        · rw [Tryz.bytes26] at s1
          simp at s1 ⊢
          omega
        · refine BndL_of fun t ht => ?_
          obtain ⟨i, hi, rfl⟩ := List.mem_map.1 ht
          exact (hf' i (List.mem_range.1 hi)).2.2
    obtain ⟨ks, hKr, hKb, hKc⟩ := hK
    obtain ⟨ts, ⟨a, c, e5, hle, hrd⟩, hFt, hIb, hIc⟩ := hI
    refine ⟨.mk k fl z s ks ts, ?_, ?_, ?_⟩
    · rw [RdT]
      exact ⟨c4, a, c, by rw [e5], hKr, hle, hrd⟩
    · rw [Fits_eq]
      exact ⟨bz, hFt⟩
    · rw [BndT]
      exact ⟨hst, hKb, hKc, hIb, hIc⟩
  termination_by fuel => fuel
  decreasing_by omega
end
end Go.Proofs.YtdmnhkgiojkphaaGreatDoor
