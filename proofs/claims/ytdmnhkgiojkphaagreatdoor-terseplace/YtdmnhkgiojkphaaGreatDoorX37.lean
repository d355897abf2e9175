/- A value of the argument, as a tree in memory. -/
import Derived.Test.YtdmnhkgiojkphaaGreatDoorX21
import Derived.Test.YtdmnhkgiojkphaaGreatDoorEqA
namespace Go.Proofs.YtdmnhkgiojkphaaGreatDoor
open Go Go.RowKit Go.ChangeShapes Go.WideShapes Go.Deep

theorem Tryz.cells26 : Tryz.prog.cellsOf 26 = 6 := by kernel_rfl
theorem Tryz.cells24 : Tryz.prog.cellsOf 24 = 1 := by kernel_rfl
theorem Tryz.cells22 : Tryz.prog.cellsOf 22 = 1 := by kernel_rfl
theorem Tryz.cells4 : Tryz.prog.cellsOf 4 = 1 := by kernel_rfl
theorem Tryz.cells2 : Tryz.prog.cellsOf 2 = 1 := by kernel_rfl

theorem RdIs.of {w : World} {F : Nat → Prop} {g : Nat} : ∀ (l : List Tree) (o : Nat), (∀ (i : Nat) (h : i < l.length), ∃ a b c d e f, w.cell? ⟨g, o + i * 6, none⟩ = some a ∧ w.cell? ⟨g, o + i * 6 + 1, none⟩ = some b ∧ w.cell? ⟨g, o + i * 6 + 2, none⟩ = some c ∧ w.cell? ⟨g, o + i * 6 + 3, none⟩ = some d ∧ w.cell? ⟨g, o + i * 6 + 4, none⟩ = some e ∧ w.cell? ⟨g, o + i * 6 + 5, none⟩ = some f ∧ RdT w F l[i] (.agg #[a, b, c, d, e, f])) → RdIs w F g o l
  | [], o, _ => by rw [RdIs]; trivial
  | t :: r, o, h => by
    rw [RdIs]
    refine ⟨?_, RdIs.of r (o + 6) fun i hi => ?_⟩
    · have := h 0 (by simp)
      simpa using this
    · have := h (i + 1) (by simpa using hi)
      rw [show o + (i + 1) * 6 = o + 6 + i * 6 by omega] at this
      simpa using this
theorem six_of {cs : List Value} (h : cs.length = 6) : ∃ a b c d e f, cs = [a, b, c, d, e, f] := by
  match cs, h with
  | [a, b, c, d, e, f], _ => exact ⟨a, b, c, d, e, f, rfl⟩
instance : Inhabited Tree := ⟨zeroT⟩
section
variable {H : Type} {enc : TypeId × Value → H} {W : World}
end

/-! ### whatever its size -/
mutual
/-- No text, no key and no row of it is longer than a machine can hold. -/
def BndT : Tree → Prop
  | .mk _ _ _ t ks is => t.size ≤ 140737488355328 ∧ ks.length ≤ 140737488355328 ∧ (∀ k ∈ ks, k.size ≤ 140737488355328) ∧ is.length ≤ 140737488355328 ∧ BndL is
def BndL : List Tree → Prop
  | [] => True
  | t :: r => BndT t ∧ BndL r
end
theorem BndT_eq (t : Tree) : BndT t = (t.text.size ≤ 140737488355328 ∧ t.keys.length ≤ 140737488355328 ∧ (∀ k ∈ t.keys, k.size ≤ 140737488355328) ∧ t.items.length ≤ 140737488355328 ∧ BndL t.items) := by cases t with | mk => rw [BndT]; rfl
theorem BndL_mem {l : List Tree} (h : BndL l) : ∀ t ∈ l, BndT t := by
  induction l with
  | nil => intro t ht; cases ht
  | cons a r ih =>
    rw [BndL] at h
    intro t ht
    rcases List.mem_cons.1 ht with rfl | ht
    · exact h.1
    · exact ih h.2 t ht
theorem BndL_of {l : List Tree} (h : ∀ t ∈ l, BndT t) : BndL l := by
  induction l with
  | nil => trivial
  | cons a r ih =>
    rw [BndL]
    exact ⟨h a (by simp), ih (fun t ht => h t (by simp [ht]))⟩
theorem Tryz.bytes26 : Tryz.prog.bytesOf 26 = 88 := by kernel_rfl
theorem Tryz.bytes9 : Tryz.prog.bytesOf 9 = 16 := by kernel_rfl
theorem weightsAll_memV {H : Type} {P : Program} {e : TypeId} {d : DataW H} : ∀ {l : List (DataW H)}, d ∈ l → ∀ n ∈ d.weights P e, n ∈ DataW.weightsAll P e l
  | x :: r, hd, n, hn => by
    simp only [DataW.weightsAll, List.mem_append]
    rcases List.mem_cons.1 hd with rfl | h
    · exact .inl hn
    · exact .inr (weightsAll_memV h n hn)
theorem all_sliceV {H : Type} {P : Program} {t e : TypeId} {elems spare : List (DataW H)} (hu : P.underlying t = some (.slice e)) (h : ((DataW.slice elems spare).weights P t).all (· ≤ reachBytes) = true) :
    (elems.length + spare.length) * P.bytesOf e ≤ reachBytes ∧ ∀ d ∈ elems, (d.weights P e).all (· ≤ reachBytes) = true := by
  simp only [DataW.weights, hu] at h
  rw [List.all_eq_true] at h
  refine ⟨of_decide_eq_true (h _ (List.mem_cons_self ..)), fun d hd => List.all_eq_true.2 fun n hn => h n (List.mem_cons_of_mem _ (List.mem_append_left _ (weightsAll_memV hd n hn)))⟩
theorem val_sized {H : Type} {d0 d1 d2 d3 d4 d5 : DataW H} (h : ((DataW.agg [d0, d1, d2, d3, d4, d5]).weights Tryz.prog 26).all (· ≤ reachBytes) = true) :
    (d3.weights Tryz.prog 9).all (· ≤ reachBytes) = true ∧ (d4.weights Tryz.prog 24).all (· ≤ reachBytes) = true ∧ (d5.weights Tryz.prog 22).all (· ≤ reachBytes) = true := by
  simp only [DataW.weights, Tryz.underlying26] at h
  simp only [List.map_cons, List.map_nil, DataW.weightsEach, List.append_nil, List.all_append, Bool.and_eq_true] at h
  exact ⟨h.2.2.2.1, h.2.2.2.2.1, h.2.2.2.2.2⟩

section
variable {H : Type} {enc : TypeId × Value → H} {W : World}
/-- What a reading of a value gives. -/
def IsValB (W : World) (cs : List Value) : Prop := ∃ t : Tree, RdT W (fun _ => True) t (.agg cs.toArray) ∧ Fits t ∧ BndT t
set_option maxRecDepth 100000 in
theorem open_VB : ∀ (fuel : Nat) (cs : List Value) (y : DataW H × List MemPlace), DataW.trod enc Tryz.prog W 0 (fun _ => true) true fuel 26 cs = some y → (y.1.weights Tryz.prog 26).all (· ≤ reachBytes) = true → IsValB W cs
  | fuel, cs, y, h, hsz => by
    have hrb : reachBytes ≤ 140737488355328 := by decide
    obtain ⟨xs, n, rfl, rfl, hl, hxl, hf⟩ := DataW.trod_struct Tryz.underlying26 h
    rw [Tryz.cells26] at hl
    obtain ⟨c0, c1, c2, c3, c4, c5, rfl⟩ := six_of hl
    have hxl6 : xs.length = 6 := hxl
    obtain ⟨x0, x1, x2, x3, x4, x5, rfl⟩ : ∃ x0 x1 x2 x3 x4 x5, xs = [x0, x1, x2, x3, x4, x5] := by
      match xs, hxl6 with
      | [a, b, c, d, e, f], _ => exact ⟨a, b, c, d, e, f, rfl⟩
    have f0 : DataW.trod enc Tryz.prog W 0 (fun _ => true) true n 3 [c0] = some x0 := by
      have := hf 0 _ rfl
      change DataW.trod enc Tryz.prog W 0 (fun _ => true) true n 3 ((([c0, c1, c2, c3, c4, c5] : List Value).drop 0).take (Tryz.prog.cellsOf 3)) = some x0 at this
      rw [Tryz.cells3] at this
      exact this
    have f1 : DataW.trod enc Tryz.prog W 0 (fun _ => true) true n 4 [c1] = some x1 := by
      have := hf 1 _ rfl
      change DataW.trod enc Tryz.prog W 0 (fun _ => true) true n 4 ((([c0, c1, c2, c3, c4, c5] : List Value).drop 1).take (Tryz.prog.cellsOf 4)) = some x1 at this
      rw [Tryz.cells4] at this
      exact this
    have f2 : DataW.trod enc Tryz.prog W 0 (fun _ => true) true n 2 [c2] = some x2 := by
      have := hf 2 _ rfl
      change DataW.trod enc Tryz.prog W 0 (fun _ => true) true n 2 ((([c0, c1, c2, c3, c4, c5] : List Value).drop 2).take (Tryz.prog.cellsOf 2)) = some x2 at this
      rw [Tryz.cells2] at this
      exact this
    have f3 : DataW.trod enc Tryz.prog W 0 (fun _ => true) true n 9 [c3] = some x3 := by
      have := hf 3 _ rfl
      change DataW.trod enc Tryz.prog W 0 (fun _ => true) true n 9 ((([c0, c1, c2, c3, c4, c5] : List Value).drop 3).take (Tryz.prog.cellsOf 9)) = some x3 at this
      rw [Tryz.cells9] at this
      exact this
    have f4 : DataW.trod enc Tryz.prog W 0 (fun _ => true) true n 24 [c4] = some x4 := by
      have := hf 4 _ rfl
      change DataW.trod enc Tryz.prog W 0 (fun _ => true) true n 24 ((([c0, c1, c2, c3, c4, c5] : List Value).drop 4).take (Tryz.prog.cellsOf 24)) = some x4 at this
      rw [Tryz.cells24] at this
      exact this
    have f5 : DataW.trod enc Tryz.prog W 0 (fun _ => true) true n 22 [c5] = some x5 := by
      have := hf 5 _ rfl
      change DataW.trod enc Tryz.prog W 0 (fun _ => true) true n 22 ((([c0, c1, c2, c3, c4, c5] : List Value).drop 5).take (Tryz.prog.cellsOf 22)) = some x5 at this
      rw [Tryz.cells22] at this
      exact this
    obtain ⟨k, e0, g0, _⟩ := DataW.trod_int (k := .i64) Tryz.underlying3 f0
    obtain ⟨fl, e1, g1⟩ := DataW.trod_bool Tryz.underlying4 f1
    obtain ⟨z, e2, g2, w2⟩ := DataW.trod_int (k := .i64) Tryz.underlying2 f2
    obtain ⟨s, e3, g3, _⟩ := DataW.trod_string Tryz.underlying9 f3
    simp only [List.cons.injEq, and_true] at e0 e1 e2 e3
    subst e0 e1 e2 e3 g0 g1 g2 g3
    have bz := bounds_i64 w2
    obtain ⟨hs3, hs4, hs5⟩ := val_sized hsz
    have hst : s.size ≤ 140737488355328 := by
      have h1 := of_decide_eq_true (List.all_eq_true.1 hs3 s.data.toList.length (by simp [DataW.weights]))
      rw [Array.length_toList] at h1
      have : s.data.size = s.size := rfl
      omega
    have hK : ∃ ks : List ByteArray, RdK W (fun _ => True) ks c4 ∧ ks.length ≤ 140737488355328 ∧ (∀ k ∈ ks, k.size ≤ 140737488355328) := by
      rcases open_strs Tryz.underlying24 Tryz.underlying9 Tryz.cells9 f4 with ⟨hcs, hx⟩ | ⟨a, len, cap, m, Sx, hcs, _, hl', _, hmm, hx, hr⟩
      · simp only [List.cons.injEq, and_true] at hcs
        refine ⟨[], ?_, by simp, fun k hk => by cases hk⟩
        rw [hcs]
        exact RdK.nil _ _
      · simp only [List.cons.injEq, and_true] at hcs
        simp only [if_true] at hmm
        rw [hx] at hs4
        obtain ⟨s1, s2⟩ := all_sliceV Tryz.underlying24 hs4
        refine ⟨(List.range len).map Sx, ⟨some a, cap, by rw [hcs]; simp, by simpa using hl', fun h0 => ?_⟩, ?_, ?_⟩
        · simp only [List.length_map, List.length_range] at h0
          obtain ⟨b, off, spot⟩ := a
          have q0 := (hr 0 (by omega)).1
          have hspot : spot = none := by simpa [Addr.add] using World.cell?_spot q0
          subst hspot
          rw [add_none] at q0
          refine ⟨b, off, rfl, World.block_lt_of_cell? W _ q0, trivial, fun i kk hi => ?_⟩
          have hil : i < len := by
            have := (List.getElem?_eq_some_iff.1 hi).1
            simpa using this
          have e : ((List.range len).map Sx)[i]? = some (Sx i) := by simp [hil]
          rw [e] at hi
          injection hi with hi
          have := (hr i (by omega)).1
          rw [add_none] at this
          rw [this, hi]
        · rw [Tryz.bytes9] at s1
          simp at s1 ⊢
          omega
        · intro kk hkk
          obtain ⟨i, hi, rfl⟩ := List.mem_map.1 hkk
          have h1 := s2 (.lit (.string (Sx i).data.toList)) (by first | exact List.mem_map.2 ⟨i, hi, rfl⟩ | simpa using ⟨i, List.mem_range.1 hi, rfl⟩)
          have h2 := of_decide_eq_true (List.all_eq_true.1 h1 (Sx i).data.toList.length (by simp [DataW.weights]))
          rw [Array.length_toList] at h2
          have : (Sx i).data.size = (Sx i).size := rfl
          omega
    have hI : ∃ ts : List Tree, (∃ (a : Option Addr) (c : Nat), c5 = .slice a ts.length c ∧ ts.length ≤ c ∧ (0 < ts.length → ∃ g o, a = some ⟨g, o, none⟩ ∧ g < W.heap.size ∧ True ∧ RdIs W (fun _ => True) g o ts)) ∧ FitsL ts ∧ ts.length ≤ 140737488355328 ∧ BndL ts := by
      rcases DataW.trod_slice Tryz.underlying22 f5 with ⟨hcs, hx⟩ | ⟨a, len, cap, elems, rest, n2, hn2, hcs, hx, _, hl', _, hlen, hel, _, _⟩
      · simp only [List.cons.injEq, and_true] at hcs
        exact ⟨[], ⟨none, 0, hcs, Nat.le_refl _, fun h => by simp at h⟩, trivial, by simp, trivial⟩
      · simp only [List.cons.injEq, and_true] at hcs
        rw [Tryz.cells26] at hel
        rw [hx] at hs5
        obtain ⟨s1, s2⟩ := all_sliceV Tryz.underlying22 hs5
        have hex : ∀ i, i < len → ∃ t : Tree, (∃ a0 a1 a2 a3 a4 a5, W.cell? ((a.add (i * 6)).add 0) = some a0 ∧ W.cell? ((a.add (i * 6)).add 1) = some a1 ∧ W.cell? ((a.add (i * 6)).add 2) = some a2 ∧ W.cell? ((a.add (i * 6)).add 3) = some a3 ∧ W.cell? ((a.add (i * 6)).add 4) = some a4 ∧ W.cell? ((a.add (i * 6)).add 5) = some a5 ∧ RdT W (fun _ => True) t (.agg #[a0, a1, a2, a3, a4, a5])) ∧ Fits t ∧ BndT t := by
          intro i hi
          have hi' := hel i hi
          rw [List.getElem?_eq_getElem (by omega), Option.bind_eq_some_iff] at hi'
          obtain ⟨cs', hc', ht'⟩ := hi'
          obtain ⟨_, hl6, hc6⟩ := World.cells?_some hc'
          obtain ⟨a0, a1, a2, a3, a4, a5, rfl⟩ := six_of hl6
          obtain ⟨t, hT, hF, hB⟩ := open_VB n2 _ _ ht' (s2 _ (List.mem_map.2 ⟨_, List.getElem_mem _, rfl⟩))
          exact ⟨t, ⟨a0, a1, a2, a3, a4, a5, hc6 0 (by omega), hc6 1 (by omega), hc6 2 (by omega), hc6 3 (by omega), hc6 4 (by omega), hc6 5 (by omega), hT⟩, hF, hB⟩
        obtain ⟨f, hf'⟩ := choose_lt hex
        refine ⟨(List.range len).map f, ⟨some a, cap, by rw [hcs]; simp, by simpa using hl', fun h0 => ?_⟩, ?_, ?_, ?_⟩
        · simp only [List.length_map, List.length_range] at h0
          obtain ⟨b, off, spot⟩ := a
          obtain ⟨⟨q0, _, _, _, _, _, z0, _⟩, _⟩ := hf' 0 (by omega)
          have hspot : spot = none := by simpa [Addr.add] using World.cell?_spot z0
          subst hspot
          rw [add_none, add_none] at z0
          refine ⟨b, off, rfl, World.block_lt_of_cell? W _ z0, trivial, RdIs.of _ _ fun i hi => ?_⟩
          have hil : i < len := by simpa using hi
          obtain ⟨⟨a0, a1, a2, a3, a4, a5, z0, z1, z2, z3, z4, z5, hT⟩, _⟩ := hf' i hil
          simp only [add_none] at z0 z1 z2 z3 z4 z5
          refine ⟨a0, a1, a2, a3, a4, a5, z0, z1, z2, z3, z4, z5, ?_⟩
          simpa using hT
        · refine FitsL_of fun t ht => ?_
          obtain ⟨i, hi, rfl⟩ := List.mem_map.1 ht
          exact (hf' i (List.mem_range.1 hi)).2.1
        · rw [Tryz.bytes26] at s1
          simp at s1 ⊢
          omega
        · refine BndL_of fun t ht => ?_
          obtain ⟨i, hi, rfl⟩ := List.mem_map.1 ht
          exact (hf' i (List.mem_range.1 hi)).2.2
    obtain ⟨ks, hKr, hKb, hKc⟩ := hK
    obtain ⟨ts, ⟨a, c, e5, hle, hrd⟩, hFt, hIb, hIc⟩ := hI
    refine ⟨.mk k fl z s ks ts, ?_, ?_, ?_⟩
    · rw [RdT]
      exact ⟨c4, a, c, by rw [e5], hKr, hle, hrd⟩
    · rw [Fits_eq]
      exact ⟨bz, hFt⟩
    · rw [BndT]
      exact ⟨hst, hKb, hKc, hIb, hIc⟩
  termination_by fuel => fuel
  decreasing_by omega
end
end Go.Proofs.YtdmnhkgiojkphaaGreatDoor

namespace Go.Proofs.YtdmnhkgiojkphaaGreatDoor
open Go Go.RowKit
open Go.RowKit (wrap32 wrap64)

def keyQ : List ByteArray → Nat
  | [] => 0
  | k :: r => k.size / 64 + keyQ r
mutual
/-- How many parts a value has, texts by 64 bytes. -/
def muchT : Tree → Nat
  | .mk _ _ _ t ks is => 1 + ks.length + t.size / 64 + keyQ ks + muchL is
def muchL : List Tree → Nat
  | [] => 0
  | t :: r => muchT t + muchL r
end
theorem muchT_eq (t : Tree) : muchT t = 1 + t.keys.length + t.text.size / 64 + keyQ t.keys + muchL t.items := by cases t with | mk => rw [muchT]; rfl
theorem keyQ_append (a b : List ByteArray) : keyQ (a ++ b) = keyQ a + keyQ b := by
  induction a with
  | nil => simp [keyQ]
  | cons k r ih => simp only [List.cons_append, keyQ, ih]; omega
theorem muchL_append (a b : List Tree) : muchL (a ++ b) = muchL a + muchL b := by
  induction a with
  | nil => simp [muchL]
  | cons k r ih => simp only [List.cons_append, muchL, ih]; omega
theorem keyN_Q (ks : List ByteArray) : keyN ks ≤ 64 * keyQ ks + 64 * ks.length := by
  induction ks with
  | nil => simp [keyN]
  | cons k r ih => simp only [keyN, keyQ, List.length_cons]; omega
mutual
theorem cntT_much : ∀ t : Tree, cntT t ≤ 64 * muchT t
  | .mk _ _ _ t ks is => by
    rw [cntT, muchT]
    have h1 := cntL_much is
    have h2 := keyN_Q ks
    omega
theorem cntL_much : ∀ l : List Tree, cntL l ≤ 64 * muchL l
  | [] => by simp [cntL]
  | t :: r => by
    rw [cntL, muchL]
    have h1 := cntT_much t
    have h2 := cntL_much r
    omega
end
/-- An item in memory, by its fields. -/
theorem RdIs.parts {w wr : World} {F : Nat → Prop} {g o : Nat} {l : List Tree} (h : RdIs w F g o l) (hs : Stays F w wr) (hF : F g) (hg : g < w.heap.size) (i : Nat) (hi : i < l.length) :
    ∃ (ka : Option Addr) (kc : Nat) (ia : Option Addr) (ic : Nat), wr.cell? ⟨g, o + i * 6, none⟩ = some (.int .i64 l[i].kind) ∧ wr.cell? ⟨g, o + i * 6 + 1, none⟩ = some (.bool l[i].flag) ∧ wr.cell? ⟨g, o + i * 6 + 2, none⟩ = some (.int .i64 l[i].n) ∧ wr.cell? ⟨g, o + i * 6 + 3, none⟩ = some (.string l[i].text) ∧ wr.cell? ⟨g, o + i * 6 + 4, none⟩ = some (.slice ka l[i].keys.length kc) ∧ wr.cell? ⟨g, o + i * 6 + 5, none⟩ = some (.slice ia l[i].items.length ic) ∧ RdK wr F l[i].keys (.slice ka l[i].keys.length kc) ∧ RdS wr F l[i].items (.slice ia l[i].items.length ic) ∧ l[i].keys.length ≤ kc ∧ l[i].items.length ≤ ic := by
  obtain ⟨a, b, c, d, e, f, h0, h1, h2, h3, h4, h5, hT⟩ := h.at hs hF hg i hi
  obtain ⟨kv, iv, ev, hk, hi⟩ := RdT_split hT
  have hk' := hk
  have hi' := hi
  obtain ⟨pk, ck, rfl, q1, _⟩ := hk
  obtain ⟨pi, ci, rfl, q2, _⟩ := hi
  simp only [Value.agg.injEq, Array.mk.injEq, List.cons.injEq, and_true] at ev
  obtain ⟨rfl, rfl, rfl, rfl, rfl, rfl⟩ := ev
  exact ⟨_, _, _, _, h0, h1, h2, h3, h4, h5, hk', hi', q1, q2⟩

set_option maxRecDepth 100000 in
set_option maxHeartbeats 4000000 in
theorem much_any : ∀ (n : Nat) (l : List Tree), cntL l ≤ n → BndL l → l.length ≤ 140737488355328 → ∀ (most : Nat), most ≤ 40000 → ∀ (w : World) (F : Nat → Prop) (a : Value), RdS w F l a →
    Calls Tryz.prog 9 #[a, .int .i64 most] w fun e w' => ∃ r : Nat, e = .returned (.int .i64 r) ∧ w.grownBy w' none ∧ ((r = muchL l ∧ r ≤ most) ∨ (most < r ∧ r ≤ most + 562949953421312))
  | n, l, hn, hbl, hll, most, hmost, w, F, a, ha => by
    have HIH : Hid (∀ m, m < n → ∀ (l : List Tree), cntL l ≤ m → BndL l → l.length ≤ 140737488355328 → ∀ (most : Nat), most ≤ 40000 → ∀ (w : World) (F : Nat → Prop) (a : Value), RdS w F l a →
      Calls Tryz.prog 9 #[a, .int .i64 most] w fun e w' => ∃ r : Nat, e = .returned (.int .i64 r) ∧ w.grownBy w' none ∧ ((r = muchL l ∧ r ≤ most) ∨ (most < r ∧ r ≤ most + 562949953421312))) := fun m hm => much_any m
    obtain ⟨pa, ca, rfl, hca, hka⟩ := ha
    obtain ⟨A, HA⟩ : ∃ A, Hid (l.length = A) := ⟨_, hid rfl⟩
    rw [HA.out] at hll hca ⊢
    have HKA := hid hka
    have HN := hid hn
    have HBL := hid hbl
    clear hka hn hbl
    go_enter Tryz.func9, Tryz.ntmps9
    go_wp2_with fail
    go_loopw [5, 6] (fun nv iv wr => ∃ (i m : Nat), iv = .int .i64 i ∧ nv = .int .i64 m ∧ i ≤ A ∧ Hid (w.grownBy wr none) ∧ Hid ((m = muchL (l.take i) ∧ m ≤ most) ∨ (most < m ∧ m ≤ most + 562949953421312))) (fun _ iv _ => A - (intOf iv).toNat)
    case atStart => exact ⟨0, 0, rfl, rfl, Nat.zero_le _, grefl _ _, hid (.inl ⟨by simp [muchL], Nat.zero_le _⟩)⟩
    case round =>
      obtain ⟨i, m, rfl, rfl, hi, HG, HD⟩ := hrel
      by_cases hlt : i < A
      · have hd : decide ((i : Int) < (A : Int)) = true := decide_eq_true (by omega)
        by_cases hmm : m ≤ most
        · have hd2 : decide ((m : Int) ≤ (most : Int)) = true := decide_eq_true (by omega)
          have hme : m = muchL (l.take i) := by
            rcases HD.out with h | h
            · exact h.1
            · omega
          have HME := hid hme
          have hit : i < l.length := by have := HA.out; omega
          obtain ⟨g, o, rfl, hg, hF, hr⟩ := HKA.out (by omega)
          obtain ⟨ka, kc, ia, ic, z0, z1, z2, z3, z4, z5, hK, hI, hkc, hic⟩ := hr.parts (Stays.none HG.out) hF hg i hit
          have hB := BndL_mem HBL.out _ (List.getElem_mem hit)
          rw [BndT_eq] at hB
          obtain ⟨b1, b2, b3, b4, b5⟩ := hB
          have HST : Hid (muchL (l.take (i + 1)) = muchL (l.take i) + muchT l[i]) := by
            rw [List.take_succ_eq_append_getElem hit, muchL_append]
            simp only [muchL]
            exact rfl
          rw [muchT_eq] at HST
          have HCN : Hid (cntL l[i].items < n) := by
            have h1 := cntL_mem (List.getElem_mem hit)
            have h2 := HN.out
            rw [cntT_eq] at h1
            exact (show cntL l[i].items < n by omega)
          obtain ⟨t, HT⟩ : ∃ t, Hid (l[i] = t) := ⟨_, hid rfl⟩
          rw [HT.out] at z0 z1 z2 z3 z4 z5 hK hI hkc hic b1 b2 b3 b4 b5 HST HCN
          obtain ⟨KN, HKN⟩ : ∃ A, Hid (t.keys.length = A) := ⟨_, hid rfl⟩
          obtain ⟨IL, HIL⟩ : ∃ A, Hid (t.items.length = A) := ⟨_, hid rfl⟩
          obtain ⟨tx, HTX⟩ : ∃ A, Hid (t.text = A) := ⟨_, hid rfl⟩
          rw [HKN.out] at z4 hK hkc b2 HST
          rw [HIL.out] at z5 hI hic b4
          rw [HTX.out] at z3 b1 HST
          obtain ⟨Q, HQ⟩ : ∃ Q, Hid (tx.size / 64 = Q) := ⟨_, hid rfl⟩
          rw [HQ.out] at HST
          have hQ : Q ≤ 2199023255552 := by have := HQ.out; omega
          have q1 : (tx.size : Int) / 64 = (Q : Int) := by have := HQ.out; omega
          have q2 : (tx.size : Int).tdiv 64 = (Q : Int) := by rw [Int.tdiv_eq_ediv_of_nonneg (by omega)]; exact q1
          have HK := hid hK
          have HI := hid hI
          have HB3 := hid b3
          have HB5 := hid b5
          have w1 : IntKind.i64.wrap ((m : Int) + 1 + (KN : Int) + (Q : Int)) = (m : Int) + 1 + (KN : Int) + (Q : Int) := by rw [IntKind.wrap_i64]; omega
          have hir : (i : Int) < (A : Int) := by omega
          clear hK hI hr b3 b5 hme
          go_wp2_with fail
          go_quiet (fail)
          have hgq : wr.grownBy (wr.drewN nq) none := gdrew wr nq none
          generalize wr.drewN nq = wq at hgq ⊢
          go_wp2_with fail
          have hgr : g < wr.heap.size := Nat.lt_of_lt_of_le hg HG.out.size
          have HZ : Hid (∀ u : World, wr.grownBy u none → u.cell? ⟨g, o + i * 6 + 4, none⟩ = some (.slice ka KN kc) ∧ u.cell? ⟨g, o + i * 6 + 5, none⟩ = some (.slice ia IL ic)) := fun u hu => by
            rw [World.cell?_of_block (w := wr) (a := ⟨g, o + i * 6 + 4, none⟩) (hu.block g hgr (by simp)), World.cell?_of_block (w := wr) (a := ⟨g, o + i * 6 + 5, none⟩) (hu.block g hgr (by simp))]
            exact ⟨z4, z5⟩
          have HGQ := hid hgq
          clear z0 z1 z2 z3 z4 z5 w1 q1 q2 hgq
          obtain ⟨M0, hM0⟩ : ∃ M0, m + 1 + KN + Q = M0 := ⟨_, rfl⟩
          have hM0i : (m : Int) + 1 + (KN : Int) + (Q : Int) = (M0 : Int) := by omega
          rw [hM0i]
          have HM0 := hid hM0
          have hM0b : M0 ≤ most + 142936511610881 := by omega
          clear hM0 hM0i hQ
          obtain ⟨wo, hwo⟩ : ∃ x : World, x = wr := ⟨_, rfl⟩
          subst hwo
          go_loopw [5, 7] (fun nv kv wr => ∃ (k m2 : Nat), kv = .int .i64 k ∧ nv = .int .i64 m2 ∧ k ≤ KN ∧ Hid (wo.grownBy wr none) ∧ Hid ((m2 = M0 + keyQ (t.keys.take k) ∧ m2 ≤ most) ∨ (most < m2 ∧ m2 ≤ most + 281474976710656))) (fun _ kv _ => KN - (intOf kv).toNat)
          case atStart =>
            refine ⟨0, M0, rfl, rfl, Nat.zero_le _, HGQ, hid ?_⟩
            by_cases h : M0 ≤ most
            · exact .inl ⟨by simp [keyQ], h⟩
            · exact .inr ⟨by omega, by omega⟩
          case round =>
            obtain ⟨k, m2, rfl, rfl, hk, HG2, HD2⟩ := hrel
            obtain ⟨y4, y5⟩ := HZ.out wr HG2.out
            by_cases hm2 : m2 ≤ most
            · have hd3 : decide ((m2 : Int) ≤ (most : Int)) = true := decide_eq_true (by omega)
              have HE2 : Hid (m2 = M0 + keyQ (t.keys.take k)) := by
                rcases HD2.out with h | h
                · exact h.1
                · omega
              by_cases hkl : k < KN
              · have hd4 : decide ((k : Int) < (KN : Int)) = true := decide_eq_true (by omega)
                have hki : (k : Int) < (KN : Int) := by omega
                have hkk : k < t.keys.length := by have := HKN.out; omega
                obtain ⟨a', c', e', hle', hcell⟩ := HK.out
                obtain ⟨g2, o2, rfl, hg2, _, hc2⟩ := hcell (by omega)
                simp only [Value.slice.injEq] at e'
                obtain ⟨rfl, _, rfl⟩ := e'
                have y := hc2 k _ (List.getElem?_eq_getElem hkk)
                rw [← World.cell?_of_block (w := wo) (a := ⟨g2, o2 + k, none⟩) (HG2.out.block g2 hg2 (by simp))] at y
                have hKb := HB3.out _ (List.getElem_mem hkk)
                have HSK : Hid (keyQ (t.keys.take (k + 1)) = keyQ (t.keys.take k) + t.keys[k].size / 64) := by
                  rw [List.take_succ_eq_append_getElem hkk, keyQ_append]
                  simp only [keyQ]
                  exact rfl
                obtain ⟨K, HKK⟩ : ∃ K, Hid (t.keys[k] = K) := ⟨_, hid rfl⟩
                rw [HKK.out] at y hKb HSK
                obtain ⟨Q2, HQ2⟩ : ∃ Q, Hid (K.size / 64 = Q) := ⟨_, hid rfl⟩
                rw [HQ2.out] at HSK
                have hQ2 : Q2 ≤ 2199023255552 := by have := HQ2.out; omega
                have q1 : (K.size : Int) / 64 = (Q2 : Int) := by have := HQ2.out; omega
                have q2 : (K.size : Int).tdiv 64 = (Q2 : Int) := by rw [Int.tdiv_eq_ediv_of_nonneg (by omega)]; exact q1
                clear hc2 hcell
                go_wp2_with fail
                refine ⟨⟨k + 1, m2 + Q2, rfl, by push_cast; rfl, by omega, HG2, hid ?_⟩, by simp only [intOf]; omega⟩
                by_cases h : m2 + Q2 ≤ most
                · exact .inl ⟨by rw [HSK.out, HE2.out]; omega, h⟩
                · exact .inr ⟨by omega, by omega⟩
              · have hd4 : decide ((k : Int) < (KN : Int)) = false := decide_eq_false (by omega)
                have htk : t.keys.take k = t.keys := List.take_of_length_le (by have := HKN.out; omega)
                have HE3 : Hid (m2 = M0 + keyQ t.keys) := by have := HE2.out; rw [htk] at this; exact this
                have HC : Hid (∀ u : World, wo.grownBy u none → Calls Tryz.prog 9 #[.slice ia IL ic, .int .i64 ((most : Int) - (m2 : Int))] u fun e w' => ∃ r : Nat, e = .returned (.int .i64 r) ∧ wo.grownBy w' none ∧ ((r = muchL t.items ∧ r ≤ most - m2) ∨ (most - m2 < r ∧ r ≤ most - m2 + 562949953421312))) := fun u hu => by
                  have := HIH.out (cntL t.items) HCN.out t.items (Nat.le_refl _) HB5.out (by have := HIL.out; omega) (most - m2) (by omega) u F _ (HI.out.on (Stays.none hu))
                  rw [show ((most - m2 : Nat) : Int) = (most : Int) - (m2 : Int) by omega] at this
                  refine this.mono ?_
                  rintro e w' ⟨r, h1, h2, h3⟩
                  exact ⟨r, h1, gtrans hu h2, h3⟩
                clear htk
                go_wp2_with (go_at_call 9; refine (HC.out _ HG2.out).mono ?_; rintro e w5 ⟨r, rfl, hg5, hr5⟩; have HR5 := hid hr5; have hr6 : r ≤ 562949953461312 := (by rcases hr5 with h | h <;> omega); clear hr5)
                refine ⟨⟨i + 1, m2 + r, rfl, by push_cast; rfl, by omega, hid (gtrans HG.out hg5), hid ?_⟩, by simp only [intOf]; omega⟩
                rcases HR5.out with h | h
                · refine .inl ⟨?_, by omega⟩
                  rw [HST.out]
                  have h1 := HE3.out
                  have h2 := HM0.out
                  have h3 := HME.out
                  omega
                · exact .inr ⟨by omega, by omega⟩
            · have hd3 : decide ((m2 : Int) ≤ (most : Int)) = false := decide_eq_false (by omega)
              have hb2 : m2 ≤ most + 281474976710656 := by
                rcases HD2.out with h | h
                · omega
                · exact h.2
              by_cases hkl : k < KN
              · have hd4 : decide ((k : Int) < (KN : Int)) = true := decide_eq_true (by omega)
                go_wp2_with fail
                exact ⟨⟨i + 1, m2, rfl, rfl, by omega, hid (gtrans HG.out HG2.out), hid (.inr ⟨by omega, by omega⟩)⟩, by simp only [intOf]; omega⟩
              · have hd4 : decide ((k : Int) < (KN : Int)) = false := decide_eq_false (by omega)
                go_wp2_with fail
                exact ⟨⟨i + 1, m2, rfl, rfl, by omega, hid (gtrans HG.out HG2.out), hid (.inr ⟨by omega, by omega⟩)⟩, by simp only [intOf]; omega⟩
        · have hd2 : decide ((m : Int) ≤ (most : Int)) = false := decide_eq_false (by omega)
          have HR : Hid (most < m ∧ m ≤ most + 562949953421312) := by
            rcases HD.out with h | h
            · exact absurd h.2 hmm
            · exact h
          go_wp2_with fail
          go_ret
          exact ⟨m, rfl, HG.out, .inr HR.out⟩
      · have hd : decide ((i : Int) < (A : Int)) = false := decide_eq_false (by omega)
        have hli : l.take i = l := List.take_of_length_le (by have := HA.out; omega)
        have HR : Hid ((m = muchL l ∧ m ≤ most) ∨ (most < m ∧ m ≤ most + 562949953421312)) := by
          have := HD.out
          rw [hli] at this
          exact this
        clear hli
        go_wp2_with fail
        go_ret
        exact ⟨m, rfl, HG.out, HR.out⟩
  termination_by n => n
end Go.Proofs.YtdmnhkgiojkphaaGreatDoor
