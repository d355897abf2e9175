/- What Radix' texts of the law's book stand on, in a namespace of its own. -/
import Derived.Test.YtfalgjdhdgkbfaaGreatDoorRrD
import Derived.Deep.OwnRows
import Derived.Laws.IdiomStrings
namespace Go.Proofs.YtfalgjdhdgkbfaaGreatDoor.Bk
open Go Go.RowKit
open Go.RowKit (wrap32 wrap64)

/-- Bytes as cells. -/
def cb (l : List UInt8) : List Value := l.map fun b => Value.int .u8 (b.toNat : Int)
theorem cb_append (l m : List UInt8) : cb (l ++ m) = cb l ++ cb m := by simp [cb]
theorem cb_length (l : List UInt8) : (cb l).length = l.length := by simp [cb]
theorem news_new (w : World) (cs : Array Value) (t : TypeId) : ∀ j u, cs.toList[j]? = some u → (w.alloc (.cells cs t)).cell? ((⟨w.heap.size, 0, none⟩ : Addr).add j) = some u :=
  World.news_of_block (B := w.heap.size) (cs := cs) (t := t) (fr := (0, 0)) (by show (w.heap.push _)[w.heap.size]? = _; simp)
/-- Bytes that a slice leads to, as a string. -/
theorem convert_sl (l : List UInt8) (a : Option Addr) (b off c : Nat) (w : World) (ha : 0 < l.length → a = some ⟨b, off, none⟩)
    (hcell : ∀ i (h : i < l.length), w.cell? ⟨b, off + i, none⟩ = some (.int .u8 l[i].toNat)) : (convert 28 9 (.slice a l.length c)).run Tryz.prog w = .ok (.string ⟨l.toArray⟩) w := by
  by_cases hl : 0 < l.length
  · rw [ha hl]
    have := run_convert_bytes_arg w 28 5 Tryz.underlying28 Tryz.underlying5 b off l.length c (l.map fun b => (b.toNat : Int)) (by simp) (fun i hi => by
      simp [hcell i hi, List.getD, List.getElem?_eq_getElem hi]) 9 Tryz.underlying9
    rw [this]
    have e : strOfNums (l.map fun b => (b.toNat : Int)) = ⟨l.toArray⟩ := by
      unfold strOfNums
      rw [List.map_map, show l.map ((fun n : Int => UInt8.ofNat n.toNat) ∘ fun b : UInt8 => (b.toNat : Int)) = l.map id from List.map_congr_left fun x _ => by simp, List.map_id]
    rw [e]
  · have : l = [] := by cases l with | nil => rfl | cons _ _ => simp at hl
    subst this
    rcases a with _ | ⟨b', o', sp⟩
    · exact run_convert_bytes_nil w 28 5 Tryz.underlying28 Tryz.underlying5 0 c 9 Tryz.underlying9
    · rw [run_convert_bytes_string w 28 9 5 _ _ _ Tryz.underlying28 Tryz.underlying5 Tryz.underlying9]
      have hl := run_loadCells_list (P := Tryz.prog) w ⟨b', o', sp⟩ [] (fun j v hj => by simp at hj)
      have := run_bytesToString (P := Tryz.prog) w ⟨b', o', sp⟩ 0 c [] (by simpa using hl)
      exact this
theorem Below.step {w w1 w2 : World} (h : Below w.heap.size w w1) (h' : Below w1.heap.size w1 w2) : Below w.heap.size w w2 := h.trans (h'.mono h.size)
/-- A slice of bytes that reads as l. -/
def Rd (w : World) (v : Value) (l : List UInt8) : Prop :=
  ∃ (a : Option Addr) (b off c : Nat), v = .slice a l.length c ∧ l.length ≤ c ∧ (a = none → c = 0) ∧ (0 < l.length → a = some ⟨b, off, none⟩ ∧ b < w.heap.size) ∧ ∀ i (h : i < l.length), w.cell? ⟨b, off + i, none⟩ = some (.int .u8 l[i].toNat)
theorem Rd.below {w w' : World} {v : Value} {l : List UInt8} (h : Rd w v l) (hb : Below w.heap.size w w') : Rd w' v l := by
  obtain ⟨a, b, off, c, hv, hc, hn, ha, hcell⟩ := h
  refine ⟨a, b, off, c, hv, hc, hn, fun hl => ⟨(ha hl).1, Nat.lt_of_lt_of_le (ha hl).2 hb.size⟩, fun i hi => ?_⟩
  rw [hb.cell (p := ⟨b, off + i, none⟩) (ha (by omega)).2]
  exact hcell i hi
theorem Rd.convert {w : World} {v : Value} {l : List UInt8} (h : Rd w v l) : (convert 28 9 v).run Tryz.prog w = .ok (.string ⟨l.toArray⟩) w := by
  obtain ⟨a, b, off, c, rfl, hc, _, ha, hcell⟩ := h
  exact convert_sl l a b off c w (fun hl => (ha hl).1) hcell
theorem Rd.own {w : World} {B n : Nat} {v : Value} {l : List UInt8} (hown : w.ownsRow B 5 1 v n (cb l)) : Rd w v l := by
  have hn : l.length = n := by have := hown.1; rw [cb_length] at this; omega
  rcases hown.2 with ⟨rfl, h0⟩ | ⟨g, cap, cur, rfl, hb, hg, hle, hm, hs, ht⟩
  · have : l = [] := by cases l with | nil => rfl | cons _ _ => simp at hn; omega
    subst this
    exact ⟨none, 0, 0, 0, rfl, Nat.le_refl _, fun _ => rfl, fun h => by simp at h, fun i h => by simp at h⟩
  · refine ⟨some ⟨g, 0, none⟩, g, 0, cap, by rw [hn], by omega, (fun h => by cases h), fun _ => ⟨rfl, (hown.lt g rfl).2⟩, fun i hi => ?_⟩
    have := hown.cells (g := g) rfl i (.int .u8 (l[i]'(by omega)).toNat) (by simp [cb, List.getElem?_eq_getElem (show i < l.length by omega)])
    rw [Addr.add_lit] at this
    exact this
theorem Rd.drewN {w : World} {v : Value} {l : List UInt8} (h : Rd w v l) (n : Nat) : Rd (w.drewN n) v l := h
theorem Rd.take {w : World} {a : Option Addr} {n c : Nat} {l : List UInt8} (h : Rd w (.slice a n c) l) (m : Nat) (hm : m ≤ l.length) : Rd w (.slice a m c) (l.take m) := by
  obtain ⟨a', b, off, c', hv, hc, hn, ha, hcell⟩ := h
  simp only [Value.slice.injEq] at hv
  obtain ⟨rfl, rfl, rfl⟩ := hv
  refine ⟨a, b, off, c, by rw [List.length_take, Nat.min_eq_left hm], by rw [List.length_take]; omega, hn, fun h => ha (by rw [List.length_take] at h; omega), fun i hi => ?_⟩
  rw [List.length_take] at hi
  rw [hcell i (by omega)]
  simp
/-- append of bytes that can be read onto a row that the call owns. -/
theorem wpList_append_rd {w : World} {ops : Array Oper} {rest : List Oper} {o : Oper} {a : Act} {Q : Exit → Act → World → Prop} (hgd : o.guard = none) (s x : Operand)
    (ho : o.op = .call { callee := .builtin .append, args := #[s, x], argTypes := #[28, 28] })
    (B : Nat) (v : Value) (n : Nat) (xs : List Value) (hs : a.eval s = v) (hown : w.ownsRow B 5 1 v n xs) (l : List UInt8) (hx : Rd w (a.eval x) l) (hn : n + l.length ≤ 1099511627776) (hB : B ≤ w.heap.size)
    (h : ∀ v' w', w'.ownsRow B 5 1 v' (n + l.length) (xs ++ cb l) → w.grownBy w' v.ownBlock → wpList Tryz.prog ops Q rest (a.put o.dst v') w') : wpList Tryz.prog ops Q (o :: rest) a w := by
  obtain ⟨inf, hi, hz0, hz1, hz2⟩ := info_parts Tryz.info5
  obtain ⟨ad, b, off, c, hv, hc, hnn, ha, hcell⟩ := hx
  cases ad with
  | none =>
    have hc0 := hnn rfl
    have hl : l = [] := by
      cases l with
      | nil => rfl
      | cons _ _ => have := (ha (by simp)).1; cases this
    subst hl
    subst hc0
    refine wpList_append_own_none hgd s x 28 ho B 5 inf 1 Tryz.underlying28 hi v n xs hs hown hv ?_
    exact h v w (by simpa [cb] using hown) (World.grownBy.refl _ _)
  | some ad =>
    refine wpList_append_own w hgd s x 28 ho B 5 inf (.int .u8 0) 1 1 Tryz.underlying28 hi hz0 hz1 hz2 rfl (by decide) v n xs hs hown ad l.length c (cb l) hv (by rw [cb_length]; omega) ?_ ?_ (by unfold maxLen; omega) (by omega) hB ?_
    · intro j u hu
      have hj : j < l.length := by have := (List.getElem?_eq_some_iff.1 hu).1; rwa [cb_length] at this
      have e1 : ad = ⟨b, off, none⟩ := Option.some.inj (ha (by omega)).1
      rw [e1, Addr.add_lit, hcell j hj]
      rw [← hu]
      simp [cb, List.getElem?_eq_getElem hj]
    · intro u hu
      unfold cb at hu
      obtain ⟨_, _, rfl⟩ := List.mem_map.1 hu
      rfl
    · intro v' w' h1 h2 _
      exact h v' w' h1 h2
theorem Below.drewN' (w : World) (m : Nat) : Below w.heap.size w (w.drewN m) := ⟨rfl, rfl, rfl, Nat.le_refl _, fun _ _ => rfl⟩
end Go.Proofs.YtfalgjdhdgkbfaaGreatDoor.Bk
