/- Keys: as data, as cells; rows of keys that can be read, rows of keys that a call owns. -/
import Derived.Test.YtlgjmhemgfjgnaaGreatBase
namespace Go.Proofs.YtlgjmhemgfjgnaaGreat
open Go Go.RowKit
open Go.RowKit (wrap32 wrap64)

/-- An entry of the list. -/
structure Ky where
  wh : Bool
  g : Nat
  id : List UInt8
  ex : Int
deriving DecidableEq
def Ky.ok (k : Ky) : Prop := k.g < 18446744073709551616 ∧ k.id.length = 16 ∧ -9223372036854775808 ≤ k.ex ∧ k.ex ≤ 9223372036854775807
def Ky.cells (k : Ky) : List Value := .bool k.wh :: .int .u64 k.g :: (Lib.byteCells k.id ++ [.int .i64 k.ex])
theorem Ky.cells_length {k : Ky} (h : k.id.length = 16) : k.cells.length = 19 := by simp [Ky.cells, byteCells_length, h]
theorem Ky.one (k : Ky) : ∀ v ∈ k.cells, v.oneCell' = true := by
  intro v hv
  unfold Ky.cells at hv
  simp only [List.mem_cons, List.mem_append, List.not_mem_nil, or_false] at hv
  rcases hv with rfl | rfl | hv | rfl
  · rfl
  · rfl
  · exact bcs_one _ v hv
  · rfl
theorem Ky.c0 (k : Ky) : k.cells[0]? = some (.bool k.wh) := rfl
theorem Ky.c1 (k : Ky) : k.cells[1]? = some (.int .u64 k.g) := rfl
theorem Ky.c18 {k : Ky} (h : k.id.length = 16) : k.cells[18]? = some (.int .i64 k.ex) := by
  unfold Ky.cells
  rw [List.getElem?_cons_succ, List.getElem?_cons_succ, List.getElem?_append_right (by rw [byteCells_length]; omega), byteCells_length, h]
  rfl
theorem Ky.set18 {k : Ky} (h : k.id.length = 16) (t : Int) : k.cells.set 18 (.int .i64 t) = (Ky.mk k.wh k.g k.id t).cells := by
  unfold Ky.cells
  rw [List.set_cons_succ, List.set_cons_succ, List.set_append_right _ _ (by rw [byteCells_length]; omega), byteCells_length, h]
  rfl
/-- the place of the ID within the cells. -/
theorem Ky.mid (k : Ky) : k.cells = [.bool k.wh, .int .u64 k.g] ++ (Lib.byteCells k.id ++ [.int .i64 k.ex]) := rfl
def z16 : List UInt8 := List.replicate 16 0
def zky : Ky := ⟨false, 0, z16, 0⟩
theorem zky_ok : zky.ok := by unfold Ky.ok zky z16; simp
theorem Tryz.zero85 : (Tryz.prog.info? 85).map (fun i => i.zero) = some (some (.agg zky.cells.toArray)) := by kernel_rfl
theorem Tryz.size85 : (Tryz.prog.info? 85).map (·.size) = some 19 := by kernel_rfl
theorem Tryz.size69 : (Tryz.prog.info? 69).map (·.size) = some 16 := by kernel_rfl
theorem Tryz.zero69 : (Tryz.prog.info? 69).map (fun i => i.zero) = some (some (.agg (Lib.byteCells z16).toArray)) := by kernel_rfl
theorem Tryz.built48 : Tryz.prog.built 85 [] = some zky.cells.toArray := by kernel_rfl
theorem Tryz.info85 : (Tryz.prog.info? 85).map (fun i => (i.zero, i.size, i.bytes)) = some (some (.agg zky.cells.toArray), 19, 40) := by kernel_rfl
theorem Tryz.under48 : Tryz.prog.underlying 85 = some (.struct (Tryz.prog.fieldsOf 85)) := by kernel_rfl

/-- The cells of keys one behind the other. -/
def kcs (l : List Ky) : List Value := l.flatMap Ky.cells
def okL (l : List Ky) : Prop := ∀ k ∈ l, k.ok
theorem okL.len {l : List Ky} (h : okL l) : ∀ k ∈ l, k.id.length = 16 := fun k hk => (h k hk).2.1
theorem kcs_cons (k : Ky) (l : List Ky) : kcs (k :: l) = k.cells ++ kcs l := rfl
theorem kcs_append (l m : List Ky) : kcs (l ++ m) = kcs l ++ kcs m := by simp [kcs]
theorem kcs_length : ∀ (l : List Ky), (∀ k ∈ l, k.id.length = 16) → (kcs l).length = l.length * 19
  | [], _ => rfl
  | k :: l, h => by
    rw [kcs_cons, List.length_append, kcs_length l (fun q hq => h q (List.mem_cons_of_mem _ hq)), Ky.cells_length (h k List.mem_cons_self), List.length_cons]; omega
theorem kcs_one (l : List Ky) : ∀ v ∈ kcs l, v.oneCell' = true := by
  intro v hv
  unfold kcs at hv
  obtain ⟨k, _, hk⟩ := List.mem_flatMap.1 hv
  exact k.one v hk
theorem kcs_get : ∀ (l : List Ky), (∀ k ∈ l, k.id.length = 16) → ∀ (i : Nat) (k : Ky), l[i]? = some k → ∀ j, j < 19 → (kcs l)[i * 19 + j]? = k.cells[j]?
  | [], _, i, k, h, _, _ => by simp at h
  | k0 :: l, hD, i, k, h, j, hj => by
    have h2 := Ky.cells_length (hD k0 List.mem_cons_self)
    rw [kcs_cons]
    cases i with
    | zero =>
      simp only [List.getElem?_cons_zero, Option.some.injEq] at h
      subst h
      rw [Nat.zero_mul, Nat.zero_add, List.getElem?_append_left (by omega)]
    | succ i =>
      rw [List.getElem?_append_right (by omega), h2, show (i + 1) * 19 + j - 19 = i * 19 + j by omega]
      exact kcs_get l (fun q hq => hD q (List.mem_cons_of_mem _ hq)) i k (by simpa using h) j hj
/-- A slice of keys that reads as l, in a block of F. -/
def RdK (w : World) (F : Nat → Prop) (v : Value) (l : List Ky) : Prop :=
  okL l ∧ ∃ (a : Option Addr) (b off c : Nat), v = .slice a l.length c ∧ l.length ≤ c ∧ (a = none → c = 0) ∧ (0 < l.length → a = some ⟨b, off, none⟩ ∧ b < w.heap.size ∧ F b) ∧ ∀ i (h : i < l.length), w.rangeAt b (off + i * 19) (l[i]).cells
theorem range_at {w u : World} {row : Option Nat} (hg : w.grownBy u row) {b o : Nat} {cs : List Value} (hb : b < w.heap.size) (hr : row ≠ some b) (h : w.rangeAt b o cs) : u.rangeAt b o cs := fun j v hv => (cell_at hg hb hr).trans (h j v hv)
theorem RdK.on {w w' : World} {F : Nat → Prop} {v : Value} {l : List Ky} {row : Option Nat} (h : RdK w F v l) (hg : w.grownBy w' row) (hr : ∀ k, row = some k → ¬ F k) : RdK w' F v l := by
  obtain ⟨ho, a, b, off, c, hv, hc, hn, ha, hcell⟩ := h
  refine ⟨ho, a, b, off, c, hv, hc, hn, fun hl => ⟨(ha hl).1, Nat.lt_of_lt_of_le (ha hl).2.1 hg.size, (ha hl).2.2⟩, fun i hi => ?_⟩
  exact range_at hg (ha (by omega)).2.1 (fun e => hr _ e (ha (by omega)).2.2) (hcell i hi)
theorem RdK.keep {w w' : World} {F : Nat → Prop} {v : Value} {l : List Ky} (h : RdK w F v l) (hg : w.grownBy w' none) : RdK w' F v l := h.on hg (fun k hk => by cases hk)
theorem RdK.mono {w : World} {F G : Nat → Prop} {v : Value} {l : List Ky} (h : RdK w F v l) (hf : ∀ k, k < w.heap.size → F k → G k) : RdK w G v l := by
  obtain ⟨ho, a, b, off, c, hv, hc, hn, ha, hcell⟩ := h
  exact ⟨ho, a, b, off, c, hv, hc, hn, fun hl => ⟨(ha hl).1, (ha hl).2.1, hf _ (ha hl).2.1 (ha hl).2.2⟩, hcell⟩
theorem RdK.nil (w : World) (F : Nat → Prop) : RdK w F (.slice none 0 0) [] :=
  ⟨fun k hk => by simp at hk, none, 0, 0, 0, rfl, Nat.le_refl _, fun _ => rfl, fun h => by simp at h, fun i h => by simp at h⟩
/-- Keys that the call owns, from block B on. -/
def OutK (B : Nat) (w : World) (v : Value) (l : List Ky) : Prop := okL l ∧ w.ownsRow B 85 19 v l.length (kcs l)
theorem OutK.on {B : Nat} {w w' : World} {v : Value} {l : List Ky} {row : Option Nat} (h : OutK B w v l) (hg : w.grownBy w' row) (hr : ∀ k, row = some k → v.ownBlock ≠ some k) : OutK B w' v l := by
  refine ⟨h.1, World.ownsRow.kept h.2 hg ?_⟩
  cases hv : v.ownBlock with
  | none => exact .inl rfl
  | some g => exact .inr (fun e => hr g e.symm hv)
theorem OutK.keep {B : Nat} {w w' : World} {v : Value} {l : List Ky} (h : OutK B w v l) (hg : w.grownBy w' none) : OutK B w' v l := h.on hg (fun k hk => by cases hk)
theorem OutK.block {B : Nat} {w : World} {v : Value} {l : List Ky} (h : OutK B w v l) : ∀ j, v.ownBlock = some j → B ≤ j := by
  intro j hj
  rcases h.2.2 with ⟨rfl, _⟩ | ⟨g, cap, cur, rfl, hb, _⟩
  · simp [Value.ownBlock] at hj
  · simp [Value.ownBlock] at hj
    omega
theorem OutK.below {B C : Nat} {w : World} {v : Value} {l : List Ky} (h : OutK B w v l) (hC : C ≤ B) : OutK C w v l := by
  refine ⟨h.1, h.2.1, ?_⟩
  rcases h.2.2 with h0 | ⟨g, cap, cur, e, hb, r⟩
  · exact .inl h0
  · exact .inr ⟨g, cap, cur, e, by omega, r⟩
theorem OutK.rd {B : Nat} {w : World} {v : Value} {l : List Ky} (h : OutK B w v l) : RdK w (fun g => B ≤ g) v l := by
  have hc := fun (g : Nat) (hg : v.ownBlock = some g) => h.2.cells (g := g) hg
  have hl := fun (g : Nat) (hg : v.ownBlock = some g) => (h.2.lt g hg).2
  obtain ⟨ho, h1, h2⟩ := h
  rcases h2 with ⟨rfl, h0⟩ | ⟨g, cap, cur, rfl, hb, hg, hle, hm, hs, ht⟩
  · have : l = [] := List.eq_nil_of_length_eq_zero h0
    subst this
    exact RdK.nil _ _
  · refine ⟨ho, some ⟨g, 0, none⟩, g, 0, cap, rfl, hle, (fun h => by cases h), fun _ => ⟨rfl, hl g rfl, hb⟩, fun i hi j v hj => ?_⟩
    have hql := Ky.cells_length (ho.len _ (List.getElem_mem hi))
    have hj' : j < 19 := by have := (List.getElem?_eq_some_iff.1 hj).1; omega
    have := hc g rfl (i * 19 + j) v (by rw [kcs_get l ho.len i l[i] (List.getElem?_eq_getElem hi) j hj', hj])
    rw [Addr.add_lit, Nat.zero_add] at this
    rw [Nat.zero_add]
    exact this
theorem OutK.nil (B : Nat) (w : World) : OutK B w (.slice none 0 0) [] := ⟨fun k hk => by simp at hk, World.ownsRow_nil _ _ _ _⟩
set_option maxRecDepth 100000 in
/-- append of keys that can be read onto a row of the call's own. -/
theorem wpList_append_keys {w : World} {ops : Array Oper} {rest : List Oper} {o : Oper} {a : Act} {Q : Exit → Act → World → Prop} (hgd : o.guard = none) (s x : Operand)
    (ho : o.op = .call { callee := .builtin .append, args := #[s, x], argTypes := #[57, 57] })
    (B : Nat) (F : Nat → Prop) (acc l : List Ky) (hown : OutK B w (a.eval s) acc) (hx : RdK w F (a.eval x) l) (hn : acc.length + l.length ≤ 1099511627776) (hB : B ≤ w.heap.size)
    (h : ∀ v' w', OutK B w' v' (acc ++ l) → w.grownBy w' (a.eval s).ownBlock → wpList Tryz.prog ops Q rest (a.put o.dst v') w') : wpList Tryz.prog ops Q (o :: rest) a w := by
  obtain ⟨inf, hi, hz0, hz1, hz2⟩ := info_parts Tryz.info85
  obtain ⟨hok, p, b, off, c, e, hc, hnn, ha, hcell⟩ := hx
  cases p with
  | none =>
    have c0 := hnn rfl
    have hl : l = [] := List.eq_nil_of_length_eq_zero (by omega)
    subst hl
    subst c0
    refine wpList_append_own_none hgd s x 57 ho B 85 inf 19 Tryz.underlying57 hi _ _ _ rfl hown.2 e ?_
    exact h _ w (by rw [List.append_nil]; exact hown) (World.grownBy.refl _ _)
  | some q =>
    refine wpList_append_own w hgd s x 57 ho B 85 inf (.agg zky.cells.toArray) 19 40 Tryz.underlying57 hi hz0 hz1 hz2 rfl (by decide) _ _ _ rfl hown.2 q l.length c (kcs l) e (by rw [kcs_length l hok.len]) ?_ (kcs_one l) (by unfold maxLen; omega) (by omega) hB ?_
    · intro j u hu
      have hj : j < l.length * 19 := by have := (List.getElem?_eq_some_iff.1 hu).1; rw [kcs_length l hok.len] at this; exact this
      have hq := (ha (by omega)).1
      injection hq with hq
      have hi' : j / 19 < l.length := by omega
      have hg := kcs_get l hok.len (j / 19) l[j / 19] (List.getElem?_eq_getElem hi') (j % 19) (by omega)
      rw [show j / 19 * 19 + j % 19 = j by omega, hu] at hg
      have hcl := hcell (j / 19) hi' (j % 19) u hg.symm
      rw [hq, Addr.add_lit, show off + j = off + j / 19 * 19 + j % 19 by omega]
      exact hcl
    · intro v' w' h1 h2 _
      refine h v' w' ⟨fun k hk => ?_, ?_⟩ h2
      · rcases List.mem_append.1 hk with hk | hk
        · exact hown.1 k hk
        · exact hok k hk
      · rw [kcs_append, List.length_append]
        exact h1
/-- one key, in a block of its own, as a slice. -/
theorem one_rd {w : World} {L : Nat} {k : Ky} (hk : k.ok) (hL : Blk w L k.cells 85) (F : Nat → Prop) (hF : F L) : RdK w F (.slice (some ⟨L, 0, none⟩) 1 1) [k] := by
  refine ⟨fun q hq => by rw [List.mem_singleton.1 hq]; exact hk, some ⟨L, 0, none⟩, L, 0, 1, rfl, Nat.le_refl _, (fun h => by cases h), fun _ => ⟨rfl, hL.lt, hF⟩, fun i hi => ?_⟩
  have : i = 0 := by simp at hi; exact hi
  subst this
  exact hL.whole
end Go.Proofs.YtlgjmhemgfjgnaaGreat
