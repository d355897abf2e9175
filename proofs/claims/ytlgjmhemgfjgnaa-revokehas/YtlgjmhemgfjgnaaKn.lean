/- Rows of what the statement knows. -/
import Derived.Test.YtlgjmhemgfjgnaaRvL
namespace Go.Proofs.Ytlgjmhemgfjgnaa
open Go Go.RowKit
open Go.RowKit (wrap32 wrap64)

theorem Try.zero35 : (Try.prog.info? 35).map (fun i => i.zero) = some (some (.agg zky.cells.toArray)) := by kernel_rfl
theorem Try.size35 : (Try.prog.info? 35).map (·.size) = some 19 := by kernel_rfl
theorem Try.built35 : Try.prog.built 35 [] = some zky.cells.toArray := by kernel_rfl
theorem Try.info35 : (Try.prog.info? 35).map (fun i => (i.zero, i.size, i.bytes)) = some (some (.agg zky.cells.toArray), 19, 40) := by kernel_rfl
theorem Try.under35 : Try.prog.underlying 35 = some (.struct (Try.prog.fieldsOf 35)) := by kernel_rfl

/-- A slice of keys that reads as l, in a block of F. -/
def RdN (w : World) (F : Nat → Prop) (v : Value) (l : List Ky) : Prop :=
  okL l ∧ ∃ (a : Option Addr) (b off c : Nat), v = .slice a l.length c ∧ l.length ≤ c ∧ (a = none → c = 0) ∧ (0 < l.length → a = some ⟨b, off, none⟩ ∧ b < w.heap.size ∧ F b) ∧ ∀ i (h : i < l.length), w.rangeAt b (off + i * 19) (l[i]).cells
theorem RdN.on {w w' : World} {F : Nat → Prop} {v : Value} {l : List Ky} {row : Option Nat} (h : RdN w F v l) (hg : w.grownBy w' row) (hr : ∀ k, row = some k → ¬ F k) : RdN w' F v l := by
  obtain ⟨ho, a, b, off, c, hv, hc, hn, ha, hcell⟩ := h
  refine ⟨ho, a, b, off, c, hv, hc, hn, fun hl => ⟨(ha hl).1, Nat.lt_of_lt_of_le (ha hl).2.1 hg.size, (ha hl).2.2⟩, fun i hi => ?_⟩
  exact range_at hg (ha (by omega)).2.1 (fun e => hr _ e (ha (by omega)).2.2) (hcell i hi)
theorem RdN.keep {w w' : World} {F : Nat → Prop} {v : Value} {l : List Ky} (h : RdN w F v l) (hg : w.grownBy w' none) : RdN w' F v l := h.on hg (fun k hk => by cases hk)
theorem RdN.mono {w : World} {F G : Nat → Prop} {v : Value} {l : List Ky} (h : RdN w F v l) (hf : ∀ k, k < w.heap.size → F k → G k) : RdN w G v l := by
  obtain ⟨ho, a, b, off, c, hv, hc, hn, ha, hcell⟩ := h
  exact ⟨ho, a, b, off, c, hv, hc, hn, fun hl => ⟨(ha hl).1, (ha hl).2.1, hf _ (ha hl).2.1 (ha hl).2.2⟩, hcell⟩
theorem RdN.nil (w : World) (F : Nat → Prop) : RdN w F (.slice none 0 0) [] :=
  ⟨fun k hk => by simp at hk, none, 0, 0, 0, rfl, Nat.le_refl _, fun _ => rfl, fun h => by simp at h, fun i h => by simp at h⟩
/-- Keys that the call owns, from block B on. -/
def OutN (B : Nat) (w : World) (v : Value) (l : List Ky) : Prop := okL l ∧ w.ownsRow B 35 19 v l.length (kcs l)
theorem OutN.on {B : Nat} {w w' : World} {v : Value} {l : List Ky} {row : Option Nat} (h : OutN B w v l) (hg : w.grownBy w' row) (hr : ∀ k, row = some k → v.ownBlock ≠ some k) : OutN B w' v l := by
  refine ⟨h.1, World.ownsRow.kept h.2 hg ?_⟩
  cases hv : v.ownBlock with
  | none => exact .inl rfl
  | some g => exact .inr (fun e => hr g e.symm hv)
theorem OutN.keep {B : Nat} {w w' : World} {v : Value} {l : List Ky} (h : OutN B w v l) (hg : w.grownBy w' none) : OutN B w' v l := h.on hg (fun k hk => by cases hk)
theorem OutN.block {B : Nat} {w : World} {v : Value} {l : List Ky} (h : OutN B w v l) : ∀ j, v.ownBlock = some j → B ≤ j := by
  intro j hj
  rcases h.2.2 with ⟨rfl, _⟩ | ⟨g, cap, cur, rfl, hb, _⟩
  · simp [Value.ownBlock] at hj
  · simp [Value.ownBlock] at hj
    omega
theorem OutN.below {B C : Nat} {w : World} {v : Value} {l : List Ky} (h : OutN B w v l) (hC : C ≤ B) : OutN C w v l := by
  refine ⟨h.1, h.2.1, ?_⟩
  rcases h.2.2 with h0 | ⟨g, cap, cur, e, hb, r⟩
  · exact .inl h0
  · exact .inr ⟨g, cap, cur, e, by omega, r⟩
theorem OutN.rd {B : Nat} {w : World} {v : Value} {l : List Ky} (h : OutN B w v l) : RdN w (fun g => B ≤ g) v l := by
  have hc := fun (g : Nat) (hg : v.ownBlock = some g) => h.2.cells (g := g) hg
  have hl := fun (g : Nat) (hg : v.ownBlock = some g) => (h.2.lt g hg).2
  obtain ⟨ho, h1, h2⟩ := h
  rcases h2 with ⟨rfl, h0⟩ | ⟨g, cap, cur, rfl, hb, hg, hle, hm, hs, ht⟩
  · have : l = [] := List.eq_nil_of_length_eq_zero h0
    subst this
    exact RdN.nil _ _
  · refine ⟨ho, some ⟨g, 0, none⟩, g, 0, cap, rfl, hle, (fun h => by cases h), fun _ => ⟨rfl, hl g rfl, hb⟩, fun i hi j v hj => ?_⟩
    have hql := Ky.cells_length (ho.len _ (List.getElem_mem hi))
    have hj' : j < 19 := by have := (List.getElem?_eq_some_iff.1 hj).1; omega
    have := hc g rfl (i * 19 + j) v (by rw [kcs_get l ho.len i l[i] (List.getElem?_eq_getElem hi) j hj', hj])
    rw [Addr.add_lit, Nat.zero_add] at this
    rw [Nat.zero_add]
    exact this
theorem OutN.nil (B : Nat) (w : World) : OutN B w (.slice none 0 0) [] := ⟨fun k hk => by simp at hk, World.ownsRow_nil _ _ _ _⟩
set_option maxRecDepth 100000 in
/-- append of keys that can be read onto a row of the call's own. -/
theorem wpList_append_knowns {w : World} {ops : Array Oper} {rest : List Oper} {o : Oper} {a : Act} {Q : Exit → Act → World → Prop} (hgd : o.guard = none) (s x : Operand)
    (ho : o.op = .call { callee := .builtin .append, args := #[s, x], argTypes := #[24, 24] })
    (B : Nat) (F : Nat → Prop) (acc l : List Ky) (hown : OutN B w (a.eval s) acc) (hx : RdN w F (a.eval x) l) (hn : acc.length + l.length ≤ 1099511627776) (hB : B ≤ w.heap.size)
    (h : ∀ v' w', OutN B w' v' (acc ++ l) → w.grownBy w' (a.eval s).ownBlock → wpList Try.prog ops Q rest (a.put o.dst v') w') : wpList Try.prog ops Q (o :: rest) a w := by
  obtain ⟨inf, hi, hz0, hz1, hz2⟩ := info_parts Try.info35
  obtain ⟨hok, p, b, off, c, e, hc, hnn, ha, hcell⟩ := hx
  cases p with
  | none =>
    have c0 := hnn rfl
    have hl : l = [] := List.eq_nil_of_length_eq_zero (by omega)
    subst hl
    subst c0
    refine wpList_append_own_none hgd s x 24 ho B 35 inf 19 Try.underlying24 hi _ _ _ rfl hown.2 e ?_
    exact h _ w (by rw [List.append_nil]; exact hown) (World.grownBy.refl _ _)
  | some q =>
    refine wpList_append_own w hgd s x 24 ho B 35 inf (.agg zky.cells.toArray) 19 40 Try.underlying24 hi hz0 hz1 hz2 rfl (by decide) _ _ _ rfl hown.2 q l.length c (kcs l) e (by rw [kcs_length l hok.len]) ?_ (kcs_one l) (by unfold maxLen; omega) (by omega) hB ?_
    · intro j u hu
      have hj : j < l.length * 19 := by have := (List.getElem?_eq_some_iff.1 hu).1; rw [kcs_length l hok.len] at this; exact this
      have hq := (ha (by omega)).1
      injection hq with hq
      have hi' : j / 19 < l.length := by omega
      have hg := kcs_get l hok.len (j / 19) l[j / 19] (List.getElem?_eq_getElem hi') (j % 19) (by omega)
      rw [show j / 19 * 19 + j % 19 = j by omega, hu] at hg
      have hcl := hcell (j / 19) hi' (j % 19) u hg.symm
      rw [hq, Addr.add_lit, show off + j = off + j / 19 * 19 + j % 19 by omega]
      exact hcl
    · intro v' w' h1 h2 _
      refine h v' w' ⟨fun k hk => ?_, ?_⟩ h2
      · rcases List.mem_append.1 hk with hk | hk
        · exact hown.1 k hk
        · exact hok k hk
      · rw [kcs_append, List.length_append]
        exact h1
/-- one key, in a block of its own, as a slice. -/
theorem one_rdN {w : World} {L : Nat} {k : Ky} (hk : k.ok) (hL : Blk w L k.cells 35) (F : Nat → Prop) (hF : F L) : RdN w F (.slice (some ⟨L, 0, none⟩) 1 1) [k] := by
  refine ⟨fun q hq => by rw [List.mem_singleton.1 hq]; exact hk, some ⟨L, 0, none⟩, L, 0, 1, rfl, Nat.le_refl _, (fun h => by cases h), fun _ => ⟨rfl, hL.lt, hF⟩, fun i hi => ?_⟩
  have : i = 0 := by simp at hi; exact hi
  subst this
  exact hL.whole

theorem RdN.open {w : World} {F : Nat → Prop} {v : Value} {l : List Ky} (h : RdN w F v l) : okL l ∧ ∃ (a : Option Addr) (b off c : Nat), v = .slice a l.length c ∧ l.length ≤ c ∧ Hid (0 < l.length → a = some ⟨b, off, none⟩ ∧ b < w.heap.size) ∧ Hid (∀ u, w.grownBy u none → ∀ i (h : i < l.length), u.rangeAt b (off + i * 19) (l[i]).cells ∧ b < u.heap.size) := by
  obtain ⟨ho, a, b, off, c, hv, hc, hn, ha, hcell⟩ := h
  exact ⟨ho, a, b, off, c, hv, hc, hid (fun h => ⟨(ha h).1, (ha h).2.1⟩), hid (fun u hu i hi => ⟨range_at hu (ha (by omega)).2.1 (by simp) (hcell i hi), Nat.lt_of_lt_of_le (ha (by omega)).2.1 hu.size⟩)⟩

theorem run_slice1N (k : Ky) (h : k.id.length = 16) (w : World) : (Instr.buildSlice 24 1 #[(0, .agg k.cells.toArray)]).run Try.prog w = .ok (.slice (some ⟨w.heap.size, 0, none⟩) 1 1) (w.alloc (.cells k.cells.toArray 35)) := by
  have h1 : (sizeOf 35).run Try.prog w = .ok 19 w := by kernel_rfl
  have h2 : (zeroValue 35).run Try.prog w = .ok (.agg zky.cells.toArray) w := by kernel_rfl
  unfold Instr.buildSlice
  simp only [Sem.run_bind, run_underlying Try.underlying24, Result.andThen_ok, h1]
  rw [if_neg (by decide), if_neg (by decide)]
  simp only [Sem.run_bind, Sem.run_pure, Result.andThen_ok, h2, Value.cells, fill_one k h]
  rfl
section
variable {ops : Array Oper} {rest : List Oper} {o : Oper} {a : Act} {w : World} {Q : Exit → Act → World → Prop}
theorem wpList_slice1N (hgd : o.guard = none) (x : Operand) (ho : o.op = .buildSlice 24 1 #[(0, x)]) (k : Ky) (hk : k.id.length = 16) (hx : a.eval x = .agg k.cells.toArray)
    (h : ∀ w', Blk w' w.heap.size k.cells 35 → w'.heap.size = w.heap.size + 1 → w.grownBy w' none → wpList Try.prog ops Q rest (a.put o.dst (.slice (some ⟨w.heap.size, 0, none⟩) 1 1)) w') : wpList Try.prog ops Q (o :: rest) a w :=
  wpList_plain hgd fun _ hK => by
    have e : (#[(0, x)] : Array (Nat × Operand)).map (fun (i, x) => (i, a.eval x)) = #[(0, .agg k.cells.toArray)] := by simp [hx]
    unfold Oper.wp execOp
    simp only [ho]
    rw [e, Sem.run_bind, run_slice1N k hk w]
    exact hK _ _ (h _ (Blk.new w k.cells 35) (by simp) (galloc _ _ _))
end
/-- what a row of the call's own is. -/
theorem OutN.open {B : Nat} {w : World} {v : Value} {l : List Ky} (h : OutN B w v l) : (v = .slice none 0 0 ∧ l = []) ∨ ∃ g cap rest, v = .slice (some ⟨g, 0, none⟩) l.length cap ∧ B ≤ g ∧ l.length ≤ cap ∧ cap ≤ maxLen ∧ Blk w g (kcs l ++ rest) 35 ∧ (kcs l ++ rest).length = cap * 19 := by
  obtain ⟨ho, h1, h2⟩ := h
  rcases h2 with ⟨rfl, h0⟩ | ⟨g, cap, cur, rfl, hb, hg, hle, hm, hs, ht⟩
  · exact .inl ⟨rfl, List.eq_nil_of_length_eq_zero h0⟩
  · have e : kcs l ++ cur.toList.drop (l.length * 19) = cur.toList := by rw [← ht, List.take_append_drop]
    refine .inr ⟨g, cap, cur.toList.drop (l.length * 19), rfl, hb, hle, hm, ?_, ?_⟩
    · rw [e]; exact hg
    · rw [e, Array.length_toList]; exact hs
theorem OutN.of {B : Nat} {w : World} {g n cap : Nat} {l : List Ky} {rest : List Value} (ho : okL l) (hb : B ≤ g) (hn : l.length = n) (hle : n ≤ cap) (hm : cap ≤ maxLen) (hB : Blk w g (kcs l ++ rest) 35) (hs : (kcs l ++ rest).length = cap * 19) : OutN B w (.slice (some ⟨g, 0, none⟩) n cap) l := by
  subst hn
  refine ⟨ho, ?_, .inr ⟨g, cap, (kcs l ++ rest).toArray, rfl, hb, hB, hle, hm, by simpa using hs, ?_⟩⟩
  · exact kcs_length l ho.len
  · show (kcs l ++ rest).take (l.length * 19) = kcs l
    rw [← kcs_length l ho.len, List.take_left]
theorem apart {B C : Nat} {w : World} {v u : Value} {l m : List Ky} (h : OutK B w v l) (k : OutN C w u m) : ∀ j, u.ownBlock = some j → v.ownBlock ≠ some j := by
  intro j hj e
  rcases h.2.2 with ⟨rfl, _⟩ | ⟨g, cap, cur, rfl, _, hg, _⟩
  · simp [Value.ownBlock] at e
  · rcases k.2.2 with ⟨rfl, _⟩ | ⟨g', cap', cur', rfl, _, hg', _⟩
    · simp [Value.ownBlock] at hj
    · simp [Value.ownBlock] at e hj
      subst e
      subst hj
      rw [hg] at hg'
      injection hg' with hg'
      injection hg' with _ hg' _
      exact absurd hg' (by decide)
end Go.Proofs.Ytlgjmhemgfjgnaa
