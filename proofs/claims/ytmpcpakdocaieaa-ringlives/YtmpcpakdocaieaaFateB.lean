/- RingLives: rows of fates that the call owns; a fate built, a slice of one, an append, one cell set. -/
import Derived.Test.YtmpcpakdocaieaaFate
namespace Go.Proofs.Ytmpcpakdocaieaa
open Go Go.RowKit

theorem built_fate (kid : Nat) (sec : List UInt8) (h : sec.length = 32) : Try.prog.built 96 [(0, .int .u64 (kid : Int)), (1, .agg (Lib.byteCells sec).toArray)] = some ((Ft.mk sec 0 false).cells kid).toArray := by
  obtain ⟨b0, b1, b2, b3, b4, b5, b6, b7, b8, b9, b10, b11, b12, b13, b14, b15, b16, b17, b18, b19, b20, b21, b22, b23, b24, b25, b26, b27, b28, b29, b30, b31, rfl⟩ := list32 sec h
  kernel_rfl
def zft : Ft := ⟨z32, 0, false⟩
theorem fill_fate (k : Nat) (f : Ft) (h : f.sec.length = 32) : Instr.fill (fun i => some (i * 35, 35)) ((Array.range (1 * 35)).map ((zft.cells 0).toArray[· % (zft.cells 0).toArray.size]!)) [(0, .agg (f.cells k).toArray)] = some (f.cells k).toArray := by
  obtain ⟨sec, til, gone⟩ := f
  obtain ⟨b0, b1, b2, b3, b4, b5, b6, b7, b8, b9, b10, b11, b12, b13, b14, b15, b16, b17, b18, b19, b20, b21, b22, b23, b24, b25, b26, b27, b28, b29, b30, b31, rfl⟩ := list32 sec h
  kernel_rfl
theorem run_slice_fate (k : Nat) (f : Ft) (h : f.sec.length = 32) (w : World) : (Instr.buildSlice 97 1 #[(0, .agg (f.cells k).toArray)]).run Try.prog w = .ok (.slice (some ⟨w.heap.size, 0, none⟩) 1 1) (w.alloc (.cells (f.cells k).toArray 96)) := by
  have h1 : (sizeOf 96).run Try.prog w = .ok 35 w := by kernel_rfl
  have h2 : (zeroValue 96).run Try.prog w = .ok (.agg (zft.cells 0).toArray) w := by kernel_rfl
  unfold Instr.buildSlice
  simp only [Sem.run_bind, run_underlying Try.underlying97, Result.andThen_ok, h1]
  rw [if_neg (by decide), if_neg (by decide)]
  simp only [Sem.run_bind, Sem.run_pure, Result.andThen_ok, h2, Value.cells, fill_fate k f h]
  rfl
theorem wpList_slice_fate {ops : Array Oper} {rest : List Oper} {o : Oper} {a : Act} {w : World} {Q : Exit → Act → World → Prop} (hgd : o.guard = none) (x : Operand) (ho : o.op = .buildSlice 97 1 #[(0, x)]) (k : Nat) (f : Ft) (hk : f.sec.length = 32) (hx : a.eval x = .agg (f.cells k).toArray)
    (h : ∀ w', Blk w' w.heap.size (f.cells k) 96 → w'.heap.size = w.heap.size + 1 → w.grownBy w' none → wpList Try.prog ops Q rest (a.put o.dst (.slice (some ⟨w.heap.size, 0, none⟩) 1 1)) w') : wpList Try.prog ops Q (o :: rest) a w :=
  wpList_plain hgd fun _ hK => by
    have e : (#[(0, x)] : Array (Nat × Operand)).map (fun (i, x) => (i, a.eval x)) = #[(0, .agg (f.cells k).toArray)] := by simp [hx]
    unfold Oper.wp execOp
    simp only [ho]
    rw [e, Sem.run_bind, run_slice_fate k f hk w]
    exact hK _ _ (h _ (Blk.new w (f.cells k) 96) (by simp) (galloc _ _ _))
def okF (fs : List Ft) : Prop := ∀ f ∈ fs, f.sec.length = 32
/-- Fates that the call owns, from block B on. -/
def OutF (B : Nat) (w : World) (v : Value) (fs : List Ft) : Prop := okF fs ∧ w.ownsRow B 96 35 v fs.length (fcs 1 fs)
theorem OutF.on {B : Nat} {w w' : World} {v : Value} {l : List Ft} {row : Option Nat} (h : OutF B w v l) (hg : w.grownBy w' row) (hr : ∀ k, row = some k → v.ownBlock ≠ some k) : OutF B w' v l := by
  refine ⟨h.1, World.ownsRow.kept h.2 hg ?_⟩
  cases hv : v.ownBlock with
  | none => exact .inl rfl
  | some g => exact .inr (fun e => hr g e.symm hv)
theorem OutF.keep {B : Nat} {w w' : World} {v : Value} {l : List Ft} (h : OutF B w v l) (hg : w.grownBy w' none) : OutF B w' v l := h.on hg (fun k hk => by cases hk)
theorem OutF.below {B C : Nat} {w : World} {v : Value} {l : List Ft} (h : OutF B w v l) (hC : C ≤ B) : OutF C w v l := by
  refine ⟨h.1, h.2.1, ?_⟩
  rcases h.2.2 with h0 | ⟨g, cap, cur, e, hb, r⟩
  · exact .inl h0
  · exact .inr ⟨g, cap, cur, e, by omega, r⟩
/-- opened, where there is one at all. -/
theorem OutF.open {B : Nat} {w : World} {v : Value} {fs : List Ft} (h : OutF B w v fs) (h0 : 0 < fs.length) : ∃ g c, v = .slice (some ⟨g, 0, none⟩) fs.length c ∧ B ≤ g ∧ g < w.heap.size ∧ ∀ i (hi : i < fs.length), w.rangeAt g (i * 35) (fs[i].cells (1 + i)) := by
  have hc := fun (g : Nat) (hg : v.ownBlock = some g) => h.2.cells (g := g) hg
  have hl := fun (g : Nat) (hg : v.ownBlock = some g) => (h.2.lt g hg).2
  obtain ⟨ho, h1, h2⟩ := h
  rcases h2 with ⟨rfl, h0'⟩ | ⟨g, cap, cur, rfl, hb, hg, hle, hm, hs, ht⟩
  · omega
  · refine ⟨g, cap, rfl, hb, hl g rfl, fun i hi j v hj => ?_⟩
    have hql := Ft.cells_length (k := 1 + i) (ho _ (List.getElem_mem hi))
    have hj' : j < 35 := by have := (List.getElem?_eq_some_iff.1 hj).1; omega
    have := hc g rfl (i * 35 + j) v (by rw [fcs_get fs 1 ho i fs[i] (List.getElem?_eq_getElem hi) j hj', hj])
    rw [Addr.add_lit, Nat.zero_add] at this
    exact this
theorem Try.info96 : (Try.prog.info? 96).map (fun i => (i.zero, i.size, i.bytes)) = some (some (.agg (zft.cells 0).toArray), 35, 56) := by kernel_rfl
set_option maxRecDepth 100000 in
/-- append of one fate onto a row of the call's own. -/
theorem wpList_append_fate {w : World} {ops : Array Oper} {rest : List Oper} {o : Oper} {a : Act} {Q : Exit → Act → World → Prop} (hgd : o.guard = none) (s x : Operand)
    (ho : o.op = .call { callee := .builtin .append, args := #[s, x], argTypes := #[97, 97] })
    (B L : Nat) (acc : List Ft) (f : Ft) (hf : f.sec.length = 32) (hown : OutF B w (a.eval s) acc) (hx : a.eval x = .slice (some ⟨L, 0, none⟩) 1 1) (hL : Blk w L (f.cells (1 + acc.length)) 96) (hn : acc.length ≤ 1000) (hB : B ≤ w.heap.size)
    (h : ∀ v' w', OutF B w' v' (acc ++ [f]) → w.grownBy w' (a.eval s).ownBlock → wpList Try.prog ops Q rest (a.put o.dst v') w') : wpList Try.prog ops Q (o :: rest) a w := by
  obtain ⟨inf, hi, hz0, hz1, hz2⟩ := info_parts Try.info96
  have hfl := Ft.cells_length (k := 1 + acc.length) hf
  refine wpList_append_own w hgd s x 97 ho B 96 inf (.agg (zft.cells 0).toArray) 35 56 Try.underlying97 hi hz0 hz1 hz2 rfl (by decide) _ _ _ rfl hown.2 ⟨L, 0, none⟩ 1 1 (f.cells (1 + acc.length)) hx (by rw [hfl]) ?_ (Ft.one _ _) (by unfold maxLen; omega) (by omega) hB ?_
  · intro j u hu
    have := hL.whole j u hu
    rw [Addr.add_lit]
    exact this
  · intro v' w' h1 h2 _
    refine h v' w' ⟨fun k hk => ?_, ?_⟩ h2
    · rcases List.mem_append.1 hk with hk | hk
      · exact hown.1 k hk
      · rw [List.mem_singleton.1 hk]; exact hf
    · rw [fcs_append, List.length_append]
      have e : fcs (1 + acc.length) [f] = f.cells (1 + acc.length) := List.append_nil _
      rw [e]
      exact h1
end Go.Proofs.Ytmpcpakdocaieaa
