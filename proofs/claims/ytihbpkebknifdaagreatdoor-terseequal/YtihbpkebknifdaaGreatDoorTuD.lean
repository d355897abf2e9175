/- One item more behind turned's row, whatever was made between: for a region that draws its order. -/
import Derived.Test.YtihbpkebknifdaaGreatDoorX39
import Derived.Test.YtihbpkebknifdaaGreatDoorGrowX
namespace Go.Proofs.YtihbpkebknifdaaGreatDoor
open Go Go.RowKit
open Go.RowKit (wrap32 wrap64)

theorem elems_moreX {wr w2 w3 : World} {b B n g : Nat} {iv : Value} {acc : List Tree} {xs : List Value} {t : Tree} {a0 a1 a2 a3 a4 a5 : Value} {X : Nat → Prop}
    (hbB : b < B) (hBr : B ≤ wr.heap.size) (hO : wr.ownsRow B 25 6 iv n xs) (hE : Elems wr (fun g => (B ≤ g ∧ X g) ∧ some g ≠ iv.ownBlock) acc xs) (hg2 : wr.grownBy w2 (some b))
    (hT : RdT w2 (fun g => wr.heap.size ≤ g) t (.agg #[a0, a1, a2, a3, a4, a5])) (hX : ∀ g, wr.heap.size ≤ g → X g) (hg3 : w2.grownBy w3 iv.ownBlock) (hat : iv.ownBlock = some g ∨ g = w2.heap.size) :
    Elems w3 (fun x => (B ≤ x ∧ X x) ∧ some x ≠ some g) (acc ++ [t]) (xs ++ [a0, a1, a2, a3, a4, a5]) := by
  have hz2 := hg2.size
  have hlt := fun k (hk : iv.ownBlock = some k) => hO.lt k hk
  refine Elems.snoc ?_ ?_
  · refine RdT.kept (F := fun g => wr.heap.size ≤ g) ?_ ?_ t hT
    · refine Stays.grown hg3 fun x hx e => ?_
      have := (hlt x e.symm).2
      omega
    · intro x hx hl
      refine ⟨⟨by omega, hX x hx⟩, fun e => ?_⟩
      injection e with e
      rcases hat with h | h
      · have := (hlt g h).2; omega
      · omega
  · refine Elems.kept (F := fun g => (B ≤ g ∧ X g) ∧ some g ≠ iv.ownBlock) ?_ ?_ hE
    · refine (Stays.grown hg2 fun x hx e => ?_).trans (Stays.grown hg3 fun x hx => hx.2)
      injection e with e
      omega
    · intro x hx hl
      refine ⟨hx.1, fun e => ?_⟩
      injection e with e
      rcases hat with h | h
      · exact hx.2 (by rw [h, e])
      · omega
section
variable {w u u' : World} {b2 b4 b5 B : Nat} {cs : List Value} {K : Int} {f : Bool} {N : Int} {X : ByteArray} {KS : List ByteArray} {L : List Tree} {j i : Nat} {kv iv : Value}
theorem TS.itemX (h : TS w u b2 b4 b5 B cs K f N X KS L j i kv iv) {w2 w3 : World} {g3 cap3 : Nat} {t : Tree} {a0 a1 a2 a3 a4 a5 : Value} (hg2 : u.grownBy w2 none) (hT : RdT w2 (fun g => u.heap.size ≤ g) t (.agg #[a0, a1, a2, a3, a4, a5])) (hg3 : w2.grownBy w3 iv.ownBlock) {xs : List Value} (hxs : u.ownsRow B 25 6 iv i xs ∧ Elems u (fun g => (B ≤ g ∧ some g ≠ kv.ownBlock) ∧ some g ≠ iv.ownBlock) (L.take i) xs) (ho3 : w3.ownsRow B 25 6 (.slice (some ⟨g3, 0, none⟩) (i + 1) cap3) (i + 1) (xs ++ [a0, a1, a2, a3, a4, a5])) (hat : iv.ownBlock = some g3 ∨ g3 = w2.heap.size) (hk : L[i]? = some t) :
    TS w (w3.setCell ⟨b5, 5, none⟩ (.slice (some ⟨g3, 0, none⟩) (i + 1) cap3)) b2 b4 b5 B cs K f N X KS L j (i + 1) kv (.slice (some ⟨g3, 0, none⟩) (i + 1) cap3) := by
  have hga := hg2
  have hh := h.keep hga
  have hlt := fun k (hk : iv.ownBlock = some k) => hxs.1.lt k hk
  have ho := h.o
  have nb : ∀ b, b < B → iv.ownBlock ≠ some b := fun b hb e => by have := (hlt b e).1; omega
  have gs := gset w3 ⟨b5, 5, none⟩ (.slice (some ⟨g3, 0, none⟩) (i + 1) cap3)
  have hjl : i < L.length := (List.getElem?_eq_some_iff.1 hk).1
  have hsz := hg3.size
  have hsz2 := hg2.size
  have y2 := (hh.x2.on hg3 (nb b2 (by omega))).on gs (by intro e; injection e with e; simp at e; omega)
  have y4 := (hh.x4.on hg3 (nb b4 (by omega))).on gs (by intro e; injection e with e; simp at e; omega)
  have y5 := (hh.x5.on hg3 (nb b5 (by omega))).set 5 (.slice (some ⟨g3, 0, none⟩) (i + 1) cap3)
  refine ⟨⟨ho.1, ho.2.1, ho.2.2.1, ?_, ho.2.2.2.2⟩, y2, y4, y5, ?_, ⟨_, own_on ho3 gs ho.2.2.1, ?_⟩, ?_, h.jl, hjl⟩
  · have := gs.size; omega
  · have hap := own_ne_type hh.k (own_keep hxs.1 hga) (by decide)
    exact own_on (hh.k.kept hg3 hap) gs ho.2.2.1
  · have e : L.take (i + 1) = L.take i ++ [t] := by rw [List.take_add_one, hk]; rfl
    rw [e]
    have q := elems_moreX (b := b5) (g := g3) (X := fun g => some g ≠ kv.ownBlock) ho.2.2.1 ho.2.2.2.1 hxs.1 hxs.2 (gsome hg2 _) hT (fun g hg e => by have := (h.k.lt g e.symm).2; omega) hg3 hat
    refine q.on (Stays.grown gs (fun g hg e => by injection e with e; have := hg.1.1; simp at e; omega))
  · exact ((gtrans h.g hga).andThen hg3 (fun x hx => .inl (by have := (hlt x hx).1; omega))).andThen gs (fun x hx => .inl (by injection hx with hx; simp at hx; omega))
end
theorem run_slice6 (a0 a1 a2 a3 a4 a5 : Value) (w : World) : (Instr.buildSlice 23 1 #[(0, .agg #[a0, a1, a2, a3, a4, a5])]).run Tryz.prog w = .ok (.slice (some ⟨w.heap.size, 0, none⟩) 1 1) (w.alloc (.cells #[a0, a1, a2, a3, a4, a5] 25)) := by
  have h1 : (sizeOf 25).run Tryz.prog w = .ok 6 w := by kernel_rfl
  have h2 : (zeroValue 25).run Tryz.prog w = .ok (.agg Z6.toArray) w := by kernel_rfl
  unfold Instr.buildSlice
  simp only [Sem.run_bind, run_underlying Tryz.underlying23, Result.andThen_ok, h1]
  rw [if_neg (by decide), if_neg (by decide)]
  have h3 : Instr.fill (fun i => some (i * 6, 6)) (Array.map (fun x => Z6.toArray[x % Z6.toArray.size]!) (Array.range (1 * 6))) [(0, Value.agg #[a0, a1, a2, a3, a4, a5])] = some #[a0, a1, a2, a3, a4, a5] := by
    first
      | kernel_rfl
      | with_unfolding_all rfl
      | (have e : Array.map (fun x => Z6.toArray[x % Z6.toArray.size]!) (Array.range (1 * 6)) = Z6.toArray := by kernel_rfl
         rw [e]; simp [Instr.fill, Z6, Value.cells])
  simp only [Sem.run_bind, Sem.run_pure, Result.andThen_ok, h2, Value.cells, h3]
  rfl
theorem shown_slice6 {o : Oper} {A : Act} {u : World} {Q : Exit → Act → World → Prop} {Ψ : Value → World → Prop} {row : Option Nat} (x : Operand) (ho : o.op = .buildSlice 23 1 #[(0, x)]) (a0 a1 a2 a3 a4 a5 : Value) (hx : A.eval x = .agg #[a0, a1, a2, a3, a4, a5])
    (hΦ : ∀ w', Blk w' u.heap.size [a0, a1, a2, a3, a4, a5] 25 → u.grownBy w' none → Ψ (.slice (some ⟨u.heap.size, 0, none⟩) 1 1) w') : o.wp Tryz.prog A u (fun A' u' => ∃ v, A' = A.put o.dst v ∧ u.grownBy u' row ∧ Ψ v u') Q := by
  have e : (#[(0, x)] : Array (Nat × Operand)).map (fun (i, x) => (i, A.eval x)) = #[(0, .agg #[a0, a1, a2, a3, a4, a5])] := by simp [hx]
  unfold Oper.wp execOp
  simp only [ho]
  rw [e, Sem.run_bind, run_slice6 a0 a1 a2 a3 a4 a5 u]
  exact ⟨_, rfl, galloc _ _ _, hΦ _ (Blk.new u [a0, a1, a2, a3, a4, a5] 25) (galloc _ _ _)⟩
theorem ld23 (b i n c : Nat) (a : Option Addr) (u : World) (h : u.cell? ⟨b, i, none⟩ = some (.slice a n c)) : (Instr.loadAt 23 (.pointer (some ⟨b, i, none⟩))).run Tryz.prog u = .ok (.slice a n c) u := by
  go_simp
theorem idx23 (b o n c i : Nat) (h : i < n) (u : World) : (Instr.indexAt 23 (.slice (some ⟨b, o, none⟩) n c) (.int .i64 (i : Nat))).run Tryz.prog u = .ok (.pointer (some ⟨b, o + i * 6, none⟩)) u := by
  have h' : (i : Int) < (n : Int) := by omega
  go_simp
theorem range6 {u : World} {b o : Nat} {a0 a1 a2 a3 a4 a5 : Value} (y0 : u.cell? ⟨b, o, none⟩ = some a0) (y1 : u.cell? ⟨b, o + 1, none⟩ = some a1) (y2 : u.cell? ⟨b, o + 2, none⟩ = some a2) (y3 : u.cell? ⟨b, o + 3, none⟩ = some a3) (y4 : u.cell? ⟨b, o + 4, none⟩ = some a4) (y5 : u.cell? ⟨b, o + 5, none⟩ = some a5) : u.rangeAt b o [a0, a1, a2, a3, a4, a5] := by
  intro j v hv
  match j, hv with
  | 0, hv => simp at hv; subst hv; exact y0
  | 1, hv => simp at hv; subst hv; exact y1
  | 2, hv => simp at hv; subst hv; exact y2
  | 3, hv => simp at hv; subst hv; exact y3
  | 4, hv => simp at hv; subst hv; exact y4
  | 5, hv => simp at hv; subst hv; exact y5
  | j + 6, hv => simp at hv
theorem range_keep {u u' : World} {b o : Nat} {cs : List Value} (h : u.rangeAt b o cs) (_hb : b < u.heap.size) (hg : u.grownBy u' none) : u'.rangeAt b o cs := fun j v hv => by
  exact hg.cell (h j v hv) (by simp)
theorem ld25 (b o : Nat) (cs : List Value) (u : World) (hc : u.rangeAt b o cs) (hl : cs.length = 6) : (Instr.loadAt 25 (.pointer (some ⟨b, o, none⟩))).run Tryz.prog u = .ok (.agg cs.toArray) u := by
  simp only [Instr.loadAt, Instr.sureAddr, Sem.run_bind, Sem.run_pure, Result.andThen_ok, run_loadVar_mid u b o 25 cs _ hc Tryz.underlying25 rfl (by rw [hl]; exact Tryz.size25)]
theorem RdT.since {u u7 w2 : World} {t : Tree} {v : Value} (hu : u7.grownBy u none) (h : RdT w2 (fun g => u.heap.size ≤ g) t v) : RdT w2 (fun g => u7.heap.size ≤ g) t v := RdT.kept (F := fun g => u.heap.size ≤ g) (Stays.refl _ _) (fun x hx _ => by have := hu.size; omega) t h
theorem RdT_six {w : World} {F : Nat → Prop} {t : Tree} {v : Value} (h : RdT w F t v) : ∃ ka kn kc ia il ic, v = .agg #[.int .i64 t.kind, .bool t.flag, .int .i64 t.n, .string t.text, .slice ka kn kc, .slice ia il ic] := by
  obtain ⟨sv, tv, e2, hsv, htv⟩ := RdT_split h
  obtain ⟨sa, sc, rfl, -, -⟩ := hsv
  obtain ⟨ta, tc, rfl, -, -⟩ := htv
  exact ⟨_, _, _, _, _, _, e2⟩
theorem Blk.news {w : World} {b : Nat} {cs : List Value} {t : TypeId} (h : Blk w b cs t) : ∀ j u, cs[j]? = some u → w.cell? ((⟨b, 0, none⟩ : Addr).add j) = some u := by
  have := World.news_of_block (B := b) (cs := cs.toArray) (t := t) (fr := (0, 0)) h
  simpa using this
end Go.Proofs.YtihbpkebknifdaaGreatDoor
