/- One item more behind turned's row, whatever was made between: for a region that draws its order. -/
import Derived.Test.YtdmnhkgiojkphaaGreatDoorPgQ
import Derived.Test.YtdmnhkgiojkphaaGreatDoorX38
import Derived.Test.YtdmnhkgiojkphaaGreatDoorX35
import Derived.Test.YtdmnhkgiojkphaaGreatDoorShC
namespace Go.Proofs.YtdmnhkgiojkphaaGreatDoor
open Go Go.RowKit
open Go.RowKit (wrap32 wrap64)

theorem elems_moreX {wr w2 w3 : World} {b B n g : Nat} {iv : Value} {acc : List Tree} {xs : List Value} {t : Tree} {a0 a1 a2 a3 a4 a5 : Value} {X : Nat → Prop}
    (hbB : b < B) (hBr : B ≤ wr.heap.size) (hO : wr.ownsRow B 26 6 iv n xs) (hE : Elems wr (fun g => (B ≤ g ∧ X g) ∧ some g ≠ iv.ownBlock) acc xs) (hg2 : wr.grownBy w2 (some b))
    (hT : RdT w2 (fun g => wr.heap.size ≤ g) t (.agg #[a0, a1, a2, a3, a4, a5])) (hX : ∀ g, wr.heap.size ≤ g → X g) (hg3 : w2.grownBy w3 iv.ownBlock) (hat : iv.ownBlock = some g ∨ g = w2.heap.size) :
    Elems w3 (fun x => (B ≤ x ∧ X x) ∧ some x ≠ some g) (acc ++ [t]) (xs ++ [a0, a1, a2, a3, a4, a5]) := by
  have hz2 := hg2.size
  have hlt := fun k (hk : iv.ownBlock = some k) => hO.lt k hk
  refine Elems.snoc ?_ ?_
  · refine RdT.kept (F := fun g => wr.heap.size ≤ g) ?_ ?_ t hT
    · refine Stays.grown hg3 fun x hx e => ?_
      have := (hlt x e.symm).2
      omega
    · intro x hx hl
      refine ⟨⟨by omega, hX x hx⟩, fun e => ?_⟩
      injection e with e
      rcases hat with h | h
      · have := (hlt g h).2; omega
      · omega
  · refine Elems.kept (F := fun g => (B ≤ g ∧ X g) ∧ some g ≠ iv.ownBlock) ?_ ?_ hE
    · refine (Stays.grown hg2 fun x hx e => ?_).trans (Stays.grown hg3 fun x hx => hx.2)
      injection e with e
      omega
    · intro x hx hl
      refine ⟨hx.1, fun e => ?_⟩
      injection e with e
      rcases hat with h | h
      · exact hx.2 (by rw [h, e])
      · omega
section
variable {w u u' : World} {b2 b4 b5 B : Nat} {cs : List Value} {K : Int} {f : Bool} {N : Int} {X : ByteArray} {KS : List ByteArray} {L : List Tree} {j i : Nat} {kv iv : Value}
theorem TS.keyX (h : TS w u b2 b4 b5 B cs K f N X KS L j i kv iv) {w2 w3 : World} {g3 cap3 : Nat} {k : ByteArray} (hg2 : u.grownBy w2 none) (hg3 : w2.grownBy w3 kv.ownBlock) (ho3 : w3.ownsRow B 9 1 (.slice (some ⟨g3, 0, none⟩) (j + 1) cap3) (j + 1) ((KS.take j).map .string ++ [.string k])) (hat : kv.ownBlock = some g3 ∨ g3 = w2.heap.size) (hk : KS[j]? = some k) :
    TS w (w3.setCell ⟨b5, 4, none⟩ (.slice (some ⟨g3, 0, none⟩) (j + 1) cap3)) b2 b4 b5 B cs K f N X KS L (j + 1) i (.slice (some ⟨g3, 0, none⟩) (j + 1) cap3) iv := by
  have hga := hg2
  have hh := h.keep hga
  have hlt := fun k (hk : kv.ownBlock = some k) => h.k.lt k hk
  have ho := h.o
  have nb : ∀ b, b < B → kv.ownBlock ≠ some b := fun b hb e => by have := (hlt b e).1; omega
  have gs := gset w3 ⟨b5, 4, none⟩ (.slice (some ⟨g3, 0, none⟩) (j + 1) cap3)
  have hjl : j < KS.length := (List.getElem?_eq_some_iff.1 hk).1
  have hsz := hg3.size
  have hsz2 := hg2.size
  have y2 := (hh.x2.on hg3 (nb b2 (by omega))).on gs (by intro e; injection e with e; simp at e; omega)
  have y4 := (hh.x4.on hg3 (nb b4 (by omega))).on gs (by intro e; injection e with e; simp at e; omega)
  have y5 := (hh.x5.on hg3 (nb b5 (by omega))).set 4 (.slice (some ⟨g3, 0, none⟩) (j + 1) cap3)
  have etk : (KS.take (j + 1)).map Value.string = (KS.take j).map Value.string ++ [.string k] := by rw [List.take_add_one, hk]; simp
  refine ⟨⟨ho.1, ho.2.1, ho.2.2.1, ?_, ho.2.2.2.2⟩, y2, y4, y5, ?_, ?_, ?_, hjl, h.il⟩
  · have := gs.size; omega
  · rw [etk]
    exact own_onB ho3 gs ho.2.2.1
  · obtain ⟨xs, q1', q2'⟩ := h.it
    have q1 := own_keep q1' hga
    have hap := own_ne_type q1 hh.k (by decide)
    have q3 : w3.ownsRow B 26 6 iv i xs := q1.kept hg3 hap
    refine ⟨xs, own_onB q3 gs ho.2.2.1, ?_⟩
    have s1 : Stays (fun g => (B ≤ g ∧ some g ≠ kv.ownBlock) ∧ some g ≠ iv.ownBlock) w2 w3 := Stays.grown hg3 (fun g hg => hg.1.2)
    have s2 : Stays (fun g => (B ≤ g ∧ some g ≠ kv.ownBlock) ∧ some g ≠ iv.ownBlock) w3 (w3.setCell ⟨b5, 4, none⟩ (.slice (some ⟨g3, 0, none⟩) (j + 1) cap3)) := Stays.grown gs (fun g hg e => by injection e with e; have := hg.1.1; simp at e; omega)
    refine Elems.kept (F := fun g => (B ≤ g ∧ some g ≠ kv.ownBlock) ∧ some g ≠ iv.ownBlock) ((Stays.none hga).trans (s1.trans s2)) (fun g hg hl => ⟨⟨hg.1.1, fun e => ?_⟩, hg.2⟩) q2'
    have e2 : g = g3 := Option.some.inj e
    rcases hat with q | q
    · exact hg.1.2 (by rw [q, e2])
    · omega
  · exact ((gtrans h.g hga).andThen hg3 (fun x hx => .inl (by have := (hlt x hx).1; omega))).andThen gs (fun x hx => .inl (by injection hx with hx; simp at hx; omega))
theorem TS.itemX (h : TS w u b2 b4 b5 B cs K f N X KS L j i kv iv) {w2 w3 : World} {g3 cap3 : Nat} {t : Tree} {a0 a1 a2 a3 a4 a5 : Value} (hg2 : u.grownBy w2 none) (hT : RdT w2 (fun g => u.heap.size ≤ g) t (.agg #[a0, a1, a2, a3, a4, a5])) (hg3 : w2.grownBy w3 iv.ownBlock) {xs : List Value} (hxs : u.ownsRow B 26 6 iv i xs ∧ Elems u (fun g => (B ≤ g ∧ some g ≠ kv.ownBlock) ∧ some g ≠ iv.ownBlock) (L.take i) xs) (ho3 : w3.ownsRow B 26 6 (.slice (some ⟨g3, 0, none⟩) (i + 1) cap3) (i + 1) (xs ++ [a0, a1, a2, a3, a4, a5])) (hat : iv.ownBlock = some g3 ∨ g3 = w2.heap.size) (hk : L[i]? = some t) :
    TS w (w3.setCell ⟨b5, 5, none⟩ (.slice (some ⟨g3, 0, none⟩) (i + 1) cap3)) b2 b4 b5 B cs K f N X KS L j (i + 1) kv (.slice (some ⟨g3, 0, none⟩) (i + 1) cap3) := by
  have hga := hg2
  have hh := h.keep hga
  have hlt := fun k (hk : iv.ownBlock = some k) => hxs.1.lt k hk
  have ho := h.o
  have nb : ∀ b, b < B → iv.ownBlock ≠ some b := fun b hb e => by have := (hlt b e).1; omega
  have gs := gset w3 ⟨b5, 5, none⟩ (.slice (some ⟨g3, 0, none⟩) (i + 1) cap3)
  have hjl : i < L.length := (List.getElem?_eq_some_iff.1 hk).1
  have hsz := hg3.size
  have hsz2 := hg2.size
  have y2 := (hh.x2.on hg3 (nb b2 (by omega))).on gs (by intro e; injection e with e; simp at e; omega)
  have y4 := (hh.x4.on hg3 (nb b4 (by omega))).on gs (by intro e; injection e with e; simp at e; omega)
  have y5 := (hh.x5.on hg3 (nb b5 (by omega))).set 5 (.slice (some ⟨g3, 0, none⟩) (i + 1) cap3)
  refine ⟨⟨ho.1, ho.2.1, ho.2.2.1, ?_, ho.2.2.2.2⟩, y2, y4, y5, ?_, ⟨_, own_onB ho3 gs ho.2.2.1, ?_⟩, ?_, h.jl, hjl⟩
  · have := gs.size; omega
  · have hap := own_ne_type hh.k (own_keep hxs.1 hga) (by decide)
    exact own_onB (hh.k.kept hg3 hap) gs ho.2.2.1
  · have e : L.take (i + 1) = L.take i ++ [t] := by rw [List.take_add_one, hk]; rfl
    rw [e]
    have q := elems_moreX (b := b5) (g := g3) (X := fun g => some g ≠ kv.ownBlock) ho.2.2.1 ho.2.2.2.1 hxs.1 hxs.2 (gsome hg2 _) hT (fun g hg e => by have := (h.k.lt g e.symm).2; omega) hg3 hat
    refine q.on (Stays.grown gs (fun g hg e => by injection e with e; have := hg.1.1; simp at e; omega))
  · exact ((gtrans h.g hga).andThen hg3 (fun x hx => .inl (by have := (hlt x hx).1; omega))).andThen gs (fun x hx => .inl (by injection hx with hx; simp at hx; omega))
end
theorem run_slice6 (a0 a1 a2 a3 a4 a5 : Value) (w : World) : (Instr.buildSlice 22 1 #[(0, .agg #[a0, a1, a2, a3, a4, a5])]).run Tryz.prog w = .ok (.slice (some ⟨w.heap.size, 0, none⟩) 1 1) (w.alloc (.cells #[a0, a1, a2, a3, a4, a5] 26)) := by
  have h1 : (sizeOf 26).run Tryz.prog w = .ok 6 w := by kernel_rfl
  have h2 : (zeroValue 26).run Tryz.prog w = .ok (.agg Z6.toArray) w := by kernel_rfl
  unfold Instr.buildSlice
  simp only [Sem.run_bind, run_underlying Tryz.underlying22, Result.andThen_ok, h1]
  rw [if_neg (by decide), if_neg (by decide)]
  have h3 : Instr.fill (fun i => some (i * 6, 6)) (Array.map (fun x => Z6.toArray[x % Z6.toArray.size]!) (Array.range (1 * 6))) [(0, Value.agg #[a0, a1, a2, a3, a4, a5])] = some #[a0, a1, a2, a3, a4, a5] := by
    first
      | kernel_rfl
      | with_unfolding_all rfl
      | (have e : Array.map (fun x => Z6.toArray[x % Z6.toArray.size]!) (Array.range (1 * 6)) = Z6.toArray := by kernel_rfl
         rw [e]; simp [Instr.fill, Z6, Value.cells])
  simp only [Sem.run_bind, Sem.run_pure, Result.andThen_ok, h2, Value.cells, h3]
  rfl
theorem shown_slice6 {o : Oper} {A : Act} {u : World} {Q : Exit → Act → World → Prop} {Ψ : Value → World → Prop} {row : Option Nat} (x : Operand) (ho : o.op = .buildSlice 22 1 #[(0, x)]) (a0 a1 a2 a3 a4 a5 : Value) (hx : A.eval x = .agg #[a0, a1, a2, a3, a4, a5])
    (hΦ : ∀ w', Blk w' u.heap.size [a0, a1, a2, a3, a4, a5] 26 → u.grownBy w' none → Ψ (.slice (some ⟨u.heap.size, 0, none⟩) 1 1) w') : o.wp Tryz.prog A u (fun A' u' => ∃ v, A' = A.put o.dst v ∧ u.grownBy u' row ∧ Ψ v u') Q := by
  have e : (#[(0, x)] : Array (Nat × Operand)).map (fun (i, x) => (i, A.eval x)) = #[(0, .agg #[a0, a1, a2, a3, a4, a5])] := by simp [hx]
  unfold Oper.wp execOp
  simp only [ho]
  rw [e, Sem.run_bind, run_slice6 a0 a1 a2 a3 a4 a5 u]
  exact ⟨_, rfl, galloc _ _ _, hΦ _ (Blk.new u [a0, a1, a2, a3, a4, a5] 26) (galloc _ _ _)⟩
theorem ld23 (b i n c : Nat) (a : Option Addr) (u : World) (h : u.cell? ⟨b, i, none⟩ = some (.slice a n c)) : (Instr.loadAt 22 (.pointer (some ⟨b, i, none⟩))).run Tryz.prog u = .ok (.slice a n c) u := by
  go_simp
theorem idx23 (b o n c i : Nat) (h : i < n) (u : World) : (Instr.indexAt 22 (.slice (some ⟨b, o, none⟩) n c) (.int .i64 (i : Nat))).run Tryz.prog u = .ok (.pointer (some ⟨b, o + i * 6, none⟩)) u := by
  have h' : (i : Int) < (n : Int) := by omega
  go_simp
theorem ld25 (b o : Nat) (cs : List Value) (u : World) (hc : u.rangeAt b o cs) (hl : cs.length = 6) : (Instr.loadAt 26 (.pointer (some ⟨b, o, none⟩))).run Tryz.prog u = .ok (.agg cs.toArray) u := by
  simp only [Instr.loadAt, Instr.sureAddr, Sem.run_bind, Sem.run_pure, Result.andThen_ok, run_loadVar_mid u b o 26 cs _ hc Tryz.underlying26 rfl (by rw [hl]; exact Tryz.size26)]
theorem RdT.since {u u7 w2 : World} {t : Tree} {v : Value} (hu : u7.grownBy u none) (h : RdT w2 (fun g => u.heap.size ≤ g) t v) : RdT w2 (fun g => u7.heap.size ≤ g) t v := RdT.kept (F := fun g => u.heap.size ≤ g) (Stays.refl _ _) (fun x hx _ => by have := hu.size; omega) t h
theorem RdT_six {w : World} {F : Nat → Prop} {t : Tree} {v : Value} (h : RdT w F t v) : ∃ ka kn kc ia il ic, v = .agg #[.int .i64 t.kind, .bool t.flag, .int .i64 t.n, .string t.text, .slice ka kn kc, .slice ia il ic] := by
  obtain ⟨sv, tv, e2, hsv, htv⟩ := RdT_split h
  obtain ⟨sa, sc, rfl, -, -⟩ := hsv
  obtain ⟨ta, tc, rfl, -, -⟩ := htv
  exact ⟨_, _, _, _, _, _, e2⟩
theorem Blk.news {w : World} {b : Nat} {cs : List Value} {t : TypeId} (h : Blk w b cs t) : ∀ j u, cs[j]? = some u → w.cell? ((⟨b, 0, none⟩ : Addr).add j) = some u := by
  have := World.news_of_block (B := b) (cs := cs.toArray) (t := t) (fr := (0, 0)) h
  simpa using this
theorem TS.rd {w u : World} {b2 b4 b5 B : Nat} {cs : List Value} {K : Int} {f : Bool} {N : Int} {X : ByteArray} {KS : List ByteArray} {L : List Tree} {kv iv : Value} (h : TS w u b2 b4 b5 B cs K f N X KS L KS.length L.length kv iv) : RdT u (fun g => B ≤ g) (.mk K f N X KS L) (.agg #[.int .i64 K, .bool f, .int .i64 N, .string X, kv, iv]) := by
  obtain ⟨xs, q1, q2⟩ := h.it
  rw [List.take_length] at q2
  have hk := h.k
  rw [List.take_length] at hk
  obtain ⟨a, c, e, p1, p2⟩ := items_of (F := fun g => B ≤ g) q1 (Elems.kept (F := fun g => (B ≤ g ∧ some g ≠ kv.ownBlock) ∧ some g ≠ iv.ownBlock) (Stays.refl _ _) (fun g hg _ => hg.1.1) q2) (fun g hg => (q1.lt g hg).1)
  rw [RdT_eq]
  exact ⟨kv, a, c, by rw [e]; rfl, keys_of hk (fun g hg => (hk.lt g hg).1), p1, p2⟩
theorem run_slice1s (s : ByteArray) (w : World) : (Instr.buildSlice 24 1 #[(0, .string s)]).run Tryz.prog w = .ok (.slice (some ⟨w.heap.size, 0, none⟩) 1 1) (w.alloc (.cells #[.string s] 9)) := by
  go_simp
theorem shown_slice1s {o : Oper} {A : Act} {u : World} {Q : Exit → Act → World → Prop} {Ψ : Value → World → Prop} {row : Option Nat} (x : Operand) (ho : o.op = .buildSlice 24 1 #[(0, x)]) (s : ByteArray) (hx : A.eval x = .string s)
    (hΦ : ∀ w', Blk w' u.heap.size [.string s] 9 → u.grownBy w' none → Ψ (.slice (some ⟨u.heap.size, 0, none⟩) 1 1) w') : o.wp Tryz.prog A u (fun A' u' => ∃ v, A' = A.put o.dst v ∧ u.grownBy u' row ∧ Ψ v u') Q := by
  have e : (#[(0, x)] : Array (Nat × Operand)).map (fun (i, x) => (i, A.eval x)) = #[(0, .string s)] := by simp [hx]
  unfold Oper.wp execOp
  simp only [ho]
  rw [e, Sem.run_bind, run_slice1s s u]
  exact ⟨_, rfl, galloc _ _ _, hΦ _ (Blk.new u [.string s] 9) (galloc _ _ _)⟩
theorem ld24 (b i n c : Nat) (a : Option Addr) (u : World) (h : u.cell? ⟨b, i, none⟩ = some (.slice a n c)) : (Instr.loadAt 24 (.pointer (some ⟨b, i, none⟩))).run Tryz.prog u = .ok (.slice a n c) u := by
  go_simp
end Go.Proofs.YtdmnhkgiojkphaaGreatDoor
