/- The law's book over keys: what of it stays when something is written. -/
import Derived.Test.YtlgjmhemgfjgnaaGreatKbB
import Derived.Test.YtlgjmhemgfjgnaaGreatKbC
namespace Go.Proofs.YtlgjmhemgfjgnaaGreat.Bk
open Go Go.RowKit
open Go.RowKit (wrap32 wrap64)

def slen : Value → Nat | .slice _ n _ => n | _ => 0
/-- Numbers as cells. -/
def ci (l : List Nat) : List Value := l.map fun (n : Nat) => Value.int .i64 (n : Int)
theorem ci_length (l : List Nat) : (ci l).length = l.length := by simp [ci]
/-- A list that holds the mark m. -/
def Held (w : World) (g : Value) (m : Nat) : Prop :=
  ∃ (a : Option Addr) (n c : Nat), g = .slice a n c ∧ n ≤ 1048576 ∧ (0 < n → ∃ (b : Nat) (cs : Array Value), a = some ⟨b, 0, none⟩ ∧ w.heap[b]? = some (.cells cs 85 (0, 0)) ∧ ∀ j q, j < n → q < 19 → cs[j * 19 + q]? = (kyM m).cells[q]?)
theorem own_cells {w : World} {B : Nat} {e : TypeId} {a : Option Addr} {n c : Nat} {xs : List Value} (h : w.ownsRow B e 1 (.slice a n c) n xs) (hn : 0 < n) :
    ∃ b, a = some ⟨b, 0, none⟩ ∧ b < w.heap.size ∧ B ≤ b ∧ n ≤ c ∧ ∀ j, j < n → w.cell? ⟨b, j, none⟩ = xs[j]? := by
  rcases h.2 with ⟨h1, h2⟩ | ⟨g, cap, cur, hv, hb, hg, hle, hm, hs, ht⟩
  · omega
  · simp only [Value.slice.injEq] at hv
    obtain ⟨rfl, _, rfl⟩ := hv
    refine ⟨g, rfl, (Array.getElem?_eq_some_iff.1 hg).1, hb, hle, fun j hj => ?_⟩
    exact h.cellAt j (by omega)
theorem own_shape' {w : World} {B n q : Nat} {e : TypeId} {v : Value} {xs : List Value} (h : w.ownsRow B e q v n xs) : ∃ a c, v = .slice a n c := by
  rcases h.2 with ⟨rfl, rfl⟩ | ⟨g, cap, cur, rfl, _⟩
  · exact ⟨_, _, rfl⟩
  · exact ⟨_, _, rfl⟩

/-- The first n cells of block k are what they were. -/
def KeepsTo (w w' : World) (k n : Nat) (e : TypeId) : Prop :=
  ∀ cs : Array Value, w.heap[k]? = some (.cells cs e (0, 0)) → ∃ cs' : Array Value, w'.heap[k]? = some (.cells cs' e (0, 0)) ∧ ∀ j, j < n → cs'[j]? = cs[j]?

theorem KeepsTo.same {w w' : World} {k n : Nat} {e : TypeId} (h : w'.heap[k]? = w.heap[k]?) : KeepsTo w w' k n e := fun cs hcs => ⟨cs, by rw [h]; exact hcs, fun _ _ => rfl⟩

section
variable {P : Program} (w : World)


theorem run_append_keeps (t ty : TypeId) (base : Nat) (e : TypeId) (i : TypeInfo) (z : Value) (size bytes : Nat) (ht : P.underlying t = some (.slice e)) (hi : P.info? e = some i) (hz : i.zero = some z)
    (hsize : i.size = size) (hby : i.bytes = bytes) (hzs : z.cells.size = size) (hpos : 0 < size)
    (v : Value) (n : Nat) (xs : List Value) (hown : w.ownsRow base e size v n xs)
    (ad : Addr) (c : Nat) (news : List Value) (hl0 : news.length = size) (hnews : ∀ j u, news[j]? = some u → w.cell? (ad.add j) = some u) (hone : ∀ q ∈ news, q.oneCell' = true)
    (h63 : n + 1 ≤ maxLen) (hbytes : (n + 1) * bytes ≤ 140737488355328) (hbase : base ≤ w.heap.size) :
    ∃ g cap w', (Builtin.append_ #[t, t] ty #[v, .slice (some ad) 1 c]).run P w = .ok (.slice (some ⟨g, 0, none⟩) (n + 1) cap) w' ∧ w'.ownsRow base e size (.slice (some ⟨g, 0, none⟩) (n + 1) cap) (n + 1) (xs ++ news) ∧ w.grownBy w' v.ownBlock ∧
      (v.ownBlock = some g ∨ g = w.heap.size) ∧ ∀ k, v.ownBlock = some k → KeepsTo w w' k (n * size) e := by
  have hl : news.length = 1 * i.size := by rw [hsize, hl0, Nat.one_mul]
  obtain ⟨g, cap, w', hr, h2, h3, h4, h5⟩ := run_append_lies (P := P) w t ty base e i z size bytes ht hi hz hsize hby hzs hpos v n xs hown ad 1 c news (by rw [hl0, Nat.one_mul]) hnews hone (by decide) h63 hbytes hbase w.heap.size rfl
  refine ⟨g, cap, w', hr, h2, h3, h4, ?_⟩
  intro k hk
  rcases hown.2 with ⟨hv, _⟩ | ⟨g0, cap0, cur, hv, hb, hg, hle, hm, hs, ht'⟩
  · rw [hv] at hk
    cases hk
  · have hkg : k = g0 := by rw [hv] at hk; simp [Value.ownBlock] at hk; exact hk.symm
    subst hkg
    by_cases hroom : n + 1 ≤ cap0
    · have hmul : n * size + size ≤ cap0 * size := by
        have := Nat.mul_le_mul_right size hroom
        rw [Nat.add_mul, Nat.one_mul] at this
        exact this
      have hr' := run_append_room (P := P) w t ty e i ht hi k n cap0 cur hg ad 1 c news hl hnews hone hroom (by rw [hsize, hl0]; omega)
      rw [← hv, hr] at hr'
      have hw' : w' = w.setRow k (cur.toList.take (n * i.size) ++ news ++ cur.toList.drop (n * i.size + news.length)).toArray := by injection hr'
      intro cs hcs
      rw [hg] at hcs
      have hcc : cur = cs := by injection hcs with q; injection q
      subst hcc
      refine ⟨_, by rw [hw']; exact setRow_heap w k cur _ e _ hg, fun j hj => ?_⟩
      rw [hsize]
      simp only [List.getElem?_toArray]
      rw [List.append_assoc, List.getElem?_append_left (by rw [List.length_take, Array.length_toList]; omega)]
      rw [List.getElem?_take, if_pos hj]
      simp
    · have holds : ∀ j u, xs[j]? = some u → w.cell? ((⟨k, 0, none⟩ : Addr).add j) = some u := hown.cells (g := k) (by rw [hv]; rfl)
      have hr' := run_append_grow (P := P) w t ty e i z ht hi hz ⟨k, 0, none⟩ n cap0 xs (by rw [hsize]; exact hown.1) holds ad 1 c news hl hnews (by omega) (by simp only [maxLen] at h63; omega) (by rw [hby]; exact growslice_fits (by omega) hbytes)
      rw [← hv, hr] at hr'
      have hw' : w' = w.drew.alloc (.cells (xs.toArray ++ news.toArray ++ Builtin.zeroCells z.cells (grownCap w (n + 1) cap0 e - (n + 1))) e) := by injection hr'
      refine KeepsTo.same ?_
      rw [hw']
      exact heap_alloc_old w.drew _ (Array.getElem?_eq_some_iff.1 hg).1

theorem wpList_append_keeps {ops : Array Oper} {rest : List Oper} {o : Oper} {a : Act} {Q : Exit → Act → World → Prop} (hgd : o.guard = none) (s x : Operand) (t : TypeId)
    (ho : o.op = .call { callee := .builtin .append, args := #[s, x], argTypes := #[t, t] })
    (base : Nat) (e : TypeId) (i : TypeInfo) (z : Value) (size bytes : Nat) (ht : P.underlying t = some (.slice e)) (hi : P.info? e = some i) (hz : i.zero = some z)
    (hsize : i.size = size) (hby : i.bytes = bytes) (hzs : z.cells.size = size) (hpos : 0 < size)
    (v : Value) (n : Nat) (xs : List Value) (hs : a.eval s = v) (hown : w.ownsRow base e size v n xs)
    (ad : Addr) (c : Nat) (news : List Value) (hx : a.eval x = .slice (some ad) 1 c) (hl0 : news.length = size) (hnews : ∀ j u, news[j]? = some u → w.cell? (ad.add j) = some u) (hone : ∀ q ∈ news, q.oneCell' = true)
    (h63 : n + 1 ≤ maxLen) (hbytes : (n + 1) * bytes ≤ 140737488355328) (hbase : base ≤ w.heap.size)
    (h : ∀ g cap w', w'.ownsRow base e size (.slice (some ⟨g, 0, none⟩) (n + 1) cap) (n + 1) (xs ++ news) → w.grownBy w' v.ownBlock → (v.ownBlock = some g ∨ g = w.heap.size) → (∀ k, v.ownBlock = some k → KeepsTo w w' k (n * size) e) → wpList P ops Q rest (a.put o.dst (.slice (some ⟨g, 0, none⟩) (n + 1) cap)) w') : wpList P ops Q (o :: rest) a w := by
  refine wpList_plain hgd fun _ hK => ?_
  obtain ⟨g, cap, w', hr, h2, h3, h4, h5⟩ := run_append_keeps (P := P) w t o.type base e i z size bytes ht hi hz hsize hby hzs hpos v n xs hown ad c news hl0 hnews hone h63 hbytes hbase
  unfold Oper.wp execOp
  simp only [ho, resolve, invoke, builtin, Sem.run_bind, Sem.run_pure, Result.andThen_ok, List.map_toArray, List.map_cons, List.map_nil, hs, hx, hr]
  exact hK _ _ (h g cap w' h2 h3 h4 h5)
end

/-- All blocks of cells of type e are as they were. -/
def Same (e : TypeId) (w w' : World) : Prop := ∀ (b : Nat) (cs : Array Value) (fr : Nat × Nat), w.heap[b]? = some (.cells cs e fr) → w'.heap[b]? = w.heap[b]?

theorem Same.refl (e : TypeId) (w : World) : Same e w w := fun _ _ _ _ => rfl
theorem Same.trans {e : TypeId} {a b c : World} (h : Same e a b) (k : Same e b c) : Same e a c := fun i cs fr hi => by
  have h1 := h i cs fr hi
  have h2 := k i cs fr (by rw [h1]; exact hi)
  rw [h2, h1]
theorem Same.below {e : TypeId} {w w' : World} (h : Below w.heap.size w w') : Same e w w' := fun b _ _ hb => h.block b (Array.getElem?_eq_some_iff.1 hb).1
theorem Same.alloc (e : TypeId) (w : World) (o : Obj) : Same e w (w.alloc o) := fun _ _ _ hb => heap_alloc_old w o (Array.getElem?_eq_some_iff.1 hb).1
theorem Same.drewN (e : TypeId) (w : World) (n : Nat) : Same e w (w.drewN n) := fun _ _ _ _ => rfl
theorem Same.grown {e e' : TypeId} {w w' : World} {B q : Nat} {v : Value} {n : Nat} {xs : List Value} (ho : w.ownsRow B e' q v n xs) (hg : w.grownBy w' v.ownBlock) (hne : e ≠ e') : Same e w w' := fun b cs fr hb => by
  refine hg.block b (Array.getElem?_eq_some_iff.1 hb).1 ?_
  intro h
  rcases ho.2 with ⟨rfl, _⟩ | ⟨g, cap, cur, rfl, _, hgb, _⟩
  · cases h
  · have : b = g := by simpa [Value.ownBlock] using h
    subst this
    rw [hgb] at hb
    injection hb with q
    injection q with q1 q2
    exact hne q2.symm
theorem Same.set {e e' : TypeId} {w : World} {b i : Nat} {cs : Array Value} {fr : Nat × Nat} (hb : w.heap[b]? = some (.cells cs e' fr)) (hne : e ≠ e') (u : Value) : Same e w (w.setCell ⟨b, i, none⟩ u) := fun k cs' fr' hk => by
  refine Below.heap_setCell _ _ _ _ ?_
  intro h
  have h2 : k = b := h
  subst h2
  rw [hb] at hk
  injection hk with q
  injection q with q1 q2
  exact hne q2.symm

theorem Same.but {e e' : TypeId} {w w' : World} {b : Nat} {cs : Array Value} {fr : Nat × Nat} (hb : w.heap[b]? = some (.cells cs e' fr)) (hne : e ≠ e') (h : But w w' b) : Same e w w' := fun k cs' fr' hk => by
  refine h.block k ?_
  intro h2
  subst h2
  rw [hb] at hk
  injection hk with q
  injection q with q1 q2
  exact hne q2.symm

theorem own_same {e : TypeId} {w w' : World} {B q n : Nat} {v : Value} {xs : List Value} (h : w.ownsRow B e q v n xs) (s : Same e w w') : w'.ownsRow B e q v n xs := by
  refine ⟨h.1, ?_⟩
  rcases h.2 with h2 | ⟨g, cap, cur, hv, hg, hh, r⟩
  · exact Or.inl h2
  · exact Or.inr ⟨g, cap, cur, hv, hg, by rw [s g _ _ hh]; exact hh, r⟩

theorem bkc_same {w w' : World} {bk : Nat} {v0 v1 : Value} {A T D U : Int} (h : Bkc w bk v0 v1 A T D U) (s : Same 50 w w') : Bkc w' bk v0 v1 A T D U := by
  obtain ⟨c, hb, hn, hc⟩ := h
  exact ⟨c, by rw [s bk _ _ hb]; exact hb, hn, hc⟩

theorem bkc_block {w : World} {bk : Nat} {v0 v1 : Value} {A T D U : Int} (h : Bkc w bk v0 v1 A T D U) : ∃ c, w.heap[bk]? = some (.cells c 50 (0, 0)) := by
  obtain ⟨c, hb, hn, hc⟩ := h
  exact ⟨c, hb⟩

theorem held_keeps {w w' : World} {g : Value} {m : Nat} (h : Held w g m) (k : ∀ b, g.ownBlock = some b → KeepsTo w w' b (slen g * 19) 85) : Held w' g m := by
  obtain ⟨a, n, c, rfl, hn, hh⟩ := h
  refine ⟨a, n, c, rfl, hn, fun h0 => ?_⟩
  obtain ⟨b, cs, rfl, hb, hcs⟩ := hh h0
  obtain ⟨cs', hb', hcs'⟩ := k b rfl cs hb
  exact ⟨b, cs', rfl, hb', fun j q hj hq => by rw [hcs' (j * 19 + q) (by show j * 19 + q < n * 19; omega)]; exact hcs j q hj hq⟩
theorem held_same {w w' : World} {g : Value} {m : Nat} (h : Held w g m) (s : Same 85 w w') : Held w' g m :=
  held_keeps h (fun b _ cs hcs => ⟨cs, by rw [s b cs _ hcs]; exact hcs, fun _ _ => rfl⟩)
/-- Two values that share no block. -/
def Apart (a b : Value) : Prop := a.ownBlock = none ∨ a.ownBlock ≠ b.ownBlock

/-- A list that is the book's own, marked. -/
def Fresh (w : World) (B : Nat) (g : Value) (m : Nat) : Prop := ∃ n, n ≤ 1048000 ∧ w.ownsRow B 85 19 g n (kcs (List.replicate n (kyM m)))
theorem kyM_len (m : Nat) : (kyM m).id.length = 16 := rfl
theorem own_held {w : World} {B n m : Nat} {g : Value} (hn : n ≤ 1048576) (h : w.ownsRow B 85 19 g n (kcs (List.replicate n (kyM m)))) : Held w g m := by
  rcases h.2 with ⟨rfl, rfl⟩ | ⟨b, cap, cur, rfl, _, hg, hle, _, hs, ht⟩
  · exact ⟨_, _, _, rfl, hn, fun h => by omega⟩
  · refine ⟨_, _, _, rfl, hn, fun _ => ⟨b, cur, rfl, hg, fun j q hj hq => ?_⟩⟩
    have h1 := kcs_get (List.replicate n (kyM m)) (fun k hk => by rw [List.eq_of_mem_replicate hk]; exact kyM_len m) j (kyM m) (by rw [List.getElem?_replicate, if_pos hj]) q hq
    rw [← h1, ← ht, List.getElem?_take, if_pos (by omega)]
    simp

/-- The book: its cells, its lists, their marks; those from k to N are its own, each alone. -/
structure Bst (w : World) (B bk : Nat) (v0 v1 : Value) (A T D U : Int) (gs : List Value) (ms : List Nat) (k N : Nat) : Prop where
  cells : Bkc w bk v0 v1 A T D U
  row0 : w.ownsRow B 57 1 v0 gs.length gs
  row1 : w.ownsRow B 3 1 v1 gs.length (ci ms)
  held : ∀ (i : Nat) g m, gs[i]? = some g → ms[i]? = some m → Held w g m
  mle : ∀ m ∈ ms, m ≤ 1099511627776
  fresh : ∀ (i : Nat) g m, k ≤ i → i < N → gs[i]? = some g → ms[i]? = some m → Fresh w B g m ∧ ∀ (j : Nat) g', j ≠ i → gs[j]? = some g' → Apart g' g
  low : ∀ (i : Nat) g b, gs[i]? = some g → g.ownBlock = some b → b < w.heap.size

theorem Bst.len {w : World} {B bk : Nat} {v0 v1 : Value} {A T D U : Int} {gs : List Value} {ms : List Nat} {k N : Nat} (h : Bst w B bk v0 v1 A T D U gs ms k N) : ms.length = gs.length := by
  have := h.row1.1
  rw [ci_length] at this
  omega

theorem Bst.same {w w' : World} {B bk : Nat} {v0 v1 : Value} {A T D U : Int} {gs : List Value} {ms : List Nat} {k N : Nat} (h : Bst w B bk v0 v1 A T D U gs ms k N) (s : ∀ e, e = 85 ∨ e = 57 ∨ e = 3 ∨ e = 50 → Same e w w') (hsz : w.heap.size ≤ w'.heap.size) : Bst w' B bk v0 v1 A T D U gs ms k N where
  cells := bkc_same h.cells (s 50 (by simp))
  row0 := own_same h.row0 (s 57 (by simp))
  row1 := own_same h.row1 (s 3 (by simp))
  held := fun i g m hg hm => held_same (h.held i g m hg hm) (s 85 (by simp))
  mle := h.mle
  fresh := fun i g m h1 h2 hg hm => by
    obtain ⟨⟨n, hn, ho⟩, h4⟩ := h.fresh i g m h1 h2 hg hm
    exact ⟨⟨n, hn, own_same ho (s 85 (by simp))⟩, h4⟩
  low := fun i g b hg hb => Nat.lt_of_lt_of_le (h.low i g b hg hb) hsz

/-- The book behind one more byte of mark at the end of a list of its own. -/
theorem Bst.grew {w w' : World} {B bk : Nat} {v0 v1 : Value} {A T D U : Int} {gs : List Value} {ms : List Nat} {k N : Nat} (h : Bst w B bk v0 v1 A T D U gs ms k N) {gv : Value} {lg : Nat} {xs : List Value} (ho : w.ownsRow B 85 19 gv lg xs)
    (hg : w.grownBy w' gv.ownBlock) (hk : ∀ b, gv.ownBlock = some b → KeepsTo w w' b (lg * 19) 85)
    (hsafe : ∀ (j : Nat) g', gs[j]? = some g' → slen g' ≤ lg ∨ g'.ownBlock ≠ gv.ownBlock) (hap : ∀ (i : Nat) r, k ≤ i → i < N → gs[i]? = some r → Apart r gv) : Bst w' B bk v0 v1 A T D U gs ms k N where
  cells := bkc_same h.cells (Same.grown ho hg (by decide))
  row0 := own_same h.row0 (Same.grown ho hg (by decide))
  row1 := own_same h.row1 (Same.grown ho hg (by decide))
  held := fun i g m hgi hm => by
    refine held_keeps (h.held i g m hgi hm) (fun b hb => ?_)
    by_cases hq : some b = gv.ownBlock
    · intro cs hcs
      obtain ⟨cs', hb', hc'⟩ := hk b hq.symm cs hcs
      refine ⟨cs', hb', fun j hj => hc' j ?_⟩
      rcases hsafe i g hgi with h1 | h1
      · omega
      · exact absurd (hb.trans hq) h1
    · intro cs hcs
      exact ⟨cs, by rw [hg.block b (Array.getElem?_eq_some_iff.1 hcs).1 hq]; exact hcs, fun _ _ => rfl⟩
  mle := h.mle
  fresh := fun i g m h1 h2 hgi hm => by
    obtain ⟨⟨n, hn, hown⟩, h4⟩ := h.fresh i g m h1 h2 hgi hm
    exact ⟨⟨n, hn, hown.kept hg (hap i g h1 h2 hgi)⟩, h4⟩
  low := fun i g b hgi hb => Nat.lt_of_lt_of_le (h.low i g b hgi hb) hg.size

theorem Apart.symm {a b : Value} (h : Apart a b) : Apart b a := by
  rcases h with h | h
  · cases hb : b.ownBlock with
    | none => exact Or.inl hb
    | some x => exact Or.inr (by rw [h, hb]; exact fun k => by cases k)
  · exact Or.inr (fun k => h k.symm)

/-- The book behind one list more. -/
theorem Bst.push {w w' : World} {B bk : Nat} {v0 v1 v0' v1' : Value} {A T D U U' T' : Int} {gs : List Value} {ms : List Nat} {k N : Nat} (h : Bst w B bk v0 v1 A T D U gs ms k N) {gv : Value} {m : Nat}
    (hc : Bkc w' bk v0' v1' A T' D U') (h0 : w'.ownsRow B 57 1 v0' (gs.length + 1) (gs ++ [gv])) (h1 : w'.ownsRow B 3 1 v1' (gs.length + 1) (ci ms ++ [.int .i64 m])) (hs : Same 85 w w')
    (hh : Held w' gv m) (hm : m ≤ 1099511627776) (hN : N ≤ gs.length) (hap : ∀ (i : Nat) r, k ≤ i → i < N → gs[i]? = some r → Apart gv r) (hsz : w.heap.size ≤ w'.heap.size) (hgl : ∀ b, gv.ownBlock = some b → b < w'.heap.size) : Bst w' B bk v0' v1' A T' D U' (gs ++ [gv]) (ms ++ [m]) k N where
  cells := hc
  row0 := by rw [List.length_append]; exact h0
  row1 := by rw [List.length_append]; simpa [ci] using h1
  held := fun i g q hg hq => by
    have hl := h.len
    by_cases hi : i < gs.length
    · rw [List.getElem?_append_left hi] at hg
      rw [List.getElem?_append_left (by omega)] at hq
      exact held_same (h.held i g q hg hq) hs
    · rw [List.getElem?_append_right (by omega)] at hg
      rw [List.getElem?_append_right (by omega)] at hq
      have hi2 : i = gs.length := by
        have := (List.getElem?_eq_some_iff.1 hg).1
        simp at this
        omega
      subst hi2
      rw [hl] at hq
      simp at hg hq
      subst hg
      subst hq
      exact hh
  mle := fun q hq => by
    rcases List.mem_append.1 hq with h2 | h2
    · exact h.mle q h2
    · simp at h2; omega
  fresh := fun i g q h2 h3 hg hq => by
    have hl := h.len
    rw [List.getElem?_append_left (by omega)] at hg
    rw [List.getElem?_append_left (by omega)] at hq
    obtain ⟨⟨n, hn, ho⟩, h4⟩ := h.fresh i g q h2 h3 hg hq
    refine ⟨⟨n, hn, own_same ho hs⟩, fun j g' hj hg' => ?_⟩
    by_cases hjl : j < gs.length
    · rw [List.getElem?_append_left hjl] at hg'
      exact h4 j g' hj hg'
    · rw [List.getElem?_append_right (by omega)] at hg'
      have hj2 : j = gs.length := by
        have := (List.getElem?_eq_some_iff.1 hg').1
        simp at this
        omega
      subst hj2
      simp at hg'
      subst hg'
      exact hap i g h2 h3 hg
  low := fun i g b hg hb => by
    by_cases hi : i < gs.length
    · rw [List.getElem?_append_left hi] at hg
      exact Nat.lt_of_lt_of_le (h.low i g b hg hb) hsz
    · rw [List.getElem?_append_right (by omega)] at hg
      have hi2 : i = gs.length := by
        have := (List.getElem?_eq_some_iff.1 hg).1
        simp at this
        omega
      subst hi2
      simp at hg
      subst hg
      exact hgl b hb
end Go.Proofs.YtlgjmhemgfjgnaaGreat.Bk
