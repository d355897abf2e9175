/- Rows of slices of the argument; a log whose end may be torn. -/
import Derived.Test.YtpbiofnncdneoaaDoorLoA
namespace Go.Proofs.YtpbiofnncdneoaaDoor
open Go Go.RowKit Go.MapKept Go.MuLone
open Go.RowKit (wrap32 wrap64)

/-- The first n cells of block k are what they were. -/
def KeepsTo (w w' : World) (k n : Nat) (e : TypeId) : Prop :=
  ∀ cs : Array Value, w.heap[k]? = some (.cells cs e (0, 0)) → ∃ cs' : Array Value, w'.heap[k]? = some (.cells cs' e (0, 0)) ∧ ∀ j, j < n → cs'[j]? = cs[j]?

theorem KeepsTo.same {w w' : World} {k n : Nat} {e : TypeId} (h : w'.heap[k]? = w.heap[k]?) : KeepsTo w w' k n e := fun cs hcs => ⟨cs, by rw [h]; exact hcs, fun _ _ => rfl⟩

section
variable {P : Program} (w : World)


theorem run_append_keeps (t ty : TypeId) (base : Nat) (e : TypeId) (i : TypeInfo) (z : Value) (size bytes : Nat) (ht : P.underlying t = some (.slice e)) (hi : P.info? e = some i) (hz : i.zero = some z)
    (hsize : i.size = size) (hby : i.bytes = bytes) (hzs : z.cells.size = size) (hpos : 0 < size)
    (v : Value) (n : Nat) (xs : List Value) (hown : w.ownsRow base e size v n xs)
    (ad : Addr) (c : Nat) (news : List Value) (hl0 : news.length = size) (hnews : ∀ j u, news[j]? = some u → w.cell? (ad.add j) = some u) (hone : ∀ q ∈ news, q.oneCell' = true)
    (h63 : n + 1 ≤ maxLen) (hbytes : (n + 1) * bytes ≤ 140737488355328) (hbase : base ≤ w.heap.size) :
    ∃ g cap w', (Builtin.append_ #[t, t] ty #[v, .slice (some ad) 1 c]).run P w = .ok (.slice (some ⟨g, 0, none⟩) (n + 1) cap) w' ∧ w'.ownsRow base e size (.slice (some ⟨g, 0, none⟩) (n + 1) cap) (n + 1) (xs ++ news) ∧ w.grownBy w' v.ownBlock ∧
      (v.ownBlock = some g ∨ g = w.heap.size) ∧ ∀ k, v.ownBlock = some k → KeepsTo w w' k (n * size) e := by
  have hl : news.length = 1 * i.size := by rw [hsize, hl0, Nat.one_mul]
  obtain ⟨g, cap, w', hr, h2, h3, h4, h5⟩ := run_append_lies (P := P) w t ty base e i z size bytes ht hi hz hsize hby hzs hpos v n xs hown ad 1 c news (by rw [hl0, Nat.one_mul]) hnews hone (by decide) h63 hbytes hbase w.heap.size rfl
  refine ⟨g, cap, w', hr, h2, h3, h4, ?_⟩
  intro k hk
  rcases hown.2 with ⟨hv, _⟩ | ⟨g0, cap0, cur, hv, hb, hg, hle, hm, hs, ht'⟩
  · rw [hv] at hk
    cases hk
  · have hkg : k = g0 := by rw [hv] at hk; simp [Value.ownBlock] at hk; exact hk.symm
    subst hkg
    by_cases hroom : n + 1 ≤ cap0
    · have hmul : n * size + size ≤ cap0 * size := by
        have := Nat.mul_le_mul_right size hroom
        rw [Nat.add_mul, Nat.one_mul] at this
        exact this
      have hr' := run_append_room (P := P) w t ty e i ht hi k n cap0 cur hg ad 1 c news hl hnews hone hroom (by rw [hsize, hl0]; omega)
      rw [← hv, hr] at hr'
      have hw' : w' = w.setRow k (cur.toList.take (n * i.size) ++ news ++ cur.toList.drop (n * i.size + news.length)).toArray := by injection hr'
      intro cs hcs
      rw [hg] at hcs
      have hcc : cur = cs := by injection hcs with q; injection q
      subst hcc
      refine ⟨_, by rw [hw']; exact setRow_heap w k cur _ e _ hg, fun j hj => ?_⟩
      rw [hsize]
      simp only [List.getElem?_toArray]
      rw [List.append_assoc, List.getElem?_append_left (by rw [List.length_take, Array.length_toList]; omega)]
      rw [List.getElem?_take, if_pos hj]
      simp
    · have holds : ∀ j u, xs[j]? = some u → w.cell? ((⟨k, 0, none⟩ : Addr).add j) = some u := hown.cells (g := k) (by rw [hv]; rfl)
      have hr' := run_append_grow (P := P) w t ty e i z ht hi hz ⟨k, 0, none⟩ n cap0 xs (by rw [hsize]; exact hown.1) holds ad 1 c news hl hnews (by omega) (by simp only [maxLen] at h63; omega) (by rw [hby]; exact growslice_fits (by omega) hbytes)
      rw [← hv, hr] at hr'
      have hw' : w' = w.drew.alloc (.cells (xs.toArray ++ news.toArray ++ Builtin.zeroCells z.cells (grownCap w (n + 1) cap0 e - (n + 1))) e) := by injection hr'
      refine KeepsTo.same ?_
      rw [hw']
      exact heap_alloc_old w.drew _ (Array.getElem?_eq_some_iff.1 hg).1

end
set_option maxRecDepth 100000 in
/-- append of one slice, of whatever content. -/
theorem app_core {w : World} {B g n : Nat} {vs v : Value} {xs : List Value} (hrow : w.ownsRow B 36 1 vs n xs) (hb : Blk w g [v] 36) (hv : v.oneCell' = true) (hn : n ≤ 1000000) (hB : B ≤ w.heap.size) (ty : TypeId) :
    ∃ v' w', (Builtin.append_ #[22, 22] ty #[vs, .slice (some ⟨g, 0, none⟩) 1 1]).run Tryd.prog w = .ok v' w' ∧ w'.ownsRow B 36 1 v' (n + 1) (xs ++ [v]) ∧ w.grownBy w' vs.ownBlock ∧ (v'.ownBlock = vs.ownBlock ∨ v'.ownBlock = some w.heap.size) ∧ ∀ k, vs.ownBlock = some k → KeepsTo w w' k n 36 := by
  obtain ⟨inf, hi, hz0, hz1, hz2⟩ := info_parts Tryd.info36
  obtain ⟨g', cap, w', h1, h2, h3, h4, h5⟩ := run_append_keeps (P := Tryd.prog) w 22 ty B 36 inf (.slice none 0 0) 1 24 Tryd.underlying22 hi hz0 hz1 hz2 rfl (by decide) vs _ _ hrow ⟨g, 0, none⟩ 1 [v] rfl (by
    intro j u hu
    rw [Addr.add_lit, Nat.zero_add]
    rcases (show j = 0 ∨ 1 ≤ j by omega) with rfl | h2
    · injection hu with hu; subst hu; exact hb.cell 0
    · have : ([v] : List Value)[j]? = none := by simp; omega
      rw [this] at hu; cases hu) (by intro x hx; rw [List.mem_singleton.1 hx]; exact hv) (by unfold maxLen; omega) (by omega) hB
  refine ⟨_, w', h1, h2, h3, ?_, fun k hk => by have := h5 k hk; rw [Nat.mul_one] at this; exact this⟩
  rcases h4 with q | q
  · exact .inl (by rw [q]; rfl)
  · exact .inr (by rw [← q]; rfl)
theorem wpList_want {P : Program} {ops : Array Oper} {rest : List Oper} {o : Oper} {a : Act} {w : World} {Q : Exit → Act → World → Prop} (hw : Region.wanted o (yielded ops a.tmps) = true) (h : ∀ K : Act → World → Prop, (∀ a w, wpList P ops Q rest a w → K a w) → o.wp P a w K Q) : wpList P ops Q (o :: rest) a w :=
  wpList_step fun K hK => by rw [if_pos hw]; exact h K hK
/-- A row of the call's own, of slices that lie below C. -/
structure OutW (C : Nat) (w : World) (v : Value) (ls : List (List UInt8)) : Prop where
  ex : ∃ vs, w.ownsRow C 36 1 v ls.length vs ∧ Each (fun v l => Rd w (fun k => k < C) v l) vs ls
variable {C : Nat} {w w' : World} {v : Value} {ls : List (List UInt8)}
theorem OutW.nil (C : Nat) (w : World) : OutW C w (.slice none 0 0) [] := ⟨[], ⟨rfl, .inl ⟨rfl, rfl⟩⟩, .nil⟩
theorem OutW.low (h : OutW C w v ls) : ∀ k, v.ownBlock = some k → C ≤ k := by
  obtain ⟨vs, h1, -⟩ := h.ex
  exact own_low h1
theorem OutW.len (h : OutW C w v ls) : ∃ a c, v = .slice a ls.length c := by
  obtain ⟨vs, h1, -⟩ := h.ex
  rcases h1.2 with ⟨e1, e2⟩ | ⟨g, cap, cur, e1, _⟩
  · exact ⟨none, 0, by rw [e1, e2]⟩
  · exact ⟨_, _, e1⟩
theorem OutW.lt (h : OutW C w v ls) : ∀ k, v.ownBlock = some k → k < w.heap.size := fun k hk => by
  obtain ⟨vs, h1, -⟩ := h.ex
  rcases h1.2 with ⟨e1, e2⟩ | ⟨g, cap, cur, e1, hB, hg, _⟩
  · rw [e1] at hk; cases hk
  · rw [e1] at hk
    injection hk with hk
    have e : g = k := hk
    subst e
    exact (Array.getElem?_eq_some_iff.1 hg).1
theorem OutW.keep (h : OutW C w v ls) (hg : w.grownBy w' none) : OutW C w' v ls := by
  obtain ⟨vs, h1, h2⟩ := h.ex
  exact ⟨vs, World.ownsRow.kept h1 hg (by cases v.ownBlock <;> simp), h2.mono (fun v l h => h.keep hg)⟩
theorem OutW.df {Q : Nat → Prop} (h : OutW C w v ls) (hd : DF w w' Q) (h1 : ∀ k, v.ownBlock = some k → ¬ Q k) (h2 : ∀ k, k < C → ¬ Q k) : OutW C w' v ls := by
  obtain ⟨vs, q1, q2⟩ := h.ex
  exact ⟨vs, own_df q1 hd h1, q2.mono (fun v l h => h.df hd h2)⟩
theorem OutW.row (h : OutW C w v ls) : ∃ a g c, v = .slice a ls.length c ∧ RowS w (fun _ => True) a g 0 ls := by
  obtain ⟨vs, h1, h2⟩ := h.ex
  have : OutS C C w v ls := ⟨vs, h1, h2.mono (fun v l h => .inl h)⟩
  obtain ⟨a, g, c, e, hr⟩ := this.row
  exact ⟨a, g, c, e, hr.mono (fun _ _ => trivial)⟩
theorem Rd.one {F : Nat → Prop} {l : List UInt8} (h : Rd w F v l) : v.oneCell' = true := by
  obtain ⟨a, _, _, c, e, _⟩ := h
  rw [e]
  rfl
theorem rd_low {l : List UInt8} {row : Option Nat} (h : Rd w (fun k => k < C) v l) (hg : w.grownBy w' row) (hr : ∀ k, row = some k → C ≤ k) : Rd w' (fun k => k < C) v l := by
  obtain ⟨a, b, off, c, e, hc, hn, ha, hcell⟩ := h
  refine ⟨a, b, off, c, e, hc, hn, fun h0 => ⟨(ha h0).1, Nat.lt_of_lt_of_le (ha h0).2.1 hg.size, (ha h0).2.2⟩, fun i hi => ?_⟩
  have := ha (by omega)
  rw [← hcell i hi]
  exact cell_at hg this.2.1 (fun e => by have := hr _ e; omega)
theorem wpList_append_want {ops : Array Oper} {rest : List Oper} {o : Oper} {a : Act} {Q : Exit → Act → World → Prop} (hgd : o.guard = none) (s x : Operand) (ho : o.op = .call { callee := .builtin .append, args := #[s, x], argTypes := #[22, 22] })
    (C g : Nat) (ls : List (List UInt8)) (v : Value) (l : List UInt8) (hown : OutW C w (a.eval s) ls) (hx : a.eval x = .slice (some ⟨g, 0, none⟩) 1 1) (hb : Blk w g [v] 36) (hr : Rd w (fun k => k < C) v l) (hE : ls.length ≤ 1000000) (hB : C ≤ w.heap.size)
    (h : ∀ v' w', OutW C w' v' (ls ++ [l]) → w.grownBy w' (a.eval s).ownBlock → (v'.ownBlock = (a.eval s).ownBlock ∨ v'.ownBlock = some w.heap.size) → wpList Tryd.prog ops Q rest (a.put o.dst v') w') : wpList Tryd.prog ops Q (o :: rest) a w :=
  wpList_plain hgd fun _ hK => by
    have hlow := hown.low
    obtain ⟨xs, h1, h2⟩ := hown.ex
    obtain ⟨v', w', q1, q2, q3, q4, q5⟩ := app_core h1 hb hr.one hE hB o.type
    have hx' : ∀ v l, Rd w (fun k => k < C) v l → Rd w' (fun k => k < C) v l := fun v l h => rd_low h q3 hlow
    have hK' := hK _ _ (h v' w' ⟨xs ++ [v], by rw [List.length_append]; exact q2, (h2.mono hx').app (hx' _ _ hr)⟩ q3 q4)
    unfold Oper.wp
    simp [execOp, ho, resolve, invoke, builtin, hx, q1, Result.andThen]
    exact hK'
/-- The same, of a slice that lies elsewhere: what comes can be read. -/
theorem wpList_append_last {ops : Array Oper} {rest : List Oper} {o : Oper} {a : Act} {Q : Exit → Act → World → Prop} (hw : Region.wanted o (yielded ops a.tmps) = true) (s x : Operand) (ho : o.op = .call { callee := .builtin .append, args := #[s, x], argTypes := #[22, 22] })
    (C g : Nat) (ls : List (List UInt8)) (v : Value) (l : List UInt8) (F : Nat → Prop) (hown : OutW C w (a.eval s) ls) (hx : a.eval x = .slice (some ⟨g, 0, none⟩) 1 1) (hb : Blk w g [v] 36) (hr : Rd w F v l) (hF : ∀ k, F k → (a.eval s).ownBlock ≠ some k) (hE : ls.length ≤ 1000000) (hB : C ≤ w.heap.size)
    (h : ∀ v' w', (∃ p q c, v' = .slice p (ls.length + 1) c ∧ RowS w' (fun _ => True) p q 0 (ls ++ [l])) → (∃ p q c, a.eval s = .slice p ls.length c ∧ RowS w' (fun _ => True) p q 0 ls) → w.grownBy w' (a.eval s).ownBlock → wpList Tryd.prog ops Q rest (a.put o.dst v') w') : wpList Tryd.prog ops Q (o :: rest) a w :=
  wpList_want hw fun _ hK => by
    have hlow := hown.low
    obtain ⟨xs, h1, h2⟩ := hown.ex
    obtain ⟨v', w', q1, q2, q3, q4, q5⟩ := app_core h1 hb hr.one hE hB o.type
    have hx' : ∀ v l, Rd w (fun k => k < C) v l → Rb 0 C w' v l := fun v l h => .inl (rd_low h q3 hlow)
    have hlast : Rd w' (fun _ => True) v l := by
      obtain ⟨a', b', off, c, e, hc, hn, ha, hcell⟩ := hr
      refine ⟨a', b', off, c, e, hc, hn, fun h0 => ⟨(ha h0).1, Nat.lt_of_lt_of_le (ha h0).2.1 q3.size, trivial⟩, fun i hi => ?_⟩
      have := ha (by omega)
      rw [← hcell i hi]
      exact cell_at q3 this.2.1 (fun e => hF _ this.2.2 e)
    have hrow : ∃ p q c, v' = .slice p (ls.length + 1) c ∧ RowS w' (fun _ => True) p q 0 (ls ++ [l]) := by
      have hE2 : Each (fun v l => Rd w' (fun _ => True) v l) (xs ++ [v]) (ls ++ [l]) := (h2.mono (fun v l h => (rd_low h q3 hlow).wide (fun _ _ => trivial))).app hlast
      rcases q2.2 with ⟨e1, e2⟩ | ⟨g', cap, cur, e1, hB', hg', hle, hm, hs, ht⟩
      · omega
      · refine ⟨_, g', cap, e1, fun _ => ⟨rfl, (Array.getElem?_eq_some_iff.1 hg').1, trivial⟩, fun i hi => ?_⟩
        obtain ⟨x, h3, h4⟩ := hE2.get i hi
        refine ⟨x, ?_, h4⟩
        have h5 := h3
        rw [← ht] at h5
        have hj : i < (ls.length + 1) * 1 := by rw [List.length_append] at hi; simpa using hi
        rw [List.getElem?_take, if_pos hj] at h5
        have h6 : cur[i]? = some x := by rw [← Array.getElem?_toList]; exact h5
        simp [World.cell?, hg', h6]
    have hold : ∃ p q c, a.eval s = .slice p ls.length c ∧ RowS w' (fun _ => True) p q 0 ls := by
      have hE1 : Each (fun v l => Rd w' (fun _ => True) v l) xs ls := h2.mono (fun v l h => (rd_low h q3 hlow).wide (fun _ _ => trivial))
      rcases h1.2 with ⟨e1, e2⟩ | ⟨g', cap, cur, e1, hB', hg', hle, hm, hs, ht⟩
      · have : ls = [] := List.eq_nil_of_length_eq_zero e2
        subst this
        exact ⟨none, 0, 0, e1, (fun h => absurd h (by decide)), (fun i hi => absurd hi (by simp))⟩
      · obtain ⟨cs', k1, k2⟩ := q5 g' (by rw [e1]; rfl) cur hg'
        refine ⟨_, g', cap, e1, fun _ => ⟨rfl, (Array.getElem?_eq_some_iff.1 k1).1, trivial⟩, fun i hi => ?_⟩
        obtain ⟨x, h3, h4⟩ := hE1.get i hi
        refine ⟨x, ?_, h4⟩
        have h5 := h3
        rw [← ht] at h5
        have hj : i < ls.length * 1 := by omega
        rw [List.getElem?_take, if_pos hj] at h5
        have h6 : cs'[i]? = some x := by rw [k2 i hi, ← Array.getElem?_toList]; exact h5
        rw [Nat.zero_add, cell_of_row _ _ i _ 36 (0, 0) k1]
        exact h6
    have hK' := hK _ _ (h v' w' hrow hold q3)
    unfold Oper.wp
    simp [execOp, ho, resolve, invoke, builtin, hx, q1, Result.andThen]
    exact hK'
end Go.Proofs.YtpbiofnncdneoaaDoor
