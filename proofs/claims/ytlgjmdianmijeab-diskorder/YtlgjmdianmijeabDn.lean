/- Rows of files that a call makes. -/
import Derived.Test.YtlgjmdianmijeabDm
import Derived.Test.YtlgjmdianmijeabDk
namespace Go.Proofs.Ytlgjmdianmijeab
open Go Go.RowKit Go.MapKept Go.MuLone
open Go.RowKit (wrap32 wrap64)

/-- The cells of files, one behind the other. -/
def fcs : List Fl → List Value
  | [] => []
  | f :: E => .string f.nm :: f.v :: fcs E
theorem fcs_len : ∀ E : List Fl, (fcs E).length = E.length * 2
  | [] => rfl
  | f :: E => by simp only [fcs, List.length_cons, fcs_len E]; omega
theorem fcs_app : ∀ (E : List Fl) (f : Fl), fcs (E ++ [f]) = fcs E ++ [.string f.nm, f.v]
  | [], f => rfl
  | g :: E, f => by simp only [List.cons_append, fcs, fcs_app E f]
theorem fcs_get : ∀ (E : List Fl) (i : Nat) (h : i < E.length), (fcs E)[i * 2]? = some (.string (E[i]).nm) ∧ (fcs E)[i * 2 + 1]? = some (E[i]).v
  | [], i, h => by cases h
  | f :: E, 0, h => ⟨rfl, rfl⟩
  | f :: E, i + 1, h => by
    have hi : i < E.length := by simpa using h
    have := fcs_get E i hi
    rw [show (i + 1) * 2 = i * 2 + 1 + 1 by omega, show i * 2 + 1 + 1 + 1 = (i * 2 + 1) + 1 + 1 by omega]
    simp only [fcs, List.getElem?_cons_succ, List.getElem_cons_succ]
    exact this
structure OutF (B : Nat) (w : World) (v : Value) (E : List Fl) : Prop where
  row : w.ownsRow B 32 2 v E.length (fcs E)
  own : ∀ f ∈ E, Out B w f.v f.bs
theorem own_ne {w : World} {B B' e e' q q' n n' : Nat} {v v' : Value} {xs xs' : List Value} (h : w.ownsRow B e q v n xs) (h' : w.ownsRow B' e' q' v' n' xs') (hne : e ≠ e') : ∀ k, v.ownBlock = some k → v'.ownBlock ≠ some k := fun k hk hk' => by
  rcases h.2 with ⟨rfl, _⟩ | ⟨g, cap, cur, rfl, _, hg, _⟩
  · cases hk
  · rcases h'.2 with ⟨rfl, _⟩ | ⟨g', cap', cur', rfl, _, hg', _⟩
    · cases hk'
    · injection hk with hk
      injection hk' with hk'
      have e1 : g = k := hk
      have e2 : g' = k := hk'
      subst e1
      rw [e2, hg] at hg'
      injection hg' with hg'
      injection hg' with _ h2 _
      exact hne h2
theorem OutF.keep {B : Nat} {w w' : World} {v : Value} {E : List Fl} (h : OutF B w v E) (hg : w.grownBy w' none) : OutF B w' v E := ⟨World.ownsRow.kept h.row hg (by cases v.ownBlock <;> simp), fun f hf => (h.own f hf).keep hg⟩
theorem OutF.nil {B : Nat} {w : World} {v : Value} (h : w.ownsRow B 32 2 v 0 []) : OutF B w v [] := ⟨h, fun f hf => by cases hf⟩
theorem OutF.len {B : Nat} {w : World} {v : Value} {E : List Fl} (h : OutF B w v E) : ∃ a c, v = .slice a E.length c := by
  rcases h.row.2 with ⟨h1, h2⟩ | ⟨g, cap, cur, h1, _⟩
  · exact ⟨none, 0, by rw [h1, h2]⟩
  · exact ⟨_, _, h1⟩
theorem Try.info32 : (Try.prog.info? 32).map (fun i => (i.zero, i.size, i.bytes)) = some (some (.agg [Value.string ⟨#[]⟩, .slice none 0 0].toArray), 2, 40) := by kernel_rfl
set_option maxRecDepth 100000 in
/-- append of one file. -/
theorem app_file {w : World} {B g : Nat} {vs : Value} {E : List Fl} {s : ByteArray} {bv : Value} {bs : List UInt8} (h : OutF B w vs E) (hb : Blk w g [.string s, bv] 32) (ho : Out B w bv bs) (hE : E.length ≤ 1000000) (hB : B ≤ w.heap.size) (ty : TypeId) :
    ∃ v' w', (Builtin.append_ #[22, 22] ty #[vs, .slice (some ⟨g, 0, none⟩) 1 1]).run Try.prog w = .ok v' w' ∧ OutF B w' v' (E ++ [⟨s, bv, bs⟩]) ∧ w.grownBy w' vs.ownBlock := by
  obtain ⟨inf, hi, hz0, hz1, hz2⟩ := info_parts Try.info32
  obtain ⟨ba, bc, hbv⟩ := ho.len
  obtain ⟨v', w', h1, h2, h3, _, h4⟩ := run_append_own_at (P := Try.prog) w B 22 ty 32 inf (.agg [Value.string ⟨#[]⟩, .slice none 0 0].toArray) 2 40 Try.underlying22 hi hz0 hz1 hz2 rfl (by decide) vs _ _ h.row ⟨g, 0, none⟩ 1 1 [.string s, bv] rfl (by
    intro j u hu
    rw [Addr.add_lit, Nat.zero_add]
    rcases (show j = 0 ∨ j = 1 ∨ 2 ≤ j by omega) with rfl | rfl | h2
    · injection hu with hu; subst hu; exact hb.cell 0
    · injection hu with hu; subst hu; exact hb.cell 1
    · have : ([Value.string s, bv] : List Value)[j]? = none := by simp; omega
      rw [this] at hu; cases hu) (by rw [hbv]; exact file_one s ba bs.length bc) (by unfold maxLen; omega) (by omega) hB
  refine ⟨v', w', h1, ⟨by rw [fcs_app, List.length_append]; exact h2, fun f hf => ?_⟩, h3⟩
  have hx : ∀ f : Fl, Out B w f.v f.bs → Out B w' f.v f.bs := fun f hf => hf.on h3 (fun k hk => own_ne h.row hf (by decide) k hk)
  rcases List.mem_append.1 hf with hf | hf
  · exact hx f (h.own f hf)
  · rw [List.mem_singleton.1 hf]
    exact hx ⟨s, bv, bs⟩ ho
theorem OutF.ar {B : Nat} {w : World} {v : Value} {E : List Fl} (h : OutF B w v E) : ∃ a g c, v = .slice a (cont E).length c ∧ ArF w (fun k => B ≤ k ∧ k < w.heap.size) a g 0 (cont E) := by
  rcases h.row.2 with ⟨h1, h2⟩ | ⟨g, cap, cur, h1, hB, hg, hle, hm, hs, ht⟩
  · have : E = [] := List.eq_nil_of_length_eq_zero h2
    subst this
    exact ⟨none, 0, 0, h1, (fun h => absurd h (by decide)), (fun i hi => absurd hi (by simp [cont]))⟩
  · have hlt := (Array.getElem?_eq_some_iff.1 hg).1
    refine ⟨_, g, cap, by rw [len_cont]; exact h1, ⟨fun _ => ⟨rfl, hlt, hB, hlt⟩, fun i hi => ?_⟩⟩
    have hi' : i < E.length := by rw [len_cont] at hi; exact hi
    have hget : (cont E)[i] = ((E[i]).nm, (E[i]).bs) := by simp [cont]
    obtain ⟨c1, c2⟩ := fcs_get E i hi'
    have hcell : ∀ j x, (fcs E)[j]? = some x → w.cell? ⟨g, j, none⟩ = some x := fun j x hx => by
      rw [← ht] at hx
      have hj : j < E.length * 2 := by
        have := (List.getElem?_eq_some_iff.1 hx).1
        rw [List.length_take] at this
        omega
      rw [List.getElem?_take, if_pos hj] at hx
      have hx' : cur[j]? = some x := by rw [← Array.getElem?_toList]; exact hx
      simp [World.cell?, hg, hx']
    rw [hget]
    refine ⟨by rw [Nat.zero_add]; exact hcell _ _ c1, (E[i]).v, by rw [Nat.zero_add]; exact hcell _ _ c2, ?_⟩
    have ho := h.own E[i] (List.getElem_mem _)
    obtain ⟨a, b, off, c, hv, hc, hn, ha, hcl⟩ := ho.rd
    refine ⟨a, b, off, c, hv, hc, hn, fun hl => ?_, hcl⟩
    obtain ⟨q1, q2, q3⟩ := ha hl
    refine ⟨q1, q2, ?_, q2⟩
    exact ho.block b (by rw [hv, q1]; rfl)
/-- Files in the order of their names. -/
def srtC (C : Cn) : Cn := (srtL (C.map (fun p => p.1.data.toList))).map (fun n => (⟨n.toArray⟩, (getC C ⟨n.toArray⟩).getD []))
theorem srtC_len (C : Cn) : (srtC C).length = C.length := by
  unfold srtC srtL
  rw [List.length_map, List.length_mergeSort, List.length_map]
theorem nmL_cont (F : List Fl) : nmL F = (cont F).map (fun p => p.1.data.toList) := by
  unfold nmL cont
  rw [List.map_map]
  rfl
end Go.Proofs.Ytlgjmdianmijeab
