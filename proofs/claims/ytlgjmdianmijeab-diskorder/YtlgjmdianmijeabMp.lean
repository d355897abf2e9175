/- Files in a map: what is looked up, laid and taken away. -/
import Derived.Test.YtlgjmdianmijeabGrowX
import Derived.Laws.IdiomRangeMap
namespace Go.Proofs.Ytlgjmdianmijeab
open Go Go.RowKit Go.MapKept
open Go.RowKit (wrap32 wrap64)

/-- A file as the map has it: its name, the slice, the bytes. -/
structure Fl where
  nm : ByteArray
  v : Value
  bs : List UInt8
def entF (f : Fl) : Value × Value := (.string f.nm, f.v)
def kv (e : MapEntry) : Value × Value := (e.key, e.val)
/-- Block m is a map of these files. -/
def MapAt (w : World) (m : Nat) (F : List Fl) : Prop := ∃ es clock, w.heap[m]? = some (.map es clock) ∧ Stamped es clock ∧ es.toList.map kv = F.map entF
/-- Where a file stands. -/
def fpos : List Fl → ByteArray → Nat → Option (Nat × Fl)
  | [], _, _ => none
  | f :: F, k, i => if f.nm = k then some (i, f) else fpos F k (i + 1)
def getF (F : List Fl) (k : ByteArray) : Option Fl := (fpos F k 0).map (·.2)
def setF : List Fl → ByteArray → Value → List UInt8 → List Fl
  | [], k, v, b => [⟨k, v, b⟩]
  | f :: F, k, v, b => if f.nm = k then ⟨k, v, b⟩ :: F else f :: setF F k v b
def delF : List Fl → ByteArray → List Fl
  | [], _ => []
  | f :: F, k => if f.nm = k then F else f :: delF F k
theorem fpos_none : ∀ (F : List Fl) (k : ByteArray) (i : Nat), fpos F k i = none → (∀ f ∈ F, f.nm ≠ k) ∧ delF F k = F ∧ ∀ v b, setF F k v b = F ++ [⟨k, v, b⟩]
  | [], k, i, _ => ⟨(fun f hf => by cases hf), rfl, fun v b => rfl⟩
  | f :: F, k, i, h => by
    unfold fpos at h
    by_cases e : f.nm = k
    · rw [if_pos e] at h; cases h
    · rw [if_neg e] at h
      obtain ⟨h1, h2, h3⟩ := fpos_none F k (i + 1) h
      refine ⟨fun g hg => ?_, ?_, fun v b => ?_⟩
      · rcases List.mem_cons.1 hg with rfl | hg
        · exact e
        · exact h1 g hg
      · unfold delF; rw [if_neg e, h2]
      · unfold setF; rw [if_neg e, h3]; rfl
theorem fpos_some : ∀ (F : List Fl) (k : ByteArray) (i j : Nat) (f : Fl), fpos F k i = some (j, f) → ∃ n, j = i + n ∧ F[n]? = some f ∧ f.nm = k ∧ delF F k = F.eraseIdx n ∧ ∀ v b, setF F k v b = F.set n ⟨k, v, b⟩
  | [], k, i, j, f, h => by cases h
  | g :: F, k, i, j, f, h => by
    unfold fpos at h
    by_cases e : g.nm = k
    · rw [if_pos e] at h
      injection h with h
      injection h with h1 h2
      subst h1 h2
      exact ⟨0, rfl, rfl, e, by unfold delF; rw [if_pos e]; rfl, fun v b => by unfold setF; rw [if_pos e]; rfl⟩
    · rw [if_neg e] at h
      obtain ⟨n, h1, h2, h3, h4, h5⟩ := fpos_some F k (i + 1) j f h
      exact ⟨n + 1, by omega, h2, h3, by unfold delF; rw [if_neg e, h4]; rfl, fun v b => by unfold setF; rw [if_neg e, h5]; rfl⟩
theorem beq_ba (a b : ByteArray) : (a == b) = decide (a = b) := by
  by_cases h : a = b
  · rw [(bytes_beq a b).2 h, decide_eq_true h]
  · rw [decide_eq_false h]
    cases hc : a == b with
    | false => rfl
    | true => exact absurd ((bytes_beq a b).1 hc) h
theorem findNow_F (k : ByteArray) : ∀ (l : List MapEntry) (F : List Fl) (i : Nat), l.map kv = F.map entF → Instr.findNow .string (.string k) l i = some ((fpos F k i).map (fun p => (p.1, p.2.v)))
  | [], [], i, _ => rfl
  | [], _ :: _, i, h => by cases h
  | _ :: _, [], i, h => by cases h
  | e :: l, f :: F, i, h => by
    simp only [List.map_cons, List.cons.injEq] at h
    obtain ⟨h1, h2⟩ := h
    have hk : e.key = .string f.nm := congrArg Prod.fst h1
    have hv : e.val = f.v := congrArg Prod.snd h1
    unfold Instr.findNow fpos
    rw [hk]
    simp only [Instr.sameNow, beq_ba]
    by_cases c : f.nm = k
    · have c' : k = f.nm := c.symm
      rw [decide_eq_true c', if_pos c]
      simp [hv]
    · have c' : ¬ k = f.nm := fun e => c e.symm
      rw [decide_eq_false c', if_neg c]
      exact findNow_F k l F (i + 1) h2
variable {w : World} {m : Nat} {F : List Fl}
theorem kstr (k : ByteArray) : IsKey .string (.string k) := trivial
theorem run_find {es : Array MapEntry} (k : ByteArray) (h : es.toList.map kv = F.map entF) (u : World) : (Instr.findKey 9 (.string k) es.toList).run Try.prog u = .ok ((fpos F k 0).map (fun p => (p.1, p.2.v))) u :=
  run_findKey Try.underlying9 (findNow_F k es.toList F 0 h)
/-- What a look-up tells: the slice, whether it is there. -/
def lookV (F : List Fl) (k : ByteArray) : Value := match getF F k with | some f => f.v | none => .slice none 0 0
def hasF (F : List Fl) (k : ByteArray) : Bool := (getF F k).isSome
theorem run_look2 (h : MapAt w m F) (k : ByteArray) : (Instr.lookup 62 (.map (some m)) (.string k) true).run Try.prog w = .ok (.tuple #[lookV F k, .bool (hasF F k)]) w := by
  obtain ⟨es, clock, hb, _, hF⟩ := h
  have hfk := run_find k hF w
  unfold lookV hasF getF
  simp only [Instr.lookup, Sem.run_bind, run_underlying Try.underlying62, Result.andThen, MapKept.run_getObj_map hb, run_checkKey Try.underlying9 (kstr k)]
  cases hp : fpos F k 0 with
  | none =>
    rw [hp] at hfk
    simp [hfk, Try.zeroValue26]
  | some p =>
    rw [hp] at hfk
    simp [hfk]
theorem run_look1 (h : MapAt w m F) (k : ByteArray) : (Instr.lookup 62 (.map (some m)) (.string k) false).run Try.prog w = .ok (lookV F k) w := by
  obtain ⟨es, clock, hb, _, hF⟩ := h
  have hfk := run_find k hF w
  unfold lookV getF
  simp only [Instr.lookup, Sem.run_bind, run_underlying Try.underlying62, Result.andThen, MapKept.run_getObj_map hb, run_checkKey Try.underlying9 (kstr k)]
  cases hp : fpos F k 0 with
  | none =>
    rw [hp] at hfk
    simp [hfk, Try.zeroValue26]
  | some p =>
    rw [hp] at hfk
    simp [hfk]
/-- One object laid in the place of another. -/
def World.put (w : World) (m : Nat) (o : Obj) : World := { w with heap := w.heap.setIfInBounds m o }
theorem put_grown (w : World) (m : Nat) (o : Obj) : w.grownBy (World.put w m o) (some m) := ⟨rfl, rfl, rfl, by simp [World.put], fun k hk hne => by
  have : m ≠ k := fun e => hne (by rw [e])
  simp [World.put, this]⟩
theorem put_at {o o' : Obj} (h : w.heap[m]? = some o) : (World.put w m o').heap[m]? = some o' := by
  have := (Array.getElem?_eq_some_iff.1 h).1
  simp [World.put, this]
theorem map_erase {α β : Type} (f : α → β) : ∀ (l : List α) (n : Nat), (l.eraseIdx n).map f = (l.map f).eraseIdx n
  | [], n => by simp
  | a :: l, 0 => rfl
  | a :: l, n + 1 => by simp [map_erase f l n]
theorem map_modify {l : List MapEntry} {n : Nat} {k v : Value} : (l.modify n (fun e => { e with key := k, val := v })).map kv = (l.map kv).set n (k, v) := by
  induction l generalizing n with
  | nil => simp
  | cons e l ih =>
    cases n with
    | zero => simp [kv]
    | succ n => simp [ih]
set_option maxRecDepth 100000 in
theorem run_update (h : MapAt w m F) (k : ByteArray) (v : Value) (bs : List UInt8) : ∃ o, (Instr.mapUpdate 62 (.map (some m)) (.string k) v).run Try.prog w = .ok () (World.put w m o) ∧ MapAt (World.put w m o) m (setF F k v bs) := by
  obtain ⟨es, clock, hb, hst, hF⟩ := h
  have hfk := run_find k hF w
  cases hp : fpos F k 0 with
  | none =>
    rw [hp] at hfk
    obtain ⟨h1, h2, h3⟩ := fpos_none F k 0 hp
    refine ⟨.map (es.push { key := .string k, val := v, born := clock }) (clock + 1), ?_, es.push { key := .string k, val := v, born := clock }, clock + 1, put_at hb, stamped_push hst (fun x hx e => ?_), ?_⟩
    · simp only [Instr.mapUpdate, Sem.run_bind, run_underlying Try.underlying62, Result.andThen, MapKept.run_getObj_map hb, run_checkKey Try.underlying9 (kstr k), hfk, Option.map_none]
      rw [run_setObj_map _ hb]
      rfl
    · have hm : kv x ∈ F.map entF := by rw [← hF]; exact List.mem_map.2 ⟨x, hx, rfl⟩
      obtain ⟨f, hf, he⟩ := List.mem_map.1 hm
      have : Value.string f.nm = x.key := congrArg Prod.fst he
      rw [e] at this
      injection this with this
      exact h1 f hf this
    · rw [h3, Array.toList_push, List.map_append, hF, List.map_append]
      rfl
  | some p =>
    rw [hp] at hfk
    obtain ⟨j, f⟩ := p
    obtain ⟨n, h1, h2, h3, h4, h5⟩ := fpos_some F k 0 j f hp
    have hj : j = n := by omega
    subst hj
    have hen : (es.toList.map kv)[j]? = some (entF f) := by rw [hF, List.getElem?_map, h2]; rfl
    rw [List.getElem?_map] at hen
    obtain ⟨e, he, hek⟩ := Option.map_eq_some_iff.1 hen
    have hk : e.key = .string k := by have := congrArg Prod.fst hek; rw [show (entF f).1 = .string f.nm from rfl, h3] at this; exact this
    have he' : es[j]? = some e := by rw [← Array.getElem?_toList]; exact he
    refine ⟨.map (es.modify j fun e => { e with key := .string k, val := v }) clock, ?_, es.modify j fun e => { e with key := .string k, val := v }, clock, put_at hb, stamped_modify hst j _ (fun _ _ => rfl) (fun x _ hx => ?_), ?_⟩
    · simp only [Instr.mapUpdate, Sem.run_bind, run_underlying Try.underlying62, Result.andThen, MapKept.run_getObj_map hb, run_checkKey Try.underlying9 (kstr k), hfk, Option.map_some, he', hk, Option.getD_some]
      have hs : (Instr.keyThatStays (.string k) (.string k)).run Try.prog w = .ok (.string k) w := by
        unfold Instr.keyThatStays
        have : Instr.sameBits 10000 (.string k) (.string k) = true := by
          unfold Instr.sameBits
          exact (bytes_beq k k).2 rfl
        rw [if_pos this]
        rfl
      rw [hs]
      simp only []
      rw [run_setObj_map _ hb]
      rfl
    · have hx' : x = e := Option.some.inj (hx.symm.trans he')
      show Value.string k = x.key
      rw [hx']
      exact hk.symm
    · rw [h5, Array.toList_modify, map_modify, hF, List.map_set]
      rfl
theorem run_delete (h : MapAt w m F) (k : ByteArray) (ty : TypeId) : ∃ o, (Builtin.delete_ #[62, 9] ty #[.map (some m), .string k]).run Try.prog w = .ok (.tuple #[]) (World.put w m o) ∧ MapAt (World.put w m o) m (delF F k) := by
  obtain ⟨es, clock, hb, hst, hF⟩ := h
  have hfk := run_find k hF w
  cases hp : fpos F k 0 with
  | none =>
    rw [hp] at hfk
    obtain ⟨h1, h2, h3⟩ := fpos_none F k 0 hp
    refine ⟨.map es clock, ?_, es, clock, put_at hb, hst, by rw [h2]; exact hF⟩
    simp only [Builtin.delete_, List.getElem?_toArray, List.getElem?_cons_zero, List.getElem?_cons_succ, Sem.run_bind, run_underlying Try.underlying62, Result.andThen, MapKept.run_getObj_map hb, run_checkKey Try.underlying9 (kstr k), hfk, Option.map_none]
    rw [run_setObj_map _ hb]
    rfl
  | some p =>
    rw [hp] at hfk
    obtain ⟨j, f⟩ := p
    obtain ⟨n, h1, h2, h3, h4, h5⟩ := fpos_some F k 0 j f hp
    have hj : j = n := by omega
    subst hj
    refine ⟨.map (es.eraseIdxIfInBounds j) clock, ?_, es.eraseIdxIfInBounds j, clock, put_at hb, stamped_erase hst j, ?_⟩
    · simp only [Builtin.delete_, List.getElem?_toArray, List.getElem?_cons_zero, List.getElem?_cons_succ, Sem.run_bind, run_underlying Try.underlying62, Result.andThen, MapKept.run_getObj_map hb, run_checkKey Try.underlying9 (kstr k), hfk, Option.map_some]
      rw [run_setObj_map _ hb]
      rfl
    · have hlt : j < F.length := (List.getElem?_eq_some_iff.1 h2).1
      have hlen : es.toList.length = F.length := by have := congrArg List.length hF; simpa using this
      have hsz : j < es.size := by rw [← Array.length_toList]; omega
      rw [h4]
      unfold Array.eraseIdxIfInBounds
      rw [dif_pos hsz, Array.toList_eraseIdx, map_erase, hF, ← map_erase]
theorem run_lenM (h : MapAt w m F) (ty : TypeId) : (Builtin.len_ #[62] ty #[.map (some m)]).run Try.prog w = .ok (.int .i64 (F.length : Nat)) w := by
  obtain ⟨es, clock, hb, hst, hF⟩ := h
  have hlen : es.size = F.length := by have := congrArg List.length hF; simpa using this
  simp [Builtin.len_, run_underlying Try.underlying62, Result.andThen, MapKept.run_getObj_map hb, hlen, goInt]
theorem MapAt.on {w' : World} {row : Option Nat} (h : MapAt w m F) (hg : w.grownBy w' row) (hr : row ≠ some m) : MapAt w' m F := by
  obtain ⟨es, clock, hb, hst, hF⟩ := h
  exact ⟨es, clock, heap_at hg hr hb, hst, hF⟩
theorem MapAt.keep {w' : World} (h : MapAt w m F) (hg : w.grownBy w' none) : MapAt w' m F := h.on hg (by simp)
theorem MapAt.lt (h : MapAt w m F) : m < w.heap.size := by obtain ⟨es, clock, hb, _⟩ := h; exact (Array.getElem?_eq_some_iff.1 hb).1
theorem MapAt.ne {b : Nat} {cs : List Value} {t : TypeId} (h : MapAt w m F) (hb : Blk w b cs t) : m ≠ b := fun e => by
  obtain ⟨es, clock, hm, _⟩ := h
  subst e
  unfold Blk at hb
  rw [hm] at hb
  cases hb
theorem MapAt.own {v : Value} {B n q e : Nat} {xs : List Value} (h : MapAt w m F) (ho : w.ownsRow B e q v n xs) : v.ownBlock ≠ some m := fun hk => by
  obtain ⟨es, clock, hm, _⟩ := h
  rcases ho.2 with ⟨rfl, _⟩ | ⟨g, cap, cur, rfl, hB, hg, _⟩
  · cases hk
  · injection hk with hk
    have hk' : g = m := hk
    subst hk'
    rw [hm] at hg
    cases hg
theorem MapAt.nodup (h : MapAt w m F) : (F.map (·.nm)).Nodup := by
  obtain ⟨es, clock, hm, hst, hF⟩ := h
  have h1 : es.toList.map (·.key) = F.map (fun f => Value.string f.nm) := by
    have := congrArg (List.map Prod.fst) hF
    rw [List.map_map, List.map_map] at this
    exact this
  have h2 := hst.2.2
  rw [h1, show F.map (fun f => Value.string f.nm) = (F.map (·.nm)).map Value.string by rw [List.map_map]; rfl] at h2
  exact List.Pairwise.of_map Value.string (fun a b h e => h (by rw [e])) h2
end Go.Proofs.Ytlgjmdianmijeab
