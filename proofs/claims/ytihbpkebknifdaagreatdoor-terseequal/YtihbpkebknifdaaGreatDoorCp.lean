/- CopyStrings, CopyValues, CopyValue. -/
import Derived.Test.YtihbpkebknifdaaGreatDoorAg
import Derived.Test.YtihbpkebknifdaaGreatDoorTuA
namespace Go.Proofs.YtihbpkebknifdaaGreatDoor
open Go Go.RowKit
open Go.RowKit (wrap32 wrap64)

theorem wpList_append_nil0 {P : Program} {w : World} {ops : Array Oper} {rest : List Oper} {o : Oper} {a : Act} {Q : Exit → Act → World → Prop} (hgd : o.guard = none) (s x : Operand) (t : TypeId)
    (ho : o.op = .call { callee := .builtin .append, args := #[s, x], argTypes := #[t, t] })
    (e : TypeId) (i : TypeInfo) (ht : P.underlying t = some (.slice e)) (hi : P.info? e = some i)
    (p : Option Addr) (c : Nat) (hs : a.eval s = .slice none 0 0) (hx : a.eval x = .slice p 0 c)
    (h : wpList P ops Q rest (a.put o.dst (.slice none 0 0)) w) : wpList P ops Q (o :: rest) a w := by
  refine wpList_plain hgd fun K hK => ?_
  have hrun : (Builtin.append_ #[t, t] o.type #[.slice none 0 0, .slice p 0 c]).run P w = .ok (.slice none 0 0) w := by
    cases p with
    | none => simp [Builtin.append_, run_underlying ht, sizeOf, typeInfo, hi, Builtin.lenOf, Builtin.firstCells]
    | some q =>
      have hl := run_loadCells_list (P := P) w q [] (fun j v hj => by simp at hj)
      simp at hl
      simp [Builtin.append_, run_underlying ht, sizeOf, typeInfo, hi, Builtin.lenOf, Builtin.firstCells, hl]
  unfold Oper.wp
  simp [execOp, ho, resolve, invoke, builtin, hs, hx, hrun, Result.andThen]
  exact hK _ _ h
set_option maxRecDepth 100000 in
theorem copyStrings_any (ks : List ByteArray) (w : World) (F : Nat → Prop) (v : Value) (h : RdK w F ks v) (hn : ks.length ≤ 1099511627776) :
    Calls Tryz.prog 15 #[v] w fun e w' => ∃ v', e = .returned v' ∧ w'.ownsRow w.heap.size 9 1 v' ks.length (ks.map .string) ∧ w.grownBy w' none := by
  obtain ⟨i9, hi9, hz9, hs9, hb9⟩ := info_parts Tryz.info9
  obtain ⟨a, c, rfl, hc, hk⟩ := h
  by_cases h0 : ks = []
  · subst h0
    clear hk hc
    go_enter Tryz.func15, Tryz.ntmps15
    go_wp2_with (at_builtin; refine wpList_append_nil0 rfl _ _ 22 rfl 9 i9 Tryz.underlying22 hi9 _ _ rfl rfl ?_)
    go_ret
    exact ⟨_, rfl, World.ownsRow_nil _ _ _ _, grefl _ _⟩
  · have hl : 0 < ks.length := List.length_pos_iff.2 h0
    obtain ⟨g, o, rfl, hg, _, hcell⟩ := hk hl
    have HC : Hid (∀ j u, (ks.map Value.string)[j]? = some u → w.cell? ((⟨g, o, none⟩ : Addr).add j) = some u) := hid (fun j u hu => by
      rw [List.getElem?_map] at hu
      obtain ⟨k, hk1, rfl⟩ := Option.map_eq_some_iff.1 hu
      rw [Addr.add_lit]
      exact hcell j k hk1)
    have HL : Hid ((ks.map Value.string).length = ks.length * 1) := hid (by simp)
    have H1 : Hid (∀ u ∈ ks.map Value.string, u.oneCell' = true) := hid (fun u hu => by obtain ⟨k, _, rfl⟩ := List.mem_map.1 hu; rfl)
    obtain ⟨n, hn'⟩ : ∃ n, ks.length = n := ⟨_, rfl⟩
    rw [hn'] at hl hn HL ⊢
    clear hk hcell hc h0
    go_enter Tryz.func15, Tryz.ntmps15
    go_wp2_with (at_builtin; refine wpList_append_own _ rfl _ _ 22 rfl w.heap.size 9 i9 _ 1 16 Tryz.underlying22 hi9 hz9 hs9 hb9 rfl (by decide) _ 0 [] rfl (World.ownsRow_nil _ _ _ _) ⟨g, o, none⟩ n c (ks.map Value.string) rfl HL.out HC.out H1.out (by unfold maxLen; omega) (by omega) (Nat.le_refl _) ?_; intro v' w' ho hg' _; have HO := hid ho; have HG := hid hg'; clear ho hg')
    go_ret
    refine ⟨v', rfl, ?_, HG.out⟩
    have := HO.out
    rw [Nat.zero_add, List.nil_append] at this
    exact this
/-- A row of trees of one's own; its trees lie elsewhere. -/
def OwnI (w : World) (B : Nat) (l : List Tree) (v : Value) : Prop := ∃ xs, w.ownsRow B 25 6 v l.length xs ∧ Elems w (fun g => B ≤ g ∧ some g ≠ v.ownBlock) l xs
theorem OwnI.nil (w : World) (B : Nat) : OwnI w B [] (.slice none 0 0) := ⟨[], World.ownsRow_nil _ _ _ _, rfl⟩
theorem OwnI.keep {w w' : World} {B : Nat} {l : List Tree} {v : Value} (h : OwnI w B l v) (hg : w.grownBy w' none) : OwnI w' B l v := by
  obtain ⟨xs, h1, h2⟩ := h
  exact ⟨xs, h1.kept hg (by cases v.ownBlock <;> simp), h2.on (Stays.none hg)⟩
theorem OwnI.on {w w' : World} {B b : Nat} {l : List Tree} {v : Value} (h : OwnI w B l v) (hg : w.grownBy w' (some b)) (hb : b < B) : OwnI w' B l v := by
  obtain ⟨xs, h1, h2⟩ := h
  refine ⟨xs, h1.kept hg ?_, h2.on (Stays.grown hg fun g hg' e => ?_)⟩
  · cases hv : v.ownBlock with
    | none => exact .inl rfl
    | some g => exact .inr (fun e => by injection e with e; have := (h1.lt g hv).1; omega)
  · injection e with e; have := hg'.1; omega
theorem OwnI.base {w : World} {B B' : Nat} {l : List Tree} {v : Value} (h : OwnI w B l v) (hb : B' ≤ B) : OwnI w B' l v := by
  obtain ⟨xs, h1, h2⟩ := h
  refine ⟨xs, ⟨h1.1, h1.2.imp id (fun ⟨g, cap, cur, q1, q2, q3⟩ => ⟨g, cap, cur, q1, Nat.le_trans hb q2, q3⟩)⟩, Elems.kept (Stays.refl _ _) (fun g hg _ => ⟨Nat.le_trans hb hg.1, hg.2⟩) h2⟩
theorem OwnI.rd {w : World} {B : Nat} {l : List Tree} {v : Value} (h : OwnI w B l v) : RdS w (fun g => B ≤ g) l v := by
  obtain ⟨xs, h1, h2⟩ := h
  exact items_of h1 (Elems.kept (F := fun g => B ≤ g ∧ some g ≠ v.ownBlock) (Stays.refl _ _) (fun g hg _ => hg.1) h2) (fun g hg => (h1.lt g hg).1)
theorem elems_snoc {wr w2 w3 : World} {B n g : Nat} {iv : Value} {acc : List Tree} {xs : List Value} {t : Tree} {a0 a1 a2 a3 a4 a5 : Value} {o : Obj}
    (hBr : B ≤ wr.heap.size) (hO : wr.ownsRow B 25 6 iv n xs) (hE : Elems wr (fun g => B ≤ g ∧ some g ≠ iv.ownBlock) acc xs) (hg2 : wr.grownBy w2 none)
    (hT : RdT w2 (fun g => wr.heap.size ≤ g) t (.agg #[a0, a1, a2, a3, a4, a5])) (hg3 : (w2.alloc o).grownBy w3 iv.ownBlock) (hat : iv.ownBlock = some g ∨ g = w2.heap.size + 1) :
    Elems w3 (fun x => B ≤ x ∧ some x ≠ some g) (acc ++ [t]) (xs ++ [a0, a1, a2, a3, a4, a5]) := by
  have hz2 := hg2.size
  have hlt := fun k (hk : iv.ownBlock = some k) => hO.lt k hk
  refine Elems.snoc ?_ ?_
  · refine RdT.kept (F := fun g => wr.heap.size ≤ g) ?_ ?_ t hT
    · refine (Stays.grown (galloc w2 o none) (fun _ _ => by simp)).trans (Stays.grown hg3 fun x hx e => ?_)
      have := (hlt x e.symm).2
      omega
    · intro x hx hl
      refine ⟨by omega, fun e => ?_⟩
      injection e with e
      rcases hat with h | h
      · have := (hlt g h).2; omega
      · omega
  · refine Elems.kept (F := fun g => B ≤ g ∧ some g ≠ iv.ownBlock) ?_ ?_ hE
    · exact ((Stays.none hg2).trans (Stays.grown (galloc w2 o none) (fun _ _ => by simp))).trans (Stays.grown hg3 fun x hx => hx.2)
    · intro x hx hl
      refine ⟨hx.1, fun e => ?_⟩
      injection e with e
      rcases hat with h | h
      · exact hx.2 (by rw [h, e])
      · omega
/-- A value whose lists are one's own. -/
def OwnV (w : World) (B : Nat) (t : Tree) (v : Value) : Prop := ∃ ka kn kc ia il ic, v = .agg #[.int .i64 t.kind, .bool t.flag, .int .i64 t.n, .string t.text, .slice ka kn kc, .slice ia il ic] ∧ w.ownsRow B 9 1 (.slice ka kn kc) t.keys.length (t.keys.map .string) ∧ OwnI w B t.items (.slice ia il ic)
theorem OwnV.rd {w : World} {B : Nat} {t : Tree} {v : Value} (h : OwnV w B t v) : RdT w (fun g => B ≤ g) t v := by
  obtain ⟨ka, kn, kc, ia, il, ic, rfl, h1, h2⟩ := h
  obtain ⟨a, c, e, q1, q2⟩ := h2.rd
  rw [RdT_eq]
  exact ⟨_, a, c, by rw [e], keys_of h1 (fun g hg => (h1.lt g hg).1), q1, q2⟩
theorem OwnV.keep {w w' : World} {B : Nat} {t : Tree} {v : Value} (h : OwnV w B t v) (hg : w.grownBy w' none) : OwnV w' B t v := by
  obtain ⟨ka, kn, kc, ia, il, ic, rfl, h1, h2⟩ := h
  exact ⟨ka, kn, kc, ia, il, ic, rfl, h1.kept hg (by cases ka <;> simp [Value.ownBlock]), h2.keep hg⟩
theorem own_slice {w : World} {B e z n : Nat} {v : Value} {xs : List Value} (h : w.ownsRow B e z v n xs) : ∃ a c, v = .slice a n c := by
  rcases h.2 with ⟨rfl, h0⟩ | ⟨g, cap, cur, rfl, _⟩
  · exact ⟨none, 0, by rw [h0]⟩
  · exact ⟨_, _, rfl⟩
theorem OwnI.len {w : World} {B : Nat} {l : List Tree} {v : Value} (h : OwnI w B l v) : ∃ a c, v = .slice a l.length c := by
  obtain ⟨xs, h1, _⟩ := h
  exact own_slice h1
/-- What CopyValue promises of trees that hold no more than m. -/
def CopyOk (m : Nat) : Prop := ∀ (t : Tree), cntT t ≤ m → ∀ (w : World) (F : Nat → Prop) (v : Value), RdT w F t v →
  Calls Tryz.prog 10 #[v] w fun e w' => ∃ v', e = .returned v' ∧ OwnV w' w.heap.size t v' ∧ w.grownBy w' none
set_option maxRecDepth 100000 in
set_option maxHeartbeats 2000000 in
theorem copyValues_any (m : Nat) (hm : m ≤ 1099511627776) (hC : CopyOk m) (l : List Tree) (hl : cntL l ≤ m) (w : World) (F : Nat → Prop) (v : Value) (h : RdS w F l v) :
    Calls Tryz.prog 16 #[v] w fun e w' => ∃ v', e = .returned v' ∧ OwnI w' w.heap.size l v' ∧ w.grownBy w' none := by
  obtain ⟨i26, hi26, hz26, hs26, hb26⟩ := info_parts Tryz.info25
  obtain ⟨a, c, rfl, hc, hk⟩ := h
  have hll := cntL_length l
  have HK := hid hk
  obtain ⟨n, hn'⟩ : ∃ n, l.length = n := ⟨_, rfl⟩
  have HN := hid hn'
  have hnb : n ≤ 1099511627776 := by omega
  have hnc : n ≤ c := by omega
  have HCp : Hid (∀ (i : Nat) (hi : i < l.length), ∀ (u : World) (v : Value), RdT u F l[i] v → Calls Tryz.prog 10 #[v] u fun e w' => ∃ v', e = .returned v' ∧ OwnV w' u.heap.size l[i] v' ∧ u.grownBy w' none) := hid (fun i hi u v hv => hC l[i] (by have := cntL_mem (List.getElem_mem hi); omega) u F v hv)
  rw [hn']
  clear hk hc hl hC hll hn' hm
  go_enter Tryz.func16, Tryz.ntmps16
  go_wp2_with fail
  go_loopw [3, 4] (fun sv iv wr => ∃ i : Nat, iv = .int .i64 i ∧ i ≤ n ∧ Hid (OwnI wr w.heap.size (l.take i) sv) ∧ Hid (w.grownBy wr none)) (fun _ iv _ => n - (intOf iv).toNat)
  case atStart => exact ⟨0, rfl, Nat.zero_le _, hid (by rw [List.take_zero]; exact OwnI.nil _ _), hid (grefl _ _)⟩
  case round =>
    obtain ⟨i, rfl, hi, HO, HG⟩ := hrel
    obtain ⟨u5, hu5⟩ : ∃ x : World, x = wr := ⟨_, rfl⟩
    rw [← hu5] at HO HG ⊢
    clear hu5
    obtain ⟨sa, sc, hsv⟩ := HO.out.len
    subst hsv
    have htl : (l.take i).length = i := by rw [List.length_take, HN.out]; omega
    rw [htl] at HO ⊢
    by_cases hlt : i < n
    · have hlt' : (i : Int) < (n : Int) := by omega
      have hil : i < l.length := by rw [HN.out]; exact hlt
      obtain ⟨g, o, ea, hg, hFg, hr⟩ := HK.out (by omega)
      subst ea
      obtain ⟨k, f, z, x, ka, kn, kc, ia, il, ic, c0, c1, c2, c3, c4, c5, hT⟩ := hr.shaped (Stays.none HG.out) hFg hg i hil
      have HC := hid (HCp.out i hil u5 _ hT)
      have hgw : g < u5.heap.size := by have := HG.out.size; omega
      clear hT hr hFg hg
      go_wp2_with (first
        | (at_builtin; refine wpList_append_lies _ rfl _ _ 23 rfl w.heap.size 25 i26 _ 6 88 Tryz.underlying23 hi26 hz26 hs26 hb26 rfl (by decide) _ i HX.out.choose rfl (HX.out.choose_spec.1.alloc _) ⟨w2.heap.size, 0, none⟩ 1 1 [.int .i64 l[i].kind, .bool l[i].flag, .int .i64 l[i].n, .string l[i].text, .slice ka' kn' kc', .slice ia' il' ic'] rfl rfl (news_new w2 _ _) (one6 _ _ _ _ _ _ _ _ _ _) (by decide) (by unfold maxLen; omega) (by omega) (by have := HG.out.size; have := HG2.out.size; simp; omega) (w2.heap.size + 1) (by simp) ?_; intro g3 cap3 w3 hown3 hg3 hat3 hlt3; have HW3 := hid hown3; have HG3 := hid hg3; have HA3 := hid hat3; clear hown3 hg3 hat3 hlt3)
        | (go_at_call 10; (with_reducible refine HC.out.mono ?_); rintro e w2 ⟨v2, rfl, hv2, hg2⟩; have HV2 := hid hv2.rd; obtain ⟨ka', kn', kc', ia', il', ic', e2, -, -⟩ := hv2; subst e2; have HG2 := hid hg2; have HX : Hid (∃ xs, w2.ownsRow w.heap.size 25 6 (.slice sa i sc) i xs ∧ Elems u5 (fun g => w.heap.size ≤ g ∧ some g ≠ (Value.slice sa i sc).ownBlock) (l.take i) xs ∧ u5.ownsRow w.heap.size 25 6 (.slice sa i sc) i xs) := hid (by obtain ⟨xs, q1, q2⟩ := HO.out; rw [htl] at q1; exact ⟨xs, q1.kept hg2 (by cases (Value.slice sa i sc).ownBlock <;> simp), q2, q1⟩); clear hg2))
      obtain ⟨xs, hxs⟩ : ∃ xs, xs = HX.out.choose := ⟨_, rfl⟩
      have HX2 := hid HX.out.choose_spec.2
      rw [← hxs] at HW3 HX2
      have HN3 : Hid (OwnI w3 w.heap.size (l.take (i + 1)) (.slice (some ⟨g3, 0, none⟩) (i + 1) cap3)) := hid ⟨_, by
        have e : (l.take (i + 1)).length = i + 1 := by rw [List.length_take]; omega
        rw [e]; exact HW3.out, by
        have e : l.take (i + 1) = l.take i ++ [l[i]] := by rw [List.take_add_one, List.getElem?_eq_getElem hil]; rfl
        rw [e]
        exact elems_snoc HG.out.size HX2.out.2 HX2.out.1 HG2.out HV2.out HG3.out HA3.out⟩
      have HGN : Hid (w.grownBy w3 none) := hid (by
        have q := gtrans (gtrans HG.out HG2.out) (galloc w2 (.cells #[.int .i64 l[i].kind, .bool l[i].flag, .int .i64 l[i].n, .string l[i].text, .slice ka' kn' kc', .slice ia' il' ic'] 25) none)
        exact q.andThen HG3.out (fun j hj => .inl (HX2.out.2.lt j hj).1))
      go_roundw
      case rel => exact ⟨i + 1, by go_num, by omega, HN3, HGN⟩
      case measure => simp [intOf]; omega
    · have hlt' : ¬ (i : Int) < (n : Int) := by omega
      have hin : Hid (i = n) := hid (by omega)
      go_wp2_with fail
      go_ret
      refine ⟨_, rfl, ?_, HG.out⟩
      have := HO.out
      rw [List.take_of_length_le (by rw [HN.out]; have := hin.out; omega)] at this
      exact this
end Go.Proofs.YtihbpkebknifdaaGreatDoor
