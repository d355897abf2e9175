/- Texts that are lent, and come back. -/
import Derived.Test.YtdmnhkgiojkphaaGreatDoorX30
import Derived.Test.YtdmnhkgiojkphaaGreatDoorAg
import Derived.OwnWalk
import Derived.Laws.OwnMore
import Derived.Test.YtdmnhkgiojkphaaGreatDoorX26
namespace Go.Proofs.YtdmnhkgiojkphaaGreatDoor
open Go Go.RowKit
open Go.RowKit (wrap32 wrap64)

set_option maxRecDepth 100000 in
/-- append of a row of texts. -/
theorem wpList_append_texts {w : World} {ops : Array Oper} {rest : List Oper} {o : Oper} {a : Act} {Q : Exit → Act → World → Prop} (hgd : o.guard = none) (s x : Operand)
    (ho : o.op = .call { callee := .builtin .append, args := #[s, x], argTypes := #[24, 24] })
    (B : Nat) (F : Nat → Prop) (l ks : List ByteArray) (hown : w.ownsRow B 9 1 (a.eval s) l.length (l.map .string)) (hx : RdK w F ks (a.eval x)) (hn : l.length + ks.length ≤ 2199023255552) (hB : B ≤ w.heap.size)
    (h : ∀ v' w', w'.ownsRow B 9 1 v' (l ++ ks).length ((l ++ ks).map .string) → w.grownBy w' (a.eval s).ownBlock → wpList Tryz.prog ops Q rest (a.put o.dst v') w') : wpList Tryz.prog ops Q (o :: rest) a w := by
  obtain ⟨inf, hi, hz0, hz1, hz2⟩ := info_parts Tryz.info9s
  obtain ⟨p, c, e, hc, hk⟩ := hx
  by_cases hp : p = none ∧ ks = []
  · obtain ⟨rfl, rfl⟩ := hp
    refine wpList_plain hgd fun K hK => ?_
    have hrun : (Builtin.append_ #[24, 24] o.type #[a.eval s, .slice none 0 c]).run Tryz.prog w = .ok (a.eval s) w := by
      rcases hown.2 with ⟨e2, e3⟩ | ⟨g, cap, cur, e2, _, _, hnc, _⟩
      · rw [e2]; simp [Builtin.append_, run_underlying Tryz.underlying24, sizeOf, typeInfo, hi, Builtin.lenOf, Builtin.firstCells]
      · rw [e2]; simp [Builtin.append_, run_underlying Tryz.underlying24, sizeOf, typeInfo, hi, Builtin.lenOf, Builtin.firstCells, hnc, storeCells]
    have e' : a.eval x = .slice none 0 c := e
    unfold Oper.wp
    simp [execOp, ho, resolve, invoke, builtin, e', hrun, Result.andThen]
    exact hK _ _ (h _ _ (by rw [List.append_nil]; exact hown) (grefl _ _))
  · obtain ⟨ad, rfl⟩ : ∃ ad, p = some ad := by
      cases p with
      | some ad => exact ⟨ad, rfl⟩
      | none =>
        have h0 : 0 < ks.length := by
          rcases Nat.eq_zero_or_pos ks.length with h1 | h1
          · exact absurd ⟨rfl, List.eq_nil_of_length_eq_zero h1⟩ hp
          · exact h1
        obtain ⟨g, o', e2, _⟩ := hk h0
        cases e2
    refine wpList_append_own w hgd s x 24 ho B 9 inf (.string ⟨#[]⟩) 1 16 Tryz.underlying24 hi hz0 hz1 hz2 rfl (by decide) _ _ _ rfl hown ad ks.length c (ks.map .string) e (by simp) ?_ ?_ (by unfold maxLen; omega) (by omega) hB ?_
    · intro j u hu
      rw [List.getElem?_map] at hu
      obtain ⟨k, hk1, rfl⟩ := Option.map_eq_some_iff.1 hu
      obtain ⟨g, o', e2, _, _, hcell⟩ := hk (by have := (List.getElem?_eq_some_iff.1 hk1).1; omega)
      injection e2 with e2
      rw [e2, Addr.add_lit]
      exact hcell j k hk1
    · intro u hu
      obtain ⟨k, _, rfl⟩ := List.mem_map.1 hu
      rfl
    · intro v' w' h1 h2 h3
      refine h v' w' ?_ h2
      rw [List.map_append, List.length_append]
      exact h1
def markS : ByteArray := ⟨#[109, 97, 114, 107]⟩
/-- Texts that were lent: marks lie behind them. -/
def LentS (w : World) (F : Nat → Prop) (ks : List ByteArray) (v : Value) : Prop :=
  ∃ (g c : Nat), v = .slice (some ⟨g, 0, none⟩) ks.length c ∧ ks.length + 9 ≤ c ∧ g < w.heap.size ∧ F g ∧ ∀ (i : Nat) k, (ks ++ List.replicate 9 markS)[i]? = some k → w.cell? ⟨g, i, none⟩ = some (.string k)
theorem LentS.kept {w w' : World} {F F' : Nat → Prop} {ks : List ByteArray} {v : Value} (h : LentS w F ks v) (hs : Stays F w w') (hF : ∀ g, F g → g < w.heap.size → F' g) : LentS w' F' ks v := by
  obtain ⟨g, c, rfl, hc, hg, hFg, hk⟩ := h
  exact ⟨g, c, rfl, hc, Nat.lt_of_lt_of_le hg hs.1, hF g hFg hg, fun i k hi => hs.cell hFg hg (hk i k hi)⟩
theorem LentS.rd {w : World} {F : Nat → Prop} {ks : List ByteArray} {v : Value} (h : LentS w F ks v) : RdK w F ks v := by
  obtain ⟨g, c, rfl, hc, hg, hFg, hk⟩ := h
  refine ⟨some ⟨g, 0, none⟩, c, rfl, by omega, fun _ => ⟨g, 0, rfl, hg, hFg, fun i k hi => ?_⟩⟩
  rw [Nat.zero_add]
  exact hk i k (by rw [List.getElem?_append_left (List.getElem?_eq_some_iff.1 hi).1]; exact hi)
set_option maxRecDepth 100000 in
set_option maxHeartbeats 1600000 in
theorem lendTexts_any (ks : List ByteArray) (w : World) (F : Nat → Prop) (v : Value) (hv : RdK w F ks v) (hl : ks.length ≤ 1099511627776) :
    Calls Tryz.prog 37 #[v] w fun e w' => ∃ v', e = .returned v' ∧ LentS w' (fun g => w.heap.size ≤ g) ks v' ∧ w.grownBy w' none := by
  obtain ⟨inf, hi, hz0, hz1, hz2⟩ := info_parts Tryz.info9s
  obtain ⟨a, c, rfl⟩ := hv.slice
  have HV : Hid (∀ u : World, w.grownBy u none → RdK u F ks (.slice a ks.length c)) := hid (fun u hu => hv.kept (Stays.none hu) (fun _ h _ => h))
  obtain ⟨n, HN⟩ : ∃ n, Hid (ks.length = n) := ⟨_, hid rfl⟩
  rw [HN.out] at hl HV ⊢
  clear hv
  go_enter Tryz.func37, Tryz.ntmps37
  go_wp2_with (at_make; refine wpList_make_own _ rfl _ _ 24 rfl w.heap.size 9 inf (.string ⟨#[]⟩) 1 Tryz.underlying24 hi hz0 hz1 _ _ _ (n + 9) rfl rfl (by omega) (by rw [hz2]; omega) (by unfold maxLen; omega) (Nat.le_refl _) ?_)
  intro w1 hown1 hg1
  have HG1 := hid hg1
  have HO1 : Hid (w1.ownsRow w.heap.size 9 1 (.slice (some ⟨w.heap.size, 0, none⟩) 0 (n + 9)) ([] : List ByteArray).length (([] : List ByteArray).map .string)) := hid hown1
  have HR1 := hid (HV.out w1 hg1)
  clear hg1 hown1 HV
  go_wp2_with (at_builtin; refine wpList_append_texts rfl _ _ rfl w.heap.size F [] ks HO1.out HR1.out (by rw [HN.out]; show 0 + n ≤ _; omega) HG1.out.size ?_; intro v2 w2 hO2 hg2)
  have HO : Hid (w2.ownsRow w.heap.size 9 1 v2 (ks ++ List.replicate 0 markS).length ((ks ++ List.replicate 0 markS).map .string)) := hid (by simpa using hO2)
  have HG : Hid (w.grownBy w2 none) := hid (HG1.out.andThen hg2 (fun j hj => .inl (HO1.out.lt j hj).1))
  clear hO2 hg2 HR1 HG1 HO1
  go_wp2_with fail
  go_loopw [3, 4] (fun tv iv wr => ∃ i : Nat, iv = .int .i64 i ∧ i ≤ 9 ∧ Hid (wr.ownsRow w.heap.size 9 1 tv (ks ++ List.replicate i markS).length ((ks ++ List.replicate i markS).map .string)) ∧ Hid (w.grownBy wr none)) (fun _ iv _ => 9 - (intOf iv).toNat)
  case atStart => exact ⟨0, rfl, by omega, HO, HG⟩
  case round =>
    clear HO HG
    obtain ⟨i, rfl, hi9, HO, HG⟩ := hrel
    by_cases hlt : i < 9
    · as_aux_lemma =>
      have hlt' : (i : Int) < 9 := by omega
      have hlen : (ks ++ List.replicate i markS).length ≤ 1099511627776 + 9 := by rw [List.length_append, List.length_replicate, HN.out]; omega
      have HL := hid hlen
      clear hlen
      go_wp2_with (at_builtin; refine wpList_append_texts rfl _ _ rfl w.heap.size (fun _ => True) (ks ++ List.replicate i markS) [markS] (own_on HO.out (galloc _ _ _)) ⟨some ⟨wr.heap.size, 0, none⟩, 1, rfl, Nat.le_refl _, fun _ => ⟨wr.heap.size, 0, rfl, by simp, trivial, fun j k hj => by
          have e : j = 0 := by have := (List.getElem?_eq_some_iff.1 hj).1; simpa using this
          subst e
          have e2 : k = markS := by simpa using hj.symm
          subst e2
          exact cell_new0 _ _ _⟩⟩ (by have := HL.out; show _ + 1 ≤ _; omega) (by have := HG.out.size; simp; omega) ?_; intro v4 w4 hO4 hg4; have HO4 := hid hO4; have HG4 : Hid (w.grownBy w4 none) := hid ((gtrans HG.out (galloc _ _ none)).andThen hg4 (fun j hj => .inl (HO.out.lt j hj).1)); clear hO4 hg4)
      go_roundw
      case rel => exact ⟨i + 1, by go_num, by omega, hid (by have h := HO4.out; rw [List.append_assoc, ← List.replicate_succ'] at h; exact h), HG4⟩
      case measure => simp [intOf]; omega
    · as_aux_lemma =>
      obtain rfl : i = 9 := by omega
      have hlt' : ¬ (9 : Int) < 9 := by omega
      obtain ⟨tv, htv⟩ : ∃ x, u3 = x := ⟨_, rfl⟩
      rw [htv] at HO ⊢
      clear htv
      have hL : (ks ++ List.replicate 9 markS).length = n + 9 := by rw [List.length_append, List.length_replicate, HN.out]
      rw [hL] at HO
      obtain ⟨g, cg, hve, hgC, hgl, hcap⟩ : ∃ g cg, tv = .slice (some ⟨g, 0, none⟩) (n + 9) cg ∧ w.heap.size ≤ g ∧ g < wr.heap.size ∧ n + 9 ≤ cg := by
        rcases HO.out.2 with ⟨_, h0⟩ | ⟨g, cap, cur, e, hb, hg, h2, _⟩
        · omega
        · exact ⟨g, cap, e, hb, (Array.getElem?_eq_some_iff.1 hg).1, h2⟩
      have HVE := hid hve
      rw [HVE.out] at HO ⊢
      have hnc : (n : Int) ≤ (cg : Int) := by omega
      have hn0 : ¬ (n : Int) < 0 := by omega
      have HC : Hid (w.heap.size ≤ g ∧ g < wr.heap.size ∧ n + 9 ≤ cg) := hid ⟨hgC, hgl, hcap⟩
      clear hve hgC hgl hcap hL
      go_wp2_with fail
      go_ret
      refine ⟨_, rfl, ⟨g, cg, by rw [HN.out]; rfl, by rw [HN.out]; exact HC.out.2.2, HC.out.2.1, HC.out.1, fun i k hi => ?_⟩, HG.out⟩
      have := HO.out.cells (g := g) rfl i (.string k) (by rw [List.getElem?_map, hi]; rfl)
      rw [Addr.add_lit, Nat.zero_add] at this
      exact this
set_option maxRecDepth 100000 in
set_option maxHeartbeats 1600000 in
theorem backTexts_any (ks : List ByteArray) (w : World) (F F' : Nat → Prop) (x v : Value) (hx : LentS w F ks x) (hv : RdK w F' ks v) (hl : ks.length ≤ 1099511627776) :
    Calls Tryz.prog 43 #[x, v] w fun e w' => e = .returned (.bool true) ∧ w.grownBy w' none := by
  obtain ⟨g, cg, rfl, hcg, hg, -, hgk⟩ := hx
  obtain ⟨a, c, rfl⟩ := hv.slice
  have HX : Hid (∀ u : World, w.grownBy u none → ∀ (i : Nat) k, (ks ++ List.replicate 9 markS)[i]? = some k → u.cell? ⟨g, i, none⟩ = some (.string k)) := hid (fun u hu i k hi => by
    rw [World.cell?_of_block (w := w) (a := ⟨g, i, none⟩) (hu.block g hg (by simp))]
    exact hgk i k hi)
  have HAt : Hid (∀ i (hi : i < ks.length), ∃ b o, a = some ⟨b, o, none⟩ ∧ ∀ u : World, w.grownBy u none → u.cell? ⟨b, o + i, none⟩ = some (.string ks[i])) := hid (fun i hi => by
    obtain ⟨b, o, e, _, h⟩ := hv.atS i hi
    exact ⟨b, o, e, h⟩)
  obtain ⟨n, HN⟩ : ∃ n, Hid (ks.length = n) := ⟨_, hid rfl⟩
  rw [HN.out] at hl hcg ⊢
  have hn9 : (n : Int) + 9 ≤ (cg : Int) := by omega
  have hn9' : ((n + 9 : Nat) : Int) ≤ (cg : Int) := by omega
  clear hgk hv hg
  go_enter Tryz.func43, Tryz.ntmps43
  go_wp2_with fail
  go_loopw [5] (fun iv wr => ∃ i : Nat, iv = .int .i64 i ∧ i ≤ n ∧ Hid (w.grownBy wr none)) (fun iv _ => n - (intOf iv).toNat)
  case atStart => exact ⟨0, rfl, Nat.zero_le _, hid (grefl _ _)⟩
  case round =>
    obtain ⟨i, rfl, hi, HG⟩ := hrel
    by_cases hlt : i < n
    · as_aux_lemma =>
      have hlt' : (i : Int) < (n : Int) := by omega
      have hil : i < ks.length := by rw [HN.out]; exact hlt
      obtain ⟨b, o, rfl, hcell⟩ := HAt.out i hil
      obtain ⟨k, HK⟩ : ∃ k, Hid (ks[i] = k) := ⟨_, hid rfl⟩
      have z1 := HX.out wr HG.out i k (by rw [List.getElem?_append_left hil, List.getElem?_eq_getElem hil, HK.out])
      have z2 := hcell wr HG.out
      rw [HK.out] at z2
      have hq : (k.toList == k.toList) = true := by simp
      clear hcell
      go_wp2_with fail
      go_quiet (fail)
      have hgq : wr.grownBy (wr.drewN nq) none := gdrew wr nq none
      generalize wr.drewN nq = wq at hgq ⊢
      have HGQ := hid hgq
      clear hgq
      go_wp2_with fail
      go_roundw
      case rel => exact ⟨i + 1, by go_num, by omega, hid (gtrans HG.out HGQ.out)⟩
      case measure => simp [intOf]; omega
    · as_aux_lemma =>
      have hlt' : ¬ (i : Int) < (n : Int) := by omega
      go_wp2_with fail
      go_loopw [7] (fun jv wr => ∃ j : Nat, jv = .int .i64 j ∧ n ≤ j ∧ j ≤ n + 9 ∧ Hid (w.grownBy wr none)) (fun jv _ => n + 9 - (intOf jv).toNat)
      case atStart => exact ⟨n, rfl, Nat.le_refl _, by omega, HG⟩
      case round =>
        clear HG
        obtain ⟨j, rfl, hj1, hj2, HG⟩ := hrel
        by_cases hjl : j < n + 9
        · as_aux_lemma =>
          have hj3 : (j : Int) < (n : Int) + 9 := by omega
          have z1 := HX.out wr HG.out j markS (by
            have := HN.out
            rw [List.getElem?_append_right (by omega), List.getElem?_replicate, if_pos (by omega)])
          unfold markS at z1
          go_wp2_with fail
          go_roundw
          case rel => exact ⟨j + 1, by go_num, by omega, by omega, HG⟩
          case measure => simp [intOf]; omega
        · as_aux_lemma =>
          have hj3 : ¬ (j : Int) < (n : Int) + 9 := by omega
          go_wp2_with fail
          go_ret
          exact ⟨rfl, HG.out⟩
end Go.Proofs.YtdmnhkgiojkphaaGreatDoor

namespace Go.Proofs.YtdmnhkgiojkphaaGreatDoor
open Go Go.RowKit
open Go.RowKit (wrap32 wrap64)

/-- The cells of a mark. -/
def mk6 : List Value := [.int .i64 777, .bool false, .int .i64 0, .string ⟨#[]⟩, .slice none 0 0, .slice none 0 0]
mutual
/-- A tree that was lent: marks lie behind each of its lists. -/
def LentT (w : World) (F : Nat → Prop) : Tree → Value → Prop
  | .mk k f n t ks is, v => ∃ (kv : Value) (g c : Nat), v = .agg #[.int .i64 k, .bool f, .int .i64 n, .string t, kv, .slice (some ⟨g, 0, none⟩) is.length c] ∧ LentS w F ks kv ∧ is.length + 9 ≤ c ∧ g < w.heap.size ∧ F g ∧ LentIs w F g 0 is ∧ ∀ (j : Nat), j < 9 → w.rangeAt g ((is.length + j) * 6) mk6
def LentIs (w : World) (F : Nat → Prop) (g o : Nat) : List Tree → Prop
  | [] => True
  | t :: r => (∃ a b c d e f, w.cell? ⟨g, o, none⟩ = some a ∧ w.cell? ⟨g, o + 1, none⟩ = some b ∧ w.cell? ⟨g, o + 2, none⟩ = some c ∧ w.cell? ⟨g, o + 3, none⟩ = some d ∧ w.cell? ⟨g, o + 4, none⟩ = some e ∧ w.cell? ⟨g, o + 5, none⟩ = some f ∧ LentT w F t (.agg #[a, b, c, d, e, f])) ∧ LentIs w F g (o + 6) r
end
/-- A list of trees that was lent. -/
def LentR (w : World) (F : Nat → Prop) (is : List Tree) (v : Value) : Prop := ∃ (g c : Nat), v = .slice (some ⟨g, 0, none⟩) is.length c ∧ is.length + 9 ≤ c ∧ g < w.heap.size ∧ F g ∧ LentIs w F g 0 is ∧ ∀ (j : Nat), j < 9 → w.rangeAt g ((is.length + j) * 6) mk6
theorem LentT_eq (w : World) (F : Nat → Prop) (t : Tree) (v : Value) : LentT w F t v ↔ ∃ kv iv, v = .agg #[.int .i64 t.kind, .bool t.flag, .int .i64 t.n, .string t.text, kv, iv] ∧ LentS w F t.keys kv ∧ LentR w F t.items iv := by
  cases t with
  | mk k f n t ks is =>
    rw [LentT]
    constructor
    · rintro ⟨kv, g, c, rfl, h1, h2, h3, h4, h5, h6⟩
      exact ⟨kv, _, rfl, h1, g, c, rfl, h2, h3, h4, h5, h6⟩
    · rintro ⟨kv, iv, rfl, h1, g, c, rfl, h2, h3, h4, h5, h6⟩
      exact ⟨kv, g, c, rfl, h1, h2, h3, h4, h5, h6⟩
theorem Stays.range {F : Nat → Prop} {w w' : World} (h : Stays F w w') {g o : Nat} {cs : List Value} (hF : F g) (hg : g < w.heap.size) (hc : w.rangeAt g o cs) : w'.rangeAt g o cs := fun j v hv => h.cell hF hg (hc j v hv)
mutual
theorem LentT.kept {w w' : World} {F F' : Nat → Prop} (hs : Stays F w w') (hF : ∀ g, F g → g < w.heap.size → F' g) : ∀ (t : Tree) {v : Value}, LentT w F t v → LentT w' F' t v
  | .mk k f n t ks is, v, h => by
    rw [LentT] at h ⊢
    obtain ⟨kv, g, c, rfl, hk, hc, hg, hFg, hr, hm⟩ := h
    exact ⟨kv, g, c, rfl, hk.kept hs hF, hc, Nat.lt_of_lt_of_le hg hs.1, hF g hFg hg, LentIs.kept hs hF hFg hg is hr, fun j hj => hs.range hFg hg (hm j hj)⟩
theorem LentIs.kept {w w' : World} {F F' : Nat → Prop} {g : Nat} (hs : Stays F w w') (hF : ∀ g, F g → g < w.heap.size → F' g) (hFg : F g) (hg : g < w.heap.size) : ∀ (l : List Tree) {o : Nat}, LentIs w F g o l → LentIs w' F' g o l
  | [], o, h => by rw [LentIs]; trivial
  | t :: r, o, h => by
    rw [LentIs] at h ⊢
    obtain ⟨⟨a, b, c, d, e, f, h0, h1, h2, h3, h4, h5, ht⟩, hr⟩ := h
    exact ⟨⟨a, b, c, d, e, f, hs.cell hFg hg h0, hs.cell hFg hg h1, hs.cell hFg hg h2, hs.cell hFg hg h3, hs.cell hFg hg h4, hs.cell hFg hg h5, LentT.kept hs hF t ht⟩, LentIs.kept hs hF hFg hg r hr⟩
end
mutual
theorem LentT.rd {w : World} {F : Nat → Prop} : ∀ (t : Tree) {v : Value}, LentT w F t v → RdT w F t v
  | .mk k f n t ks is, v, h => by
    rw [LentT] at h
    rw [RdT]
    obtain ⟨kv, g, c, rfl, hk, hc, hg, hFg, hr, hm⟩ := h
    exact ⟨kv, _, c, rfl, hk.rd, by omega, fun _ => ⟨g, 0, rfl, hg, hFg, LentIs.rd is hr⟩⟩
theorem LentIs.rd {w : World} {F : Nat → Prop} {g : Nat} : ∀ (l : List Tree) {o : Nat}, LentIs w F g o l → RdIs w F g o l
  | [], o, h => by rw [RdIs]; trivial
  | t :: r, o, h => by
    rw [LentIs] at h
    rw [RdIs]
    obtain ⟨⟨a, b, c, d, e, f, h0, h1, h2, h3, h4, h5, ht⟩, hr⟩ := h
    exact ⟨⟨a, b, c, d, e, f, h0, h1, h2, h3, h4, h5, LentT.rd t ht⟩, LentIs.rd r hr⟩
end
theorem LentR.kept {w w' : World} {F F' : Nat → Prop} {l : List Tree} {v : Value} (h : LentR w F l v) (hs : Stays F w w') (hF : ∀ g, F g → g < w.heap.size → F' g) : LentR w' F' l v := by
  obtain ⟨g, c, rfl, hc, hg, hFg, hr, hm⟩ := h
  exact ⟨g, c, rfl, hc, Nat.lt_of_lt_of_le hg hs.1, hF g hFg hg, LentIs.kept hs hF hFg hg l hr, fun j hj => hs.range hFg hg (hm j hj)⟩
/-- The cells of lent trees one behind the other. -/
def LElems (w : World) (F : Nat → Prop) : List Tree → List Value → Prop
  | [], xs => xs = []
  | t :: r, xs => ∃ a b c d e f ys, xs = a :: b :: c :: d :: e :: f :: ys ∧ LentT w F t (.agg #[a, b, c, d, e, f]) ∧ LElems w F r ys
theorem LElems.length {w : World} {F : Nat → Prop} : ∀ {l : List Tree} {xs : List Value}, LElems w F l xs → xs.length = l.length * 6
  | [], xs, h => by have h : xs = [] := h; simp [h]
  | t :: r, xs, h => by
    obtain ⟨a, b, c, d, e, f, ys, rfl, _, hr⟩ := h
    have := LElems.length hr
    simp [this]
    omega
theorem LElems.snoc {w : World} {F : Nat → Prop} {t : Tree} {a b c d e f : Value} (ht : LentT w F t (.agg #[a, b, c, d, e, f])) : ∀ {l : List Tree} {xs : List Value}, LElems w F l xs → LElems w F (l ++ [t]) (xs ++ [a, b, c, d, e, f])
  | [], xs, h => by
    have h : xs = [] := h
    subst h
    exact ⟨a, b, c, d, e, f, [], rfl, ht, rfl⟩
  | x :: r, xs, h => by
    obtain ⟨a', b', c', d', e', f', ys, rfl, hx, hr⟩ := h
    exact ⟨a', b', c', d', e', f', ys ++ [a, b, c, d, e, f], rfl, hx, LElems.snoc ht hr⟩
theorem LElems.kept {w w' : World} {F F' : Nat → Prop} (hs : Stays F w w') (hF : ∀ g, F g → g < w.heap.size → F' g) : ∀ {l : List Tree} {xs : List Value}, LElems w F l xs → LElems w' F' l xs
  | [], _, h => h
  | t :: r, xs, h => by
    obtain ⟨a, b, c, d, e, f, ys, rfl, ht, hr⟩ := h
    exact ⟨a, b, c, d, e, f, ys, rfl, LentT.kept hs hF t ht, LElems.kept hs hF hr⟩
theorem LElems.lies {w : World} {F : Nat → Prop} {g : Nat} : ∀ {l : List Tree} {xs : List Value} {o : Nat}, LElems w F l xs → (∀ (j : Nat) v, xs[j]? = some v → w.cell? ⟨g, o + j, none⟩ = some v) → LentIs w F g o l
  | [], _, _, _, _ => by rw [LentIs]; trivial
  | t :: r, xs, o, h, hc => by
    obtain ⟨a, b, c, d, e, f, ys, rfl, ht, hr⟩ := h
    rw [LentIs]
    refine ⟨⟨a, b, c, d, e, f, hc 0 a rfl, hc 1 b rfl, hc 2 c rfl, hc 3 d rfl, hc 4 e rfl, hc 5 f rfl, ht⟩, LElems.lies hr fun j v hj => ?_⟩
    have := hc (j + 6) v (by simpa using hj)
    rw [show o + 6 + j = o + (j + 6) by omega]
    exact this
/-- A row under way: lent trees, then some marks. -/
def LOwn (w : World) (B : Nat) (l : List Tree) (j : Nat) (v : Value) : Prop := ∃ xs, w.ownsRow B 26 6 v (l.length + j) (xs ++ (List.replicate j mk6).flatten) ∧ LElems w (fun g => B ≤ g ∧ some g ≠ v.ownBlock) l xs
theorem LOwn.len {w : World} {B j : Nat} {l : List Tree} {v : Value} (h : LOwn w B l j v) : ∃ a c, v = .slice a (l.length + j) c := by
  obtain ⟨xs, h1, _⟩ := h
  rcases h1.2 with ⟨rfl, h0⟩ | ⟨g, cap, cur, rfl, _⟩
  · exact ⟨none, 0, by rw [h0]⟩
  · exact ⟨_, _, rfl⟩
theorem lelems_snoc {wr w2 w3 : World} {B n g : Nat} {iv : Value} {acc : List Tree} {xs ys : List Value} {t : Tree} {a0 a1 a2 a3 a4 a5 : Value} {o : Obj}
    (hBr : B ≤ wr.heap.size) (hO : wr.ownsRow B 26 6 iv n ys) (hE : LElems wr (fun g => B ≤ g ∧ some g ≠ iv.ownBlock) acc xs) (hg2 : wr.grownBy w2 none)
    (hT : LentT w2 (fun g => wr.heap.size ≤ g) t (.agg #[a0, a1, a2, a3, a4, a5])) (hg3 : (w2.alloc o).grownBy w3 iv.ownBlock) (hat : iv.ownBlock = some g ∨ g = w2.heap.size + 1) :
    LElems w3 (fun x => B ≤ x ∧ some x ≠ some g) (acc ++ [t]) (xs ++ [a0, a1, a2, a3, a4, a5]) := by
  have hz2 := hg2.size
  have hlt := fun k (hk : iv.ownBlock = some k) => hO.lt k hk
  refine LElems.snoc ?_ ?_
  · refine LentT.kept (F := fun g => wr.heap.size ≤ g) ?_ ?_ t hT
    · refine (Stays.grown (galloc w2 o none) (fun _ _ => by simp)).trans (Stays.grown hg3 fun x hx e => ?_)
      have := (hlt x e.symm).2
      omega
    · intro x hx hl
      refine ⟨by omega, fun e => ?_⟩
      injection e with e
      rcases hat with h | h
      · have := (hlt g h).2; omega
      · omega
  · refine LElems.kept (F := fun g => B ≤ g ∧ some g ≠ iv.ownBlock) ?_ ?_ hE
    · exact ((Stays.none hg2).trans (Stays.grown (galloc w2 o none) (fun _ _ => by simp))).trans (Stays.grown hg3 fun x hx => hx.2)
    · intro x hx hl
      refine ⟨hx.1, fun e => ?_⟩
      injection e with e
      rcases hat with h | h
      · exact hx.2 (by rw [h, e])
      · omega
theorem lelems_more {wr w3 : World} {B n g : Nat} {iv : Value} {acc : List Tree} {xs ys : List Value} {o : Obj}
    (hO : wr.ownsRow B 26 6 iv n ys) (hE : LElems wr (fun g => B ≤ g ∧ some g ≠ iv.ownBlock) acc xs) (hg3 : (wr.alloc o).grownBy w3 iv.ownBlock) (hat : iv.ownBlock = some g ∨ g = wr.heap.size + 1) :
    LElems w3 (fun x => B ≤ x ∧ some x ≠ some g) acc xs := by
  have hlt := fun k (hk : iv.ownBlock = some k) => hO.lt k hk
  refine LElems.kept (F := fun g => B ≤ g ∧ some g ≠ iv.ownBlock) ?_ ?_ hE
  · exact (Stays.grown (galloc wr o none) (fun _ _ => by simp)).trans (Stays.grown hg3 fun x hx => hx.2)
  · intro x hx hl
    refine ⟨hx.1, fun e => ?_⟩
    injection e with e
    rcases hat with h | h
    · exact hx.2 (by rw [h, e])
    · omega
end Go.Proofs.YtdmnhkgiojkphaaGreatDoor
