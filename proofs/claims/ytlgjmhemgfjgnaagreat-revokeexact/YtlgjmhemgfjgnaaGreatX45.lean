/- The law's book over keys as RingExact has it: its state, Ring, Look. -/
import Derived.Test.YtlgjmhemgfjgnaaGreatKbI
namespace Go.Proofs.YtlgjmhemgfjgnaaGreat.Bk
open Go Go.RowKit
open Go.RowKit (wrap32 wrap64)

/-- The book: its lists lie below L, and none in X. -/
def BkS (w : World) (B bk T L : Nat) (X : Nat → Prop) : Prop :=
  ∃ (v0 v1 : Value) (D U : Int) (gs : List Value) (ms : List Nat), Bst w B bk v0 v1 ((0 : Nat) : Int) T D U gs ms 0 gs.length ∧ 0 ≤ U ∧ U ≤ 16777216 ∧ 48000 * (gs.length : Int) ≤ 6 * U ∧ B ≤ bk ∧ B ≤ w.heap.size ∧ ∀ (j : Nat) g', gs[j]? = some g' → ∀ b, g'.ownBlock = some b → b < L ∧ ¬ X b
theorem BkS.grown {w w' : World} {B bk T L : Nat} {X : Nat → Prop} (h : BkS w B bk T L X) (hg : w.grownBy w' none) : BkS w' B bk T L X := by
  obtain ⟨v0, v1, D, U, gs, ms, h1, h2, h3, h4, h5, h6, h7⟩ := h
  exact ⟨v0, v1, D, U, gs, ms, h1.grown hg, h2, h3, h4, h5, Nat.le_trans h6 hg.size, h7⟩
/-- A call that changes one block, and makes others: the change first, then what is new. -/
theorem grown_split {w w2 : World} {b : Nat} (hb : b < w.heap.size) (hg : w.grownBy w2 (some b)) : ∃ wm, But w wm b ∧ wm.grownBy w2 none := by
  have hb2 : b < w2.heap.size := Nat.lt_of_lt_of_le hb hg.size
  refine ⟨{ w with heap := w.heap.setIfInBounds b (w2.heap[b]'hb2) }, ⟨rfl, rfl, rfl, by simp, fun k hk => ?_⟩, ⟨hg.os, hg.tape, hg.output, ?_, fun k hk _ => ?_⟩⟩
  · simp [Ne.symm hk]
  · simpa using hg.size
  · have hk' : k < w.heap.size := by simpa using hk
    by_cases e : b = k
    · subst e
      simp [hb, hb2]
    · rw [show (({ w with heap := w.heap.setIfInBounds b (w2.heap[b]'hb2) } : World).heap[k]?) = w.heap[k]? by simp [e]]
      exact hg.block k hk' (fun x => e (by injection x with x; exact x.symm))
theorem BkS.one {w w' : World} {B bk T L b t : Nat} {X : Nat → Prop} {cs : Array Value} (h : BkS w B bk T L X) (hb : w.heap[b]? = some (.cells cs t (0, 0))) (ht : t ≠ 50 ∧ t ≠ 57 ∧ t ≠ 3) (h107 : t = 85 → L ≤ b ∨ X b) (hg : w.grownBy w' (some b)) : BkS w' B bk T L X := by
  obtain ⟨wm, hbut, hg2⟩ := grown_split (Array.getElem?_eq_some_iff.1 hb).1 hg
  refine BkS.grown ?_ hg2
  obtain ⟨v0, v1, D, U, gs, ms, h1, h2, h3, h4, h5, h6, h7⟩ := h
  refine ⟨v0, v1, D, U, gs, ms, ?_, h2, h3, h4, h5, by rw [hbut.size]; exact h6, h7⟩
  by_cases e : t = 85
  · subst e
    exact h1.other hb hbut (fun j g' hj hk => by
      have h8 := h7 j g' hj b hk
      rcases h107 rfl with h9 | h9
      · omega
      · exact h8.2 h9)
  · exact h1.same (fun q hq => Same.but hb (fun e2 => by rcases hq with rfl | rfl | rfl | rfl <;> first | exact e e2.symm | exact ht.1 e2.symm | exact ht.2.1 e2.symm | exact ht.2.2 e2.symm) hbut) (Nat.le_of_eq hbut.size.symm)
theorem BkS.up {w : World} {B bk T L L' : Nat} {X : Nat → Prop} (h : BkS w B bk T L X) (hL : L ≤ L') : BkS w B bk T L' X := by
  obtain ⟨v0, v1, D, U, gs, ms, h1, h2, h3, h4, h5, h6, h7⟩ := h
  exact ⟨v0, v1, D, U, gs, ms, h1, h2, h3, h4, h5, h6, fun j g' hj b hb => ⟨by have := (h7 j g' hj b hb).1; omega, (h7 j g' hj b hb).2⟩⟩
theorem BkS.other {w : World} {B bk T L : Nat} {X X' : Nat → Prop} (h : BkS w B bk T L X) (hX : ∀ b, b < L → X' b → X b) : BkS w B bk T L X' := by
  obtain ⟨v0, v1, D, U, gs, ms, h1, h2, h3, h4, h5, h6, h7⟩ := h
  exact ⟨v0, v1, D, U, gs, ms, h1, h2, h3, h4, h5, h6, fun j g' hj b hb => ⟨(h7 j g' hj b hb).1, fun hx => (h7 j g' hj b hb).2 (hX b (h7 j g' hj b hb).1 hx)⟩⟩
/-- What Keys leaves as it was: all blocks but the list's and the book's own. -/
def KK (w w' : World) (B : Nat) (o : Value) : Prop := Below B w w' ∧ ∀ b cs t, w.heap[b]? = some (.cells cs t (0, 0)) → t ≠ 50 → t ≠ 57 → t ≠ 3 → o.ownBlock ≠ some b → w'.heap[b]? = w.heap[b]?
theorem own_neT {w : World} {B b e e' q n : Nat} {v : Value} {xs : List Value} {cs : Array Value} {fr : Nat × Nat} (h : w.ownsRow B e q v n xs) (hb : w.heap[b]? = some (.cells cs e' fr)) (hne : e' ≠ e) : v.ownBlock ≠ some b := fun k => by
  obtain ⟨_, _, cs', hcs⟩ := own_block h k
  rw [hb] at hcs
  injection hcs with q1
  injection q1 with q1 q2
  exact hne q2
set_option maxRecDepth 100000 in
set_option maxHeartbeats 1600000 in
theorem BkS.keys {w : World} {B bk T L : Nat} {X : Nat → Prop} (h : BkS w B bk T L X) {o : Value} {l : List Ky} (ho : OutK B w o l) (hl : l.length ≤ 1000000) (hT : T ≤ 549755813888) (hL : ∀ b, o.ownBlock = some b → L ≤ b ∧ ¬ X b) :
    Calls Tryz.prog 12 #[.pointer (some ⟨bk, 0, none⟩), o] w fun e w' => e = .returned (.tuple #[]) ∧ BkS w' B bk (T + 1) (max L w.heap.size) X ∧ KK w w' B o := by
  obtain ⟨v0, v1, D, U, gs, ms, h1, h2, h3, h4, h5, h6, h7⟩ := h
  have hn : gs.length ≤ 1048575 := by omega
  refine (keys_any w B bk 0 T v0 v1 o D U gs ms l h1 h5 h6 ho.1.len ho.2 hl hT h2 h3 hn (fun j g' hj => ?_)).mono ?_
  · cases hg : g'.ownBlock with
    | none => exact .inl hg
    | some x =>
      refine .inr (fun e => ?_)
      rw [hg] at e
      have h8 := h7 j g' hj x hg
      have h9 := hL x e.symm
      omega
  · rintro e w' ⟨rfl, v0', v1', gs', ms', U', hS, hu0, hu1, hcase, hK, _⟩
    refine ⟨rfl, ⟨v0', v1', D, U', gs', ms', hS, hu0, hu1, ?_, h5, Nat.le_trans h6 hK.below.size, ?_⟩, hK.below, ?_⟩
    · rcases hcase with ⟨rfl, rfl⟩ | ⟨rfl, rfl⟩
      · exact h4
      · rw [List.length_append]
        simp only [List.length_cons, List.length_nil]
        omega
    · intro j g' hj b hb
      rcases hcase with ⟨rfl, _⟩ | ⟨rfl, _⟩
      · have h8 := h7 j g' hj b hb
        exact ⟨by omega, h8.2⟩
      · by_cases hjl : j < gs.length
        · rw [List.getElem?_append_left hjl] at hj
          have h8 := h7 j g' hj b hb
          exact ⟨by omega, h8.2⟩
        · rw [List.getElem?_append_right (by omega)] at hj
          have hj2 : j = gs.length := by
            have := (List.getElem?_eq_some_iff.1 hj).1
            simp at this
            omega
          subst hj2
          simp at hj
          subst hj
          have h8 := (ho.2.lt b hb).2
          exact ⟨by omega, (hL b hb).2⟩
    · intro b cs t hb t1 t2 t3 hob
      obtain ⟨cb, hcb⟩ := bkc_block h1.cells
      refine hK.block b (Array.getElem?_eq_some_iff.1 hb).1 (fun e => ?_) (own_neT h1.row0 hb t2) (own_neT h1.row1 hb t3) hob
      subst e
      rw [hb] at hcb
      injection hcb with q1
      injection q1 with q1 q2
      exact t1 q2
theorem BkS.look {w : World} {B bk T L : Nat} {X : Nat → Prop} (h : BkS w B bk T L X) : Calls Tryz.prog 14 #[.pointer (some ⟨bk, 0, none⟩)] w fun e w' => e = .returned (.bool true) ∧ Below B w w' := by
  obtain ⟨v0, v1, D, U, gs, ms, h1, h2, h3, h4, h5, h6, h7⟩ := h
  exact look_any w B bk 0 v0 v1 T D U gs ms h1 (Nat.zero_le _) (by simpa using h4) h3 h5 h6
end Go.Proofs.YtlgjmhemgfjgnaaGreat.Bk

namespace Go.Proofs.YtlgjmhemgfjgnaaGreat.Bk
open Go Go.RowKit
open Go.RowKit (wrap32 wrap64)

theorem OutK.shape {B : Nat} {w : World} {v : Value} {l : List Ky} (h : OutK B w v l) : ∃ a n c, v = .slice a n c := by
  rcases h.2.2 with ⟨rfl, _⟩ | ⟨g, cap, cur, rfl, _⟩
  · exact ⟨_, _, _, rfl⟩
  · exact ⟨_, _, _, rfl⟩
set_option maxRecDepth 100000 in
theorem step_append_keys {w : World} {ops : Array Oper} {o : Oper} {a : Act} {K : Act → World → Prop} {Q : Exit → Act → World → Prop} (hw : Region.wanted o (yielded ops a.tmps) = true) (s x : Operand)
    (ho : o.op = .call { callee := .builtin .append, args := #[s, x], argTypes := #[57, 57] })
    (B : Nat) (F : Nat → Prop) (acc l : List Ky) (vs vx : Value) (hs : a.eval s = vs) (hxe : a.eval x = vx) (hown : OutK B w vs acc) (hx : RdK w F vx l) (hn : acc.length + l.length ≤ 1099511627776) (hB : B ≤ w.heap.size)
    (h : ∀ v' w', OutK B w' v' (acc ++ l) → w.grownBy w' vs.ownBlock → (v'.ownBlock = vs.ownBlock ∨ v'.ownBlock = some w.heap.size) → K (a.put o.dst v') w') :
    if Region.wanted o (yielded ops a.tmps) = true then Oper.wp Tryz.prog o a w K Q else K (a.put o.dst undef) w := by
  rw [if_pos hw]
  have hrun : ∃ v' w', (Builtin.append_ #[57, 57] o.type #[vs, vx]).run Tryz.prog w = .ok v' w' ∧ OutK B w' v' (acc ++ l) ∧ w.grownBy w' vs.ownBlock ∧ (v'.ownBlock = vs.ownBlock ∨ v'.ownBlock = some w.heap.size) := by
    obtain ⟨inf, hi, hz0, hz1, hz2⟩ := info_parts Tryz.info85
    obtain ⟨hok, p, b, off, c, e, hc, hnn, ha, hcell⟩ := hx
    cases p with
    | none =>
      have c0 := hnn rfl
      have hl : l = [] := List.eq_nil_of_length_eq_zero (by omega)
      subst hl
      subst c0
      refine ⟨vs, w, ?_, by rw [List.append_nil]; exact hown, World.grownBy.refl _ _, .inl rfl⟩
      rw [e]
      exact run_append_owned_none (P := Tryz.prog) (w := w) B 57 o.type 85 inf 19 Tryz.underlying57 hi _ _ _ hown.2
    | some q =>
      obtain ⟨v', w', h1, h2, h3, _, h4⟩ := run_append_own_at (P := Tryz.prog) w B 57 o.type 85 inf (.agg zky.cells.toArray) 19 40 Tryz.underlying57 hi hz0 hz1 hz2 rfl (by decide) vs _ _ hown.2 q l.length c (kcs l) (by rw [kcs_length l hok.len]) (by
        intro j u hu
        have hj : j < l.length * 19 := by have := (List.getElem?_eq_some_iff.1 hu).1; rw [kcs_length l hok.len] at this; exact this
        have hq := (ha (by omega)).1
        injection hq with hq
        have hi' : j / 19 < l.length := by omega
        have hg := kcs_get l hok.len (j / 19) l[j / 19] (List.getElem?_eq_getElem hi') (j % 19) (by omega)
        rw [show j / 19 * 19 + j % 19 = j by omega, hu] at hg
        have hcl := hcell (j / 19) hi' (j % 19) u hg.symm
        rw [hq, Addr.add_lit, show off + j = off + j / 19 * 19 + j % 19 by omega]
        exact hcl) (kcs_one l) (by unfold maxLen; omega) (by omega) hB
      refine ⟨v', w', by rw [e]; exact h1, ⟨fun k hk => ?_, by rw [List.length_append, kcs_append]; exact h2⟩, h3, h4⟩
      rcases List.mem_append.1 hk with hk | hk
      · exact hown.1 k hk
      · exact hok k hk
  obtain ⟨v', w', hr, h1, h2, h3⟩ := hrun
  unfold Oper.wp execOp
  simp only [ho, resolve, invoke, builtin, Sem.run_bind, Sem.run_pure, Result.andThen_ok, List.map_toArray, List.map_cons, List.map_nil, hs, hxe, hr]
  exact h v' w' h1 h2 h3
theorem wpList_append_keysB {w : World} {ops : Array Oper} {rest : List Oper} {o : Oper} {a : Act} {Q : Exit → Act → World → Prop} (hgd : o.guard = none) (s x : Operand)
    (ho : o.op = .call { callee := .builtin .append, args := #[s, x], argTypes := #[57, 57] })
    (B : Nat) (F : Nat → Prop) (acc l : List Ky) (vs vx : Value) (hs : a.eval s = vs) (hxe : a.eval x = vx) (hown : OutK B w vs acc) (hx : RdK w F vx l) (hn : acc.length + l.length ≤ 1099511627776) (hB : B ≤ w.heap.size)
    (h : ∀ v' w', OutK B w' v' (acc ++ l) → w.grownBy w' vs.ownBlock → (v'.ownBlock = vs.ownBlock ∨ v'.ownBlock = some w.heap.size) → wpList Tryz.prog ops Q rest (a.put o.dst v') w') : wpList Tryz.prog ops Q (o :: rest) a w :=
  wpList_plain hgd fun K hK => by
    have hw : Region.wanted o (yielded ops a.tmps) = true := by simp [Region.wanted, hgd]
    have q := step_append_keys (ops := ops) (Q := Q) (K := K) hw s x ho B F acc l vs vx hs hxe hown hx hn hB (fun v' w' h1 h2 h3 => hK _ _ (h v' w' h1 h2 h3))
    rw [if_pos hw] at q
    exact q
/-- What the seat's Ring leaves as it was: all blocks but the seat and its row. -/
structure KS (w w' : World) (sb : Nat) (v : Value) : Prop where
  os : w'.os = w.os
  tape : w'.tape = w.tape
  output : w'.output = w.output
  size : w.heap.size ≤ w'.heap.size
  block : ∀ k, k < w.heap.size → k ≠ sb → v.ownBlock ≠ some k → w'.heap[k]? = w.heap[k]?
theorem OutK.cut0 {B n c : Nat} {w : World} {a : Option Addr} {l : List Ky} (h : OutK B w (.slice a n c) l) : OutK B w (.slice a 0 c) [] := by
  refine ⟨fun k hk => by simp at hk, by simp [kcs], ?_⟩
  rcases h.2.2 with ⟨h1, _⟩ | ⟨g, cap, cur, hv, hB, hg, hle, hm, hs, ht⟩
  · simp only [Value.slice.injEq] at h1
    obtain ⟨rfl, _, rfl⟩ := h1
    exact .inl ⟨rfl, rfl⟩
  · simp only [Value.slice.injEq] at hv
    obtain ⟨rfl, _, rfl⟩ := hv
    exact .inr ⟨g, c, cur, rfl, hB, hg, Nat.zero_le _, hm, hs, by simp [kcs]⟩
set_option maxRecDepth 100000 in
set_option maxHeartbeats 1600000 in
theorem seatRv_any (w : World) (B sb : Nat) (F : Nat → Prop) (cs : List Value) (va : Option Addr) (vn vc : Nat) (lk l : List Ky) (a : Option Addr) (n c : Nat) (hb : Blk w sb cs 66) (h6 : cs[6]? = some (.slice va vn vc)) (ho : OutK B w (.slice va vn vc) lk) (hB : B ≤ w.heap.size) (hr : RdK w F (.slice a n c) l) (hl : l.length ≤ 1000000) :
    Calls Tryz.prog 13 #[.pointer (some ⟨sb, 0, none⟩), .slice a n c] w fun e w' => ∃ na nn nc, e = .returned (.slice na nn nc) ∧ OutK B w' (.slice na nn nc) l ∧ Blk w' sb (cs.set 6 (.slice na nn nc)) 66 ∧ ((Value.slice na nn nc).ownBlock = (Value.slice va vn vc).ownBlock ∨ ∃ k, w.heap.size ≤ k ∧ (Value.slice na nn nc).ownBlock = some k) ∧ KS w w' sb (.slice va vn vc) := by
  have HBk := hid hb
  have HL6 : Hid (6 < cs.length) := hid (List.getElem?_eq_some_iff.1 h6).1
  have HO0 := hid (OutK.cut0 ho)
  have e0 : (Value.slice va 0 vc).ownBlock = (Value.slice va vn vc).ownBlock := by cases va <;> rfl
  have HE0 := hid e0
  have HR := hid hr
  have HBb := hid hB
  have q6 : w.cell? ⟨sb, 6, none⟩ = some (.slice va vn vc) := (hb.cell 6).trans h6
  have HNs : Hid ((Value.slice va 0 vc).ownBlock ≠ some sb) := hid (fun e => (HO0.out.ne_blk hb (by decide)) sb e rfl)
  clear hb h6 ho hB hr e0
  go_enter Tryz.func13, Tryz.ntmps13
  go_wp2_with (at_builtin; refine wpList_append_keysB rfl _ _ rfl B F [] l (.slice va 0 vc) (.slice a n c) rfl rfl HO0.out HR.out (by simp only [List.length_nil]; omega) HBb.out ?_; intro v4 w4 hO4 hg4 hat4; obtain ⟨na, nn, nc, hv4⟩ := OutK.shape hO4; subst hv4; have HO4 := hid hO4; have HG4 := hid hg4; have HA4 := hid hat4; have HB4 : Hid (Blk w4 sb cs 66) := hid (HBk.out.on hg4 HNs.out); have q64 : w4.cell? ⟨sb, 6, none⟩ = some (.slice va vn vc) := ((HB4.out).cell 6).trans (by have := HBk.out.cell 6; rw [← this]; exact q6); have qf := HB4.out.frozen 6; clear hO4 hg4 hat4 q6)
  go_ret
  have hset := HB4.out.set 6 (.slice na nn nc)
  have gs := gset w4 ⟨sb, 6, none⟩ (.slice na nn nc)
  refine ⟨na, nn, nc, rfl, ?_, hset, ?_, ⟨?_, ?_, ?_, ?_, ?_⟩⟩
  · exact HO4.out.on gs (fun k hk e => (HO4.out.ne_blk HB4.out (by decide)) k e (by injection hk with hk; exact hk.symm))
  · rcases HA4.out with h | h
    · exact .inl (h.trans HE0.out)
    · exact .inr ⟨_, Nat.le_refl _, h⟩
  · exact gs.os.trans HG4.out.os
  · exact gs.tape.trans HG4.out.tape
  · exact gs.output.trans HG4.out.output
  · exact Nat.le_trans HG4.out.size gs.size
  · intro k hk h8 h9
    have k4 : k < w4.heap.size := Nat.lt_of_lt_of_le hk HG4.out.size
    rw [gs.block k k4 (fun e => h8 (by injection e)), HG4.out.block k hk (fun e => h9 (by rw [← HE0.out]; exact e.symm))]
end Go.Proofs.YtlgjmhemgfjgnaaGreat.Bk
