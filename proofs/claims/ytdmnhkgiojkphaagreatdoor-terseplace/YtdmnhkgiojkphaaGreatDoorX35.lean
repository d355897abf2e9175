/- As wp_region_listX; but a slot that is read ahead may be written behind (from n on). -/
import Derived.Test.YtdmnhkgiojkphaaGreatDoorX27
import Derived.Test.YtdmnhkgiojkphaaGreatDoorX21
namespace Go.Proofs.YtdmnhkgiojkphaaGreatDoor
open Go Go.RowKit

/-- slot s is written by none of the first n. -/
def noDstN (ops : Array Oper) (n : Nat) (s : Nat) : Bool := (ops.toList.take n).all fun o => o.dst != some s
structure HeldN (ops : Array Oper) (n : Nat) (Φ : Nat → Value → World → Prop) (row0 : Option Nat) (row : Nat → Option Nat) (a0 : Act) (w0 : World) (listed : Array Bool) (a : Act) (w : World) : Prop where
  grown : w0.grownBy w row0
  sz : a.tmps.size = a0.tmps.size
  defers : a.defers = a0.defers
  out : ∀ s, noDstN ops n s = true → a.eval (.tmp s) = a0.eval (.tmp s)
  got : ∀ k o d, ops[k]? = some o → o.dst = some d → listed.getD k false = true → Φ k (a.eval (.tmp d)) w
  stored : ∀ k, listed.getD k false = true → ∃ v, Φ k v w
  pure_ : (∀ k, row k ≠ none → listed.getD k false = false) → w0.grownBy w none
theorem noDst_N {ops : Array Oper} {n s : Nat} (h : noDst ops s = true) : noDstN ops n s = true := by
  unfold noDst at h
  unfold noDstN
  rw [List.all_eq_true] at h ⊢
  exact fun o ho => h o (List.mem_of_mem_take ho)
theorem noDstN_ne {ops : Array Oper} {n s k : Nat} {o : Oper} (h : noDstN ops n s = true) (hk : k < n) (ho : ops[k]? = some o) : o.dst ≠ some s := by
  have hm : (ops.toList.take n)[k]? = some o := by rw [List.getElem?_take, if_pos hk, Array.getElem?_toList]; exact ho
  have := List.all_eq_true.1 h o (List.mem_of_getElem? hm)
  simpa using this
theorem HeldN.held {ops : Array Oper} {n : Nat} {Φ : Nat → Value → World → Prop} {row0 : Option Nat} {row : Nat → Option Nat} {a0 a : Act} {w0 w : World} {listed : Array Bool} (h : HeldN ops n Φ row0 row a0 w0 listed a w) : Held ops Φ row0 row a0 w0 listed a w :=
  ⟨h.grown, h.sz, h.defers, fun s hs => h.out s (noDst_N hs), h.got, h.stored, h.pure_⟩
/-- what is to be shown of operation i. -/
def ShownN (P : Program) (ops : Array Oper) (n : Nat) (Q : Exit → Act → World → Prop) (Φ : Nat → Value → World → Prop) (row0 : Option Nat) (row : Nat → Option Nat) (a0 : Act) (w0 : World) (i : Nat) (o : Oper) : Prop :=
  ∀ (A : Act) (u : World), w0.grownBy u row0 → (row i ≠ none → w0.grownBy u none) → A.tmps.size = a0.tmps.size → (∀ s, noDstN ops n s = true → A.eval (.tmp s) = a0.eval (.tmp s)) →
    (∀ e ∈ o.after, Region.binds .any e = true → ∀ o' d', ops[e.on]? = some o' → o'.dst = some d' → Φ e.on (A.eval (.tmp d')) u) →
    if Region.wanted o (yielded ops A.tmps) = true then o.wp P A u (fun A' u' => ∃ v, A' = A.put o.dst v ∧ u.grownBy u' (row i) ∧ Φ i v u') Q else Φ i undef u
section
variable {P : Program} {ops : Array Oper} {Q : Exit → Act → World → Prop} {Φ : Nat → Value → World → Prop} {a0 : Act} {w0 : World} {n : Nat} {row0 : Option Nat} {row : Nat → Option Nat}
theorem wpAny_eachN (hdst : dstB ops = true) (hlt : dltB ops a0.tmps.size = true) (hb : backB ops = true) (hq : seqBX ops n = true) (hns : n ≤ ops.size)
    (hone : ∀ i j, row i ≠ none → row j ≠ none → i = j) (hrow : ∀ i, row i = none ∨ row i = row0) (hst : ∀ i k v u u', k ≠ i → Φ k v u → u.grownBy u' (row i) → Φ k v u') (hstep : ∀ i o, ops[i]? = some o → i < n → ShownN P ops n Q Φ row0 row a0 w0 i o)
    (hlast : ∀ (A : Act) (u : World) (listed : Array Bool), Held ops Φ row0 row a0 w0 listed A u → (∀ k, k < n → listed.getD k false = true) → (∀ k, n ≤ k → listed.getD k false = false) → wpList P ops Q (ops.toList.drop n) A u) :
    ∀ (fuel : Nat) (listed : Array Bool) (a : Act) (w : World), listed.size = ops.size → (∀ k, n ≤ k → listed.getD k false = false) → Closed .any ops listed → HeldN ops n Φ row0 row a0 w0 listed a w → left n listed + (ops.size - n) ≤ fuel → wpAny P .any ops Q fuel listed a w := by
  intro fuel
  induction fuel with
  | zero =>
    intro listed a w hls hn hc hh hf
    have hall : ∀ k, k < n → listed.getD k false = true := fun k hk => by
      cases h : listed.getD k false with
      | true => rfl
      | false =>
        have : 0 < left n listed := List.countP_pos_iff.2 ⟨k, List.mem_range.2 hk, by simp only [h]; rfl⟩
        omega
    exact seq_goX hb hq (ops.size - n) n (by omega) (Nat.le_refl _) 0 listed a w (by omega) hls hc hall hn (hlast a w listed hh.held hall hn)
  | succ fuel ih =>
    intro listed a w hls hn hc hh hf
    by_cases hex : ∃ k, k < n ∧ listed.getD k false = false
    · obtain ⟨k0, hk0, hk0l⟩ := hex
      refine ⟨fun h0 => absurd h0 (first_unlisted hb hls k0 (by omega) hk0l), fun i hi => ?_⟩
      obtain ⟨hun, o, ho, hall⟩ := mem_ready.1 hi
      have his : i < ops.size := (Array.getElem?_eq_some_iff.1 ho).1
      have hin : i < n := by
        rcases Nat.lt_or_ge i n with h | h
        · exact h
        · have := seq_listedX hq hc hi h (by omega : k0 < i)
          rw [hk0l] at this
          cases this
      have hiu0 : listed.getD i false = false := by
        rw [Array.getD_eq_getD_getElem?, Array.getElem?_eq_getElem (by omega)] at hun ⊢
        simpa using hun
      have hs := hstep i o ho hin a w hh.grown (fun hri => hh.pure_ (fun k hk => by rw [hone k i hk hri]; exact hiu0)) hh.sz hh.out (fun e' he' hbi o' d' ho' hd' => hh.got _ _ _ ho' hd' (hall e' he' hbi))
      have hnext : ∀ (v : Value) (u' : World), (∀ k v, k ≠ i → Φ k v w → Φ k v u') → w0.grownBy u' row0 → (row i = none → w.grownBy u' none) → Φ i v u' → wpAny P .any ops Q fuel (listed.setIfInBounds i true) (a.put o.dst v) u' := fun v u' hkp hg hpu hv => by
        refine ih _ _ _ (by rw [set_size]; exact hls) (fun k hk => ?_) (closed_set hc hi) ⟨?_, ?_, ?_, fun s hs' => ?_, fun k o' d hk hd hl => ?_, fun k hl => ?_, fun hall0 => ?_⟩ ?_
        · rw [getD_set_ne false (by omega)]; exact hn k hk
        · exact hg
        · rw [← hh.sz]
          cases hd : o.dst with
          | none => rfl
          | some d => rw [ev_size]
        · rw [← hh.defers]
          cases hd : o.dst with
          | none => rfl
          | some d => rfl
        · rw [← hh.out s hs']
          cases hd : o.dst with
          | none => rfl
          | some d => exact ev_ne a d s v (fun e' => noDstN_ne hs' hin ho (by rw [hd, e']))
        · by_cases hki : k = i
          · subst hki
            rw [ho] at hk
            injection hk with hk
            subst hk
            rw [hd, ev_same a d v (by rw [hh.sz]; exact dst_lt hlt ho hd)]
            exact hv
          · have hl' : listed.getD k false = true := (getD_set_iff hl).resolve_left hki
            have hold := hkp _ _ hki (hh.got k o' d hk hd hl')
            cases hdo : o.dst with
            | none => exact hold
            | some di =>
              rw [ev_ne a di d v (dst_ne hdst ho hk hdo hd (fun e' => hki e'.symm))]
              exact hold
        · by_cases hki : k = i
          · subst hki; exact ⟨v, hv⟩
          · obtain ⟨v', hv'⟩ := hh.stored k ((getD_set_iff hl).resolve_left hki)
            exact ⟨v', hkp _ _ hki hv'⟩
        · have hri : row i = none := by
            cases hr : row i with
            | none => rfl
            | some x =>
              have := hall0 i (by rw [hr]; simp)
              rw [Array.getD_eq_getD_getElem?, Array.getElem?_setIfInBounds_self_of_lt (by omega)] at this
              cases this
          have h1 := hh.pure_ (fun k hk => by
            have := hall0 k hk
            by_cases hki : k = i
            · rw [hki, hri] at hk; exact absurd rfl hk
            · rw [getD_set_ne false (fun e => hki e.symm)] at this; exact this)
          have h2 := hpu hri
          exact ⟨h2.os.trans h1.os, h2.tape.trans h1.tape, h2.output.trans h1.output, Nat.le_trans h1.size h2.size, fun j hj hr => (h2.block j (Nat.lt_of_lt_of_le hj h1.size) hr).trans (h1.block j hj hr)⟩
        · have hiu : listed.getD i false = false := by
            rw [Array.getD_eq_getD_getElem?, Array.getElem?_eq_getElem (by omega)] at hun ⊢
            simpa using hun
          have : left n (listed.setIfInBounds i true) < left n listed := by
            refine countP_less _ (fun x _ hx => ?_) i (List.mem_range.2 hin) (by simp only [hiu]; rfl) ?_
            · cases hxl : listed.getD x false with
              | false => rfl
              | true => rw [getD_set_true hxl] at hx; exact hx
            · rw [Array.getD_eq_getD_getElem?, Array.getElem?_setIfInBounds_self_of_lt (by omega)]
              rfl
          omega
      unfold wpOp
      simp only [ho]
      split
      · rename_i hw
        rw [if_pos hw] at hs
        refine .inl (Oper.wp_mono (fun a' w' hq => ?_) hs)
        obtain ⟨v, rfl, hg, hv⟩ := hq
        refine hnext v w' (fun k v' hk h => hst i k v' _ _ hk h hg) ?_ (fun hr => by rw [hr] at hg; exact hg) hv
        have h1 := hh.grown
        refine ⟨hg.os.trans h1.os, hg.tape.trans h1.tape, hg.output.trans h1.output, Nat.le_trans h1.size hg.size, fun j hj hr => (hg.block j (Nat.lt_of_lt_of_le hj h1.size) ?_).trans (h1.block j hj hr)⟩
        rcases hrow i with e | e
        · rw [e]; simp
        · rw [e]; exact hr
      · rename_i hw
        rw [if_neg hw] at hs
        exact hnext undef w (fun _ _ _ h => h) hh.grown (fun _ => ⟨rfl, rfl, rfl, Nat.le_refl _, fun _ _ _ => rfl⟩) hs
    · have hall : ∀ k, k < n → listed.getD k false = true := fun k hk => by
        cases h : listed.getD k false with
        | true => rfl
        | false => exact absurd ⟨k, hk, h⟩ hex
      exact seq_goX hb hq (ops.size - n) n (by omega) (Nat.le_refl _) _ listed a w (by omega) hls hc hall hn (hlast a w listed hh.held hall hn)
theorem wp_region_eachN {id : Nat} {a : Act} {w : World} (hm : P.follows .mixedOrders = true) (Φ : Nat → Value → World → Prop) (row0 : Option Nat) (row : Nat → Option Nat) (n : Nat) (hdst : dstB ops = true) (hlt : dltB ops a.tmps.size = true) (hb : backB ops = true) (hq : seqBX ops n = true) (hns : n ≤ ops.size)
    (hone : ∀ i j, row i ≠ none → row j ≠ none → i = j) (hrow : ∀ i, row i = none ∨ row i = row0) (hst : ∀ i k v u u', k ≠ i → Φ k v u → u.grownBy u' (row i) → Φ k v u') (hstep : ∀ i o, ops[i]? = some o → i < n → ShownN P ops n Q Φ row0 row a w i o)
    (hlast : ∀ (A : Act) (u : World) (listed : Array Bool), Held ops Φ row0 row a w listed A u → (∀ k, k < n → listed.getD k false = true) → (∀ k, n ≤ k → listed.getD k false = false) → wpList P ops Q (ops.toList.drop n) A u) : (Code.region id ops true).wp P Q a w := by
  have hr : ∀ k, (Array.replicate ops.size false).getD k false = false := fun k => by
    rw [Array.getD_eq_getD_getElem?, Array.getElem?_replicate]; split <;> rfl
  refine wp_region_any hm (wpAny_eachN hdst hlt hb hq hns hone hrow hst hstep hlast _ _ _ _ (by simp) (fun k _ => hr k) (closed_none _) ⟨⟨rfl, rfl, rfl, Nat.le_refl _, fun _ _ _ => rfl⟩, rfl, rfl, fun _ _ => rfl, fun k o d _ _ hl => ?_, fun k hl => ?_, fun _ => ⟨rfl, rfl, rfl, Nat.le_refl _, fun _ _ _ => rfl⟩⟩ ?_)
  · rw [hr k] at hl; cases hl
  · rw [hr k] at hl; cases hl
  · have : left n (Array.replicate ops.size false) ≤ n := Nat.le_trans List.countP_le_length (by simp)
    omega
theorem wp_region_listN {id : Nat} {a : Act} {w : World} (hm : P.follows .mixedOrders = true) (Φs : List (Value → World → Prop)) (row0 : Option Nat) (row : Nat → Option Nat) (n : Nat) (hdst : dstB ops = true) (hlt : dltB ops a.tmps.size = true) (hb : backB ops = true) (hq : seqBX ops n = true) (hns : n ≤ ops.size)
    (hone : ∀ i j, row i ≠ none → row j ≠ none → i = j) (hrow : ∀ i, row i = none ∨ row i = row0)
    (hst : AllIdx (fun k p => ∀ i v u u', k ≠ i → p v u → u.grownBy u' (row i) → p v u') 0 Φs)
    (hstep : AllIdx (ShownN P ops n Q (fun k => Φs.getD k (fun _ _ => True)) row0 row a w) 0 (ops.toList.take n))
    (hlast : ∀ (A : Act) (u : World) (listed : Array Bool), Held ops (fun k => Φs.getD k (fun _ _ => True)) row0 row a w listed A u → (∀ k, k < n → listed.getD k false = true) → wpList P ops Q (ops.toList.drop n) A u) : (Code.region id ops true).wp P Q a w := by
  refine wp_region_eachN hm (fun k => Φs.getD k (fun _ _ => True)) row0 row n hdst hlt hb hq hns hone hrow (fun i k v u u' hki h hg => ?_) (fun i o ho hin => ?_) (fun A u listed hh hall _ => hlast A u listed hh hall)
  · cases hk : Φs[k]? with
    | none =>
      show (Φs.getD k (fun _ _ => True)) v u'
      rw [List.getD_eq_getElem?_getD, hk]
      trivial
    | some p =>
      have := hst.get k p hk
      rw [Nat.zero_add] at this
      have h' : p v u := by
        have h2 : (Φs.getD k (fun _ _ => True)) v u := h
        rw [List.getD_eq_getElem?_getD, hk] at h2
        exact h2
      show (Φs.getD k (fun _ _ => True)) v u'
      rw [List.getD_eq_getElem?_getD, hk]
      exact this i v u u' hki h' hg
  · have := hstep.get i o (by rw [List.getElem?_take, if_pos hin, Array.getElem?_toList]; exact ho)
    rw [Nat.zero_add] at this
    exact this
end
end Go.Proofs.YtdmnhkgiojkphaaGreatDoor

namespace Go.Proofs.YtdmnhkgiojkphaaGreatDoor
open Go Go.RowKit
open Go.RowKit (wrap32 wrap64)

theorem lit_own (w : World) (B : Nat) (bs : List UInt8) (hB : B ≤ w.heap.size) (hl : bs.length ≤ 1000) :
    Out B (w.alloc (.cells (Lib.byteCells bs).toArray 5)) (.slice (some ⟨w.heap.size, 0, none⟩) bs.length bs.length) bs := by
  refine ⟨by simp [Lib.byteCells], .inr ⟨w.heap.size, bs.length, (Lib.byteCells bs).toArray, rfl, hB, heap_alloc_new w _, Nat.le_refl _, by unfold maxLen; omega, by simp [Lib.byteCells], ?_⟩⟩
  rw [List.take_of_length_le (by simp [Lib.byteCells])]
set_option maxRecDepth 100000 in
/-- append of some bytes that were just laid. -/
theorem wpList_append_lit {w : World} {ops : Array Oper} {rest : List Oper} {o : Oper} {a : Act} {Q : Exit → Act → World → Prop} (hgd : o.guard = none) (s x : Operand)
    (ho : o.op = .call { callee := .builtin .append, args := #[s, x], argTypes := #[84, 84] })
    (B L k : Nat) (acc bs : List UInt8) (hown : Out B w (a.eval s) acc) (hx : a.eval x = .slice (some ⟨L, 0, none⟩) k k) (hk : bs.length = k) (hL : ∀ j u, (Lib.byteCells bs)[j]? = some u → w.cell? ((⟨L, 0, none⟩ : Addr).add j) = some u)
    (hn : acc.length + bs.length ≤ 35184372088832) (hB : B ≤ w.heap.size)
    (h : ∀ v' w', Out B w' v' (acc ++ bs) → w.grownBy w' (a.eval s).ownBlock → wpList Tryz.prog ops Q rest (a.put o.dst v') w') : wpList Tryz.prog ops Q (o :: rest) a w := by
  obtain ⟨inf, hi, hz0, hz1, hz2⟩ := info_parts Tryz.info5
  subst hk
  refine wpList_append_own w hgd s x 84 ho B 5 inf (.int .u8 0) 1 1 Tryz.underlying84 hi hz0 hz1 hz2 rfl (by decide) _ _ _ rfl hown ⟨L, 0, none⟩ bs.length bs.length (Lib.byteCells bs) hx (by simp [Lib.byteCells]) hL ?_ (by unfold maxLen; omega) (by omega) hB ?_
  · intro u hu
    unfold Lib.byteCells at hu
    obtain ⟨k, _, rfl⟩ := List.mem_map.1 hu
    rfl
  · intro v' w' h1 h2 h3
    exact h v' w' (Out.more h1 rfl rfl) h2
theorem newsL (w : World) (bs : List UInt8) (cs : Array Value) (h : cs.toList = Lib.byteCells bs) : ∀ j u, (Lib.byteCells bs)[j]? = some u → (w.alloc (.cells cs 5)).cell? ((⟨w.heap.size, 0, none⟩ : Addr).add j) = some u := by
  rw [← h]; exact newsN w cs 5
theorem escL_snoc (l : List UInt8) (b : UInt8) : escL (l ++ [b]) = escL l ++ escB b := by unfold escL; rw [List.flatMap_append]; simp

theorem quietAt_sx {P : Program} {C : World → Prop} {o : Oper} {a : Act} {u : World} (t : TypeId) (x i : Operand) (vx vi v : Value) (ho : o.op = .index t x i) (hx : a.eval x = vx) (hi : a.eval i = vi) (hr : (Instr.index t vx vi).run P u = .ok v u) : o.quietAt P a C u v := by
  subst hx hi
  unfold Oper.quietAt execOp
  simp only [ho]
  rw [Sem.run_bind, hr]
  exact ⟨rfl, rfl⟩
set_option maxRecDepth 100000 in
theorem quo16 (c : Nat) (hc : c < 256) (x y : Operand) (u : World) : (do eqGuard .quo 5 x y (.int .u8 c) (.int .u8 16); binOp .quo 5 (.int .u8 c) (.int .u8 16) : Sem Value).run Tryz.prog u = .ok (.int .u8 ((c / 16 : Nat) : Int)) u := by
  have q1 : (c : Int).tdiv 16 = ((c / 16 : Nat) : Int) := by rw [Int.tdiv_eq_ediv_of_nonneg (by omega)]; omega
  have q2 : IntKind.u8.wrap ((c / 16 : Nat) : Int) = ((c / 16 : Nat) : Int) := by rw [IntKind.wrap_u8]; omega
  obtain ⟨d, hd⟩ : ∃ d, c / 16 = d := ⟨_, rfl⟩
  rw [hd] at q1 q2 ⊢
  clear hd
  go_simp
set_option maxRecDepth 100000 in
theorem rem16 (c : Nat) (hc : c < 256) (x y : Operand) (u : World) : (do eqGuard .rem 5 x y (.int .u8 c) (.int .u8 16); binOp .rem 5 (.int .u8 c) (.int .u8 16) : Sem Value).run Tryz.prog u = .ok (.int .u8 ((c % 16 : Nat) : Int)) u := by
  have q1 : (c : Int).tmod 16 = ((c % 16 : Nat) : Int) := by rw [Int.tmod_eq_emod_of_nonneg (by omega)]; omega
  have q2 : IntKind.u8.wrap ((c % 16 : Nat) : Int) = ((c % 16 : Nat) : Int) := by rw [IntKind.wrap_u8]; omega
  obtain ⟨d, hd⟩ : ∃ d, c % 16 = d := ⟨_, rfl⟩
  rw [hd] at q1 q2 ⊢
  clear hd
  go_simp
set_option maxRecDepth 100000 in
theorem hexix (i : Nat) (h : i < 16) (u : World) : (Instr.index 9 (.string { data := #[48, 49, 50, 51, 52, 53, 54, 55, 56, 57, 97, 98, 99, 100, 101, 102] }) (.int .u8 (i : Nat))).run Tryz.prog u = .ok (.int .u8 (hexd i).toNat) u := by
  have hi : (i : Int) < 16 := by omega
  have hi0 : ¬ (i : Int) < 0 := by omega
  have e := hexS_at i h
  unfold hexS at e
  go_simp
set_option maxRecDepth 100000 in
theorem slice84 (a b : UInt8) (w : World) : (Instr.buildSlice 84 6 #[(0, .int .u8 92), (1, .int .u8 117), (2, .int .u8 48), (3, .int .u8 48), (4, .int .u8 a.toNat), (5, .int .u8 b.toNat)]).run Tryz.prog w = .ok (.slice (some ⟨w.heap.size, 0, none⟩) 6 6) (w.alloc (.cells (Lib.byteCells [92, 117, 48, 48, a, b]).toArray 5)) := by
  go_simp
  rfl
theorem shown_b6 {o : Oper} {A : Act} {u : World} {Q : Exit → Act → World → Prop} {Ψ : Value → World → Prop} {row : Option Nat} (x y : Operand) (ho : o.op = .buildSlice 84 6 #[(0, .const (.int .u8 92)), (1, .const (.int .u8 117)), (2, .const (.int .u8 48)), (3, .const (.int .u8 48)), (4, x), (5, y)])
    (a b : UInt8) (hx : A.eval x = .int .u8 a.toNat) (hy : A.eval y = .int .u8 b.toNat)
    (hΦ : ∀ w', w'.heap[u.heap.size]? = some (.cells (Lib.byteCells [92, 117, 48, 48, a, b]).toArray 5 (0, 0)) → u.grownBy w' none → Ψ (.slice (some ⟨u.heap.size, 0, none⟩) 6 6) w') : o.wp Tryz.prog A u (fun A' u' => ∃ v, A' = A.put o.dst v ∧ u.grownBy u' row ∧ Ψ v u') Q := by
  have e : (#[(0, .const (.int .u8 92)), (1, .const (.int .u8 117)), (2, .const (.int .u8 48)), (3, .const (.int .u8 48)), (4, x), (5, y)] : Array (Nat × Operand)).map (fun (i, x) => (i, A.eval x)) = #[(0, .int .u8 92), (1, .int .u8 117), (2, .int .u8 48), (3, .int .u8 48), (4, .int .u8 a.toNat), (5, .int .u8 b.toNat)] := by simp only [List.map_toArray, List.map_cons, List.map_nil, hx, hy]; rfl
  unfold Oper.wp execOp
  simp only [ho]
  rw [e, Sem.run_bind, slice84 a b u]
  exact ⟨_, rfl, galloc _ _ _, hΦ _ (heap_alloc_new u _) (galloc _ _ _)⟩

set_option maxRecDepth 100000 in
set_option maxHeartbeats 4000000 in
theorem quotedR_any (s : ByteArray) (hs : s.size ≤ 1099511627776) (w : World) : Calls Tryz.prog 69 #[.string s] w fun e w' => e = .returned (.string (str (quo s.data.toList))) ∧ w.grownBy w' none := by
  have HQt : Hid (∀ k, k = s.size → (34 :: escL (s.data.toList.take k)) ++ [34] = quo s.data.toList) := hid (fun k hk => by
    rw [List.take_of_length_le (by rw [length_data]; omega)]; rfl)
  obtain ⟨R, HR⟩ : ∃ r, Hid (str (quo s.data.toList) = r) := ⟨_, hid rfl⟩
  rw [HR.out]
  go_enter Tryz.func69, Tryz.ntmps69
  go_wp2_with fail
  go_loopw [3, 4] (fun lv iv wr => ∃ k : Nat, iv = .int .i64 k ∧ k ≤ s.size ∧ Hid (Out w.heap.size wr lv (34 :: escL (s.data.toList.take k))) ∧ Hid (w.grownBy wr none)) (fun _ iv _ => s.size - (intOf iv).toNat)
  case atStart => exact ⟨0, rfl, Nat.zero_le _, hid (lit_own w w.heap.size [34] (Nat.le_refl _) (by decide)), hid (galloc _ _ none)⟩
  case round =>
    obtain ⟨k, rfl, hk, HO, HG⟩ := hrel
    have hll : (34 :: escL (s.data.toList.take k)).length ≤ 6597069766700 := by
      have h1 := escL_le (s.data.toList.take k)
      rw [List.length_take] at h1
      rw [List.length_cons]
      omega
    obtain ⟨acc, Hacc⟩ : ∃ a, Hid (34 :: escL (s.data.toList.take k) = a) := ⟨_, hid rfl⟩
    by_cases hlt : k < s.size
    · have hlti : (k : Int) < (s.size : Int) := by omega
      have hk0 : ¬ (k : Int) < 0 := by omega
      have hb := u8_bd s[k]
      have hst : (34 :: escL (s.data.toList.take (k + 1))) = acc ++ escB s[k] := by
        rw [← Hacc.out]
        have e : s.data.toList.take (k + 1) = s.data.toList.take k ++ [s[k]] := by
          rw [List.take_succ_eq_append_getElem (by rw [length_data]; exact hlt)]
          rfl
        rw [e, escL_snoc]
        rfl
      rw [Hacc.out] at HO hll
      have HST := hid hst
      clear hst HQt

      by_cases h34 : s[k].toNat = 34
      · as_aux_lemma =>
        have e34 : ((s[k].toNat : Int) == 34) = true := by rw [beq_iff_eq]; omega
        have hu : s[k] = 34 := by rw [← UInt8.toNat_inj]; exact h34
        have HE : Hid (escB s[k] = [92, s[k]]) := hid (by rw [hu]; rfl)
        clear hu h34 
        go_wp2_with (at_builtin; refine wpList_append_lit rfl _ _ rfl w.heap.size wr.heap.size 2 acc [92, s[k]] (HO.out.none (galloc _ _ none)) rfl rfl (newsL wr [92, s[k]] _ rfl) (by have : ([92, s[k]] : List UInt8).length = 2 := rfl; omega) (by have := HG.out.size; simp; omega) ?_; intro v4 w4 hO4 hg4; have HO4 := hid hO4; have HG4 : Hid (w.grownBy w4 none) := hid ((gtrans HG.out (galloc _ _ none)).andThen hg4 (fun j hj => .inl (HO.out.lt j hj).1)); clear hO4 hg4)
        go_roundw
        case rel => exact ⟨k + 1, by go_num, by omega, hid (by rw [HST.out, HE.out]; exact HO4.out), HG4⟩
        case measure => simp [intOf]; omega
      · have hz34 : True := trivial
        by_cases h92 : s[k].toNat = 92
        · as_aux_lemma =>
          have e34 : ((s[k].toNat : Int) == 34) = false := by rw [beq_eq_false_iff_ne]; omega
          have e92 : ((s[k].toNat : Int) == 92) = true := by rw [beq_iff_eq]; omega
          have hu : s[k] = 92 := by rw [← UInt8.toNat_inj]; exact h92
          have HE : Hid (escB s[k] = [92, s[k]]) := hid (by rw [hu]; rfl)
          clear hu h92 h34
          go_wp2_with (at_builtin; refine wpList_append_lit rfl _ _ rfl w.heap.size wr.heap.size 2 acc [92, s[k]] (HO.out.none (galloc _ _ none)) rfl rfl (newsL wr [92, s[k]] _ rfl) (by have : ([92, s[k]] : List UInt8).length = 2 := rfl; omega) (by have := HG.out.size; simp; omega) ?_; intro v4 w4 hO4 hg4; have HO4 := hid hO4; have HG4 : Hid (w.grownBy w4 none) := hid ((gtrans HG.out (galloc _ _ none)).andThen hg4 (fun j hj => .inl (HO.out.lt j hj).1)); clear hO4 hg4)
          go_roundw
          case rel => exact ⟨k + 1, by go_num, by omega, hid (by rw [HST.out, HE.out]; exact HO4.out), HG4⟩
          case measure => simp [intOf]; omega
        · have hz92 : True := trivial
          by_cases h10 : s[k].toNat = 10
          · as_aux_lemma =>
            have e34 : ((s[k].toNat : Int) == 34) = false := by rw [beq_eq_false_iff_ne]; omega
            have e92 : ((s[k].toNat : Int) == 92) = false := by rw [beq_eq_false_iff_ne]; omega
            have e10 : ((s[k].toNat : Int) == 10) = true := by rw [beq_iff_eq]; omega
            have hu : s[k] = 10 := by rw [← UInt8.toNat_inj]; exact h10
            have HE : Hid (escB s[k] = [92, 110]) := hid (by rw [hu]; rfl)
            clear hu h10 h34 h92
            go_wp2_with (at_builtin; refine wpList_append_lit rfl _ _ rfl w.heap.size wr.heap.size 2 acc [92, 110] (HO.out.none (galloc _ _ none)) rfl rfl (newsL wr [92, 110] _ rfl) (by have : ([92, 110] : List UInt8).length = 2 := rfl; omega) (by have := HG.out.size; simp; omega) ?_; intro v4 w4 hO4 hg4; have HO4 := hid hO4; have HG4 : Hid (w.grownBy w4 none) := hid ((gtrans HG.out (galloc _ _ none)).andThen hg4 (fun j hj => .inl (HO.out.lt j hj).1)); clear hO4 hg4)
            go_roundw
            case rel => exact ⟨k + 1, by go_num, by omega, hid (by rw [HST.out, HE.out]; exact HO4.out), HG4⟩
            case measure => simp [intOf]; omega
          · have hz10 : True := trivial
            by_cases h13 : s[k].toNat = 13
            · as_aux_lemma =>
              have e34 : ((s[k].toNat : Int) == 34) = false := by rw [beq_eq_false_iff_ne]; omega
              have e92 : ((s[k].toNat : Int) == 92) = false := by rw [beq_eq_false_iff_ne]; omega
              have e10 : ((s[k].toNat : Int) == 10) = false := by rw [beq_eq_false_iff_ne]; omega
              have e13 : ((s[k].toNat : Int) == 13) = true := by rw [beq_iff_eq]; omega
              have hu : s[k] = 13 := by rw [← UInt8.toNat_inj]; exact h13
              have HE : Hid (escB s[k] = [92, 114]) := hid (by rw [hu]; rfl)
              clear hu h13 h34 h92 h10
              go_wp2_with (at_builtin; refine wpList_append_lit rfl _ _ rfl w.heap.size wr.heap.size 2 acc [92, 114] (HO.out.none (galloc _ _ none)) rfl rfl (newsL wr [92, 114] _ rfl) (by have : ([92, 114] : List UInt8).length = 2 := rfl; omega) (by have := HG.out.size; simp; omega) ?_; intro v4 w4 hO4 hg4; have HO4 := hid hO4; have HG4 : Hid (w.grownBy w4 none) := hid ((gtrans HG.out (galloc _ _ none)).andThen hg4 (fun j hj => .inl (HO.out.lt j hj).1)); clear hO4 hg4)
              go_roundw
              case rel => exact ⟨k + 1, by go_num, by omega, hid (by rw [HST.out, HE.out]; exact HO4.out), HG4⟩
              case measure => simp [intOf]; omega
            · have hz13 : True := trivial
              by_cases h9 : s[k].toNat = 9
              · as_aux_lemma =>
                have e34 : ((s[k].toNat : Int) == 34) = false := by rw [beq_eq_false_iff_ne]; omega
                have e92 : ((s[k].toNat : Int) == 92) = false := by rw [beq_eq_false_iff_ne]; omega
                have e10 : ((s[k].toNat : Int) == 10) = false := by rw [beq_eq_false_iff_ne]; omega
                have e13 : ((s[k].toNat : Int) == 13) = false := by rw [beq_eq_false_iff_ne]; omega
                have e9 : ((s[k].toNat : Int) == 9) = true := by rw [beq_iff_eq]; omega
                have hu : s[k] = 9 := by rw [← UInt8.toNat_inj]; exact h9
                have HE : Hid (escB s[k] = [92, 116]) := hid (by rw [hu]; rfl)
                clear hu h9 h34 h92 h10 h13
                go_wp2_with (at_builtin; refine wpList_append_lit rfl _ _ rfl w.heap.size wr.heap.size 2 acc [92, 116] (HO.out.none (galloc _ _ none)) rfl rfl (newsL wr [92, 116] _ rfl) (by have : ([92, 116] : List UInt8).length = 2 := rfl; omega) (by have := HG.out.size; simp; omega) ?_; intro v4 w4 hO4 hg4; have HO4 := hid hO4; have HG4 : Hid (w.grownBy w4 none) := hid ((gtrans HG.out (galloc _ _ none)).andThen hg4 (fun j hj => .inl (HO.out.lt j hj).1)); clear hO4 hg4)
                go_roundw
                case rel => exact ⟨k + 1, by go_num, by omega, hid (by rw [HST.out, HE.out]; exact HO4.out), HG4⟩
                case measure => simp [intOf]; omega
              · have hz9 : True := trivial
                by_cases h32 : s[k].toNat < 32
                · as_aux_lemma =>
                  have e34 : ((s[k].toNat : Int) == 34) = false := by rw [beq_eq_false_iff_ne]; omega
                  have e92 : ((s[k].toNat : Int) == 92) = false := by rw [beq_eq_false_iff_ne]; omega
                  have e10 : ((s[k].toNat : Int) == 10) = false := by rw [beq_eq_false_iff_ne]; omega
                  have e13 : ((s[k].toNat : Int) == 13) = false := by rw [beq_eq_false_iff_ne]; omega
                  have e9 : ((s[k].toNat : Int) == 9) = false := by rw [beq_eq_false_iff_ne]; omega
                  have h32i : (s[k].toNat : Int) < 32 := by omega
                  obtain ⟨i1, hi1, li1⟩ : ∃ i1 : Nat, s[k].toNat / 16 = i1 ∧ i1 < 16 := ⟨_, rfl, by omega⟩
                  obtain ⟨i2, hi2, li2⟩ : ∃ i2 : Nat, s[k].toNat % 16 = i2 ∧ i2 < 16 := ⟨_, rfl, by omega⟩
                  have HQ1 : Hid (∀ (x y : Operand) (u : World), (do eqGuard .quo 5 x y (.int .u8 s[k].toNat) (.int .u8 16); binOp .quo 5 (.int .u8 s[k].toNat) (.int .u8 16) : Sem Value).run Tryz.prog u = .ok (.int .u8 (i1 : Nat)) u) := hid (fun x y u => by rw [← hi1]; exact quo16 _ (by omega) x y u)
                  have HQ2 : Hid (∀ (x y : Operand) (u : World), (do eqGuard .rem 5 x y (.int .u8 s[k].toNat) (.int .u8 16); binOp .rem 5 (.int .u8 s[k].toNat) (.int .u8 16) : Sem Value).run Tryz.prog u = .ok (.int .u8 (i2 : Nat)) u) := hid (fun x y u => by rw [← hi2]; exact rem16 _ (by omega) x y u)
                  have HE : Hid (escB s[k] = [92, 117, 48, 48, hexd i1, hexd i2]) := hid (by
                    unfold escB
                    have f34 : ¬ s[k] = 34 := fun h => h34 (by rw [h]; rfl)
                    have f92 : ¬ s[k] = 92 := fun h => h92 (by rw [h]; rfl)
                    have f10 : ¬ s[k] = 10 := fun h => h10 (by rw [h]; rfl)
                    have f13 : ¬ s[k] = 13 := fun h => h13 (by rw [h]; rfl)
                    have f9 : ¬ s[k] = 9 := fun h => h9 (by rw [h]; rfl)
                    rw [if_neg (by rintro (h | h); exact f34 h; exact f92 h), if_neg f10, if_neg f13, if_neg f9, if_pos h32, hi1, hi2])
                  clear hi1 hi2 h32 h34 h92 h10 h13 h9 hz34 hz92 hz10 hz13 hz9
                  go_wp2_with fail
                  obtain ⟨lv, hlv⟩ : ∃ x, u3 = x := ⟨_, rfl⟩
                  rw [hlv] at HO ⊢
                  clear hlv
                  refine wp_region_listN (by kernel_rfl) [fun v _ => v = lv, fun v _ => v = (Value.int .u8 s[k].toNat), fun v _ => v = (Value.int .u8 (i1 : Nat)), fun v _ => v = (Value.int .u8 (hexd i1).toNat), fun v _ => v = (Value.int .u8 s[k].toNat), fun v _ => v = (Value.int .u8 (i2 : Nat)), fun v _ => v = (Value.int .u8 (hexd i2).toNat), fun v u => ∃ bb, v = Value.slice (some ⟨bb, 0, none⟩) 6 6 ∧ u.heap[bb]? = some (.cells (Lib.byteCells [92, 117, 48, 48, hexd i1, hexd i2]).toArray 5 (0, 0))] (none) (fun _ => none) 8 (by kernel_rfl) (by kernel_rfl) (by kernel_rfl) (by kernel_rfl) (by decide) noRow_one (fun _ => .inl rfl) ⟨fun i v u u' hki h hg => h, fun i v u u' hki h hg => h, fun i v u u' hki h hg => h, fun i v u u' hki h hg => h, fun i v u u' hki h hg => h, fun i v u u' hki h hg => h, fun i v u u' hki h hg => h, fun i v u u' hki h hg => (by obtain ⟨bb, e, hb⟩ := h; exact ⟨bb, e, (hg.block bb (Array.getElem?_eq_some_iff.1 hb).1 (by simp)).trans hb⟩), trivial⟩ ⟨?_, ?_, ?_, ?_, ?_, ?_, ?_, ?_, trivial⟩ ?_
                  · intro A u hu hpu hsz hout hdeps
                    have e3 : A.eval (.tmp 3) = lv := (hout 3 (by kernel_rfl)).trans rfl
                    refine ifw_none rfl ?_
                    with_reducible refine shown_q lv ?qq_1_0 (fun _ _ => ?qr_1_0)
                    case qr_1_0 => exact (rfl : lv = lv)
                    with_reducible refine quietAt_mv (.tmp 3) lv ?h0_1_0 ?h1_1_0
                    case h0_1_0 => rfl
                    case h1_1_0 => exact e3
                  · intro A u hu hpu hsz hout hdeps
                    have e5 : A.eval (.tmp 5) = (.int .u8 s[k].toNat) := (hout 5 (by kernel_rfl)).trans rfl
                    refine ifw_none rfl ?_
                    with_reducible refine shown_q (Value.int .u8 s[k].toNat) ?qq_1_1 (fun _ _ => ?qr_1_1)
                    case qr_1_1 => exact (rfl : (Value.int .u8 s[k].toNat) = (Value.int .u8 s[k].toNat))
                    with_reducible refine quietAt_mv (.tmp 5) (Value.int .u8 s[k].toNat) ?h0_1_1 ?h1_1_1
                    case h0_1_1 => rfl
                    case h1_1_1 => exact e5
                  · intro A u hu hpu hsz hout hdeps
                    have e53 : A.eval (.tmp 53) = (.int .u8 s[k].toNat) := by have h := depL hdeps 1 (by kernel_rfl) 53 (by kernel_rfl); exact h
                    refine ifw_none rfl ?_
                    with_reducible refine shown_q (Value.int .u8 (i1 : Nat)) ?qq_1_2 (fun _ _ => ?qr_1_2)
                    case qr_1_2 => exact (rfl : (Value.int .u8 (i1 : Nat)) = (Value.int .u8 (i1 : Nat)))
                    with_reducible refine quietAt_bin .quo 5 (.tmp 53) (.const (.int .u8 16)) 5 (Value.int .u8 s[k].toNat) (Value.int .u8 16) (Value.int .u8 (i1 : Nat)) ?h0_1_2 ?h1_1_2 ?h2_1_2 ?h3_1_2
                    case h0_1_2 => rfl
                    case h1_1_2 => exact e53
                    case h2_1_2 => exact rfl
                    case h3_1_2 => exact HQ1.out _ _ u
                  · intro A u hu hpu hsz hout hdeps
                    have e54 : A.eval (.tmp 54) = (.int .u8 (i1 : Nat)) := by have h := depL hdeps 2 (by kernel_rfl) 54 (by kernel_rfl); exact h
                    refine ifw_none rfl ?_
                    with_reducible refine shown_q (Value.int .u8 (hexd i1).toNat) ?qq_1_3 (fun _ _ => ?qr_1_3)
                    case qr_1_3 => exact (rfl : (Value.int .u8 (hexd i1).toNat) = (Value.int .u8 (hexd i1).toNat))
                    with_reducible refine quietAt_sx 9 (.const (.string { data := #[48, 49, 50, 51, 52, 53, 54, 55, 56, 57, 97, 98, 99, 100, 101, 102] })) (.tmp 54) (Value.string { data := #[48, 49, 50, 51, 52, 53, 54, 55, 56, 57, 97, 98, 99, 100, 101, 102] }) (Value.int .u8 (i1 : Nat)) (Value.int .u8 (hexd i1).toNat) ?h0_1_3 ?h1_1_3 ?h2_1_3 ?h3_1_3
                    case h0_1_3 => rfl
                    case h1_1_3 => exact rfl
                    case h2_1_3 => exact e54
                    case h3_1_3 => exact hexix i1 li1 u
                  · intro A u hu hpu hsz hout hdeps
                    have e5 : A.eval (.tmp 5) = (.int .u8 s[k].toNat) := (hout 5 (by kernel_rfl)).trans rfl
                    refine ifw_none rfl ?_
                    with_reducible refine shown_q (Value.int .u8 s[k].toNat) ?qq_1_4 (fun _ _ => ?qr_1_4)
                    case qr_1_4 => exact (rfl : (Value.int .u8 s[k].toNat) = (Value.int .u8 s[k].toNat))
                    with_reducible refine quietAt_mv (.tmp 5) (Value.int .u8 s[k].toNat) ?h0_1_4 ?h1_1_4
                    case h0_1_4 => rfl
                    case h1_1_4 => exact e5
                  · intro A u hu hpu hsz hout hdeps
                    have e56 : A.eval (.tmp 56) = (.int .u8 s[k].toNat) := by have h := depL hdeps 4 (by kernel_rfl) 56 (by kernel_rfl); exact h
                    refine ifw_none rfl ?_
                    with_reducible refine shown_q (Value.int .u8 (i2 : Nat)) ?qq_1_5 (fun _ _ => ?qr_1_5)
                    case qr_1_5 => exact (rfl : (Value.int .u8 (i2 : Nat)) = (Value.int .u8 (i2 : Nat)))
                    with_reducible refine quietAt_bin .rem 5 (.tmp 56) (.const (.int .u8 16)) 5 (Value.int .u8 s[k].toNat) (Value.int .u8 16) (Value.int .u8 (i2 : Nat)) ?h0_1_5 ?h1_1_5 ?h2_1_5 ?h3_1_5
                    case h0_1_5 => rfl
                    case h1_1_5 => exact e56
                    case h2_1_5 => exact rfl
                    case h3_1_5 => exact HQ2.out _ _ u
                  · intro A u hu hpu hsz hout hdeps
                    have e57 : A.eval (.tmp 57) = (.int .u8 (i2 : Nat)) := by have h := depL hdeps 5 (by kernel_rfl) 57 (by kernel_rfl); exact h
                    refine ifw_none rfl ?_
                    with_reducible refine shown_q (Value.int .u8 (hexd i2).toNat) ?qq_1_6 (fun _ _ => ?qr_1_6)
                    case qr_1_6 => exact (rfl : (Value.int .u8 (hexd i2).toNat) = (Value.int .u8 (hexd i2).toNat))
                    with_reducible refine quietAt_sx 9 (.const (.string { data := #[48, 49, 50, 51, 52, 53, 54, 55, 56, 57, 97, 98, 99, 100, 101, 102] })) (.tmp 57) (Value.string { data := #[48, 49, 50, 51, 52, 53, 54, 55, 56, 57, 97, 98, 99, 100, 101, 102] }) (Value.int .u8 (i2 : Nat)) (Value.int .u8 (hexd i2).toNat) ?h0_1_6 ?h1_1_6 ?h2_1_6 ?h3_1_6
                    case h0_1_6 => rfl
                    case h1_1_6 => exact rfl
                    case h2_1_6 => exact e57
                    case h3_1_6 => exact hexix i2 li2 u
                  · intro A u hu hpu hsz hout hdeps
                    have e55 : A.eval (.tmp 55) = (.int .u8 (hexd i1).toNat) := by have h := depL hdeps 3 (by kernel_rfl) 55 (by kernel_rfl); exact h
                    have e58 : A.eval (.tmp 58) = (.int .u8 (hexd i2).toNat) := by have h := depL hdeps 6 (by kernel_rfl) 58 (by kernel_rfl); exact h
                    refine ifw_none rfl ?_
                    exact shown_b6 (.tmp 55) (.tmp 58) rfl (hexd i1) (hexd i2) e55 e58 (fun w' h hg => ⟨u.heap.size, rfl, h⟩)
                  · intro A u8 listed hh hall
                    have hA := hh.frame
                    have HU := hid hh.grown
                    obtain ⟨x52, hx52⟩ : ∃ x, A.eval (.tmp 52) = x := ⟨_, rfl⟩
                    have f52 : (fun v _ => v = lv) x52 u8 := by rw [← hx52]; exact hh.got 0 _ 52 rfl rfl (hall 0 (by decide))
                    obtain ⟨x53, hx53⟩ : ∃ x, A.eval (.tmp 53) = x := ⟨_, rfl⟩
                    have f53 : (fun v _ => v = (Value.int .u8 s[k].toNat)) x53 u8 := by rw [← hx53]; exact hh.got 1 _ 53 rfl rfl (hall 1 (by decide))
                    obtain ⟨x54, hx54⟩ : ∃ x, A.eval (.tmp 54) = x := ⟨_, rfl⟩
                    have f54 : (fun v _ => v = (Value.int .u8 (i1 : Nat))) x54 u8 := by rw [← hx54]; exact hh.got 2 _ 54 rfl rfl (hall 2 (by decide))
                    obtain ⟨x55, hx55⟩ : ∃ x, A.eval (.tmp 55) = x := ⟨_, rfl⟩
                    have f55 : (fun v _ => v = (Value.int .u8 (hexd i1).toNat)) x55 u8 := by rw [← hx55]; exact hh.got 3 _ 55 rfl rfl (hall 3 (by decide))
                    obtain ⟨x56, hx56⟩ : ∃ x, A.eval (.tmp 56) = x := ⟨_, rfl⟩
                    have f56 : (fun v _ => v = (Value.int .u8 s[k].toNat)) x56 u8 := by rw [← hx56]; exact hh.got 4 _ 56 rfl rfl (hall 4 (by decide))
                    obtain ⟨x57, hx57⟩ : ∃ x, A.eval (.tmp 57) = x := ⟨_, rfl⟩
                    have f57 : (fun v _ => v = (Value.int .u8 (i2 : Nat))) x57 u8 := by rw [← hx57]; exact hh.got 5 _ 57 rfl rfl (hall 5 (by decide))
                    obtain ⟨x58, hx58⟩ : ∃ x, A.eval (.tmp 58) = x := ⟨_, rfl⟩
                    have f58 : (fun v _ => v = (Value.int .u8 (hexd i2).toNat)) x58 u8 := by rw [← hx58]; exact hh.got 6 _ 58 rfl rfl (hall 6 (by decide))
                    obtain ⟨x59, hx59⟩ : ∃ x, A.eval (.tmp 59) = x := ⟨_, rfl⟩
                    have f59 : (fun v u => ∃ bb, v = Value.slice (some ⟨bb, 0, none⟩) 6 6 ∧ u.heap[bb]? = some (.cells (Lib.byteCells [92, 117, 48, 48, hexd i1, hexd i2]).toArray 5 (0, 0))) x59 u8 := by rw [← hx59]; exact hh.got 7 _ 59 rfl rfl (hall 7 (by decide))
                    obtain ⟨x60, hx60⟩ : ∃ x, A.eval (.tmp 60) = x := ⟨_, rfl⟩
                    obtain ⟨x3, hx3⟩ : ∃ x, A.eval (.tmp 3) = x := ⟨_, rfl⟩
                    dsimp only [wrote, List.foldl] at hA
                    rw [hx52, hx53, hx54, hx55, hx56, hx57, hx58, hx59, hx60, hx3] at hA
                    clear hh hall hx52 hx53 hx54 hx55 hx56 hx57 hx58 hx59 hx60 hx3
                    replace f52 := (f52 : x52 = lv)
                    subst f52
                    replace f53 := (f53 : x53 = (.int .u8 s[k].toNat))
                    subst f53
                    replace f54 := (f54 : x54 = (.int .u8 (i1 : Nat)))
                    subst f54
                    replace f55 := (f55 : x55 = (.int .u8 (hexd i1).toNat))
                    subst f55
                    replace f56 := (f56 : x56 = (.int .u8 s[k].toNat))
                    subst f56
                    replace f57 := (f57 : x57 = (.int .u8 (i2 : Nat)))
                    subst f57
                    replace f58 := (f58 : x58 = (.int .u8 (hexd i2).toNat))
                    subst f58
                    obtain ⟨b9, e59, hb9⟩ := f59
                    subst e59
                    subst hA
                    show wpList _ _ _ [_, _] _ _
                    simp only [Act.put, List.setIfInBounds_toArray, List.set_cons_succ, List.set_cons_zero]
                    have HB9 := hid hb9
                    clear hb9
                    at_builtin
                    refine wpList_append_lit rfl _ _ rfl w.heap.size b9 6 acc [92, 117, 48, 48, hexd i1, hexd i2] (HO.out.none HU.out) rfl rfl (World.news_of_block (B := b9) (cs := (Lib.byteCells [92, 117, 48, 48, hexd i1, hexd i2]).toArray) (t := 5) (fr := (0, 0)) HB9.out) (by have : ([92, 117, 48, 48, hexd i1, hexd i2] : List UInt8).length = 6 := rfl; omega) (by have := HG.out.size; have := HU.out.size; omega) ?_
                    intro v4 w4 hO4 hg4
                    have HO4 := hid hO4
                    have HG4 : Hid (w.grownBy w4 none) := hid ((gtrans HG.out HU.out).andThen hg4 (fun j hj => .inl (HO.out.lt j hj).1))
                    clear hO4 hg4
                    go_wp2_with fail
                    go_roundw
                    case rel => exact ⟨k + 1, by go_num, by omega, hid (by rw [HST.out, HE.out]; exact HO4.out), HG4⟩
                    case measure => simp [intOf]; omega
                · as_aux_lemma =>
                  have e34 : ((s[k].toNat : Int) == 34) = false := by rw [beq_eq_false_iff_ne]; omega
                  have e92 : ((s[k].toNat : Int) == 92) = false := by rw [beq_eq_false_iff_ne]; omega
                  have e10 : ((s[k].toNat : Int) == 10) = false := by rw [beq_eq_false_iff_ne]; omega
                  have e13 : ((s[k].toNat : Int) == 13) = false := by rw [beq_eq_false_iff_ne]; omega
                  have e9 : ((s[k].toNat : Int) == 9) = false := by rw [beq_eq_false_iff_ne]; omega
                  have h32i : ¬ (s[k].toNat : Int) < 32 := by omega
                  have HE : Hid (escB s[k] = [s[k]]) := hid (by
                    unfold escB
                    have f34 : ¬ s[k] = 34 := fun h => h34 (by rw [h]; rfl)
                    have f92 : ¬ s[k] = 92 := fun h => h92 (by rw [h]; rfl)
                    have f10 : ¬ s[k] = 10 := fun h => h10 (by rw [h]; rfl)
                    have f13 : ¬ s[k] = 13 := fun h => h13 (by rw [h]; rfl)
                    have f9 : ¬ s[k] = 9 := fun h => h9 (by rw [h]; rfl)
                    rw [if_neg (by rintro (h | h); exact f34 h; exact f92 h), if_neg f10, if_neg f13, if_neg f9, if_neg h32])
                  clear h32 h34 h92 h10 h13 h9 hz34 hz92 hz10 hz13 hz9
                  go_wp2_with (at_builtin; refine wpList_append_lit rfl _ _ rfl w.heap.size wr.heap.size 1 acc [s[k]] (HO.out.none (galloc _ _ none)) rfl rfl (newsL wr [s[k]] _ rfl) (by have : ([s[k]] : List UInt8).length = 1 := rfl; omega) (by have := HG.out.size; simp; omega) ?_; intro v4 w4 hO4 hg4; have HO4 := hid hO4; have HG4 : Hid (w.grownBy w4 none) := hid ((gtrans HG.out (galloc _ _ none)).andThen hg4 (fun j hj => .inl (HO.out.lt j hj).1)); clear hO4 hg4)
                  go_roundw
                  case rel => exact ⟨k + 1, by go_num, by omega, hid (by rw [HST.out, HE.out]; exact HO4.out), HG4⟩
                  case measure => simp [intOf]; omega
    · as_aux_lemma =>
      have hlti : ¬ (k : Int) < (s.size : Int) := by omega
      have HQ : Hid (str (acc ++ [34]) = str (quo s.data.toList)) := hid (by rw [← Hacc.out, HQt.out k (by omega)])
      rw [Hacc.out] at HO hll
      rw [HR.out] at HQ
      clear HQt
      go_wp2_with (at_builtin; refine wpList_append_lit rfl _ _ rfl w.heap.size wr.heap.size 1 acc [34] (HO.out.none (galloc _ _ none)) rfl rfl (newsL wr [34] _ rfl) (by have : ([34] : List UInt8).length = 1 := rfl; omega) (by have := HG.out.size; simp; omega) ?_; intro v4 w4 hO4 hg4; have hcv := hO4.convert; rw [HQ.out] at hcv; have HG4 : Hid (w.grownBy w4 none) := hid ((gtrans HG.out (galloc _ _ none)).andThen hg4 (fun j hj => .inl (HO.out.lt j hj).1)); clear hO4 hg4)
      go_ret
      exact ⟨rfl, HG4.out⟩
end Go.Proofs.YtdmnhkgiojkphaaGreatDoor
