/- blanks, blanked: walked. -/
import Derived.Test.YtdmnhkgiojkphaaGreatDoorWalkZ
import Derived.Test.YtdmnhkgiojkphaaGreatDoorTreeB
import Derived.Laws.Bits128
import Derived.Laws.AppendOwnNone
import Derived.Deep.CutRange
import Derived.Deep.CutBlock
namespace Go.Proofs.YtdmnhkgiojkphaaGreatDoor
open Go Go.RowKit
open Go.RowKit (wrap32 wrap64)

theorem i64_and3 (n : Int) : bits .and .i64 n 3 = n % 4 := by
  have h3 : (BitVec.ofInt 64 3).toNat = 2 ^ 2 - 1 := by decide
  have key : (BitVec.ofInt 64 n &&& BitVec.ofInt 64 3).toNat = (n % ((2 ^ 64 : Nat) : Int)).toNat % 2 ^ 2 := by
    rw [BitVec.toNat_and, BitVec.toNat_ofInt, h3, Nat.and_two_pow_sub_one_eq_mod]
  show IntKind.i64.wrap ((BitVec.ofInt 64 n &&& BitVec.ofInt 64 3).toNat : Nat) = n % 4
  rw [key, IntKind.wrap_i64]
  omega
def two2 (n j : Nat) : Nat := n / 2 ^ j % 4
theorem two2_lt (n j : Nat) : two2 n j < 4 := Nat.mod_lt _ (by decide)
theorem and3 (n j : Nat) : bits .and .i64 ((n : Int) / 2 ^ j) 3 = (two2 n j : Int) := by
  rw [i64_and3]
  unfold two2
  push_cast
  rfl
def allB : ByteArray := ⟨#[32, 9, 13, 10]⟩
theorem allB_at (j : Nat) (h : j < 4) : isBlank (allB[j]'h) = true := by
  have : ∀ k : Fin 4, isBlank (allB[k.val]'k.isLt) = true := by decide
  exact this ⟨j, h⟩
def bnkB (n i k : Nat) : UInt8 := allB[two2 n (k + i % 17)]'(two2_lt _ _)
def bnk (n i : Nat) : List UInt8 := (List.range (two2 n (i % 20))).map (bnkB n i)
theorem bnk_bl (n i : Nat) : Bl (bnk n i) := fun c h => by
  obtain ⟨k, _, rfl⟩ := List.mem_map.1 h
  exact allB_at _ _
theorem bnk_length (n i : Nat) : (bnk n i).length = two2 n (i % 20) := by simp [bnk]
theorem bnk_le (n i : Nat) : (bnk n i).length ≤ 3 := by
  have := two2_lt n (i % 20)
  rw [bnk_length]; omega
theorem bnk_step (n i k : Nat) : (List.range (k + 1)).map (bnkB n i) = (List.range k).map (bnkB n i) ++ [bnkB n i k] := by
  rw [List.range_succ, List.map_append]; rfl

/-- append of bytes that stand in a row of their own onto such a row. -/
theorem wpList_append_out {w : World} {ops : Array Oper} {rest : List Oper} {o : Oper} {a : Act} {Q : Exit → Act → World → Prop} (hgd : o.guard = none) (s x : Operand)
    (ho : o.op = .call { callee := .builtin .append, args := #[s, x], argTypes := #[84, 84] })
    (B C : Nat) (acc l : List UInt8) (hown : Out B w (a.eval s) acc) (hx : Out C w (a.eval x) l) (hn : acc.length + l.length ≤ 35184372088832) (hB : B ≤ w.heap.size)
    (h : ∀ v' w', Out B w' v' (acc ++ l) → w.grownBy w' (a.eval s).ownBlock → wpList Tryz.prog ops Q rest (a.put o.dst v') w') : wpList Tryz.prog ops Q (o :: rest) a w := by
  obtain ⟨inf, hi, hz0, hz1, hz2⟩ := info_parts Tryz.info5
  have hcl := fun (g : Nat) (hg : (a.eval x).ownBlock = some g) => hx.cells (g := g) hg
  rcases hx.2 with ⟨e, h0⟩ | ⟨g, cap, cur, e, _, hgg, hle, _, hs, _⟩
  · have hl : l = [] := List.eq_nil_of_length_eq_zero h0
    subst hl
    refine wpList_append_own_none hgd s x 84 ho B 5 inf 1 Tryz.underlying84 hi _ _ _ rfl hown e ?_
    exact h _ w (by rw [List.append_nil]; exact hown) (World.grownBy.refl _ _)
  · refine wpList_append_own w hgd s x 84 ho B 5 inf (.int .u8 0) 1 1 Tryz.underlying84 hi hz0 hz1 hz2 rfl (by decide) _ _ _ rfl hown ⟨g, 0, none⟩ l.length cap (Lib.byteCells l) e (by simp [Lib.byteCells]) ?_ ?_ (by unfold maxLen; omega) (by omega) hB ?_
    · intro j u hu
      exact hcl g (by rw [e]; rfl) j u hu
    · intro u hu
      unfold Lib.byteCells at hu
      obtain ⟨_, _, rfl⟩ := List.mem_map.1 hu
      rfl
    · intro v' w' h1 h2 _
      exact h v' w' (Out.more h1 rfl rfl) h2
/-- append of one byte. -/
theorem wpList_append_byte {w : World} {ops : Array Oper} {rest : List Oper} {o : Oper} {a : Act} {Q : Exit → Act → World → Prop} (hgd : o.guard = none) (s x : Operand)
    (ho : o.op = .call { callee := .builtin .append, args := #[s, x], argTypes := #[84, 84] })
    (B L : Nat) (acc : List UInt8) (c : UInt8) (hown : Out B w (a.eval s) acc) (hx : a.eval x = .slice (some ⟨L, 0, none⟩) 1 1) (hL : w.heap[L]? = some (.cells #[.int .u8 c.toNat] 5 (0, 0))) (hn : acc.length + 1 ≤ 35184372088832) (hB : B ≤ w.heap.size)
    (h : ∀ v' w', Out B w' v' (acc ++ [c]) → w.grownBy w' (a.eval s).ownBlock → wpList Tryz.prog ops Q rest (a.put o.dst v') w') : wpList Tryz.prog ops Q (o :: rest) a w := by
  refine wpList_append_out hgd s x ho B 0 acc [c] hown ?_ hn hB h
  rw [hx]
  exact ⟨rfl, .inr ⟨L, 1, _, rfl, Nat.zero_le _, hL, Nat.le_refl _, by decide, rfl, rfl⟩⟩
theorem Out.block {B : Nat} {w : World} {v : Value} {l : List UInt8} (h : Out B w v l) : ∀ j, v.ownBlock = some j → B ≤ j := by
  intro j hj
  rcases h.2 with ⟨rfl, _⟩ | ⟨g, cap, cur, rfl, hb, _⟩
  · simp [Value.ownBlock] at hj
  · simp [Value.ownBlock] at hj
    omega
theorem litL (w : World) (c : Value) : (w.alloc (.cells #[c] 5)).heap[w.heap.size]? = some (.cells #[c] 5 (0, 0)) := by
  show (w.heap.push _)[w.heap.size]? = _
  simp

set_option maxRecDepth 100000 in
set_option maxHeartbeats 1000000 in
theorem blanks_any (n i : Nat) (hi : i ≤ 17592186044416) (w : World) :
    Calls Tryz.prog 66 #[.int .i64 n, .int .i64 i] w fun e w' => ∃ v, e = .returned v ∧ Out w.heap.size w' v (bnk n i) ∧ w.grownBy w' none := by
  have r20 : (i : Int).tmod 20 = ((i % 20 : Nat) : Int) := by rw [Int.tmod_eq_emod_of_nonneg (by omega)]; omega
  have r17 : (i : Int).tmod 17 = ((i % 17 : Nat) : Int) := by rw [Int.tmod_eq_emod_of_nonneg (by omega)]; omega
  obtain ⟨R, HR⟩ : ∃ R, Hid (i % 20 = R) := ⟨_, hid rfl⟩
  obtain ⟨S, HS⟩ : ∃ R, Hid (i % 17 = R) := ⟨_, hid rfl⟩
  have hR : R < 20 := by have := HR.out; omega
  have hS : S < 17 := by have := HS.out; omega
  rw [HR.out] at r20
  rw [HS.out] at r17
  obtain ⟨C, HC⟩ : ∃ C, Hid (two2 n R = C) := ⟨_, hid rfl⟩
  have hC : C < 4 := by have := two2_lt n R; have := HC.out; omega
  have a3 := and3 n R
  rw [HC.out] at a3
  have HL : Hid (bnk n i = (List.range C).map (bnkB n i)) := by unfold bnk; rw [HR.out, HC.out]; exact rfl
  have uR : IntKind.u64.wrap (R : Int) = (R : Int) := by rw [IntKind.wrap_u64]; omega
  go_enter Tryz.func66, Tryz.ntmps66
  go_wp2_with fail
  go_loopw [6, 7] (fun v kv wr => ∃ k : Nat, kv = .int .i64 k ∧ k ≤ C ∧ Hid (w.grownBy wr none) ∧ Hid (Out w.heap.size wr v ((List.range k).map (bnkB n i)))) (fun _ kv _ => C - (intOf kv).toNat)
  case atStart => exact ⟨0, rfl, Nat.zero_le _, grefl _ _, World.ownsRow_nil _ _ _ _⟩
  case round =>
    obtain ⟨k, rfl, hk, HG, HO⟩ := hrel
    by_cases hlt : k < C
    · have hd : decide ((k : Int) < (C : Int)) = true := decide_eq_true (by omega)
      have a4 := and3 n (k + S)
      obtain ⟨J, HJ⟩ : ∃ J, Hid (two2 n (k + S) = J) := ⟨_, hid rfl⟩
      have hJ : J < 4 := by have := two2_lt n (k + S); have := HJ.out; omega
      have hJi : (J : Int) < 4 := by omega
      rw [HJ.out] at a4
      have tn : ((k : Int) + (S : Int)).toNat = k + S := by omega
      have uS : IntKind.u64.wrap ((k : Int) + (S : Int)) = (k : Int) + (S : Int) := by rw [IntKind.wrap_u64]; omega
      have HB : Hid (bnkB n i k = allB[J]'hJ) := by unfold bnkB; simp only [HS.out, HJ.out]; exact rfl
      have hz := HG.out.size
      have hal : ∀ h, (⟨#[32, 9, 13, 10]⟩ : ByteArray)[J]'h = allB[J]'hJ := fun _ => rfl
      go_wp2_with (at_builtin; refine wpList_append_byte rfl _ _ rfl w.heap.size wr.heap.size _ (allB[J]'hJ) (HO.out.none (galloc wr _ none)) rfl (litL wr _) (by simp; omega) (by simp; omega) ?_; intro v2 w2 hO2 hg2)
      refine ⟨⟨k + 1, rfl, by omega, hid (((HG.out.andThen (galloc wr _ none) (fun j hj => by cases hj))).andThen hg2 (fun j hj => .inl (HO.out.block j hj))), ?_⟩, by simp only [intOf]; omega⟩
      rw [bnk_step, HB.out]
      exact hid hO2
    · have hd : decide ((k : Int) < (C : Int)) = false := decide_eq_false (by omega)
      have hkC : k = C := by omega
      have HK := hid hkC
      clear hkC
      go_wp2_with fail
      go_ret
      exact ⟨_, rfl, by rw [HL.out, ← HK.out]; exact HO.out, HG.out⟩

theorem finS_two (l : List UInt8) (h : finS 2 l = 0) : l ≠ [] := fun e => by rw [e] at h; cases h
theorem blk_esc (B : Nat → List UInt8) (i : Nat) (d : UInt8) (r : List UInt8) : blk B 1 i (92 :: d :: r) = [92] ++ [d] ++ blk B 1 (i + 2) r ∧ finS 1 (92 :: d :: r) = finS 1 r := by
  have n1 : nextS 1 92 = 2 := rfl
  have n2 : nextS 2 d = 1 := rfl
  constructor
  · rw [blk, n1, blk, n2, if_neg (fun h => by cases h.1), if_neg (fun h => by cases h.1)]; rfl
  · rw [finS, n1, finS, n2]
theorem blk_in (B : Nat → List UInt8) (i : Nat) (c : UInt8) (r : List UInt8) (h : c ≠ 92) : blk B 1 i (c :: r) = [c] ++ blk B (if c = 34 then 0 else 1) (i + 1) r ∧ finS 1 (c :: r) = finS (if c = 34 then 0 else 1) r := by
  have n1 : nextS 1 c = if c = 34 then 0 else 1 := by unfold nextS; rw [if_neg (by decide), if_pos rfl, if_neg h]
  constructor
  · rw [blk, n1, if_neg (fun h => by cases h.1)]
  · rw [finS, n1]
theorem blk_out (B : Nat → List UInt8) (i : Nat) (c : UInt8) (r : List UInt8) (h : isMark c = false) : blk B 0 i (c :: r) = [c] ++ blk B (if c = 34 then 1 else 0) (i + 1) r ∧ finS 0 (c :: r) = finS (if c = 34 then 1 else 0) r := by
  have n1 : nextS 0 c = if c = 34 then 1 else 0 := by unfold nextS; rw [if_neg (by decide), if_neg (by decide)]
  constructor
  · rw [blk, n1, if_neg (fun h' => by rw [h] at h'; cases h'.2)]
  · rw [finS, n1]
theorem isMark_cases (c : UInt8) (h : isMark c = true) : c = 91 ∨ c = 93 ∨ c = 123 ∨ c = 125 ∨ c = 44 ∨ c = 58 := by
  unfold isMark at h
  simp only [Bool.or_eq_true, beq_iff_eq] at h
  rcases h with ((((h | h) | h) | h) | h) | h <;> simp [h]
theorem byte_ne {c k : UInt8} (h : c ≠ k) : ((c.toNat : Int) == (k.toNat : Int)) = false ∧ (c.toNat == k.toNat) = false :=
  ⟨beq_eq_false_iff_ne.2 (fun e => h (UInt8.toNat_inj.1 (by omega))), beq_eq_false_iff_ne.2 (fun e => h (UInt8.toNat_inj.1 e))⟩

set_option maxRecDepth 100000 in
set_option maxHeartbeats 4000000 in
theorem blanked_any (n : Nat) (s : ByteArray) (hs : s.size ≤ 1099511627776) (hf : finS 0 s.data.toList = 0) (w : World) :
    Calls Tryz.prog 34 #[.string s, .int .i64 n] w fun e w' => e = .returned (.string (str (blk (bnk n) 0 0 s.data.toList))) ∧ w.grownBy w' none := by
  obtain ⟨R, HR⟩ : ∃ R, Hid (blk (bnk n) 0 0 s.data.toList = R) := ⟨_, hid rfl⟩
  rw [HR.out]
  have HF := hid hf
  clear hf
  go_enter Tryz.func34, Tryz.ntmps34
  go_wp2_with fail
  go_loopw [5, 6, 7] (fun ov nv iv wr => ∃ (i : Nat) (b : Bool) (acc : List UInt8), iv = .int .i64 i ∧ nv = .bool b ∧ i ≤ s.size ∧ acc.length ≤ 7 * i ∧ Hid (w.grownBy wr none) ∧ Hid (Out w.heap.size wr ov acc) ∧ Hid (R = acc ++ blk (bnk n) b.toNat i (from_ s i)) ∧ Hid (finS b.toNat (from_ s i) = 0)) (fun _ _ iv _ => s.size - (intOf iv).toNat)
  case atStart => exact ⟨0, false, [], rfl, rfl, Nat.zero_le _, Nat.le_refl _, grefl _ _, World.ownsRow_nil _ _ _ _, hid (by rw [from_zeroR, List.nil_append]; exact HR.out.symm), hid (by rw [from_zeroR]; exact HF.out)⟩
  case round =>
    obtain ⟨i, b, acc, rfl, rfl, hi, hal, HG, HO, HB, HN⟩ := hrel
    have hz := HG.out.size
    by_cases hlt : i < s.size
    · have hd : decide ((i : Int) < (s.size : Int)) = true := decide_eq_true (by omega)
      have q1 : (i : Int) < (s.size : Int) := by omega
      have hfr := from_lt s i hlt
      obtain ⟨c, hc⟩ : ∃ c, s[i] = c := ⟨_, rfl⟩
      rw [hc] at hfr
      have HFR := hid hfr
      rw [hfr] at HB HN
      clear hfr
      have hcb := u8_bd c
      cases b with
      | true =>
        by_cases h92 : c = 92
        · subst h92
          obtain ⟨d, r, hdr⟩ : ∃ d r, from_ s (i + 1) = d :: r := List.exists_cons_of_ne_nil (finS_two _ HN.out)
          have hlt2 : i + 1 < s.size := by
            have := from_length s (i + 1)
            rw [hdr] at this
            simp at this
            omega
          have hfr2 := from_lt s (i + 1) hlt2
          obtain ⟨d, hdd⟩ : ∃ d, s[i + 1] = d := ⟨_, rfl⟩
          rw [hdd] at hfr2
          rw [hfr2, show i + 1 + 1 = i + 2 by omega] at HB HN
          have HST := hid (blk_esc (bnk n) i d (from_ s (i + 2)))
          clear hdr hfr2
          have q3 : (i : Int) + 1 < (s.size : Int) := by omega
          have q4 : ((i : Int) + 1).toNat = i + 1 := by omega
          have q5 : ¬ ((i : Int) + 1 < 0) := by omega
          have hdb := u8_bd d
          have hal2 : (acc ++ [92]).length ≤ 7 * i + 1 := by simp; omega
          go_wp2_with (first
            | (at_builtin; refine wpList_append_byte rfl _ _ rfl w.heap.size wr.heap.size _ 92 (HO.out.none (galloc wr _ none)) rfl (litL wr _) (by omega) (by simp; omega) ?_; intro v2 w2 hO2 hg2; have HG2 := hid (((HG.out.andThen (galloc wr _ none) (fun j hj => by cases hj))).andThen hg2 (fun j hj => .inl (HO.out.block j hj))); have HO2 := hid hO2; have hz3 := HG2.out.size; clear hO2 hg2)
            | (at_builtin; refine wpList_append_byte rfl _ _ rfl w.heap.size w2.heap.size _ d (HO2.out.none (galloc w2 _ none)) rfl (litL w2 _) (by omega) (by simp; omega) ?_; intro v3 w3 hO3 hg3; have HG3 := hid (((HG2.out.andThen (galloc w2 _ none) (fun j hj => by cases hj))).andThen hg3 (fun j hj => .inl (HO2.out.block j hj))); have HO3 := hid hO3; clear hO3 hg3))
          refine ⟨⟨i + 2, true, acc ++ [92] ++ [d], by first | rfl | (simp only [Nat.cast_add, Nat.cast_ofNat]; congr 1), rfl, by omega, by simp; omega, HG3, HO3, ?_, ?_⟩, by simp only [intOf]; omega⟩
          · refine hid ?_
            have h1 := HB.out
            rw [show Bool.toNat true = 1 from rfl] at h1 ⊢
            rw [h1, HST.out.1]
            simp
          · refine hid ?_
            have h1 := HN.out
            rw [show Bool.toNat true = 1 from rfl] at h1 ⊢
            rw [← HST.out.2]
            exact h1
        · obtain ⟨e1, e1n⟩ := byte_ne h92
          change ((c.toNat : Int) == 92) = false at e1
          change (c.toNat == 92) = false at e1n
          have HST := hid (blk_in (bnk n) i c (from_ s (i + 1)) h92)
          have H92 := hid h92
          clear h92
          by_cases h34 : c = 34
          · have e2 : ((c.toNat : Int) != 34) = false := by rw [h34]; rfl
            have e2n : (c.toNat != 34) = false := by rw [h34]; rfl
            have H34 := hid h34
            clear h34
            go_wp2_with (at_builtin; refine wpList_append_byte rfl _ _ rfl w.heap.size wr.heap.size _ c (HO.out.none (galloc wr _ none)) rfl (litL wr _) (by omega) (by simp; omega) ?_; intro v2 w2 hO2 hg2)
            refine ⟨⟨i + 1, false, acc ++ [c], rfl, rfl, by omega, by simp; omega, hid (((HG.out.andThen (galloc wr _ none) (fun j hj => by cases hj))).andThen hg2 (fun j hj => .inl (HO.out.block j hj))), hid hO2, ?_, ?_⟩, by simp only [intOf]; omega⟩
            · refine hid ?_
              have h1 := HB.out
              rw [show Bool.toNat true = 1 from rfl, HST.out.1, if_pos H34.out] at h1
              rw [h1]; simp
            · refine hid ?_
              have h1 := HN.out
              rw [show Bool.toNat true = 1 from rfl, HST.out.2, if_pos H34.out] at h1
              exact h1
          · have e2 : ((c.toNat : Int) != 34) = true := by rw [bne, show ((c.toNat : Int) == 34) = false from (byte_ne (k := 34) h34).1]; rfl
            have e2n : (c.toNat != 34) = true := by rw [bne, show (c.toNat == 34) = false from (byte_ne (k := 34) h34).2]; rfl
            have H34 := hid h34
            clear h34
            go_wp2_with (at_builtin; refine wpList_append_byte rfl _ _ rfl w.heap.size wr.heap.size _ c (HO.out.none (galloc wr _ none)) rfl (litL wr _) (by omega) (by simp; omega) ?_; intro v2 w2 hO2 hg2)
            refine ⟨⟨i + 1, true, acc ++ [c], rfl, rfl, by omega, by simp; omega, hid (((HG.out.andThen (galloc wr _ none) (fun j hj => by cases hj))).andThen hg2 (fun j hj => .inl (HO.out.block j hj))), hid hO2, ?_, ?_⟩, by simp only [intOf]; omega⟩
            · refine hid ?_
              have h1 := HB.out
              rw [show Bool.toNat true = 1 from rfl, HST.out.1, if_neg H34.out] at h1
              rw [h1]; simp
            · refine hid ?_
              have h1 := HN.out
              rw [show Bool.toNat true = 1 from rfl, HST.out.2, if_neg H34.out] at h1
              exact h1
      | false =>
        by_cases hm : isMark c = true
        · have HST := hid (mark_scan (bnk n) c i (from_ s (i + 1)) hm (fun h => by rw [h] at hm; revert hm; decide))
          have HBl : Hid (∀ u : World, Calls Tryz.prog 66 #[.int .i64 n, .int .i64 ((i : Int) + 1)] u fun e w' => ∃ v, e = .returned v ∧ Out u.heap.size w' v (bnk n (i + 1)) ∧ u.grownBy w' none) := fun u => by
            have := blanks_any n (i + 1) (by omega) u
            rw [show ((i + 1 : Nat) : Int) = (i : Int) + 1 by omega] at this
            exact this
          have HB1 : Hid (∀ u : World, Calls Tryz.prog 66 #[.int .i64 n, .int .i64 (i : Int)] u fun e w' => ∃ v, e = .returned v ∧ Out u.heap.size w' v (bnk n i) ∧ u.grownBy w' none) := fun u => blanks_any n i (by omega) u
          have hl1 := bnk_le n i
          have hl2 := bnk_le n (i + 1)
          have HM := hid (isMark_cases c hm)
          clear hm
          have hmk : (((c.toNat : Int) == 91) = true ∧ (c.toNat == 91) = true) ∨ (((c.toNat : Int) == 91) = false ∧ (c.toNat == 91) = false ∧ ((c.toNat : Int) == 93) = true ∧ (c.toNat == 93) = true) ∨ (((c.toNat : Int) == 91) = false ∧ (c.toNat == 91) = false ∧ ((c.toNat : Int) == 93) = false ∧ (c.toNat == 93) = false ∧ ((c.toNat : Int) == 123) = true ∧ (c.toNat == 123) = true) ∨ (((c.toNat : Int) == 91) = false ∧ (c.toNat == 91) = false ∧ ((c.toNat : Int) == 93) = false ∧ (c.toNat == 93) = false ∧ ((c.toNat : Int) == 123) = false ∧ (c.toNat == 123) = false ∧ ((c.toNat : Int) == 125) = true ∧ (c.toNat == 125) = true) ∨ (((c.toNat : Int) == 91) = false ∧ (c.toNat == 91) = false ∧ ((c.toNat : Int) == 93) = false ∧ (c.toNat == 93) = false ∧ ((c.toNat : Int) == 123) = false ∧ (c.toNat == 123) = false ∧ ((c.toNat : Int) == 125) = false ∧ (c.toNat == 125) = false ∧ ((c.toNat : Int) == 44) = true ∧ (c.toNat == 44) = true) ∨ (((c.toNat : Int) == 91) = false ∧ (c.toNat == 91) = false ∧ ((c.toNat : Int) == 93) = false ∧ (c.toNat == 93) = false ∧ ((c.toNat : Int) == 123) = false ∧ (c.toNat == 123) = false ∧ ((c.toNat : Int) == 125) = false ∧ (c.toNat == 125) = false ∧ ((c.toNat : Int) == 44) = false ∧ (c.toNat == 44) = false ∧ ((c.toNat : Int) == 58) = true ∧ (c.toNat == 58) = true) := by
            rcases HM.out with h | h | h | h | h | h <;> subst h
            · exact .inl (by decide)
            · exact .inr (.inl (by decide))
            · exact .inr (.inr (.inl (by decide)))
            · exact .inr (.inr (.inr (.inl (by decide))))
            · exact .inr (.inr (.inr (.inr (.inl (by decide)))))
            · exact .inr (.inr (.inr (.inr (.inr (by decide)))))
          go_upto_region 13 with fail
          go_cut [56] from 9 to 77 (fun p wc => p = .bool true ∧ wr = wc)
          case first =>
            rcases hmk with ⟨m1, m2⟩ | ⟨m1, m2, m3, m4⟩ | ⟨m1, m2, m3, m4, m5, m6⟩ | ⟨m1, m2, m3, m4, m5, m6, m7, m8⟩ | ⟨m1, m2, m3, m4, m5, m6, m7, m8, m9, m10⟩ | ⟨m1, m2, m3, m4, m5, m6, m7, m8, m9, m10, m11, m12⟩
            all_goals
              go_wp2_with fail
              go_meet
              exact ⟨rfl, rfl⟩
          case rest =>
            obtain ⟨rfl, rfl⟩ := hcut
            go_wp2_with (first
              | (go_at_call 66; with_reducible refine (HB1.out _).mono ?_; rintro e w2 ⟨bv, rfl, hb2, hg2⟩; have HB2 := hid hb2; have HO2 := hid (HO.out.none hg2); have HG2 := hid (gtrans HG.out hg2); have hz2 := HG2.out.size; clear hb2 hg2)
              | (at_builtin; refine wpList_append_out rfl _ _ rfl w.heap.size wr.heap.size _ _ HO2.out HB2.out (by omega) (by omega) ?_; intro v3 w3 hO3 hg3; have HO3 := hid hO3; have HG3 := hid (HG2.out.andThen hg3 (fun j hj => .inl (HO2.out.block j hj))); have hz3 := HG3.out.size; have hal3 : (acc ++ bnk n i).length ≤ 7 * i + 3 := (by rw [List.length_append]; omega); clear hO3 hg3)
              | (at_builtin; refine wpList_append_byte rfl _ _ rfl w.heap.size w3.heap.size _ c (HO3.out.none (galloc w3 _ none)) rfl (litL w3 _) (by omega) (by simp; omega) ?_; intro v4 w4 hO4 hg4; have HO4 := hid hO4; have HG4 := hid ((HG3.out.andThen (galloc w3 _ none) (fun j hj => by cases hj)).andThen hg4 (fun j hj => .inl (HO3.out.block j hj))); have hz4 := HG4.out.size; have hal4 : (acc ++ bnk n i ++ [c]).length ≤ 7 * i + 4 := (by rw [List.length_append]; simp; simp at hal3; omega); clear hO4 hg4)
              | (go_at_call 66; with_reducible refine (HBl.out _).mono ?_; rintro e w5 ⟨bv5, rfl, hb5, hg5⟩; have HB5 := hid hb5; have HO5 := hid (HO4.out.none hg5); have HG5 := hid (gtrans HG4.out hg5); have hz5 := HG5.out.size; clear hb5 hg5)
              | (at_builtin; refine wpList_append_out rfl _ _ rfl w.heap.size w4.heap.size _ _ HO5.out HB5.out (by omega) (by omega) ?_; intro v6 w6 hO6 hg6; have HO6 := hid hO6; have HG6 := hid (HG5.out.andThen hg6 (fun j hj => .inl (HO5.out.block j hj))); clear hO6 hg6))
            refine ⟨⟨i + 1, false, acc ++ bnk n i ++ [c] ++ bnk n (i + 1), rfl, rfl, by omega, by rw [List.length_append]; omega, HG6, HO6, ?_, ?_⟩, by simp only [intOf]; omega⟩
            · refine hid ?_
              have h1 := HB.out
              rw [show Bool.toNat false = 0 from rfl] at h1 ⊢
              rw [h1, HST.out.2]
              simp
            · refine hid ?_
              have h1 := HN.out
              rw [show Bool.toNat false = 0 from rfl] at h1 ⊢
              rw [← HST.out.1]
              exact h1
        · have hm' : isMark c = false := by simpa using hm
          have HST := hid (blk_out (bnk n) i c (from_ s (i + 1)) hm')
          unfold isMark at hm'
          simp only [Bool.or_eq_false_iff, beq_eq_false_iff_ne, ne_eq] at hm'
          obtain ⟨⟨⟨⟨⟨c1, c2⟩, c3⟩, c4⟩, c5⟩, c6⟩ := hm'
          obtain ⟨m1, m2⟩ := byte_ne (k := 91) c1
          obtain ⟨m3, m4⟩ := byte_ne (k := 93) c2
          obtain ⟨m5, m6⟩ := byte_ne (k := 123) c3
          obtain ⟨m7, m8⟩ := byte_ne (k := 125) c4
          obtain ⟨m9, m10⟩ := byte_ne (k := 44) c5
          obtain ⟨m11, m12⟩ := byte_ne (k := 58) c6
          change ((c.toNat : Int) == 91) = false at m1
          change (c.toNat == 91) = false at m2
          change ((c.toNat : Int) == 93) = false at m3
          change (c.toNat == 93) = false at m4
          change ((c.toNat : Int) == 123) = false at m5
          change (c.toNat == 123) = false at m6
          change ((c.toNat : Int) == 125) = false at m7
          change (c.toNat == 125) = false at m8
          change ((c.toNat : Int) == 44) = false at m9
          change (c.toNat == 44) = false at m10
          change ((c.toNat : Int) == 58) = false at m11
          change (c.toNat == 58) = false at m12
          clear hm c1 c2 c3 c4 c5 c6
          by_cases h34 : c = 34
          · have e2 : ((c.toNat : Int) == 34) = true := by rw [h34]; rfl
            have e2n : (c.toNat == 34) = true := by rw [h34]; rfl
            have H34 := hid h34
            clear h34
            go_wp2_with (at_builtin; refine wpList_append_byte rfl _ _ rfl w.heap.size wr.heap.size _ c (HO.out.none (galloc wr _ none)) rfl (litL wr _) (by omega) (by simp; omega) ?_; intro v2 w2 hO2 hg2)
            refine ⟨⟨i + 1, true, acc ++ [c], rfl, rfl, by omega, by simp; omega, hid (((HG.out.andThen (galloc wr _ none) (fun j hj => by cases hj))).andThen hg2 (fun j hj => .inl (HO.out.block j hj))), hid hO2, ?_, ?_⟩, by simp only [intOf]; omega⟩
            · refine hid ?_
              have h1 := HB.out
              rw [show Bool.toNat false = 0 from rfl, HST.out.1, if_pos H34.out] at h1
              rw [h1]; simp
            · refine hid ?_
              have h1 := HN.out
              rw [show Bool.toNat false = 0 from rfl, HST.out.2, if_pos H34.out] at h1
              exact h1
          · have e2 : ((c.toNat : Int) == 34) = false := (byte_ne (k := 34) h34).1
            have e2n : (c.toNat == 34) = false := (byte_ne (k := 34) h34).2
            have H34 := hid h34
            clear h34
            go_wp2_with (at_builtin; refine wpList_append_byte rfl _ _ rfl w.heap.size wr.heap.size _ c (HO.out.none (galloc wr _ none)) rfl (litL wr _) (by omega) (by simp; omega) ?_; intro v2 w2 hO2 hg2)
            refine ⟨⟨i + 1, false, acc ++ [c], rfl, rfl, by omega, by simp; omega, hid (((HG.out.andThen (galloc wr _ none) (fun j hj => by cases hj))).andThen hg2 (fun j hj => .inl (HO.out.block j hj))), hid hO2, ?_, ?_⟩, by simp only [intOf]; omega⟩
            · refine hid ?_
              have h1 := HB.out
              rw [show Bool.toNat false = 0 from rfl, HST.out.1, if_neg H34.out] at h1
              rw [h1]; simp
            · refine hid ?_
              have h1 := HN.out
              rw [show Bool.toNat false = 0 from rfl, HST.out.2, if_neg H34.out] at h1
              exact h1
    · have hd : decide ((i : Int) < (s.size : Int)) = false := decide_eq_false (by omega)
      have HRR : Hid (R = acc) := by rw [HB.out, from_ge s i (by omega), blk, List.append_nil]; exact rfl
      have hcv := HO.out.convert
      rw [← HRR.out] at hcv
      go_wp2_with fail
      go_ret
      exact ⟨rfl, HG.out⟩
end Go.Proofs.YtdmnhkgiojkphaaGreatDoor
