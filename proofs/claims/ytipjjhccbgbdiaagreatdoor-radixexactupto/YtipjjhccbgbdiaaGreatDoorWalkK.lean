/- The walk of the statement RadixJoins. -/
import Derived.Test.YtipjjhccbgbdiaaGreatDoorOrder
import Derived.Laws.AppendOwnNone
namespace Go.Proofs.YtipjjhccbgbdiaaGreatDoor
open Go Go.RowKit
open Go.RowKit (wrap32 wrap64)

/-- append of bytes that can be read onto a row that the call owns. -/
theorem wpList_append_rd {w : World} {ops : Array Oper} {rest : List Oper} {o : Oper} {a : Act} {Q : Exit → Act → World → Prop} (hgd : o.guard = none) (s x : Operand)
    (ho : o.op = .call { callee := .builtin .append, args := #[s, x], argTypes := #[58, 58] })
    (B : Nat) (v : Value) (n : Nat) (xs : List Value) (hs : a.eval s = v) (hown : w.ownsRow B 5 1 v n xs) (l : List UInt8) (hx : Rd w (a.eval x) l) (hn : n + l.length ≤ 1099511627776) (hB : B ≤ w.heap.size)
    (h : ∀ v' w', w'.ownsRow B 5 1 v' (n + l.length) (xs ++ cb l) → w.grownBy w' v.ownBlock → wpList Tryz.prog ops Q rest (a.put o.dst v') w') : wpList Tryz.prog ops Q (o :: rest) a w := by
  obtain ⟨inf, hi, hz0, hz1, hz2⟩ := info_parts Tryz.info5
  obtain ⟨ad, b, off, c, hv, hc, hnn, ha, hcell⟩ := hx
  cases ad with
  | none =>
    have hc0 := hnn rfl
    have hl : l = [] := by
      cases l with
      | nil => rfl
      | cons _ _ => have := (ha (by simp)).1; cases this
    subst hl
    subst hc0
    refine wpList_append_own_none hgd s x 58 ho B 5 inf 1 Tryz.underlying58 hi v n xs hs hown hv ?_
    exact h v w (by simpa [cb] using hown) (World.grownBy.refl _ _)
  | some ad =>
    refine wpList_append_own w hgd s x 58 ho B 5 inf (.int .u8 0) 1 1 Tryz.underlying58 hi hz0 hz1 hz2 rfl (by decide) v n xs hs hown ad l.length c (cb l) hv (by rw [cb_length]; omega) ?_ ?_ (by unfold maxLen; omega) (by omega) hB ?_
    · intro j u hu
      have hj : j < l.length := by have := (List.getElem?_eq_some_iff.1 hu).1; rwa [cb_length] at this
      have e1 : ad = ⟨b, off, none⟩ := Option.some.inj (ha (by omega)).1
      rw [e1, Addr.add_lit, hcell j hj]
      rw [← hu]
      simp [cb, List.getElem?_eq_getElem hj]
    · intro u hu
      unfold cb at hu
      obtain ⟨_, _, rfl⟩ := List.mem_map.1 hu
      rfl
    · intro v' w' h1 h2 _
      exact h v' w' h1 h2

theorem Rd.take {w : World} {a : Option Addr} {n c : Nat} {l : List UInt8} (h : Rd w (.slice a n c) l) (m : Nat) (hm : m ≤ l.length) : Rd w (.slice a m c) (l.take m) := by
  obtain ⟨a', b, off, c', hv, hc, hn, ha, hcell⟩ := h
  simp only [Value.slice.injEq] at hv
  obtain ⟨rfl, rfl, rfl⟩ := hv
  refine ⟨a, b, off, c, by rw [List.length_take, Nat.min_eq_left hm], by rw [List.length_take]; omega, hn, fun h => ha (by rw [List.length_take] at h; omega), fun i hi => ?_⟩
  rw [List.length_take] at hi
  rw [hcell i (by omega)]
  simp

theorem Rd.drewN {w : World} {v : Value} {l : List UInt8} (h : Rd w v l) (n : Nat) : Rd (w.drewN n) v l := h

theorem Rd.cap {w : World} {a : Option Addr} {n c : Nat} {l : List UInt8} (h : Rd w (.slice a n c) l) : l.length ≤ c := by
  obtain ⟨a', b, off, c', hv, hc, hn, ha, hcell⟩ := h
  simp only [Value.slice.injEq] at hv
  obtain ⟨rfl, rfl, rfl⟩ := hv
  exact hc

theorem encPad_length (l : List UInt8) (h : l.length ≤ 1048576) : (encPad l).length ≤ 2097152 := by
  unfold encPad
  rw [List.length_append, enc_length, List.length_replicate]
  omega

theorem encPad_append (l m : List UInt8) (h : l.length % 3 = 0) : encPad (l ++ m) = encPad l ++ encPad m := by
  unfold encPad
  rw [enc_append _ _ _ h, List.length_append, h]
  rw [show (3 - (l.length + m.length) % 3) % 3 = (3 - m.length % 3) % 3 by omega]
  simp

/-- Two texts behind one another, against one text. -/
theorem cat_eq (x y z : List UInt8) (s1 s2 s3 : ByteArray) (h1 : s1.data.toList = x) (h2 : s2.data.toList = y) (h3 : s3.data.toList = z) (h : z = x ++ y) : (s3.toList == (s1 ++ s2).toList) = true := by
  rw [Lib.toList_data, Lib.toList_data, ByteArray.data_append, Array.toList_append, h1, h2, h3, h]
  exact beq_self_eq_true _

end Go.Proofs.YtipjjhccbgbdiaaGreatDoor
