/- puts and gets over a field as a structure. -/
import Derived.Test.YtfalgjdhdgkbfaaDoorGetA
import Derived.Test.YtfalgjdhdgkbfaaDoorGetS
import Derived.Test.YtfalgjdhdgkbfaaDoorKep
import Derived.Test.YtfalgjdhdgkbfaaDoorLongA
import Derived.Test.YtfalgjdhdgkbfaaDoorAgg
namespace Go.Proofs.YtfalgjdhdgkbfaaDoor
open Go Go.RowKit

/-- A field that is the call's own, or the argument's: its bytes can be read. -/
structure Fv.Ok (q : Fv) : Prop where
  D : q.D.length = 16
  N : q.N < 18446744073709551616
  lo : -9223372036854775808 ≤ q.ii
  hi : q.ii ≤ 9223372036854775807
  B : q.B.length ≤ 140737488355328
def Fv.may (q : Fv) : Bool := okOp q.dd q.N q.wd q.B.length
def Fv.enc (q : Fv) : List UInt8 := encOp q.dd q.N q.wd q.ii q.fl q.B q.D
theorem Rd.shape {w : World} {F : Nat → Prop} {v : Value} {l : List UInt8} (h : Rd w F v l) : ∃ a c, v = .slice a l.length c := by
  obtain ⟨a, b, o, c, e, _⟩ := h
  exact ⟨a, c, e⟩
theorem puts_q (w : World) (b t m o : Nat) (f : Nat → Value) (F G : Nat → Prop) (l : List UInt8) (q : Fv) (hq : q.Ok) (h : Wr w b t m o f F l 0) (hF : ∀ g, w.heap.size ≤ g → F g) (hB : Rd w G q.s q.B) (hG : ¬ G b) (hl : l.length ≤ 17592186040000) :
    Calls Tryd.prog 7 #[.pointer (some ⟨b, o, none⟩), .agg q.cells.toArray] w fun e w' => e = .returned (.bool q.may) ∧ (∃ f', Wr w' b t m o f' F (if q.may = true then l ++ q.enc else l) 0 ∧ Els o f f') ∧ w.grownBy w' (some b) := by
  obtain ⟨a, c, hs⟩ := hB.shape
  obtain ⟨dd, on, N, wd, ii, fl, s, B, D⟩ := q
  obtain ⟨y0, y1, y2, y3, y4, y5, y6, y7, y8, y9, y10, y11, y12, y13, y14, y15, hD⟩ := sixteen hq.D
  simp only at hs hD
  subst hs hD
  exact puts_any w b t m o f F G l dd on N wd ii fl a B.length c B y0 y1 y2 y3 y4 y5 y6 y7 y8 y9 y10 y11 y12 y13 y14 y15 hq.N h hF hB rfl hG hl hq.B
theorem gets_q (w : World) (b : Nat) (F G : Nat → Prop) (r : List UInt8) (q : Fv) (hq : q.Ok) (h : Rr w b F (q.enc ++ r) 0) (hok : q.may = true) (hB : Rd w G q.s q.B) (hG : ¬ G b) :
    Calls Tryd.prog 13 #[.pointer (some ⟨b, 0, none⟩), .agg q.cells.toArray] w fun e w' => e = .returned (.bool true) ∧ Rr w' b F r 0 ∧ w.grownBy w' (some b) := by
  obtain ⟨a, c, hs⟩ := hB.shape
  obtain ⟨dd, on, N, wd, ii, fl, s, B, D⟩ := q
  obtain ⟨y0, y1, y2, y3, y4, y5, y6, y7, y8, y9, y10, y11, y12, y13, y14, y15, hD⟩ := sixteen hq.D
  simp only at hs hD
  subst hs hD
  exact gets_ok w b F G r dd on N wd ii fl a B.length c B y0 y1 y2 y3 y4 y5 y6 y7 y8 y9 y10 y11 y12 y13 y14 y15 h hok hq.lo hq.hi hB rfl hG
theorem getsh_q (w : World) (b : Nat) (F G : Nat → Prop) (q : Fv) (hq : q.Ok) (h : Rr w b F q.enc.dropLast 0) (hok : q.may = true) (hB : Rd w G q.s q.B) (hG : ¬ G b) :
    Calls Tryd.prog 13 #[.pointer (some ⟨b, 0, none⟩), .agg q.cells.toArray] w fun e w' => (∃ c, e = .returned (.bool c)) ∧ Rr w' b F q.enc.dropLast 30 ∧ w.grownBy w' (some b) := by
  obtain ⟨a, c, hs⟩ := hB.shape
  obtain ⟨dd, on, N, wd, ii, fl, s, B, D⟩ := q
  obtain ⟨y0, y1, y2, y3, y4, y5, y6, y7, y8, y9, y10, y11, y12, y13, y14, y15, hD⟩ := sixteen hq.D
  simp only at hs hD
  subst hs hD
  exact gets_sh w b F G dd on N wd ii fl a B.length c B y0 y1 y2 y3 y4 y5 y6 y7 y8 y9 y10 y11 y12 y13 y14 y15 h hok hB rfl hG
end Go.Proofs.YtfalgjdhdgkbfaaDoor
