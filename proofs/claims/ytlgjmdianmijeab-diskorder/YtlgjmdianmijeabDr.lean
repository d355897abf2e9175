/- size, do. -/
import Derived.Test.YtlgjmdianmijeabDq
namespace Go.Proofs.Ytlgjmdianmijeab
open Go Go.RowKit Go.MapKept Go.MuLone
open Go.RowKit (wrap32 wrap64)

/-- An operation, as its cells tell it. -/
structure Opv where
  dv : Int
  on : Int
  nm : ByteArray
  to : ByteArray
  ba : Option Addr
  bn : Nat
  bc : Nat
  bs : List UInt8
  nv : Int
  kv : Int
  fa : Option Addr
  fn : Nat
  fc : Nat
  L : Cn
def Opv.cells (o : Opv) : List Value := [.int .i64 o.dv, .int .i64 o.on, .string o.nm, .string o.to, .slice o.ba o.bn o.bc, .int .i64 o.nv, .int .i64 o.kv, .slice o.fa o.fn o.fc]
/-- What it holds can be read; its memory lies in F. -/
structure Opv.In (o : Opv) (w : World) (F : Nat → Prop) : Prop where
  b : Rd w F (.slice o.ba o.bn o.bc) o.bs
  f : o.fn = o.L.length ∧ ∃ g off, ArF w F o.fa g off o.L
  bl : o.bs.length ≤ 140737488355328
  fl : ∀ p ∈ o.L, p.2.length ≤ 140737488355328
  ln : o.fn ≤ 140737488355328
theorem Opv.In.keep {o : Opv} {w w' : World} {F : Nat → Prop} (h : o.In w F) (hg : w.grownBy w' none) : o.In w' F := by
  obtain ⟨h1, ⟨h2, g, off, h3⟩, h4, h5, h6⟩ := h
  exact ⟨h1.keep hg, ⟨h2, g, off, h3.keep hg⟩, h4, h5, h6⟩
theorem Opv.one (o : Opv) : ∀ v ∈ o.cells, v.oneCell' = true := fun v hv => by
  simp only [Opv.cells, List.mem_cons, List.not_mem_nil, or_false] at hv
  rcases hv with rfl | rfl | rfl | rfl | rfl | rfl | rfl | rfl <;> rfl
set_option maxRecDepth 100000 in
set_option maxHeartbeats 4000000 in
theorem opSize_any (w : World) (o : Opv) (F : Nat → Prop) (h : o.In w F) : Calls Try.prog 4 #[.agg o.cells.toArray] w fun e w' => (∃ z : Nat, e = .returned (.int .i64 z) ∧ o.bs.length ≤ z ∧ z ≤ 281474976710656) ∧ w.grownBy w' none := by
  obtain ⟨dv, on, nm, to, ba, bn, bc, bs, nv, kv, fa, fn, fc, L⟩ := o
  obtain ⟨hb, ⟨hfn, g, off, hA⟩, hbl, hfl, hln⟩ := h
  have HA : Hid (∀ u, w.grownBy u none → ArF u F fa g off L) := hid (fun u hu => hA.keep hu)
  have HFn : Hid (fn = L.length) := hid hfn
  have HFl : Hid (∀ p ∈ L, p.2.length ≤ 140737488355328) := hid hfl
  have hbn : bs.length = bn := by obtain ⟨_, _, _, _, e, _⟩ := hb; injection e with _ e _; exact e.symm
  have hbl' : bn ≤ 140737488355328 := by rw [← hbn]; exact hbl
  have hln' : fn ≤ 140737488355328 := hln
  show Calls Try.prog 4 #[.agg [Value.int .i64 dv, .int .i64 on, .string nm, .string to, .slice ba bn bc, .int .i64 nv, .int .i64 kv, .slice fa fn fc].toArray] w fun e w' => (∃ z : Nat, e = .returned (.int .i64 z) ∧ bs.length ≤ z ∧ z ≤ 281474976710656) ∧ w.grownBy w' none
  rw [hbn]
  clear hb hA hbl hfl hbn hfn hln
  go_enter Try.func4, Try.ntmps4
  go_upto_region 3 with ((with_reducible refine wpList_box_row (by with_unfolding_all rfl) 28 _ (by with_unfolding_all rfl) [Value.int .i64 dv, .int .i64 on, .string nm, .string to, .slice ba bn bc, .int .i64 nv, .int .i64 kv, .slice fa fn fc] (by with_unfolding_all rfl) ?_); intro w1 B1 s1 g1; have HB1 := hid B1; have HG1 := hid g1; have c4 := B1.cell 4; have c7 := B1.cell 7; clear B1 s1 g1)
  go_loopw [4, 3] (fun iv zv wr => ∃ i z : Nat, iv = .int .i64 i ∧ zv = .int .i64 z ∧ i ≤ fn ∧ bn ≤ z ∧ z ≤ 281474976710656 ∧ Hid (wr = w1)) (fun iv _ _ => fn - (intOf iv).toNat)
  case atStart => exact ⟨0, bn, rfl, rfl, by omega, by omega, by omega, hid rfl⟩
  case round =>
    obtain ⟨i, z, rfl, rfl, hi, hz1, hz2, HW⟩ := hrel
    have hw := HW.out
    subst hw
    by_cases hlt : i < fn
    · have hlt' : (i : Int) < (fn : Int) := by omega
      by_cases hz : z ≤ 1048576
      · have hz' : (z : Int) ≤ 1048576 := by omega
        have hiL : i < L.length := by rw [← HFn.out]; exact hlt
        obtain ⟨rfl, -⟩ := (HA.out wr HG1.out).at_ (by omega)
        have HE := hid ((HA.out wr HG1.out).each i hiL)
        obtain ⟨v, hv1, hv2⟩ := HE.out.2
        have HLl : Hid ((L[i]).2.length ≤ 140737488355328) := hid (HFl.out _ (List.getElem_mem _))
        obtain ⟨q, Hq⟩ : ∃ x, Hid ((L[i]).2 = x) := ⟨_, hid rfl⟩
        rw [Hq.out] at hv2 HLl
        obtain ⟨xa, -, -, xc, rfl, -⟩ := hv2
        obtain ⟨xn, hxn⟩ : ∃ x, q.length = x := ⟨_, rfl⟩
        rw [hxn] at hv1
        have hxl : xn ≤ 140737488355328 := by rw [← hxn]; exact HLl.out
        clear hxn
        go_wp2_with fail
        go_roundw
        case rel => exact ⟨i + 1, z + xn + 100, by go_num, by go_num, by omega, by omega, by omega, hid trivial⟩
        case measure => simp [intOf]; omega
      · have hz' : ¬ (z : Int) ≤ 1048576 := by omega
        go_wp2_with fail
        go_ret
        exact ⟨⟨z, rfl, by omega, by omega⟩, HG1.out⟩
    · have hlt' : ¬ (i : Int) < (fn : Int) := by omega
      go_wp2_with fail
      go_ret
      exact ⟨⟨z, rfl, by omega, by omega⟩, HG1.out⟩
/-- What do tells, and what becomes of the disk. -/
def Ab.doE (A : Ab) (o : Opv) : Int := if o.dv = 1 then A.appE o.nm o.bs else if o.dv = 2 then A.cutE o.nm o.nv else if o.dv = 3 then A.renE o.nm o.to else if o.dv = 4 then A.remE o.nm else 0
def Ab.doA (A : Ab) (o : Opv) : Ab := if o.dv = 1 then A.app o.nm o.bs else if o.dv = 2 then A.cut o.nm o.nv else if o.dv = 3 then A.ren o.nm o.to else if o.dv = 4 then A.rem o.nm else A
def Opv.isDo (o : Opv) : Bool := decide (o.dv = 1) || decide (o.dv = 2) || decide (o.dv = 3) || decide (o.dv = 4)
variable {w w' : World} {B b : Nat} {A : Ab} {P : Nat → Prop}
end Go.Proofs.Ytlgjmdianmijeab
