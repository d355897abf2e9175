/- covers. -/
import Derived.Test.YtlgjmhemgfjgnaaKn
import Derived.Test.YtlgjmhemgfjgnaaRvH
namespace Go.Proofs.Ytlgjmhemgfjgnaa
open Go Go.RowKit
open Go.RowKit (wrap32 wrap64)

def cov (k : Ky) (g : Nat) (id : List UInt8) : Bool := k.g == g && (k.wh || k.id == id)
theorem built_known (g : Nat) (id : List UInt8) (ex : Int) (h : id.length = 16) : Try.prog.built 35 [(0, .bool false), (1, .int .u64 (g : Int)), (2, .agg (Lib.byteCells id).toArray), (3, .int .i64 ex)] = some (Ky.mk false g id ex).cells.toArray := by
  obtain ⟨b0, b1, b2, b3, b4, b5, b6, b7, b8, b9, b10, b11, b12, b13, b14, b15, rfl⟩ := list16 id h
  kernel_rfl
theorem built_knownk (g : Nat) (ex : Int) : Try.prog.built 35 [(0, .bool true), (1, .int .u64 (g : Int)), (2, .agg (Lib.byteCells z16).toArray), (3, .int .i64 ex)] = some (Ky.mk true g z16 ex).cells.toArray := by kernel_rfl
set_option maxRecDepth 100000 in
set_option maxHeartbeats 1600000 in
theorem covers_any (w : World) (k : Ky) (g : Nat) (id : List UInt8) (hk : k.id.length = 16) (hidl : id.length = 16) :
    Calls Try.prog 13 #[.agg k.cells.toArray, .int .u64 g, .agg (Lib.byteCells id).toArray] w fun e w' => e = .returned (.bool (cov k g id)) ∧ w.grownBy w' none := by
  have hcc : ∀ (u : World) (B : Nat), Blk u B k.cells 35 → u.cell? ⟨B, 0, none⟩ = some (.bool k.wh) ∧ u.cell? ⟨B, 1, none⟩ = some (.int .u64 k.g) := fun u B h => ⟨by rw [h.cell]; exact Ky.c0 _, by rw [h.cell]; exact Ky.c1 _⟩
  have hir : ∀ (u : World) (B : Nat), Blk u B k.cells 35 → u.rangeAt B 2 (Lib.byteCells k.id) := fun u B h => h.idr
  have HEq : Hid (∀ (x y : Operand) (u : World), (do eqGuard .eql 27 x y (.agg (Lib.byteCells k.id).toArray) (.agg (Lib.byteCells id).toArray); binOp .eql 27 (.agg (Lib.byteCells k.id).toArray) (.agg (Lib.byteCells id).toArray) : Sem Value).run Try.prog u = .ok (.bool (k.id == id)) u) := hid (fun x y u => eql_id _ _ hk hidl u)
  have HJL : Hid ((Try.prog.info? 27).map (·.size) = some (Lib.byteCells id).length) := hid (by rw [byteCells_length, hidl]; exact Try.size27)
  have HQL : Hid ((Try.prog.info? 27).map (·.size) = some (Lib.byteCells k.id).length) := hid (by rw [byteCells_length, hk]; exact Try.size27)
  have HCv : Hid (cov k g id = (k.g == g && (k.wh || k.id == id))) := hid rfl
  obtain ⟨R0, HR0⟩ : ∃ x, Hid (cov k g id = x) := ⟨_, hid rfl⟩
  obtain ⟨K, HK⟩ : ∃ x, Hid (k.cells = x) := ⟨_, hid rfl⟩
  obtain ⟨J, HJ⟩ : ∃ x, Hid (Lib.byteCells id = x) := ⟨_, hid rfl⟩
  obtain ⟨Q, HQ⟩ : ∃ x, Hid (Lib.byteCells k.id = x) := ⟨_, hid rfl⟩
  obtain ⟨eb, heb⟩ : ∃ x, (k.id == id) = x := ⟨_, rfl⟩
  obtain ⟨kw, hkw⟩ : ∃ x, k.wh = x := ⟨_, rfl⟩
  obtain ⟨kg, hkg⟩ : ∃ x, k.g = x := ⟨_, rfl⟩
  rw [HR0.out, heb, hkw, hkg] at HCv
  rw [HQ.out, HJ.out, heb] at HEq
  rw [HJ.out] at HJL
  rw [HQ.out] at HQL
  rw [HK.out, hkw, hkg] at hcc
  rw [HK.out, HQ.out] at hir
  rw [HR0.out, HK.out, HJ.out]
  have HCC := hid hcc
  have HIR := hid hir
  clear hcc hir HR0 HK HJ HQ heb hkw hkg hk hidl
  by_cases hg : kg = g
  · have hg' : ((kg : Int) == (g : Int)) = true := by rw [beq_iff_eq]; omega
    have HR1 : Hid (R0 = (kw || eb)) := hid (by rw [HCv.out, beq_iff_eq.2 hg, Bool.true_and])
    subst hg
    clear HCv
    cases kw with
    | true =>
      have HR2 : Hid (R0 = true) := hid HR1.out
      clear HR1
      go_enter Try.func13, Try.ntmps13
      go_wp2_with (first
        | ((with_reducible refine wpList_box_row (by with_unfolding_all rfl) 27 _ (by with_unfolding_all rfl) J (by with_unfolding_all rfl) ?_); intro w2 B2 s2 g2; have HB2 := hid B2; have HB1 := hid (HA1.out.keep g2); have HG2 := hid (gtrans HG1.out g2); have y01 := HCC.out _ _ HB1.out; obtain ⟨y0, y1⟩ := y01; clear B2 g2 s2)
        | ((with_reducible refine wpList_box_row (by with_unfolding_all rfl) 35 _ (by with_unfolding_all rfl) K (by with_unfolding_all rfl) ?_); intro w1 B1 s1 g1; have HA1 := hid B1; have HG1 := hid g1; clear B1 g1 s1)
        | (with_reducible refine wpList_load_partW (by with_unfolding_all rfl) 27 _ (by with_unfolding_all rfl) w.heap.size 2 Q _ (by with_unfolding_all rfl) (HIR.out _ _ HB1.out) Try.underlying27 (by with_unfolding_all rfl) HQL.out ?_)
        | (with_reducible refine wpList_load_partW (by with_unfolding_all rfl) 27 _ (by with_unfolding_all rfl) w1.heap.size 0 J _ (by with_unfolding_all rfl) HB2.out.whole Try.underlying27 (by with_unfolding_all rfl) HJL.out ?_)
        | (with_reducible refine wpList_binW (by with_unfolding_all rfl) .eql 27 _ _ 27 (by with_unfolding_all rfl) (.agg Q.toArray) (.agg J.toArray) (.bool eb) (by with_unfolding_all rfl) (by with_unfolding_all rfl) (HEq.out _ _ _) ?_))
      go_ret
      exact ⟨by rw [HR2.out]; rfl, HG2.out⟩
    | false =>
      have HR2 : Hid (R0 = eb) := hid HR1.out
      clear HR1
      go_enter Try.func13, Try.ntmps13
      go_wp2_with (first
        | ((with_reducible refine wpList_box_row (by with_unfolding_all rfl) 27 _ (by with_unfolding_all rfl) J (by with_unfolding_all rfl) ?_); intro w2 B2 s2 g2; have HB2 := hid B2; have HB1 := hid (HA1.out.keep g2); have HG2 := hid (gtrans HG1.out g2); have y01 := HCC.out _ _ HB1.out; obtain ⟨y0, y1⟩ := y01; clear B2 g2 s2)
        | ((with_reducible refine wpList_box_row (by with_unfolding_all rfl) 35 _ (by with_unfolding_all rfl) K (by with_unfolding_all rfl) ?_); intro w1 B1 s1 g1; have HA1 := hid B1; have HG1 := hid g1; clear B1 g1 s1)
        | (with_reducible refine wpList_load_partW (by with_unfolding_all rfl) 27 _ (by with_unfolding_all rfl) w.heap.size 2 Q _ (by with_unfolding_all rfl) (HIR.out _ _ HB1.out) Try.underlying27 (by with_unfolding_all rfl) HQL.out ?_)
        | (with_reducible refine wpList_load_partW (by with_unfolding_all rfl) 27 _ (by with_unfolding_all rfl) w1.heap.size 0 J _ (by with_unfolding_all rfl) HB2.out.whole Try.underlying27 (by with_unfolding_all rfl) HJL.out ?_)
        | (with_reducible refine wpList_binW (by with_unfolding_all rfl) .eql 27 _ _ 27 (by with_unfolding_all rfl) (.agg Q.toArray) (.agg J.toArray) (.bool eb) (by with_unfolding_all rfl) (by with_unfolding_all rfl) (HEq.out _ _ _) ?_))
      go_ret
      exact ⟨by rw [HR2.out]; rfl, HG2.out⟩
  · have hg' : ((kg : Int) == (g : Int)) = false := beq_eq_false_iff_ne.2 (by omega)
    have hg2 : ¬ (kg : Int) = (g : Int) := by omega
    have HR2 : Hid (R0 = false) := hid (by rw [HCv.out, beq_eq_false_iff_ne.2 hg, Bool.false_and])
    clear HCv hg
    go_enter Try.func13, Try.ntmps13
    go_wp2_with (first
      | ((with_reducible refine wpList_box_row (by with_unfolding_all rfl) 27 _ (by with_unfolding_all rfl) J (by with_unfolding_all rfl) ?_); intro w2 B2 s2 g2; have HB2 := hid B2; have HB1 := hid (HA1.out.keep g2); have HG2 := hid (gtrans HG1.out g2); have y01 := HCC.out _ _ HB1.out; obtain ⟨y0, y1⟩ := y01; clear B2 g2 s2)
      | ((with_reducible refine wpList_box_row (by with_unfolding_all rfl) 35 _ (by with_unfolding_all rfl) K (by with_unfolding_all rfl) ?_); intro w1 B1 s1 g1; have HA1 := hid B1; have HG1 := hid g1; clear B1 g1 s1)
      | (with_reducible refine wpList_load_partW (by with_unfolding_all rfl) 27 _ (by with_unfolding_all rfl) w.heap.size 2 Q _ (by with_unfolding_all rfl) (HIR.out _ _ HB1.out) Try.underlying27 (by with_unfolding_all rfl) HQL.out ?_)
      | (with_reducible refine wpList_load_partW (by with_unfolding_all rfl) 27 _ (by with_unfolding_all rfl) w1.heap.size 0 J _ (by with_unfolding_all rfl) HB2.out.whole Try.underlying27 (by with_unfolding_all rfl) HJL.out ?_)
      | (with_reducible refine wpList_binW (by with_unfolding_all rfl) .eql 27 _ _ 27 (by with_unfolding_all rfl) (.agg Q.toArray) (.agg J.toArray) (.bool eb) (by with_unfolding_all rfl) (by with_unfolding_all rfl) (HEq.out _ _ _) ?_))
    go_ret
    exact ⟨by rw [HR2.out]; rfl, HG2.out⟩
end Go.Proofs.Ytlgjmhemgfjgnaa
