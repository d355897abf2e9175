/- Digests that everybody knows. -/
import Derived.Test.YtmiojplbcjhggabDoorWalkO
namespace Go.Proofs.YtmiojplbcjhggabDoor
open Go Go.RowKit
def aaa (n : Nat) : List UInt8 := List.replicate n 97
def hexD : List UInt8 := [48, 49, 50, 51, 52, 53, 54, 55, 56, 57, 97, 98, 99, 100, 101, 102]
def dg (n : Nat) : UInt8 := hexD.getD n 0
def hexL (d : List UInt8) : List UInt8 := d.flatMap fun b => [dg (b.toNat / 16), dg (b.toNat % 16)]
def hexS (l : List Nat) : List UInt8 := hexL (l.flatMap fun n => be n 4)
theorem hex_of (l : List UInt8) (ws : List Nat) (h : (st (l ++ padL l.length)).list = ws) : hexL (sumL l) = hexS ws := by
  rw [← h]
  rfl
theorem kw0 : (st (aaa 0 ++ padL (aaa 0).length)).list = [3820012610, 2566659092, 2600203464, 2574235940, 665731556, 1687917388, 2761267483, 2018687061] := by decide +kernel
theorem kh0 : hexL (sumL (aaa 0)) = [101, 51, 98, 48, 99, 52, 52, 50, 57, 56, 102, 99, 49, 99, 49, 52, 57, 97, 102, 98, 102, 52, 99, 56, 57, 57, 54, 102, 98, 57, 50, 52, 50, 55, 97, 101, 52, 49, 101, 52, 54, 52, 57, 98, 57, 51, 52, 99, 97, 52, 57, 53, 57, 57, 49, 98, 55, 56, 53, 50, 98, 56, 53, 53] := (hex_of _ _ kw0).trans (by decide +kernel)
theorem kw1 : (st (aaa 1 ++ padL (aaa 1).length)).list = [3398926610, 3390815690, 4207030707, 2586041421, 2810638328, 343690866, 3112204165, 2951628987] := by decide +kernel
theorem kh1 : hexL (sumL (aaa 1)) = [99, 97, 57, 55, 56, 49, 49, 50, 99, 97, 49, 98, 98, 100, 99, 97, 102, 97, 99, 50, 51, 49, 98, 51, 57, 97, 50, 51, 100, 99, 52, 100, 97, 55, 56, 54, 101, 102, 102, 56, 49, 52, 55, 99, 52, 101, 55, 50, 98, 57, 56, 48, 55, 55, 56, 53, 97, 102, 101, 101, 52, 56, 98, 98] := (hex_of _ _ kw1).trans (by decide +kernel)
theorem kw55 : (st (aaa 55 ++ padL (aaa 55).length)).list = [2672005368, 3540790745, 784986261, 3059624858, 3920668965, 2770701860, 480190097, 259212056] := by decide +kernel
theorem kh55 : hexL (sumL (aaa 55)) = [57, 102, 52, 51, 57, 48, 102, 56, 100, 51, 48, 99, 50, 100, 100, 57, 50, 101, 99, 57, 102, 48, 57, 53, 98, 54, 53, 101, 50, 98, 57, 97, 101, 57, 98, 48, 97, 57, 50, 53, 97, 53, 50, 53, 56, 101, 50, 52, 49, 99, 57, 102, 49, 101, 57, 49, 48, 102, 55, 51, 52, 51, 49, 56] := (hex_of _ _ kw55).trans (by decide +kernel)
theorem kw56 : (st (aaa 56 ++ padL (aaa 56).length)).list = [3008641444, 2892958024, 3067541987, 3333361503, 1494016527, 467562640, 4017713256, 1858499466] := by decide +kernel
theorem kh56 : hexL (sumL (aaa 56)) = [98, 51, 53, 52, 51, 57, 97, 52, 97, 99, 54, 102, 48, 57, 52, 56, 98, 54, 100, 54, 102, 57, 101, 51, 99, 54, 97, 102, 48, 102, 53, 102, 53, 57, 48, 99, 101, 50, 48, 102, 49, 98, 100, 101, 55, 48, 57, 48, 101, 102, 55, 57, 55, 48, 54, 56, 54, 101, 99, 54, 55, 51, 56, 97] := (hex_of _ _ kw56).trans (by decide +kernel)
theorem kw64 : (st (aaa 64 ++ padL (aaa 64).length)).list = [4292891902, 2061552493, 3327933177, 3055374857, 4097410333, 3023899557, 2574464991, 356935915] := by decide +kernel
theorem kh64 : hexL (sumL (aaa 64)) = [102, 102, 101, 48, 53, 52, 102, 101, 55, 97, 101, 48, 99, 98, 54, 100, 99, 54, 53, 99, 51, 97, 102, 57, 98, 54, 49, 100, 53, 50, 48, 57, 102, 52, 51, 57, 56, 53, 49, 100, 98, 52, 51, 100, 48, 98, 97, 53, 57, 57, 55, 51, 51, 55, 100, 102, 49, 53, 52, 54, 54, 56, 101, 98] := (hex_of _ _ kw64).trans (by decide +kernel)
def keyB : List UInt8 := List.replicate 20 11
def hiL : List UInt8 := [72, 105, 32, 84, 104, 101, 114, 101]
theorem kmi : (st ((bent keyB 0x36 ++ hiL) ++ padL (bent keyB 0x36 ++ hiL).length)).list = [2460700058, 523985234, 3165248926, 1773093876, 3466191919, 3571650553, 1925480485, 3120156655] := by decide +kernel
theorem list_inj {s : S8} {a b c d e f g h : Nat} (x : s.list = [a, b, c, d, e, f, g, h]) : s = ⟨a, b, c, d, e, f, g, h⟩ := by
  cases s
  simp only [S8.list, List.cons.injEq, and_true] at x
  obtain ⟨rfl, rfl, rfl, rfl, rfl, rfl, rfl, rfl⟩ := x
  rfl
def inB : List UInt8 := [146, 171, 77, 154, 31, 59, 97, 82, 188, 169, 221, 158, 105, 175, 67, 244, 206, 153, 228, 47, 212, 227, 15, 249, 114, 196, 128, 37, 185, 249, 207, 239]
theorem kmi2 : sumL (bent keyB 0x36 ++ hiL) = inB := by rw [sumL_st, list_inj kmi]; decide +kernel
theorem kmo : (st ((bent keyB 0x5c ++ inB) ++ padL (bent keyB 0x5c ++ inB).length)).list = [2956217441, 3638245459, 1554558926, 2936795435, 2283651584, 3380821415, 652818284, 775081975] := by decide +kernel
theorem khm : hexL (macL keyB hiL) = [98, 48, 51, 52, 52, 99, 54, 49, 100, 56, 100, 98, 51, 56, 53, 51, 53, 99, 97, 56, 97, 102, 99, 101, 97, 102, 48, 98, 102, 49, 50, 98, 56, 56, 49, 100, 99, 50, 48, 48, 99, 57, 56, 51, 51, 100, 97, 55, 50, 54, 101, 57, 51, 55, 54, 99, 50, 101, 51, 50, 99, 102, 102, 55] := by
  have e : macL keyB hiL = sumL (bent keyB 0x5c ++ inB) := by rw [← kmi2]; rfl
  rw [e]
  exact (hex_of _ _ kmo).trans (by decide +kernel)
end Go.Proofs.YtmiojplbcjhggabDoor
