/- What a reading of TerseOne's argument gives the walk; the package-level variables. -/
import Derived.Test.YtdmnhkgiojkphaaGreatDoorOneW
import Derived.Test.YtdmnhkgiojkphaaGreatDoorRows
import Derived.ProofKit
import Derived.OpenShut
import Derived.SizedLaws
import Derived.Deep.SlicePairs
import Derived.Deep.Strs
import Derived.Deep.Matrix
import Derived.Lib.LaidTab
import Derived.Lib.LaidU8
import Derived.Stop.LaidErr
import Derived.LaidMore
import Derived.MakeChecks
namespace Go.Proofs.YtdmnhkgiojkphaaGreatDoor
open Go Go.RowKit Go.ChangeShapes Go.WideShapes Go.Deep

theorem Tryz.cells9 : Tryz.prog.cellsOf 9 = 1 := by kernel_rfl
theorem Tryz.cells3 : Tryz.prog.cellsOf 3 = 1 := by kernel_rfl
theorem Tryz.cells73 : Tryz.prog.cellsOf 73 = 2 := by kernel_rfl
theorem Tryz.cells156 : Tryz.prog.cellsOf 156 = 1 := by kernel_rfl
theorem Tryz.u8x : U8Extra Tryz.prog Tryz.lays197_ren := ⟨by kernel_rfl, by kernel_rfl, by kernel_rfl, by kernel_rfl, by kernel_rfl, by kernel_rfl, by kernel_rfl⟩

theorem utf8_below8 {w w' : World} (h : Lib.Utf8Tabs 0 1 w) (hb : Below 8 w w') : Lib.Utf8Tabs 0 1 w' :=
  ⟨fun c hc => (World.cell?_of_block (a := ⟨0, c, none⟩) (hb.block 0 (by omega))).trans (h.1 c hc), fun i hi => ⟨(World.cell?_of_block (a := ⟨1, 2 * i, none⟩) (hb.block 1 (by omega))).trans (h.2 i hi).1, (World.cell?_of_block (a := ⟨1, 2 * i + 1, none⟩) (hb.block 1 (by omega))).trans (h.2 i hi).2⟩⟩
theorem tab_below8 {w w' : World} {n : String} {g : Nat} {k : IntKind} {zs : List Int} (hg : Tryz.prog.globalNamed n = some g) (h8 : g < 8) (h : Lib.TabIs Tryz.prog w n k zs) (hb : Below 8 w w') : Lib.TabIs Tryz.prog w' n k zs := by
  unfold Lib.TabIs World.var? at h ⊢
  rw [hg] at h ⊢
  simp only [Option.bind_some] at h ⊢
  rw [hb.block g h8]
  exact h
theorem var_lt {w : World} {n : String} {g : Nat} {cs : Array Value} (hg : Tryz.prog.globalNamed n = some g) (h : w.var? Tryz.prog n = some cs) : g < w.heap.size := by
  unfold World.var? at h
  rw [hg] at h
  simp only [Option.bind_some] at h
  rcases Nat.lt_or_ge g w.heap.size with h' | h'
  · exact h'
  · rw [Array.getElem?_eq_none h'] at h; cases h
theorem first_is : Rows.laid_unicode_utf8_first = Lib.firstData := by kernel_rfl
theorem accept_is : (Rows.laid_unicode_utf8_acceptRanges : DataW Unit) = Lib.acceptData := by kernel_rfl
theorem tens_is : (Rows.laid_internal_strconv_uint64pow10 : DataW Unit) = Lib.tabData .u64 Lib.pow10Tab := by kernel_rfl
theorem starE : ("*" ++ "errors.errorString" : String) = "*errors.errorString" := by decide
theorem row299 (u : TypeId) (h : Tryz.prog.typeName? 3 u = some "*errors.errorString") : u = 299 :=
  typeName_ptr_named (P := Tryz.prog) (nm := "errors.errorString") (by rw [starE]; kernel_rfl) (by kernel_rfl) (by decide) u (by rw [starE]; exact h)
set_option maxRecDepth 100000 in
theorem glob_of {W : World} (h : laidMet Tryz.prog [("math/bits.deBruijn32tab", Rows.laid_math_bits_deBruijn32tab), ("math/bits.deBruijn64tab", Rows.laid_math_bits_deBruijn64tab), ("internal/strconv.uint64pow10", Rows.laid_internal_strconv_uint64pow10), ("unicode/utf8.acceptRanges", Rows.laid_unicode_utf8_acceptRanges), ("strconv.ErrRange", Rows.laid_strconv_ErrRange), ("strconv.ErrSyntax", Rows.laid_strconv_ErrSyntax), ("unicode/utf8.first", Rows.laid_unicode_utf8_first)] W) : Glob W := by
  have r7 : Lib.VarReads Tryz.prog W "math/bits.deBruijn64tab" Rows.laid_math_bits_deBruijn64tab := Lib.laidMet.reads h (by simp)
  obtain ⟨g7, t7, cs7, f7, p7, hg7, _, hv7, _⟩ := r7
  have hg7' : Tryz.prog.globalNamed "math/bits.deBruijn64tab" = some 7 := by kernel_rfl
  have hsz : 8 ≤ W.heap.size := var_lt hg7' hv7
  have hT : Lib.Utf8Tabs 0 1 W := utf8Tabs_of_reads { Tryz.lays197 with } Tryz.u8x (by have := Lib.laidMet.reads (n := "unicode/utf8.first") (d := Rows.laid_unicode_utf8_first) h (by simp); rw [first_is] at this; exact this) (by have := Lib.laidMet.reads (n := "unicode/utf8.acceptRanges") (d := Rows.laid_unicode_utf8_acceptRanges) h (by simp); rw [accept_is] at this; exact this)
  have ht : Lib.TabIs Tryz.prog W tensName .u64 Lib.pow10Tab := by
    have h3 := h.tail.tail
    rw [tens_is] at h3
    exact Lib.tabIs_of_head (g := 2) (t := 281) (e := 156) (n := 20) (by kernel_rfl) (by kernel_rfl) Tryz.underlying281 Tryz.underlying156 Tryz.cells156 (by kernel_rfl) h3
  obtain ⟨a4, _, v4, _⟩ := laid_sentinel (g := 5) (ti := 167) (tp := 299) (te := 301) (ts := 9) h.tail.tail.tail.tail (by kernel_rfl) (by kernel_rfl) Tryz.underlying167 row299 Tryz.underlying299 Tryz.underlying301 rfl rfl Tryz.underlying9 (by kernel_rfl) Tryz.cells9
  obtain ⟨a5, _, v5, _⟩ := laid_sentinel (g := 4) (ti := 167) (tp := 299) (te := 301) (ts := 9) h.tail.tail.tail.tail.tail (by kernel_rfl) (by kernel_rfl) Tryz.underlying167 row299 Tryz.underlying299 Tryz.underlying301 rfl rfl Tryz.underlying9 (by kernel_rfl) Tryz.cells9
  have c5 : W.cell? ⟨5, 0, none⟩ = some (.iface 299 (.pointer (some a4))) := by
    have := World.var?_cell (g := 5) (by kernel_rfl) v4 0
    simpa using this
  have c4 : W.cell? ⟨4, 0, none⟩ = some (.iface 299 (.pointer (some a5))) := by
    have := World.var?_cell (g := 4) (by kernel_rfl) v5 0
    simpa using this
  exact ⟨hsz, fun w' hb => ⟨utf8_below8 hT hb, ⟨_, _, (World.cell?_of_block (a := ⟨4, 0, none⟩) (hb.block 4 (by omega))).trans c4⟩, ⟨_, _, (World.cell?_of_block (a := ⟨5, 0, none⟩) (hb.block 5 (by omega))).trans c5⟩, tab_below8 (g := 2) (by kernel_rfl) (by omega) ht hb⟩⟩
end Go.Proofs.YtdmnhkgiojkphaaGreatDoor
