/- The walk of wakes. -/
import Derived.Test.YtihbpkebknifdaaGreatDoorX32
import Derived.Test.YtihbpkebknifdaaGreatDoorRows
import Derived.ProofKit
import Derived.OpenShut
import Derived.SizedLaws
import Derived.Deep.SlicePairs
import Derived.Deep.Strs
import Derived.Deep.Matrix
import Derived.Lib.LaidTab
import Derived.Lib.LaidU8
import Derived.Stop.LaidErr
import Derived.LaidMore
import Derived.MakeChecks
import Derived.ChangeArms
namespace Go.Proofs.YtihbpkebknifdaaGreatDoor
open Go Go.RowKit Go.Maps
open Go.RowKit (wrap32 wrap64)

theorem cells2 {w : World} {k : Nat} {a b : Value} {t : TypeId} (h : w.heap[k]? = some (.cells #[a, b] t (0, 0))) : (w.cell? ⟨k, 0, none⟩ = some a ∧ w.cell? ⟨k, 1, none⟩ = some b) ∧ ∀ o, w.frozen? ⟨k, o, none⟩ = false := by
  refine ⟨⟨by simp [World.cell?, h], by simp [World.cell?, h]⟩, fun o => by simp [World.frozen?, h]⟩
def wakeS : ByteArray := ⟨#[32, 123, 34, 98, 34, 32, 58, 32, 91, 49, 44, 45, 50, 93, 44, 32, 34, 97, 34, 58, 110, 117, 108, 108, 125]⟩
def wakeT : Tree := .mk 6 false 0 ⟨#[]⟩ [⟨#[98]⟩, ⟨#[97]⟩] [.mk 5 false 0 ⟨#[]⟩ [] [.mk 3 false 1 ⟨#[]⟩ [] [], .mk 3 false (-2) ⟨#[]⟩ [] []], .mk 1 false 0 ⟨#[]⟩ [] []]
def wakeB : ByteArray := ⟨#[91, 49, 44, 93]⟩
theorem wake_yes : toldOf wakeS 2 = .yes wakeT := by kernel_rfl
theorem wake_no : toldOf wakeB 2 = .no 22 3 := by kernel_rfl
theorem itoa1 : Lib.itoa 1 = [49] := by
  have := Lib.itoa_nonneg 1
  rw [Lib.decDigits_one (by omega)] at this
  exact this
theorem itoa2 : Lib.itoa (-2) = [45, 50] := by
  have := Lib.itoa_neg 2 (by omega)
  rw [Lib.decDigits_one (by omega)] at this
  exact this
theorem wake_pr : pr wakeT = [123, 34, 98, 34, 58, 91, 49, 44, 45, 50, 93, 44, 34, 97, 34, 58, 110, 117, 108, 108, 125] := by
  have e1 : pr (.mk 3 false 1 ⟨#[]⟩ [] []) = [49] := by rw [pr_eq]; show Lib.itoa 1 = _; exact itoa1
  have e2 : pr (.mk 3 false (-2) ⟨#[]⟩ [] []) = [45, 50] := by rw [pr_eq]; show Lib.itoa (-2) = _; exact itoa2
  have e3 : pr (.mk 5 false 0 ⟨#[]⟩ [] [.mk 3 false 1 ⟨#[]⟩ [] [], .mk 3 false (-2) ⟨#[]⟩ [] []]) = [91, 49, 44, 45, 50, 93] := by
    rw [pr_list]
    simp only [List.map_cons, List.map_nil, e1, e2]
    rfl
  have e4 : pr (.mk 1 false 0 ⟨#[]⟩ [] []) = nullW := by rw [pr_eq]; rfl
  unfold wakeT
  rw [pr_map]
  simp only [List.map_cons, List.map_nil, e3, e4]
  rfl

set_option maxRecDepth 100000 in
set_option maxHeartbeats 1000000 in
theorem wakes_any (w : World) (hG : Glob w) : Calls Tryz.prog 7 #[] w fun e w' => e = .returned (.bool true) ∧ w.grownBy w' none := by
  have HG := hid hG
  have hgd := told_good wake_yes
  have hcn : cntT wakeT ≤ 1099511627776 := Nat.le_trans (cnt_pr _ wakeT (Nat.le_refl _) 0 hgd.2.1) (by rw [wake_pr]; decide)
  have HP : Hid (∀ (u : World) (F : Nat → Prop) (v : Value), RdT u F wakeT v → Glob u → Calls Tryz.prog 14 #[v] u fun e w' => e = .returned (.tuple #[.string ⟨#[123, 34, 98, 34, 58, 91, 49, 44, 45, 50, 93, 44, 34, 97, 34, 58, 110, 117, 108, 108, 125]⟩, .int .i64 0]) ∧ u.grownBy w' none) := fun u F v hv hGu => by
    have := print_ok wakeT hgd.2.1 hgd.2.2.1 hcn (by rw [wake_pr]; decide) u F v hv hGu
    rw [wake_pr] at this
    exact this
  have HY : Hid (∀ u : World, Glob u → _) := fun u hu => parse_yes wake_yes (by decide) u hu
  have HN : Hid (∀ u : World, Glob u → _) := fun u hu => (parse_no wake_no (by decide) u hu).2
  clear hgd hcn hG
  unfold wakeS at HY
  unfold wakeB zeroV6 at HN
  go_enter Tryz.func7, Tryz.ntmps7
  go_wp2_with fail
  refine (HY.out w HG.out).mono ?_
  rintro e w1 ⟨k, f, n, x, ka, kn, kc, ia, il, ic, rfl, hT, hg1⟩
  have HT := hid hT
  have HG1 := hid hg1
  have hGl : Glob w1 := HG.out.grown hg1 (fun k hk => by cases hk)
  have HGl := hid hGl
  clear hT hg1 hGl
  have hgW : w1.grownBy ((w1.alloc (.cells #[.int .i64 k, .bool f, .int .i64 n, .string x, .slice ka kn kc, .slice ia il ic] 25)).alloc (.cells #[.int .i64 0, .int .i64 0] 40)) none := gtrans (galloc _ _ none) (galloc _ _ none)
  have hc5 : ((w1.alloc (.cells #[.int .i64 k, .bool f, .int .i64 n, .string x, .slice ka kn kc, .slice ia il ic] 25)).alloc (.cells #[.int .i64 0, .int .i64 0] 40)).heap[w1.heap.size + 1]? = some (.cells #[.int .i64 0, .int .i64 0] 40 (0, 0)) := lit_new _ _ _ _ (by simp)
  go_wp2_with fail
  generalize (w1.alloc (.cells #[.int .i64 k, .bool f, .int .i64 n, .string x, .slice ka kn kc, .slice ia il ic] 25)).alloc (.cells #[.int .i64 0, .int .i64 0] 40) = W2 at hgW hc5 ⊢
  have hG2 : Glob W2 := HGl.out.grown hgW (fun k hk => by cases hk)
  refine (HP.out W2 _ _ (HT.out.on (Stays.none hgW)) hG2).mono ?_
  rintro e w3 ⟨rfl, hg3⟩
  have hG3 : Glob w3 := hG2.grown hg3 (fun k hk => by cases hk)
  have HG3 := hid hG3
  have hlt := (Array.getElem?_eq_some_iff.1 hc5).1
  have hc6 : w3.heap[w1.heap.size + 1]? = some (.cells #[.int .i64 0, .int .i64 0] 40 (0, 0)) := (hg3.block _ hlt (by simp)).trans hc5
  have HC6 := hid hc6
  have HGg := hid (gtrans (gtrans HG1.out hgW) hg3)
  clear hgW hc5 hG2 hg3 hG3 hlt hc6
  go_wp2_with fail
  refine (HN.out w3 HG3.out).mono ?_
  rintro e w4 ⟨rfl, hg4⟩
  have hlt := (Array.getElem?_eq_some_iff.1 HC6.out).1
  have hc7 : w4.heap[w1.heap.size + 1]? = some (.cells #[.int .i64 0, .int .i64 0] 40 (0, 0)) := (hg4.block _ hlt (by simp)).trans HC6.out
  have j := fun (x y : Obj) => (cells2 (lit_old (lit_old hc7 x) y))
  have j0 := fun (x y : Obj) => (j x y).1.1
  have j1 := fun (x y : Obj) => (j x y).1.2
  have jf := fun (x y : Obj) => (j x y).2
  have HGh := hid (gtrans HGg.out hg4)
  have HN2 := hid (num_any)
  clear j hc7 hlt hg4
  go_wp2_with (go_at_call 5; refine (HN2.out _ _).mono ?_; rintro e u5 ⟨rfl, rfl⟩)
  go_ret
  exact ⟨rfl, gtrans HGh.out (gtrans (galloc w4 _ none) (galloc _ _ none))⟩
end Go.Proofs.YtihbpkebknifdaaGreatDoor

namespace Go.Proofs.YtihbpkebknifdaaGreatDoor
open Go Go.RowKit Go.ChangeShapes Go.WideShapes Go.Deep

theorem Tryz.cells9 : Tryz.prog.cellsOf 9 = 1 := by kernel_rfl
theorem Tryz.cells3 : Tryz.prog.cellsOf 3 = 1 := by kernel_rfl
theorem Tryz.cells73 : Tryz.prog.cellsOf 73 = 2 := by kernel_rfl
theorem Tryz.cells94 : Tryz.prog.cellsOf 94 = 1 := by kernel_rfl
theorem Tryz.u8x : U8Extra Tryz.prog Tryz.lays197_ren := ⟨by kernel_rfl, by kernel_rfl, by kernel_rfl, by kernel_rfl, by kernel_rfl, by kernel_rfl, by kernel_rfl⟩

theorem utf8_below8 {w w' : World} (h : Lib.Utf8Tabs 0 1 w) (hb : Below 8 w w') : Lib.Utf8Tabs 0 1 w' :=
  ⟨fun c hc => (World.cell?_of_block (a := ⟨0, c, none⟩) (hb.block 0 (by omega))).trans (h.1 c hc), fun i hi => ⟨(World.cell?_of_block (a := ⟨1, 2 * i, none⟩) (hb.block 1 (by omega))).trans (h.2 i hi).1, (World.cell?_of_block (a := ⟨1, 2 * i + 1, none⟩) (hb.block 1 (by omega))).trans (h.2 i hi).2⟩⟩
theorem tab_below8 {w w' : World} {n : String} {g : Nat} {k : IntKind} {zs : List Int} (hg : Tryz.prog.globalNamed n = some g) (h8 : g < 8) (h : Lib.TabIs Tryz.prog w n k zs) (hb : Below 8 w w') : Lib.TabIs Tryz.prog w' n k zs := by
  unfold Lib.TabIs World.var? at h ⊢
  rw [hg] at h ⊢
  simp only [Option.bind_some] at h ⊢
  rw [hb.block g h8]
  exact h
theorem var_lt {w : World} {n : String} {g : Nat} {cs : Array Value} (hg : Tryz.prog.globalNamed n = some g) (h : w.var? Tryz.prog n = some cs) : g < w.heap.size := by
  unfold World.var? at h
  rw [hg] at h
  simp only [Option.bind_some] at h
  rcases Nat.lt_or_ge g w.heap.size with h' | h'
  · exact h'
  · rw [Array.getElem?_eq_none h'] at h; cases h
theorem first_is : Rows.laid_unicode_utf8_first = Lib.firstData := by kernel_rfl
theorem accept_is : (Rows.laid_unicode_utf8_acceptRanges : DataW Unit) = Lib.acceptData := by kernel_rfl
theorem tens_is : (Rows.laid_internal_strconv_uint64pow10 : DataW Unit) = Lib.tabData .u64 Lib.pow10Tab := by kernel_rfl
theorem starE : ("*" ++ "errors.errorString" : String) = "*errors.errorString" := by decide
theorem row299 (u : TypeId) (h : Tryz.prog.typeName? 3 u = some "*errors.errorString") : u = 137 :=
  typeName_ptr_named (P := Tryz.prog) (nm := "errors.errorString") (by rw [starE]; kernel_rfl) (by kernel_rfl) (by decide) u (by rw [starE]; exact h)
set_option maxRecDepth 100000 in
theorem glob_of {W : World} (h : laidMet Tryz.prog [("math/bits.deBruijn32tab", Rows.laid_math_bits_deBruijn32tab), ("math/bits.deBruijn64tab", Rows.laid_math_bits_deBruijn64tab), ("internal/strconv.uint64pow10", Rows.laid_internal_strconv_uint64pow10), ("unicode/utf8.acceptRanges", Rows.laid_unicode_utf8_acceptRanges), ("strconv.ErrRange", Rows.laid_strconv_ErrRange), ("strconv.ErrSyntax", Rows.laid_strconv_ErrSyntax), ("unicode/utf8.first", Rows.laid_unicode_utf8_first)] W) : Glob W := by
  have r7 : Lib.VarReads Tryz.prog W "math/bits.deBruijn64tab" Rows.laid_math_bits_deBruijn64tab := Lib.laidMet.reads h (by simp)
  obtain ⟨g7, t7, cs7, f7, p7, hg7, _, hv7, _⟩ := r7
  have hg7' : Tryz.prog.globalNamed "math/bits.deBruijn64tab" = some 7 := by kernel_rfl
  have hsz : 8 ≤ W.heap.size := var_lt hg7' hv7
  have hT : Lib.Utf8Tabs 0 1 W := utf8Tabs_of_reads { Tryz.lays197 with } Tryz.u8x (by have := Lib.laidMet.reads (n := "unicode/utf8.first") (d := Rows.laid_unicode_utf8_first) h (by simp); rw [first_is] at this; exact this) (by have := Lib.laidMet.reads (n := "unicode/utf8.acceptRanges") (d := Rows.laid_unicode_utf8_acceptRanges) h (by simp); rw [accept_is] at this; exact this)
  have ht : Lib.TabIs Tryz.prog W tensName .u64 Lib.pow10Tab := by
    have h3 := h.tail.tail
    rw [tens_is] at h3
    exact Lib.tabIs_of_head (g := 2) (t := 129) (e := 94) (n := 20) (by kernel_rfl) (by kernel_rfl) Tryz.underlying129 Tryz.underlying94 Tryz.cells94 (by kernel_rfl) h3
  obtain ⟨a4, _, v4, _⟩ := laid_sentinel (g := 5) (ti := 78) (tp := 137) (te := 139) (ts := 9) h.tail.tail.tail.tail (by kernel_rfl) (by kernel_rfl) Tryz.underlying78 row299 Tryz.underlying137 Tryz.underlying139 rfl rfl Tryz.underlying9 (by kernel_rfl) Tryz.cells9
  obtain ⟨a5, _, v5, _⟩ := laid_sentinel (g := 4) (ti := 78) (tp := 137) (te := 139) (ts := 9) h.tail.tail.tail.tail.tail (by kernel_rfl) (by kernel_rfl) Tryz.underlying78 row299 Tryz.underlying137 Tryz.underlying139 rfl rfl Tryz.underlying9 (by kernel_rfl) Tryz.cells9
  have c5 : W.cell? ⟨5, 0, none⟩ = some (.iface 137 (.pointer (some a4))) := by
    have := World.var?_cell (g := 5) (by kernel_rfl) v4 0
    simpa using this
  have c4 : W.cell? ⟨4, 0, none⟩ = some (.iface 137 (.pointer (some a5))) := by
    have := World.var?_cell (g := 4) (by kernel_rfl) v5 0
    simpa using this
  exact ⟨hsz, fun w' hb => ⟨utf8_below8 hT hb, ⟨_, _, (World.cell?_of_block (a := ⟨4, 0, none⟩) (hb.block 4 (by omega))).trans c4⟩, ⟨_, _, (World.cell?_of_block (a := ⟨5, 0, none⟩) (hb.block 5 (by omega))).trans c5⟩, tab_below8 (g := 2) (by kernel_rfl) (by omega) ht hb⟩⟩
end Go.Proofs.YtihbpkebknifdaaGreatDoor

namespace Go.Proofs.YtihbpkebknifdaaGreatDoor
open Go Go.RowKit Go.ChangeShapes Go.WideShapes Go.Deep

theorem add_none {b o i : Nat} : (⟨b, o, none⟩ : Addr).add i = ⟨b, o + i, none⟩ := Addr.add_lit ..
theorem bulk_mem {H : Type} {d : DataW H} : ∀ {l : List (DataW H)}, d ∈ l → Rows.uptoBulk d ≤ Rows.uptoBulkAll l
  | x :: r, h => by
    simp only [Rows.uptoBulkAll]
    rcases List.mem_cons.1 h with rfl | h
    · omega
    · have := bulk_mem h; omega
theorem bulk_pos {H : Type} (d : DataW H) : 1 ≤ Rows.uptoBulk d := by
  cases d with
  | lit l => cases l <;> simp [Rows.uptoBulk]
  | _ => simp [Rows.uptoBulk]
theorem bulk_len {H : Type} : ∀ l : List (DataW H), l.length ≤ Rows.uptoBulkAll l
  | [] => Nat.zero_le _
  | d :: r => by
    have h1 := bulk_pos d
    have h2 := bulk_len r
    simp only [Rows.uptoBulkAll, List.length_cons]
    omega
/-- Texts with their depths, as the walk reads them. -/
def ArgR (W : World) (v : Value) : Prop :=
  ∃ (a : Option Addr) (b o A C : Nat) (S : Nat → ByteArray) (D : Nat → Int), v = .slice a A C ∧ A ≤ 1099511627776 ∧ (0 < A → a = some ⟨b, o, none⟩ ∧ b < W.heap.size) ∧ ∀ i, i < A → W.cell? ⟨b, o + i * 2, none⟩ = some (.string (S i)) ∧ W.cell? ⟨b, o + i * 2 + 1, none⟩ = some (.int .i64 (D i)) ∧ (S i).size ≤ 1048576
end Go.Proofs.YtihbpkebknifdaaGreatDoor
