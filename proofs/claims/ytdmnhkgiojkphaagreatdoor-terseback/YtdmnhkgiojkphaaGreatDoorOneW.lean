/- The walk of wakes. -/
import Derived.Test.YtdmnhkgiojkphaaGreatDoorOneC
namespace Go.Proofs.YtdmnhkgiojkphaaGreatDoor
open Go Go.RowKit Go.Maps
open Go.RowKit (wrap32 wrap64)

theorem cells2 {w : World} {k : Nat} {a b : Value} {t : TypeId} (h : w.heap[k]? = some (.cells #[a, b] t (0, 0))) : (w.cell? ⟨k, 0, none⟩ = some a ∧ w.cell? ⟨k, 1, none⟩ = some b) ∧ ∀ o, w.frozen? ⟨k, o, none⟩ = false := by
  refine ⟨⟨by simp [World.cell?, h], by simp [World.cell?, h]⟩, fun o => by simp [World.frozen?, h]⟩
def wakeS : ByteArray := ⟨#[32, 123, 34, 98, 34, 32, 58, 32, 91, 49, 44, 45, 50, 93, 44, 32, 34, 97, 34, 58, 110, 117, 108, 108, 125]⟩
def wakeT : Tree := .mk 6 false 0 ⟨#[]⟩ [⟨#[98]⟩, ⟨#[97]⟩] [.mk 5 false 0 ⟨#[]⟩ [] [.mk 3 false 1 ⟨#[]⟩ [] [], .mk 3 false (-2) ⟨#[]⟩ [] []], .mk 1 false 0 ⟨#[]⟩ [] []]
def wakeB : ByteArray := ⟨#[91, 49, 44, 93]⟩
theorem wake_yes : toldOf wakeS 2 = .yes wakeT := by kernel_rfl
theorem wake_no : toldOf wakeB 2 = .no 22 3 := by kernel_rfl
theorem itoa1 : Lib.itoa 1 = [49] := by
  have := Lib.itoa_nonneg 1
  rw [Lib.decDigits_one (by omega)] at this
  exact this
theorem itoa2 : Lib.itoa (-2) = [45, 50] := by
  have := Lib.itoa_neg 2 (by omega)
  rw [Lib.decDigits_one (by omega)] at this
  exact this
theorem wake_pr : pr wakeT = [123, 34, 98, 34, 58, 91, 49, 44, 45, 50, 93, 44, 34, 97, 34, 58, 110, 117, 108, 108, 125] := by
  have e1 : pr (.mk 3 false 1 ⟨#[]⟩ [] []) = [49] := by rw [pr_eq]; show Lib.itoa 1 = _; exact itoa1
  have e2 : pr (.mk 3 false (-2) ⟨#[]⟩ [] []) = [45, 50] := by rw [pr_eq]; show Lib.itoa (-2) = _; exact itoa2
  have e3 : pr (.mk 5 false 0 ⟨#[]⟩ [] [.mk 3 false 1 ⟨#[]⟩ [] [], .mk 3 false (-2) ⟨#[]⟩ [] []]) = [91, 49, 44, 45, 50, 93] := by
    rw [pr_list]
    simp only [List.map_cons, List.map_nil, e1, e2]
    rfl
  have e4 : pr (.mk 1 false 0 ⟨#[]⟩ [] []) = nullW := by rw [pr_eq]; rfl
  unfold wakeT
  rw [pr_map]
  simp only [List.map_cons, List.map_nil, e3, e4]
  rfl

set_option maxRecDepth 100000 in
set_option maxHeartbeats 1000000 in
theorem wakes_any (w : World) (hG : Glob w) : Calls Tryz.prog 17 #[] w fun e w' => e = .returned (.bool true) ∧ w.grownBy w' none := by
  have HG := hid hG
  have hgd := told_good wake_yes
  have hcn : cntT wakeT ≤ 1099511627776 := Nat.le_trans (cnt_pr _ wakeT (Nat.le_refl _) 0 hgd.2.1) (by rw [wake_pr]; decide)
  have HP : Hid (∀ (u : World) (F : Nat → Prop) (v : Value), RdT u F wakeT v → Glob u → Calls Tryz.prog 13 #[v] u fun e w' => e = .returned (.tuple #[.string ⟨#[123, 34, 98, 34, 58, 91, 49, 44, 45, 50, 93, 44, 34, 97, 34, 58, 110, 117, 108, 108, 125]⟩, .int .i64 0]) ∧ u.grownBy w' none) := fun u F v hv hGu => by
    have := print_ok wakeT hgd.2.1 hgd.2.2.1 hcn (by rw [wake_pr]; decide) u F v hv hGu
    rw [wake_pr] at this
    exact this
  have HY : Hid (∀ u : World, Glob u → _) := fun u hu => parse_yes wake_yes (by decide) u hu
  have HN : Hid (∀ u : World, Glob u → _) := fun u hu => (parse_no wake_no (by decide) u hu).2
  clear hgd hcn hG
  unfold wakeS at HY
  unfold wakeB zeroV6 at HN
  go_enter Tryz.func17, Tryz.ntmps17
  go_wp2_with fail
  refine (HY.out w HG.out).mono ?_
  rintro e w1 ⟨k, f, n, x, ka, kn, kc, ia, il, ic, rfl, hT, hg1⟩
  have HT := hid hT
  have HG1 := hid hg1
  have hGl : Glob w1 := HG.out.grown hg1 (fun k hk => by cases hk)
  have HGl := hid hGl
  clear hT hg1 hGl
  have hgW : w1.grownBy ((w1.alloc (.cells #[.int .i64 k, .bool f, .int .i64 n, .string x, .slice ka kn kc, .slice ia il ic] 26)).alloc (.cells #[.int .i64 0, .int .i64 0] 69)) none := gtrans (galloc _ _ none) (galloc _ _ none)
  have hc5 : ((w1.alloc (.cells #[.int .i64 k, .bool f, .int .i64 n, .string x, .slice ka kn kc, .slice ia il ic] 26)).alloc (.cells #[.int .i64 0, .int .i64 0] 69)).heap[w1.heap.size + 1]? = some (.cells #[.int .i64 0, .int .i64 0] 69 (0, 0)) := lit_new _ _ _ _ (by simp)
  go_wp2_with fail
  generalize (w1.alloc (.cells #[.int .i64 k, .bool f, .int .i64 n, .string x, .slice ka kn kc, .slice ia il ic] 26)).alloc (.cells #[.int .i64 0, .int .i64 0] 69) = W2 at hgW hc5 ⊢
  have hG2 : Glob W2 := HGl.out.grown hgW (fun k hk => by cases hk)
  refine (HP.out W2 _ _ (HT.out.on (Stays.none hgW)) hG2).mono ?_
  rintro e w3 ⟨rfl, hg3⟩
  have hG3 : Glob w3 := hG2.grown hg3 (fun k hk => by cases hk)
  have HG3 := hid hG3
  have hlt := (Array.getElem?_eq_some_iff.1 hc5).1
  have hc6 : w3.heap[w1.heap.size + 1]? = some (.cells #[.int .i64 0, .int .i64 0] 69 (0, 0)) := (hg3.block _ hlt (by simp)).trans hc5
  have HC6 := hid hc6
  have HGg := hid (gtrans (gtrans HG1.out hgW) hg3)
  clear hgW hc5 hG2 hg3 hG3 hlt hc6
  go_wp2_with fail
  refine (HN.out w3 HG3.out).mono ?_
  rintro e w4 ⟨rfl, hg4⟩
  have hlt := (Array.getElem?_eq_some_iff.1 HC6.out).1
  have hc7 : w4.heap[w1.heap.size + 1]? = some (.cells #[.int .i64 0, .int .i64 0] 69 (0, 0)) := (hg4.block _ hlt (by simp)).trans HC6.out
  have j := fun (x y : Obj) => (cells2 (lit_old (lit_old hc7 x) y))
  have j0 := fun (x y : Obj) => (j x y).1.1
  have j1 := fun (x y : Obj) => (j x y).1.2
  have jf := fun (x y : Obj) => (j x y).2
  have HGh := hid (gtrans HGg.out hg4)
  have HN2 := hid (num_any)
  clear j hc7 hlt hg4
  go_wp2_with (go_at_call 14; refine (HN2.out _ _).mono ?_; rintro e u5 ⟨rfl, rfl⟩)
  go_ret
  exact ⟨rfl, gtrans HGh.out (gtrans (galloc w4 _ none) (galloc _ _ none))⟩
end Go.Proofs.YtdmnhkgiojkphaaGreatDoor
