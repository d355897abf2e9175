/- TerseBack's plain facts; Within. -/
import Derived.Test.YtdmnhkgiojkphaaGreatDoorBackA
import Derived.Test.YtdmnhkgiojkphaaGreatDoorOneW
import Derived.Lib.ItoaLen
namespace Go.Proofs.YtdmnhkgiojkphaaGreatDoor
open Go Go.RowKit
open Go.RowKit (wrap32 wrap64)

/-! ### how long a print is -/
theorem quo_le (l : List UInt8) : (quo l).length ≤ 6 * l.length + 2 := by
  unfold quo
  have := escL_le l
  simp only [List.length_cons, List.length_append, List.length_nil]
  omega
theorem quo_leB (k : ByteArray) : (quo k.data.toList).length ≤ 6 * k.size + 2 := by
  have h := quo_le k.data.toList
  have e : k.data.toList.length = k.size := Array.length_toList
  omega
mutual
theorem pr_le : ∀ (t : Tree), Fits t → (pr t).length + 1 ≤ 24 * cntT t
  | .mk k f n t ks is, hf => by
    rw [Fits] at hf
    have hl := prl_le is hf.2
    have hm := prm_le is ks hf.2
    rw [pr, cntT]
    split
    · simp only [nullW, List.length_cons, List.length_nil]; omega
    split
    · split <;> (simp only [trueW, falseW, List.length_cons, List.length_nil]; omega)
    split
    · have := Lib.itoa_length_le n hf.1.1 hf.1.2
      omega
    split
    · have := quo_leB t
      omega
    rw [prs_map]
    split
    · simp only [List.length_cons, List.length_append, List.length_nil]
      omega
    · simp only [List.length_cons, List.length_append, List.length_nil]
      omega
theorem prl_le : ∀ (l : List Tree), FitsL l → (sep (l.map pr)).length ≤ 24 * cntL l
  | [], _ => by simp [sep]
  | [t], h => by
    rw [FitsL] at h
    have := pr_le t h.1
    simp only [List.map_cons, List.map_nil, sep, cntL]
    omega
  | t :: u :: r, h => by
    rw [FitsL] at h
    have h1 := pr_le t h.1
    have h2 := prl_le (u :: r) h.2
    rw [cntL]
    have e : sep ((t :: u :: r).map pr) = pr t ++ 44 :: sep ((u :: r).map pr) := rfl
    rw [e, List.length_append, List.length_cons]
    omega
theorem prm_le : ∀ (l : List Tree) (ks : List ByteArray), FitsL l → (sep (ents ks (l.map pr))).length ≤ 24 * cntL l + 24 * keyN ks
  | [], ks, _ => by simp [ents, sep]
  | _ :: _, [], _ => by simp [ents, sep]
  | [t], k :: kr, h => by
    rw [FitsL] at h
    have h1 := pr_le t h.1
    have h2 := quo_leB k
    have e : sep (ents (k :: kr) ([t].map pr)) = quo k.data.toList ++ 58 :: pr t := by simp [ents, sep]
    rw [e, List.length_append, List.length_cons, cntL, cntL, keyN]
    omega
  | t :: u :: r, [k], h => by
    rw [FitsL] at h
    have h1 := pr_le t h.1
    have h2 := quo_leB k
    have e : sep (ents [k] ((t :: u :: r).map pr)) = quo k.data.toList ++ 58 :: pr t := by simp [ents, sep]
    rw [e, List.length_append, List.length_cons, cntL, keyN, keyN]
    omega
  | t :: u :: r, k :: k2 :: kr, h => by
    rw [FitsL] at h
    have h1 := pr_le t h.1
    have h4 := prm_le (u :: r) (k2 :: kr) h.2
    have h2 := quo_leB k
    have e : sep (ents (k :: k2 :: kr) ((t :: u :: r).map pr)) = quo k.data.toList ++ 58 :: (pr t ++ 44 :: sep (ents (k2 :: kr) ((u :: r).map pr))) := by simp [ents, sep]
    rw [e, List.length_append, List.length_cons, List.length_append, List.length_cons, cntL]
    rw [keyN]
    omega
end
theorem blk_le (B : Nat → List UInt8) (hB : ∀ i, (B i).length ≤ 3) : ∀ (l : List UInt8) (st i : Nat), (blk B st i l).length ≤ 7 * l.length
  | [], _, _ => by simp [blk]
  | c :: r, st, i => by
    rw [blk, List.length_append, List.length_cons]
    have ih := blk_le B hB r (nextS st c) (i + 1)
    have h1 := hB i
    have h2 := hB (i + 1)
    split
    · simp only [List.length_append, List.length_cons]; omega
    · simp only [List.length_cons, List.length_nil]; omega
theorem check_deep : ∀ (n : Nat) (t : Tree) (about : Nat), cntT t ≤ n → checkT t about = 0 → depthT t = 0 ∨ depthT t + about ≤ 32
  | 0, t, _, h, _ => by rw [cntT_eq] at h; omega
  | n + 1, t, about, h, hc => by
    obtain ⟨h1, h2⟩ := check_one hc
    have hk := one_kind h1
    rw [depthT_eq]
    split
    · rename_i hi
      have ha := hk.2.2.2.2.2.2 hi
      have hL : ∀ x ∈ t.items, depthT x + (about + 1) ≤ 32 ∨ depthT x = 0 := fun x hx => by
        have := check_deep n x (about + 1) (by have := cntL_mem hx; rw [cntT_eq] at h; omega) (h2 x hx)
        omega
      right
      by_cases h0 : depthL t.items = 0
      · omega
      · obtain ⟨x, hx, hd⟩ := depthL_ex (l := t.items) (k := depthL t.items - 1) (by omega)
        have := hL x hx
        omega
    · exact .inl rfl

/-! ### what Parse tells of prints -/
theorem told_same (t : Tree) (d : Int) (hc : checkT t 0 = 0) (hf : Fits t) (h0 : (depthT t : Int) ≤ d) (h1 : d ≤ 32) : toldOf (str (pr t)) d = .yes t := by
  unfold toldOf
  rw [if_neg (by omega), str_list, parse_print d.toNat t hc hf (by omega)]
theorem told_blk (n : Nat) (t : Tree) (hc : checkT t 0 = 0) (hf : Fits t) (h1 : depthT t ≤ 32) : toldOf (str (32 :: (blk (bnk n) 0 0 (pr t) ++ [10]))) 32 = .yes t := by
  unfold toldOf
  rw [if_neg (by omega), str_list, show (32 : Int).toNat = 32 from rfl, parse_blk (bnk n) (bnk_bl n) 32 t hc hf h1]
theorem told_deep (t : Tree) (hc : checkT t 0 = 0) (hf : Fits t) (h0 : 0 < depthT t) (h1 : depthT t ≤ 32) : ∃ p, toldOf (str (pr t)) ((depthT t : Int) - 1) = .no 21 p := by
  unfold toldOf
  rw [if_neg (by omega), str_list]
  obtain ⟨q, e⟩ := parse_deep (depthT t - 1) t hc hf (by omega)
  rw [show ((depthT t : Int) - 1).toNat = depthT t - 1 by omega, e]
  exact ⟨_, rfl⟩
theorem told_left (t : Tree) (hc : checkT t 0 = 0) (hf : Fits t) (h1 : depthT t ≤ 32) : toldOf (str (pr t ++ [32, 48])) (depthT t : Int) = .no 25 ((pr t).length + 1) := by
  unfold toldOf
  rw [if_neg (by omega), str_list, Int.toNat_natCast, parse_left _ t hc hf (Nat.le_refl _)]
  simp only [str_size, List.length_append, List.length_cons, List.length_nil]
  congr 1
theorem str_append (a b : List UInt8) : str a ++ str b = str (a ++ b) := by
  rw [← list_str (str a ++ str b)]
  simp [str, ByteArray.data_append]

/-! ### Within -/
set_option maxRecDepth 100000 in
theorem within_any (x : Int) (w : World) :
    Calls Tryz.prog 35 #[.int .i64 x, .int .i64 1073741824] w fun e w' => (∃ n : Nat, e = .returned (.int .i64 n)) ∧ w' = w := by
  obtain ⟨r, hr⟩ : ∃ r, x.tmod 1073741824 = r := ⟨_, rfl⟩
  have hb : -1073741824 < r ∧ r < 1073741824 := by
    rw [← hr]
    exact ⟨Int.lt_tmod_of_pos _ (by decide), Int.tmod_lt_of_pos _ (by decide)⟩
  have HR := hid hb
  obtain ⟨b1, b2⟩ := hb
  have wr1 : IntKind.i64.wrap r = r := by rw [IntKind.wrap_i64]; omega
  by_cases hn : r < 0
  · have hd : decide (r < 0) = true := decide_eq_true hn
    go_enter Tryz.func35, Tryz.ntmps35
    go_wp2_with fail
    go_ret
    exact ⟨⟨(r + 1073741824).toNat, by rw [Int.toNat_of_nonneg (by omega)]; rfl⟩, rfl⟩
  · have hd : decide (r < 0) = false := decide_eq_false hn
    go_enter Tryz.func35, Tryz.ntmps35
    go_wp2_with fail
    go_ret
    exact ⟨⟨r.toNat, by rw [Int.toNat_of_nonneg (by omega)]; rfl⟩, rfl⟩
end Go.Proofs.YtdmnhkgiojkphaaGreatDoor
