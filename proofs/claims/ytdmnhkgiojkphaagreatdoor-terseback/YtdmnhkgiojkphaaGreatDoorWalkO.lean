/- The walk of depth. -/
import Derived.Test.YtdmnhkgiojkphaaGreatDoorMem
namespace Go.Proofs.YtdmnhkgiojkphaaGreatDoor
open Go Go.RowKit
open Go.RowKit (wrap32 wrap64)

def keyN : List ByteArray → Nat
  | [] => 0
  | k :: r => k.size + 1 + keyN r
mutual
/-- How much stands in a tree. -/
def cntT : Tree → Nat
  | .mk _ _ _ t ks is => cntL is + (t.size + keyN ks) + 1
def cntL : List Tree → Nat
  | [] => 0
  | t :: r => cntT t + cntL r
end
theorem cntT_eq (t : Tree) : cntT t = cntL t.items + (t.text.size + keyN t.keys) + 1 := by cases t with | mk => rw [cntT]; rfl
theorem keyN_length (l : List ByteArray) : l.length ≤ keyN l := by
  induction l with
  | nil => simp [keyN]
  | cons a r ih => rw [keyN, List.length_cons]; omega
theorem keyN_mem {l : List ByteArray} {k : ByteArray} (h : k ∈ l) : k.size ≤ keyN l := by
  induction l with
  | nil => cases h
  | cons a r ih =>
    rw [keyN]
    rcases List.mem_cons.1 h with rfl | h
    · omega
    · have := ih h; omega
theorem cntL_mem {l : List Tree} {t : Tree} (h : t ∈ l) : cntT t ≤ cntL l := by
  induction l with
  | nil => cases h
  | cons a r ih =>
    rw [cntL]
    rcases List.mem_cons.1 h with rfl | h
    · omega
    · have := ih h; omega
theorem cntL_length (l : List Tree) : l.length ≤ cntL l := by
  induction l with
  | nil => simp [cntL]
  | cons a r ih =>
    rw [cntL, List.length_cons]
    have := cntT_eq a
    omega
mutual
theorem depth_cnt : ∀ t, depthT t ≤ cntT t
  | .mk k f n t ks is => by
    rw [depthT, cntT]
    have := depthL_cnt is
    split <;> omega
theorem depthL_cnt : ∀ l, depthL l ≤ cntL l
  | [] => by simp [depthL]
  | t :: r => by
    rw [depthL, cntL]
    have := depth_cnt t
    have := depthL_cnt r
    omega
end

/-- The cells of a new block of a value. -/
theorem boxed (w : World) (a b c d e f : Value) : (w.alloc (.cells #[a, b, c, d, e, f] 26)).heap[w.heap.size]? = some (.cells #[a, b, c, d, e, f] 26 (0, 0)) := heap_alloc_new w _
theorem Stays.none {F : Nat → Prop} {w w' : World} (hg : w.grownBy w' none) : Stays F w w' := Stays.grown hg fun _ _ => by simp

/-- The cells of an item, as an index finds them. -/
theorem RdIs.at {w wr : World} {F : Nat → Prop} {g o : Nat} {l : List Tree} (h : RdIs w F g o l) (hs : Stays F w wr) (hF : F g) (hg : g < w.heap.size) (i : Nat) (hi : i < l.length) :
    ∃ a b c d e f, wr.cell? ⟨g, o + i * 6, none⟩ = some a ∧ wr.cell? ⟨g, o + i * 6 + 1, none⟩ = some b ∧ wr.cell? ⟨g, o + i * 6 + 2, none⟩ = some c ∧ wr.cell? ⟨g, o + i * 6 + 3, none⟩ = some d ∧ wr.cell? ⟨g, o + i * 6 + 4, none⟩ = some e ∧ wr.cell? ⟨g, o + i * 6 + 5, none⟩ = some f ∧ RdT wr F l[i] (.agg #[a, b, c, d, e, f]) := by
  have := RdIs.get _ (RdIs.kept hs (fun _ h _ => h) hF hg _ h) i _ (List.getElem?_eq_getElem hi)
  rw [Nat.mul_comm 6 i] at this
  exact this

set_option maxRecDepth 100000 in
set_option maxHeartbeats 1000000 in
theorem depth_any : ∀ (n : Nat) (t : Tree), cntT t ≤ n → n ≤ 1099511627776 → ∀ (w : World) (F : Nat → Prop) (v : Value), RdT w F t v →
    Calls Tryz.prog 33 #[v] w fun e w' => e = .returned (.int .i64 (depthT t)) ∧ w.grownBy w' none
  | 0, t, hn, _, _, _, _, _ => by rw [cntT_eq] at hn; omega
  | n + 1, t, hn, hN, w, F, v, hv => by
    have ih := depth_any n
    have hv' := hv
    rw [RdT_eq] at hv'
    obtain ⟨kv, ia, ic, rfl, hkv, hc, hi⟩ := hv'
    obtain ⟨ka, kc, rfl, hkr⟩ := hkv
    obtain ⟨A, HA⟩ : ∃ A, Hid (t.items.length = A) := ⟨_, hid rfl⟩
    obtain ⟨KN, HKN⟩ : ∃ A, Hid (t.keys.length = A) := ⟨_, hid rfl⟩
    rw [HA.out, HKN.out] at hv
    obtain ⟨K, HKK⟩ : ∃ K, Hid (t.kind = K) := ⟨_, hid rfl⟩
    rw [HKK.out] at hv
    have hA : A ≤ 1099511627776 := by have := cntL_length t.items; rw [cntT_eq] at hn; rw [HA.out] at this; omega
    rw [HA.out, HKN.out, HKK.out]
    have HV := hid hv
    have HI := hid hi
    have HIH := hid ih
    have HN := hid hn
    have HNN := hid hN
    clear hv hi ih hn hN hc
    obtain ⟨W0, hW0⟩ : ∃ W0, w.alloc (.cells #[.int .i64 K, .bool t.flag, .int .i64 t.n, .string t.text, .slice ka KN kc, .slice ia A ic] 26) = W0 := ⟨_, rfl⟩
    have c0 := boxed w (.int .i64 K) (.bool t.flag) (.int .i64 t.n) (.string t.text) (.slice ka KN kc) (.slice ia A ic)
    have g0 : w.grownBy W0 none := by rw [← hW0]; exact galloc _ _ none
    rw [hW0] at c0
    have HW0 := hid hW0
    have HC0 := hid c0
    have HG0 := hid g0
    obtain ⟨⟨x0, x1, x2, x3, x4, x5⟩, xf⟩ := cells6 c0
    clear c0 g0
    by_cases h56 : hasItems K = true
    · have HD : Hid (depthT t = depthL t.items + 1) := by rw [depthT_eq, HKK.out, if_pos h56]; exact rfl
      have hL : ∀ u : World, u.heap[w.heap.size]? = W0.heap[w.heap.size]? → u.cell? ⟨w.heap.size, 5, none⟩ = some (.slice ia A ic) := fun u hu => by
        rw [World.cell?_of_block (w := W0) (a := ⟨w.heap.size, 5, none⟩) hu]; exact x5
      have HL := hid hL
      clear hL
      have hk : K = 5 ∨ K = 6 := by simpa [hasItems] using h56
      clear h56 hkr
      rcases hk with rfl | rfl
      all_goals
        go_enter Tryz.func33, Tryz.ntmps33
        go_wp2_with fail
        go_loopw [3, 4] (fun nv iv wr => ∃ (m i : Nat), nv = .int .i64 m ∧ iv = .int .i64 i ∧ i ≤ A ∧ m ≤ 1099511627776 ∧ Hid (depthL t.items = max m (depthL (t.items.drop i))) ∧ Hid (W0.grownBy wr none)) (fun _ iv _ => A - (intOf iv).toNat)
        case atStart => exact ⟨0, 0, rfl, rfl, Nat.zero_le _, by omega, by rw [List.drop_zero]; exact hid (by omega), grefl _ _⟩
        case round =>
          obtain ⟨m, i, rfl, rfl, hi, hm, HM, HG⟩ := hrel
          have y5 := HL.out wr (HG.out.block _ (Array.getElem?_eq_some_iff.1 HC0.out).1 (by simp))
          by_cases hlt : i < A
          · have hd : decide ((i : Int) < (A : Int)) = true := decide_eq_true (by omega)
            have hit : i < t.items.length := by have := HA.out; omega
            obtain ⟨g, o, rfl, hg, hF, hRd⟩ := HI.out (by omega)
            have hSt : Stays F w wr := Stays.none (gtrans HG0.out HG.out)
            obtain ⟨a0, a1, a2, a3, a4, a5, z0, z1, z2, z3, z4, z5, hT⟩ := hRd.at hSt hF hg i hit
            have HT := hid hT
            have hci : cntT t.items[i] ≤ n := by
              have h1 := cntL_mem (List.getElem_mem hit)
              have h2 := HN.out
              rw [cntT_eq] at h2
              omega
            have HDr : Hid (depthL (t.items.drop i) = max (depthT t.items[i]) (depthL (t.items.drop (i + 1)))) := by
              rw [List.drop_eq_getElem_cons hit, depthL]; exact rfl
            clear hT hRd hSt
            go_wp2_with fail
            refine (HIH.out t.items[i] hci (by have := HNN.out; omega) wr F _ HT.out).mono ?_
            rintro e w' ⟨rfl, hg'⟩
            have hdc := depth_cnt t.items[i]
            have HG' := hid (gtrans HG.out hg')
            obtain ⟨D, HDD⟩ : ∃ D, Hid (depthT t.items[i] = D) := ⟨_, hid rfl⟩
            rw [HDD.out] at HDr hdc ⊢
            have hD : D ≤ 1099511627776 := by have := HNN.out; omega
            clear hg' hdc
            by_cases hmd : m < D
            · have hd2 : decide ((m : Int) < (D : Int)) = true := decide_eq_true (by omega)
              go_wp2_with fail
              exact ⟨⟨D, i + 1, rfl, rfl, by omega, hD, hid (by have h1 := HM.out; have h2 := HDr.out; omega), HG'⟩, by simp only [intOf]; omega⟩
            · have hd2 : decide ((m : Int) < (D : Int)) = false := decide_eq_false (by omega)
              go_wp2_with fail
              exact ⟨⟨m, i + 1, rfl, rfl, by omega, hm, hid (by have h1 := HM.out; have h2 := HDr.out; omega), HG'⟩, by simp only [intOf]; omega⟩
          · have hd : decide ((i : Int) < (A : Int)) = false := decide_eq_false (by omega)
            go_wp2_with fail
            go_ret
            refine ⟨?_, gtrans HG0.out HG.out⟩
            have : t.items.drop i = [] := List.drop_eq_nil_of_le (by have := HA.out; omega)
            have h2 := HM.out
            rw [this] at h2
            rw [HD.out, h2]
            simp [depthL]
    · have h5 : K ≠ 5 := by intro h; subst h; exact h56 rfl
      have h6 : K ≠ 6 := by intro h; subst h; exact h56 rfl
      have b5 : (K != 5) = true := by simpa using h5
      have b6 : (K != 6) = true := by simpa using h6
      have HD : Hid (depthT t = 0) := by rw [depthT_eq, HKK.out, if_neg h56]; exact rfl
      go_enter Tryz.func33, Tryz.ntmps33
      go_wp2_with fail
      go_ret
      exact ⟨by rw [HD.out]; rfl, HG0.out⟩
end Go.Proofs.YtdmnhkgiojkphaaGreatDoor
