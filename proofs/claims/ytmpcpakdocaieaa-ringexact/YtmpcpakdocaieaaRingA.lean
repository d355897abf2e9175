/- Which keys are a ring's: goodUntil, goodKeys, last, Check. -/
import Derived.Test.YtmpcpakdocaieaaKey
import Derived.Test.YtmpcpakdocaieaaQLast
namespace Go.Proofs.Ytmpcpakdocaieaa
open Go Go.RowKit
open Go.RowKit (wrap32 wrap64)

def gu (t : Int) (c : Bool) : Bool := if c then t == 0 else decide (0 < t)
theorem goodUntil_any (t : Int) (c : Bool) (w : World) :
    Calls Try.prog 85 #[.int .i64 t, .bool c] w fun e w' => e = .returned (.bool (gu t c)) ∧ w' = w := by
  cases c with
  | true =>
    go_enter Try.func85, Try.ntmps85
    go_wp2
    go_ret
    exact ⟨rfl, rfl⟩
  | false =>
    go_enter Try.func85, Try.ntmps85
    go_wp2
    go_ret
    exact ⟨rfl, rfl⟩

/-- Keys whose kids rise, from above a number on, the last one current. -/
def goodFrom (ahead : Nat) : List Ky → Bool
  | [] => true
  | k :: l => decide (ahead < k.kid) && (gu k.til l.isEmpty && goodFrom k.kid l)
def goodL (l : List Ky) : Bool := decide (0 < l.length) && (decide (l.length ≤ 8) && goodFrom 0 l)
theorem goodFrom_drop (a : Nat) (l : List Ky) (i : Nat) (hi : i < l.length) : goodFrom a (l.drop i) = (decide (a < (l[i]).kid) && (gu (l[i]).til (decide (i = l.length - 1)) && goodFrom (l[i]).kid (l.drop (i + 1)))) := by
  rw [List.drop_eq_getElem_cons hi]
  have e : (l.drop (i + 1)).isEmpty = decide (i = l.length - 1) := by
    by_cases h : i = l.length - 1
    · rw [decide_eq_true h, List.isEmpty_iff, List.drop_eq_nil_iff]; omega
    · rw [decide_eq_false h]
      cases hd : l.drop (i + 1) with
      | nil => rw [List.drop_eq_nil_iff] at hd; omega
      | cons _ _ => rfl
  show (decide (a < (l[i]).kid) && (gu (l[i]).til (l.drop (i + 1)).isEmpty && goodFrom (l[i]).kid (l.drop (i + 1)))) = _
  rw [e]

theorem RdK.open {w : World} {F : Nat → Prop} {v : Value} {l : List Ky} (h : RdK w F v l) : okL l ∧ ∃ (a : Option Addr) (b off c : Nat), v = .slice a l.length c ∧ l.length ≤ c ∧ Hid (0 < l.length → a = some ⟨b, off, none⟩ ∧ b < w.heap.size) ∧ Hid (∀ u, w.grownBy u none → ∀ i (h : i < l.length), u.rangeAt b (off + i * 34) (l[i]).cells ∧ b < u.heap.size) := by
  have hk := h
  obtain ⟨ho, a, b, off, c, hv, hc, hn, ha, hcell⟩ := h
  exact ⟨ho, a, b, off, c, hv, hc, hid (fun h => ⟨(ha h).1, (ha h).2.1⟩), hid (fun u hu i hi => ⟨range_at hu (ha (by omega)).2.1 (by simp) (hcell i hi), Nat.lt_of_lt_of_le (ha (by omega)).2.1 hu.size⟩)⟩

set_option maxRecDepth 100000 in
set_option maxHeartbeats 800000 in
theorem last_any (w : World) (v : Value) (F : Nat → Prop) (l : List Ky) (hv : RdK w F v l) (h0 : 0 < l.length) (h8 : l.length ≤ 1099511627776) :
    Calls Try.prog 39 #[v] w fun e w' => e = .returned (.agg ((l.getLast?.getD zky).cells.toArray)) ∧ w.grownBy w' none := by
  obtain ⟨ho, a, b, off, c, rfl, hc, Ha, Hc⟩ := hv.open
  obtain ⟨rfl, hb⟩ := Ha.out h0
  obtain ⟨m, hm⟩ : ∃ m, l.length = m + 1 := ⟨l.length - 1, by omega⟩
  have HM := hid hm
  have hml : m < l.length := by omega
  have hlast : l.getLast?.getD zky = l[m] := by
    rw [List.getLast?_eq_getElem?, hm, Nat.add_sub_cancel, List.getElem?_eq_getElem hml]
    rfl
  obtain ⟨hr, hb2⟩ := Hc.out w (grefl _ _) m hml
  obtain ⟨K, HK⟩ : ∃ K, Hid (l[m].cells = K) := ⟨_, hid rfl⟩
  have HKL : Hid (K.length = 34) := hid (by rw [← HK.out]; exact Ky.cells_length (ho.len _ (List.getElem_mem hml)))
  have HK1 : Hid (∀ v ∈ K, v.oneCell' = true) := hid (by rw [← HK.out]; exact Ky.one _)
  rw [hlast, HK.out, hm]
  rw [HK.out] at hr
  have HR := hid hr
  rw [hm] at h8
  clear HK hr hlast hml hm h0 Ha Hc ho hv hc hb2
  go_enter Try.func39, Try.ntmps39
  go_wp2_with (first
    | (refine wpList_alloc_row rfl 107 rfl zky.cells Try.zero107 ?_; intro w1 B1 s1 g1; have HB1 := hid B1; have HG1 := hid g1; have HS1 := hid s1; clear B1 g1 s1)
    | (refine wpList_load_part rfl 107 _ rfl b (off + m * 34) K _ rfl (range_at HG1.out hb (by simp) HR.out) Try.underlying107 rfl (by rw [HKL.out]; exact Try.size107) ?_)
    | (refine wpList_store_all rfl 107 _ _ rfl _ zky.cells K 107 rfl rfl HB1.out (by rw [HKL.out]; rfl) (by rw [HKL.out]; exact Try.size107) HK1.out ?_; intro w2 B2 g2 s2; have HB2 := hid B2; have HG2 := hid g2; clear B2 g2 s2))
  refine bodyPost_ret (results_blk rfl _ w.heap.size 107 K _ rfl HB2.out Try.underlying107 rfl (by rw [HKL.out]; exact Try.size107)) rfl ?_
  exact ⟨rfl, HG1.out.andThen HG2.out (fun j hj => .inl (by injection hj with hj; omega))⟩
end Go.Proofs.Ytmpcpakdocaieaa
