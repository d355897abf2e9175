/- The walk of depth. -/
import Derived.Test.YtihbpkebknifdaaGreatDoorX09
import Derived.BigQuiet
import Derived.Deep.RegionHeld3
import Derived.Deep.RegionWith
namespace Go.Proofs.YtihbpkebknifdaaGreatDoor
open Go Go.RowKit
open Go.RowKit (wrap32 wrap64)

def keyN : List ByteArray → Nat
  | [] => 0
  | k :: r => k.size + 1 + keyN r
mutual
/-- How much stands in a tree. -/
def cntT : Tree → Nat
  | .mk _ _ _ t ks is => cntL is + (t.size + keyN ks) + 1
def cntL : List Tree → Nat
  | [] => 0
  | t :: r => cntT t + cntL r
end
theorem cntT_eq (t : Tree) : cntT t = cntL t.items + (t.text.size + keyN t.keys) + 1 := by cases t with | mk => rw [cntT]; rfl
theorem keyN_length (l : List ByteArray) : l.length ≤ keyN l := by
  induction l with
  | nil => simp [keyN]
  | cons a r ih => rw [keyN, List.length_cons]; omega
theorem keyN_mem {l : List ByteArray} {k : ByteArray} (h : k ∈ l) : k.size ≤ keyN l := by
  induction l with
  | nil => cases h
  | cons a r ih =>
    rw [keyN]
    rcases List.mem_cons.1 h with rfl | h
    · omega
    · have := ih h; omega
theorem cntL_mem {l : List Tree} {t : Tree} (h : t ∈ l) : cntT t ≤ cntL l := by
  induction l with
  | nil => cases h
  | cons a r ih =>
    rw [cntL]
    rcases List.mem_cons.1 h with rfl | h
    · omega
    · have := ih h; omega
theorem cntL_length (l : List Tree) : l.length ≤ cntL l := by
  induction l with
  | nil => simp [cntL]
  | cons a r ih =>
    rw [cntL, List.length_cons]
    have := cntT_eq a
    omega
mutual
theorem depth_cnt : ∀ t, depthT t ≤ cntT t
  | .mk k f n t ks is => by
    rw [depthT, cntT]
    have := depthL_cnt is
    split <;> omega
theorem depthL_cnt : ∀ l, depthL l ≤ cntL l
  | [] => by simp [depthL]
  | t :: r => by
    rw [depthL, cntL]
    have := depth_cnt t
    have := depthL_cnt r
    omega
end

/-- The cells of a new block of a value. -/
theorem boxed (w : World) (a b c d e f : Value) : (w.alloc (.cells #[a, b, c, d, e, f] 25)).heap[w.heap.size]? = some (.cells #[a, b, c, d, e, f] 25 (0, 0)) := heap_alloc_new w _
theorem Stays.none {F : Nat → Prop} {w w' : World} (hg : w.grownBy w' none) : Stays F w w' := Stays.grown hg fun _ _ => by simp

/-- The cells of an item, as an index finds them. -/
theorem RdIs.at {w wr : World} {F : Nat → Prop} {g o : Nat} {l : List Tree} (h : RdIs w F g o l) (hs : Stays F w wr) (hF : F g) (hg : g < w.heap.size) (i : Nat) (hi : i < l.length) :
    ∃ a b c d e f, wr.cell? ⟨g, o + i * 6, none⟩ = some a ∧ wr.cell? ⟨g, o + i * 6 + 1, none⟩ = some b ∧ wr.cell? ⟨g, o + i * 6 + 2, none⟩ = some c ∧ wr.cell? ⟨g, o + i * 6 + 3, none⟩ = some d ∧ wr.cell? ⟨g, o + i * 6 + 4, none⟩ = some e ∧ wr.cell? ⟨g, o + i * 6 + 5, none⟩ = some f ∧ RdT wr F l[i] (.agg #[a, b, c, d, e, f]) := by
  have := RdIs.get _ (RdIs.kept hs (fun _ h _ => h) hF hg _ h) i _ (List.getElem?_eq_getElem hi)
  rw [Nat.mul_comm 6 i] at this
  exact this

end Go.Proofs.YtihbpkebknifdaaGreatDoor

namespace Go.Proofs.YtihbpkebknifdaaGreatDoor
open Go Go.RowKit
open Go.RowKit (wrap32 wrap64)

/-- Items in memory, as a slice. -/
def RdS (w : World) (F : Nat → Prop) (l : List Tree) (v : Value) : Prop :=
  ∃ (a : Option Addr) (c : Nat), v = .slice a l.length c ∧ l.length ≤ c ∧ (0 < l.length → ∃ g o, a = some ⟨g, o, none⟩ ∧ g < w.heap.size ∧ F g ∧ RdIs w F g o l)
theorem RdS.on {w w' : World} {F : Nat → Prop} {l : List Tree} {v : Value} (h : RdS w F l v) (hs : Stays F w w') : RdS w' F l v := by
  obtain ⟨a, c, rfl, hc, hi⟩ := h
  refine ⟨a, c, rfl, hc, fun h0 => ?_⟩
  obtain ⟨g, o, rfl, hg, hF, hr⟩ := hi h0
  exact ⟨g, o, rfl, Nat.lt_of_lt_of_le hg hs.1, hF, RdIs.kept hs (fun _ h _ => h) hF hg _ hr⟩
theorem RdT_split {w : World} {F : Nat → Prop} {t : Tree} {v : Value} (h : RdT w F t v) : ∃ kv iv, v = .agg #[.int .i64 t.kind, .bool t.flag, .int .i64 t.n, .string t.text, kv, iv] ∧ RdK w F t.keys kv ∧ RdS w F t.items iv := by
  rw [RdT_eq] at h
  obtain ⟨kv, a, c, rfl, hk, hc, hi⟩ := h
  exact ⟨kv, _, rfl, hk, a, c, rfl, hc, hi⟩
end Go.Proofs.YtihbpkebknifdaaGreatDoor
