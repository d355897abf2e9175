/- TerseOne's argument opened. -/
import Derived.Test.YtdmnhkgiojkphaaGreatDoorOneO
import Derived.ChangeArms
namespace Go.Proofs.YtdmnhkgiojkphaaGreatDoor
open Go Go.RowKit Go.ChangeShapes Go.WideShapes Go.Deep

theorem add_none {b o i : Nat} : (⟨b, o, none⟩ : Addr).add i = ⟨b, o + i, none⟩ := Addr.add_lit ..
theorem bulk_mem {H : Type} {d : DataW H} : ∀ {l : List (DataW H)}, d ∈ l → Rows.uptoBulk d ≤ Rows.uptoBulkAll l
  | x :: r, h => by
    simp only [Rows.uptoBulkAll]
    rcases List.mem_cons.1 h with rfl | h
    · omega
    · have := bulk_mem h; omega
theorem bulk_pos {H : Type} (d : DataW H) : 1 ≤ Rows.uptoBulk d := by
  cases d with
  | lit l => cases l <;> simp [Rows.uptoBulk]
  | _ => simp [Rows.uptoBulk]
theorem bulk_len {H : Type} : ∀ l : List (DataW H), l.length ≤ Rows.uptoBulkAll l
  | [] => Nat.zero_le _
  | d :: r => by
    have h1 := bulk_pos d
    have h2 := bulk_len r
    simp only [Rows.uptoBulkAll, List.length_cons]
    omega
/-- Texts with their depths, as the walk reads them. -/
def ArgR (W : World) (v : Value) : Prop :=
  ∃ (a : Option Addr) (b o A C : Nat) (S : Nat → ByteArray) (D : Nat → Int), v = .slice a A C ∧ A ≤ 1099511627776 ∧ (0 < A → a = some ⟨b, o, none⟩ ∧ b < W.heap.size) ∧ ∀ i, i < A → W.cell? ⟨b, o + i * 2, none⟩ = some (.string (S i)) ∧ W.cell? ⟨b, o + i * 2 + 1, none⟩ = some (.int .i64 (D i)) ∧ (S i).size ≤ 1048576

section
variable {H : Type} {enc : TypeId × Value → H} {W : World}
set_option maxRecDepth 100000 in
theorem open_R {fuel : Nat} {v : Value} {y : DataW H × List MemPlace} (h : DataW.trod enc Tryz.prog W 0 (fun _ => true) true fuel 39 [v] = some y) (hsz : Rows.uptoBulk y.1 ≤ 1048576) : ArgR W v := by
  rcases open_slice_pairs Tryz.underlying39 Tryz.underlying73 Tryz.cells73 rfl rfl Tryz.cells9 Tryz.cells3 h with ⟨hcs, _⟩ | ⟨a, len, cap, m, n, V0, V1, D0, D1, P0, P1, hcs, _, hl, hm, hmm, hx, hr⟩
  · simp only [List.cons.injEq, and_true] at hcs
    exact ⟨none, 0, 0, 0, 0, fun _ => ⟨#[]⟩, fun _ => 0, hcs, by omega, fun h => by omega, fun i h => by omega⟩
  · simp only [List.cons.injEq, and_true] at hcs
    simp only [if_true] at hmm
    rw [hx] at hsz
    simp only [Rows.uptoBulk] at hsz
    have hlen : len ≤ 1048576 := by
      have := bulk_len ((List.range len).map fun i => (DataW.agg [D0 i, D1 i] : DataW H))
      rw [List.length_map, List.length_range] at this
      omega
    have hex : ∀ i, i < len → ∃ q : ByteArray × Int, W.cell? (a.add (i * 2)) = some (.string q.1) ∧ W.cell? (a.add (i * 2 + 1)) = some (.int .i64 q.2) ∧ q.1.size ≤ 1048576 := by
      intro i hi
      obtain ⟨r1, r2, r3, r4⟩ := hr i (by omega)
      obtain ⟨s, e0, e0', _⟩ := DataW.trod_string Tryz.underlying9 r3
      obtain ⟨z, e1, _, _⟩ := DataW.trod_int (k := .i64) Tryz.underlying3 r4
      simp only [List.cons.injEq, and_true] at e0 e1
      have hb := bulk_mem (d := (DataW.agg [D0 i, D1 i] : DataW H)) (l := (List.range len).map fun i => DataW.agg [D0 i, D1 i]) (List.mem_map.2 ⟨i, List.mem_range.2 hi, rfl⟩)
      have e0'' : D0 i = .lit (.string s.data.toList) := (Prod.mk.inj e0').1
      rw [e0''] at hb
      simp only [Rows.uptoBulk, Rows.uptoBulkAll, Array.length_toList] at hb
      refine ⟨(s, z), by rw [r1, e0], by rw [r2, e1], ?_⟩
      have : s.data.size = s.size := rfl
      show s.size ≤ _
      omega
    obtain ⟨f, hf⟩ := choose_lt hex
    by_cases h0 : len = 0
    · exact ⟨some a, 0, 0, len, cap, fun _ => ⟨#[]⟩, fun _ => 0, hcs, by omega, fun h => by omega, fun i h => by omega⟩
    · obtain ⟨b, off, spot⟩ := a
      have c0 := (hf 0 (by omega)).1
      have hspot : spot = none := by simpa [Addr.add] using World.cell?_spot c0
      subst hspot
      have hblt : b < W.heap.size := by
        rw [add_none] at c0
        exact World.block_lt_of_cell? W _ c0
      refine ⟨some ⟨b, off, none⟩, b, off, len, cap, fun i => (f i).1, fun i => (f i).2, hcs, by omega, fun _ => ⟨rfl, hblt⟩, fun i hi => ?_⟩
      have q := hf i hi
      rw [add_none, add_none] at q
      exact q
end
end Go.Proofs.YtdmnhkgiojkphaaGreatDoor
