/- IndexFunc, DeleteFunc. -/
import Derived.Test.YtlgjmhemgfjgnaaGreatX15
namespace Go.Proofs.YtlgjmhemgfjgnaaGreat
open Go Go.RowKit
open Go.RowKit (wrap32 wrap64)

set_option maxRecDepth 100000 in
set_option maxHeartbeats 800000 in
set_option maxRecDepth 100000 in
/-- the first entry that goes: m, or none (m the length). -/
theorem index_any (w : World) (v : Value) (F : Nat → Prop) (l : List Ky) (p : Nat) (now : Int) (m : Nat) (hv : RdK w F v l) (hl : l.length ≤ 1099511627776) (hp : w.cell? ⟨p, 0, none⟩ = some (.int .i64 now))
    (hm : m ≤ l.length) (hj : ∀ j (h : j < l.length), j < m → ¬ l[j].ex ≤ now) (hi : ∀ h : m < l.length, l[m].ex ≤ now) :
    Calls Tryz.prog 80 #[v, .func (.func 41) #[] #[.pointer (some ⟨p, 0, none⟩)]] w fun e w' => e = .returned (.int .i64 (if m < l.length then (m : Int) else -1)) ∧ w.grownBy w' none := by
  have hpl : p < w.heap.size := cell_lt hp
  have HP := hid hp
  obtain ⟨ho, a, b, off, c, rfl, hc, Ha, Hc⟩ := hv.open
  obtain ⟨n, HN⟩ : ∃ n, Hid (l.length = n) := ⟨_, hid rfl⟩
  have HO := hid ho
  have HI := hid hi
  have HJ := hid hj
  rw [HN.out] at hm hl ⊢
  have HF : Hid (∀ (u : World) (k : Ky), k.id.length = 16 → w.grownBy u none → Calls Tryz.prog 41 #[.agg k.cells.toArray, .pointer (some ⟨p, 0, none⟩)] u fun e w' => e = .returned (.bool (decide (k.ex ≤ now))) ∧ u.grownBy w' none) := fun u k hk hu => le_ex u k p now hk ((cell_at hu hpl (by simp)).trans HP.out)
  obtain ⟨E, HE⟩ : ∃ E, Hid ((if m < n then (m : Int) else -1) = E) := ⟨_, hid rfl⟩
  rw [HE.out]
  clear hv hc ho hj hi hp
  go_enter Tryz.func80, Tryz.ntmps80
  go_wp2_with fail
  go_loopw [8] (fun iv wr => ∃ i : Nat, iv = .int .i64 i ∧ i ≤ m ∧ Hid (w.grownBy wr none)) (fun iv _ => n - (intOf iv).toNat)
  case atStart => exact ⟨0, rfl, Nat.zero_le _, hid (grefl _ _)⟩
  case round =>
    obtain ⟨i, rfl, him, HG⟩ := hrel
    by_cases hlt : i < n
    · have hil : i < l.length := by rw [HN.out]; exact hlt
      have hlt' : (i : Int) < (n : Int) := by omega
      obtain ⟨rfl, -⟩ := Ha.out (by omega)
      obtain ⟨hr, hb⟩ := Hc.out wr HG.out i hil
      have hko := HO.out _ (List.getElem_mem hil)
      have HKL : Hid (l[i].cells.length = 19) := hid (Ky.cells_length hko.2.1)
      have HFi : Hid (∀ u, w.grownBy u none → Calls Tryz.prog 41 #[.agg l[i].cells.toArray, .pointer (some ⟨p, 0, none⟩)] u fun e w' => e = .returned (.bool (decide (l[i].ex ≤ now))) ∧ u.grownBy w' none) := fun u hu => HF.out u _ hko.2.1 hu
      obtain ⟨g, HGv⟩ : ∃ g, Hid (decide (l[i].ex ≤ now) = g) := ⟨_, hid rfl⟩
      have HGd : Hid (g = decide (i = m)) := hid (by
        rw [← HGv.out]
        by_cases h : i = m
        · subst h; rw [decide_eq_true rfl]; simpa using HI.out hil
        · rw [decide_eq_false h]; simpa using HJ.out i hil (by omega))
      obtain ⟨K, HK⟩ : ∃ K, Hid (l[i].cells = K) := ⟨_, hid rfl⟩
      rw [HGv.out, HK.out] at HFi
      rw [HK.out] at HKL hr
      have HRr := hid hr
      clear hr hko HK HGv hil HF
      cases g with
      | true =>
        have hm' : i = m := by have := HGd.out; simpa using this
        subst hm'
        go_wp2_with (first
          | (with_reducible refine wpList_load_part (by with_unfolding_all rfl) 85 _ (by with_unfolding_all rfl) b (off + i * 19) K _ (by with_unfolding_all rfl) HRr.out Tryz.underlying85 (by with_unfolding_all rfl) (by rw [HKL.out]; exact Tryz.size85) ?_)
          | (go_at_call 41; with_reducible refine (HFi.out _ HG.out).mono ?_; rintro e w2 ⟨rfl, hg2⟩; have HG2 := hid hg2; clear hg2))
        go_ret
        exact ⟨by rw [← HE.out, if_pos hlt]; rfl, gtrans HG.out HG2.out⟩
      | false =>
        have hm' : i ≠ m := by have := HGd.out; simpa using this
        go_wp2_with (first
          | (with_reducible refine wpList_load_part (by with_unfolding_all rfl) 85 _ (by with_unfolding_all rfl) b (off + i * 19) K _ (by with_unfolding_all rfl) HRr.out Tryz.underlying85 (by with_unfolding_all rfl) (by rw [HKL.out]; exact Tryz.size85) ?_)
          | (go_at_call 41; with_reducible refine (HFi.out _ HG.out).mono ?_; rintro e w2 ⟨rfl, hg2⟩; have HG2 := hid hg2; clear hg2))
        go_roundw
        case rel => exact ⟨i + 1, by go_num, by omega, hid (gtrans HG.out HG2.out)⟩
        case measure => simp [intOf]; omega
    · have hge : ¬ (i : Int) < (n : Int) := by omega
      have hmn : ¬ m < n := by omega
      go_wp2_with fail
      go_ret
      exact ⟨by rw [← HE.out, if_neg hmn]; rfl, HG.out⟩

set_option maxRecDepth 100000 in
theorem first_bad (l : List Ky) (now : Int) : ∃ m, m ≤ l.length ∧ (∀ j (h : j < l.length), j < m → ¬ l[j].ex ≤ now) ∧ (∀ h : m < l.length, l[m].ex ≤ now) ∧ l.take m = (l.take m).filter (fun r => decide (now < r.ex)) := by
  induction l with
  | nil => exact ⟨0, Nat.le_refl _, fun j h => by simp at h, fun h => by simp at h, rfl⟩
  | cons r l ih =>
    obtain ⟨m, h1, h2, h3, h4⟩ := ih
    by_cases hr : r.ex ≤ now
    · exact ⟨0, Nat.zero_le _, fun j _ h => absurd h (Nat.not_lt_zero _), fun _ => hr, rfl⟩
    · refine ⟨m + 1, by simpa using h1, fun j h hj => ?_, fun h => h3 (by simpa using h), ?_⟩
      · cases j with
        | zero => exact hr
        | succ j => exact h2 j (by simpa using h) (by omega)
      · rw [List.take_succ_cons, List.filter_cons_of_pos (by simpa using hr), ← h4]

set_option maxRecDepth 100000 in
/-- a row as the list that it holds and what stands behind. -/
theorem kcs_mid (m : List Ky) (hm : okL m) (i : Nat) (hi : i < m.length) (rest : List Value) : kcs m ++ rest = kcs (m.take i) ++ (m[i].cells ++ (kcs (m.drop (i + 1)) ++ rest)) ∧ (kcs (m.take i)).length = i * 19 := by
  constructor
  · have e : m = m.take i ++ (m[i] :: m.drop (i + 1)) := by rw [← List.drop_eq_getElem_cons hi, List.take_append_drop]
    conv => lhs; rw [e]
    rw [kcs_append, kcs_cons]
    simp [List.append_assoc]
  · rw [kcs_length _ (fun k hk => hm.len k (List.mem_of_mem_take hk)), List.length_take]
    congr 1
    omega
set_option maxRecDepth 100000 in
theorem Blk.elem {w : World} {b : Nat} {m : List Ky} {rest : List Value} (h : Blk w b (kcs m ++ rest) 85) (hm : okL m) (i : Nat) (hi : i < m.length) : w.rangeAt b (i * 19) m[i].cells :=
  h.range _ _ _ _ (kcs_mid m hm i hi rest).1 (kcs_mid m hm i hi rest).2
set_option maxRecDepth 100000 in
theorem splice_key (m : List Ky) (hm : okL m) (i : Nat) (hi : i < m.length) (rest : List Value) (r : Ky) (hr : r.id.length = 16) : splice (kcs m ++ rest) (i * 19) r.cells = kcs (m.set i r) ++ rest := by
  obtain ⟨e, hl⟩ := kcs_mid m hm i hi rest
  rw [e, splice_mid _ _ _ _ _ hl (by rw [Ky.cells_length hr, Ky.cells_length (hm.len _ (List.getElem_mem hi))])]
  have e2 : m.set i r = m.take i ++ (r :: m.drop (i + 1)) := by rw [List.set_eq_take_append_cons_drop, if_pos hi]
  rw [e2, kcs_append, kcs_cons]
  simp [List.append_assoc]
set_option maxRecDepth 100000 in
theorem okL_set {m : List Ky} (hm : okL m) (i : Nat) {r : Ky} (hr : r.ok) : okL (m.set i r) := fun k hk => by
  rcases List.mem_or_eq_of_mem_set hk with h | h
  · exact hm k h
  · rw [h]; exact hr
set_option maxRecDepth 100000 in
theorem zero_cells (n : Nat) : (Builtin.zeroCells zky.cells.toArray n).toList.length = n * 19 ∧ ∀ v ∈ (Builtin.zeroCells zky.cells.toArray n).toList, v.oneCell' = true := by
  constructor
  · rw [Array.length_toList, zeroCells_size]; rfl
  · intro v hv
    unfold Builtin.zeroCells at hv
    rw [Array.toList_map] at hv
    obtain ⟨i, _, rfl⟩ := List.mem_map.1 hv
    have hs : zky.cells.toArray.size = 19 := rfl
    have hi : i % zky.cells.toArray.size < zky.cells.toArray.size := Nat.mod_lt _ (by rw [hs]; decide)
    rw [getElem!_pos zky.cells.toArray _ hi]
    exact zky.one _ (by rw [List.getElem_toArray]; exact List.getElem_mem _)
set_option maxRecDepth 100000 in
theorem zeroV48 (u : World) : (zeroValue 85).run Tryz.prog u = .ok (.agg zky.cells.toArray) u := by kernel_rfl
set_option maxRecDepth 100000 in
theorem run_clear {w : World} {b n c off : Nat} {cs : List Value} (hb : Blk w b cs 85) (hn : 0 < n) (hfit : off + n * 19 ≤ cs.length) (ty : TypeId) :
    (Builtin.clear_ #[57] ty #[.slice (some ⟨b, off, none⟩) n c]).run Tryz.prog w = .ok (.tuple #[]) (w.setRow b (splice cs off (Builtin.zeroCells zky.cells.toArray n).toList).toArray) := by
  obtain ⟨h1, h2⟩ := zero_cells n
  have := run_storeCells_at Tryz.prog b off 85 (Builtin.zeroCells zky.cells.toArray n).toList 0 cs.toArray w hb (by simp only [List.size_toArray, Nat.add_zero]; rw [h1]; omega) h2
  obtain ⟨m, rfl⟩ : ∃ m, n = m + 1 := ⟨n - 1, by omega⟩
  unfold Builtin.clear_
  simp only [List.getElem?_toArray, List.getElem?_cons_zero, Sem.run_bind, run_underlying Tryz.underlying57, Result.andThen_ok, zeroV48, Value.cells]
  simp only [Nat.add_zero] at this
  rw [this]
  simp [splice]
section
variable {P : Program} {ops : Array Oper} {rest : List Oper} {o : Oper} {a : Act} {w : World} {Q : Exit → Act → World → Prop}
set_option maxRecDepth 100000 in
theorem wpList_clear_run (hgd : o.guard = none) (x : Operand) (t : TypeId) (ho : o.op = .call { callee := .builtin .clear, args := #[x], argTypes := #[t] }) (vx : Value) (hx : a.eval x = vx)
    (v' : Value) (w' : World) (hr : (Builtin.clear_ #[t] o.type #[vx]).run P w = .ok v' w') (h : wpList P ops Q rest (a.put o.dst v') w') : wpList P ops Q (o :: rest) a w :=
  wpList_plain hgd fun _ hK => by
    unfold Oper.wp execOp
    simp only [ho, resolve, invoke, builtin, Sem.run_bind, Sem.run_pure, Result.andThen_ok, List.map_toArray, List.map_cons, List.map_nil, hx, hr]
    exact hK _ _ h
end
end Go.Proofs.YtlgjmhemgfjgnaaGreat
