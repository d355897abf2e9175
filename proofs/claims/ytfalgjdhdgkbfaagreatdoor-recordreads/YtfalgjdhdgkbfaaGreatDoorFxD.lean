/- What is kept late, beside a row that is lent and written into. -/
import Derived.Test.YtfalgjdhdgkbfaaGreatDoorZero
import Derived.Test.YtfalgjdhdgkbfaaGreatDoorFxB
namespace Go.Proofs.YtfalgjdhdgkbfaaGreatDoor.Bk
open Go Go.RowKit
open Go.RowKit (wrap32 wrap64)

/-- A row that is lent is a row of the caller's own. -/
theorem Lent.own {w : World} {B : Nat} {v : Value} {l : List UInt8} (h : Lent w B v l) : w.ownsRow B 5 1 v l.length (cb l) := by
  obtain ⟨b, c, rfl, hB, cs, hb, hs, hc, hm, ht⟩ := h
  refine ⟨by rw [cb_length, Nat.mul_one], .inr ⟨b, c, cs, rfl, hB, hb, by omega, hm, by rw [hs, Nat.mul_one], ?_⟩⟩
  have e1 := congrArg (List.take l.length) ht
  rw [List.take_take, Nat.min_eq_left (by omega), cb_append, List.take_append_of_le_length (by rw [cb_length]; exact Nat.le_refl _)] at e1
  rw [Nat.mul_one, e1]
  exact List.take_of_length_le (by rw [cb_length]; exact Nat.le_refl _)

/-- The two last rows of the caller's own, in the other order. -/
theorem ST.swap {w : World} {B bk lt T n : Nat} {a : List Item} {x y : Item} (h : ST w B bk lt T (a ++ [x, y]) n) (hn : n ≤ a.length) : ST w B bk lt T (a ++ [y, x]) n := by
  obtain ⟨A, D, v0, v1, U, gs, ms, vg, vw, xs, h⟩ := h
  have hm : ∀ p, p ∈ a ++ [y, x] → p ∈ a ++ [x, y] := fun p hp => by
    simp only [List.mem_append, List.mem_cons, List.not_mem_nil, or_false] at hp ⊢
    rcases hp with h1 | h1 | h1
    · exact .inl h1
    · exact .inr (.inr h1)
    · exact .inr (.inl h1)
  have ht : (a ++ [y, x]).take n = (a ++ [x, y]).take n := by rw [List.take_append_of_le_length hn, List.take_append_of_le_length hn]
  refine ⟨A, D, v0, v1, U, gs, ms, vg, vw, xs, ⟨⟨h.sl.book, h.sl.ale, h.sl.use, h.sl.u0, h.sl.u1, h.sl.cells, by rw [ht]; exact h.sl.row0, h.sl.ap, fun p hp => h.sl.own p (hm p hp), ?_, fun j g' hj p hp => h.sl.apart j g' hj p (hm p hp), h.sl.hB⟩, h.row1, h.apg, h.apw, ?_, fun q hq p hp => h.wap q hq p (hm p hp), h.wlow, by rw [List.length_append]; omega⟩⟩
  · have := h.sl.alone
    rw [List.pairwise_append] at this ⊢
    obtain ⟨p1, p2, p3⟩ := this
    refine ⟨p1, ?_, fun q hq p hp => p3 q hq p ?_⟩
    · simp only [List.pairwise_cons, List.mem_cons, List.not_mem_nil, or_false, forall_eq, false_imp_iff, implies_true, List.Pairwise.nil, and_true] at p2 ⊢
      exact p2.symm
    · simp only [List.mem_cons, List.not_mem_nil, or_false] at hp ⊢
      exact hp.symm
  · intro i q p hq hp
    have hi : i < xs.length := (List.getElem?_eq_some_iff.1 hq).1
    have hx := h.row1.1
    have e : (a ++ [y, x])[i]? = (a ++ [x, y])[i]? := by rw [List.getElem?_append_left (by omega), List.getElem?_append_left (by omega)]
    exact h.want i q p hq (by rw [← e]; exact hp)

theorem own_but {w w' : World} {B b n : Nat} {u : Value} {xs : List Value} (h : w.ownsRow B 5 1 u n xs) (hb : But w w' b) (hu : u.ownBlock ≠ some b) : w'.ownsRow B 5 1 u n xs := by
  refine ⟨h.1, ?_⟩
  rcases h.2 with h5 | ⟨q, cap, cur, hv, hg', hh, r⟩
  · exact Or.inl h5
  · exact Or.inr ⟨q, cap, cur, hv, hg', by rw [hb.block q (fun e => hu (by rw [hv, e]; rfl))]; exact hh, r⟩
theorem Rd5.but {w w' : World} {b : Nat} {x : Value} {l : List UInt8} (h : Rd5 w x l) (hb : But w w' b) (hx : x.ownBlock ≠ some b) : Rd5 w' x l := by
  obtain ⟨a, c, e, h1, h2⟩ := h
  refine ⟨a, c, e, fun hl => ?_, fun k hk => by rw [hb.size]; exact h2 k hk⟩
  obtain ⟨b', cs, fr, ha, hh, hc⟩ := h1 hl
  exact ⟨b', cs, fr, ha, by rw [hb.block b' (fun k => hx (by rw [e, ha, k]; rfl))]; exact hh, hc⟩

/-- A write into the last row of the caller's own: the rest stands. -/
theorem ST.poke {w w' : World} {B bk lt T n b : Nat} {ps : List Item} {v : Value} {l : List UInt8} (h : ST w B bk lt T (ps ++ [(v, l)]) n) (hn : n ≤ ps.length) (hv : v.ownBlock = some b) (hb : But w w' b) : ST w' B bk lt T ps n := by
  obtain ⟨A, D, v0, v1, U, gs, ms, vg, vw, xs, h⟩ := h
  have ho := (h.sl.own (v, l) (by simp)).1
  obtain ⟨_, _, cs, hcs⟩ := own_block ho hv
  have s : ∀ e, e ≠ 5 → Same e w w' := fun e he => Same.but hcs he hb
  have ne : ∀ u : Value, Apart u v → u.ownBlock ≠ some b := fun u hu => by
    rcases hu with h6 | h6
    · rw [h6]; exact fun k => by cases k
    · rw [hv] at h6; exact h6
  have hal := List.pairwise_append.1 h.sl.alone
  have hm : ∀ p, p ∈ ps → p ∈ ps ++ [(v, l)] := fun p hp => List.mem_append_left _ hp
  have ht : (ps ++ [(v, l)]).take n = ps.take n := by rw [List.take_append_of_le_length hn]
  refine ⟨A, D, v0, v1, U, gs, ms, vg, vw, xs, ⟨⟨h.sl.book.other hcs hb (fun j g' hj => ne g' (h.sl.apart j g' hj (v, l) (by simp))), h.sl.ale, h.sl.use, h.sl.u0, h.sl.u1, lt_same h.sl.cells (s 62 (by decide)), ?_, h.sl.ap, fun p hp => ⟨own_but (h.sl.own p (hm p hp)).1 hb (ne _ (hal.2.2 p hp (v, l) (by simp))), (h.sl.own p (hm p hp)).2⟩, hal.1, fun j g' hj p hp => h.sl.apart j g' hj p (hm p hp), ⟨h.sl.hB.1, h.sl.hB.2.1, by rw [hb.size]; exact h.sl.hB.2.2⟩⟩, own_same h.row1 (s 28 (by decide)), h.apg, h.apw, ?_, fun q hq p hp => h.wap q hq p (hm p hp), fun q hq k hk => by rw [hb.size]; exact h.wlow q hq k hk, hn⟩⟩
  · have := own_same h.sl.row0 (s 28 (by decide))
    rw [ht] at this
    exact this
  · intro i q p hq hp
    have hi : i < ps.length := (List.getElem?_eq_some_iff.1 hp).1
    exact (h.want i q p hq (by rw [List.getElem?_append_left hi]; exact hp)).but hb (ne q (h.wap q (List.mem_of_getElem? hq) (v, l) (by simp)))

set_option maxRecDepth 100000 in
set_option maxHeartbeats 1600000 in
theorem into2_any (w : World) (B H : Nat) (v b : Value) (l l' : List UInt8) (hv : Lent w B v l) (ho : w.ownsRow H 5 1 b l'.length (cb l')) (hne : Apart b v) (hl' : l'.length = l.length) (hl : l.length ≤ 2097152) :
    Calls Tryz.prog 24 #[v, b] w fun e w' => e = .returned (.tuple #[]) ∧ Hid (Lent w' B v l' ∧ w'.ownsRow H 5 1 b l'.length (cb l') ∧ ∃ q, v.ownBlock = some q ∧ But w w' q) := by
  have hv0 := hv
  obtain ⟨bv, cv, hvv, hBv, _⟩ := hv
  subst hvv
  obtain ⟨ab, cbb, hbv⟩ := own_shape' ho
  subst hbv
  have hv : Lent w B (.slice (some ⟨bv, 0, none⟩) l.length cv) l := hv0
  clear hv0
  obtain ⟨m, HM⟩ : ∃ m : Nat, Hid (l.length = m) := ⟨_, hid rfl⟩
  have hm2 : l'.length = m := by rw [hl', HM.out]
  have HV := hid hv
  have HO := hid ho
  have HNE := hid hne
  have HL := hid hl'
  rw [HM.out] at hl ⊢ 
  rw [hm2]
  have HM2 := hid hm2
  obtain ⟨x, hx⟩ : ∃ x : Int, (m : Int) = x := ⟨_, rfl⟩
  have hx0 : 0 ≤ x := by omega
  have hx1 : x ≤ 2097152 := by omega
  have HX := hid hx
  clear hv ho hne hl' hm2
  go_enter Tryz.func24, Tryz.ntmps24
  go_wp2
  go_loopw [4] (fun iv wr => ∃ i : Nat, iv = .int .i64 i ∧ i ≤ 2097152 ∧ Hid (i ≤ m) ∧ Hid (Lent wr B (.slice (some ⟨bv, 0, none⟩) (l'.take i ++ l.drop i).length cv) (l'.take i ++ l.drop i)) ∧ Hid (wr.ownsRow H 5 1 (.slice ab m cbb) m (cb l')) ∧ Hid (But w wr bv)) (fun iv _ => m - (intOf iv).toNat)
  case atStart => exact ⟨0, rfl, by omega, hid (Nat.zero_le _), hid (by simpa using HV.out), hid (by have := HO.out; rw [HM2.out] at this; exact this), hid (But.refl _ _)⟩
  case round =>
    as_aux_lemma =>
    clear HV HO
    obtain ⟨i, rfl, hi, HI, HV, HO, HF⟩ := hrel
    have hlen : (l'.take i ++ l.drop i).length = m := by rw [List.length_append, List.length_take, List.length_drop]; have := HI.out; have := HM.out; have := HM2.out; omega
    have HLEN := hid hlen
    clear hlen
    by_cases hlt : i < m
    · have hlt' : (i : Int) < x := by have := HX.out; omega
      have hil : i < l.length := by have := HM.out; omega
      have hil' : i < l'.length := by have := HM2.out; omega
      obtain ⟨bb, hab, hbb, hHb, _, hcell⟩ := own_cells HO.out (by omega)
      subst hab
      have hck := hcell i hlt
      have hck2 : (cb l')[i]? = some (.int .u8 (l'[i].toNat : Int)) := by simp [cb, List.getElem?_eq_getElem hil']
      rw [hck2] at hck
      obtain ⟨u, HU⟩ : ∃ u : UInt8, Hid (l'[i] = u) := ⟨_, hid rfl⟩
      rw [HU.out] at hck
      have hvc : ∃ q, wr.cell? ⟨bv, i, none⟩ = some q := by
        have h9 := HV.out.rd
        obtain ⟨a9, b9, o9, c9, e9, _, _, ha9, hc9⟩ := h9
        have h10 := hc9 i (by rw [HLEN.out]; exact hlt)
        have h11 := (ha9 (by rw [HLEN.out]; omega)).1
        simp only [Value.slice.injEq] at e9
        rw [← e9.1] at h11
        have h12 : bv = b9 ∧ 0 = o9 := by simpa using h11
        obtain ⟨rfl, rfl⟩ := h12
        rw [Nat.zero_add] at h10
        exact ⟨_, h10⟩
      obtain ⟨q, hq⟩ := hvc
      have hblk : ∃ cs, wr.heap[bv]? = some (.cells cs 5 (0, 0)) := by
        obtain ⟨b9, c9, e9, _, cs, hcs, _⟩ := HV.out
        have h12 : bv = b9 := by simp at e9; exact e9.1
        subst h12
        exact ⟨cs, hcs⟩
      obtain ⟨cs, hcs⟩ := hblk
      have hfz : wr.frozen? ⟨bv, i, none⟩ = false := by simp [World.frozen?, hcs]
      have hbvl : bv < wr.heap.size := (Array.getElem?_eq_some_iff.1 hcs).1
      have HCS := hid hcs
      clear hcell hck2 hcs
      go_wp2
      have hbut : But wr (wr.setCell ⟨bv, i, none⟩ (.int .u8 u.toNat)) bv := But.setCell _ _ _ _
      have hv9 : Lent wr B (.slice (some ⟨bv, 0, none⟩) (l'.take i ++ l.drop i).length cv) (l'.take i ++ l.drop i) := HV.out
      refine ⟨⟨i + 1, by go_num, by omega, hid (by omega), hid ?_, hid ?_, hid (HF.out.trans hbut)⟩, by simp [intOf]; omega⟩
      · rw [← set_step l l' i hil HL.out, HU.out]
        exact hv9.set (by rw [HLEN.out]; exact hlt) u
      · have hO := HO.out
        refine ⟨hO.1, ?_⟩
        rcases hO.2 with h9 | ⟨g, cap, cur, hg, hgB, hgh, r⟩
        · exact Or.inl h9
        · refine Or.inr ⟨g, cap, cur, hg, hgB, ?_, r⟩
          have hgb : g ≠ bv := by
            intro k
            have h12 : bb = g := by simp at hg; exact hg.1
            rcases HNE.out with h13 | h13
            · cases h13
            · exact h13 (by show some bb = some bv; rw [h12, k])
          rw [hbut.block g hgb]
          exact hgh
    · have hge : x ≤ (i : Int) := by have := HX.out; omega
      have him : i = m := by have := HI.out; omega
      go_wp2
      go_end0
      refine ⟨rfl, hid ⟨?_, ?_, bv, rfl, HF.out⟩⟩
      · have h9 := HV.out
        rw [him] at h9
        have e1 : l'.take m ++ l.drop m = l' := by rw [← HM2.out, List.take_length, HM2.out, ← HM.out, List.drop_length, List.append_nil]
        rw [e1, HM2.out] at h9
        exact h9
      · exact HO.out
end Go.Proofs.YtfalgjdhdgkbfaaGreatDoor.Bk
