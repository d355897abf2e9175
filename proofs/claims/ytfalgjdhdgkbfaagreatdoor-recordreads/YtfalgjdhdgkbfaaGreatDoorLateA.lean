/- What answers are kept late: the walk of same. -/
import Derived.Test.YtfalgjdhdgkbfaaGreatDoorBookJ
import Derived.Laws.IdiomStrings
namespace Go.Proofs.YtfalgjdhdgkbfaaGreatDoor.Bk
open Go Go.RowKit
open Go.RowKit (wrap32 wrap64)

def ltF (vg vw : Value) (i : Nat) : Value := if i = 0 then vg else vw

/-- A list of bytes that reads as l, in a block of bytes. -/
def Rd5 (w : World) (x : Value) (l : List UInt8) : Prop :=
  ∃ (a : Option Addr) (c : Nat), x = .slice a l.length c ∧ (0 < l.length → ∃ (b : Nat) (cs : Array Value) (fr : Nat × Nat), a = some ⟨b, 0, none⟩ ∧ w.heap[b]? = some (.cells cs 5 fr) ∧ ∀ j (h : j < l.length), cs[j]? = some (.int .u8 l[j].toNat)) ∧ ∀ b, x.ownBlock = some b → b < w.heap.size

theorem cell_fr {w : World} {b j : Nat} {cs : Array Value} {e : TypeId} {fr : Nat × Nat} {u : Value} (h : w.heap[b]? = some (.cells cs e fr)) (hu : cs[j]? = some u) : w.cell? ⟨b, j, none⟩ = some u := by
  simp [World.cell?, h, hu]

theorem Rd5.convert {w : World} {x : Value} {l : List UInt8} (h : Rd5 w x l) : (convert 28 9 x).run Tryz.prog w = .ok (.string ⟨l.toArray⟩) w := by
  obtain ⟨a, c, rfl, hh, _⟩ := h
  by_cases hl : 0 < l.length
  · obtain ⟨b, cs, fr, rfl, hb, hcs⟩ := hh hl
    exact convert_sl l _ b 0 c w (fun _ => rfl) (fun i hi => by rw [Nat.zero_add]; exact cell_fr hb (hcs i hi))
  · exact convert_sl l a 0 0 c w (fun h => absurd h hl) (fun i hi => absurd hi (by omega))

theorem Rd5.same {w w' : World} {x : Value} {l : List UInt8} (h : Rd5 w x l) (s : Same 5 w w') (hsz : w.heap.size ≤ w'.heap.size) : Rd5 w' x l := by
  obtain ⟨a, c, rfl, hh, hlow⟩ := h
  refine ⟨a, c, rfl, fun hl => ?_, fun b hb => Nat.lt_of_lt_of_le (hlow b hb) hsz⟩
  obtain ⟨b, cs, fr, rfl, hb, hcs⟩ := hh hl
  exact ⟨b, cs, fr, rfl, by rw [s b cs fr hb]; exact hb, hcs⟩

theorem own_rd5 {w : World} {B : Nat} {g : Value} {l : List UInt8} (h : w.ownsRow B 5 1 g l.length (cb l)) : Rd5 w g l := by
  have hlow : ∀ b, g.ownBlock = some b → b < w.heap.size := fun b hb => (h.lt b hb).2
  rcases h.2 with ⟨rfl, h0⟩ | ⟨b, cap, cur, rfl, _, hg, hle, _, hs, ht⟩
  · exact ⟨none, 0, by rw [h0], fun h => by omega, hlow⟩
  · refine ⟨_, _, rfl, fun _ => ⟨b, cur, (0, 0), rfl, hg, fun j hj => ?_⟩, hlow⟩
    have h1 : (cb l)[j]? = some (.int .u8 l[j].toNat) := by simp [cb, List.getElem?_eq_getElem hj]
    rw [← h1, ← ht, List.getElem?_take, if_pos (by omega)]
    simp

set_option maxRecDepth 100000 in
set_option maxHeartbeats 1600000 in
theorem same_any (w : World) (B lt n : Nat) (vg vw : Value) (gs xs : List Value) (h : w.rowIs lt 62 2 (ltF vg vw)) (hn : n ≤ 8388608) (h0 : w.ownsRow B 28 1 vg n gs) (h1 : w.ownsRow B 28 1 vw n xs)
    (hcv : ∀ (i : Nat) g x, gs[i]? = some g → xs[i]? = some x → ∃ l : List UInt8, Rd5 w g l ∧ Rd5 w x l) :
    Calls Tryz.prog 41 #[.pointer (some ⟨lt, 0, none⟩)] w fun e w' => e = .returned (.bool true) ∧ ∃ k, w' = w.drewN k := by
  obtain ⟨a0, c0, rfl⟩ := own_shape' h0
  obtain ⟨a1, c1, rfl⟩ := own_shape' h1
  have hc0 : w.cell? ⟨lt, 0, none⟩ = some (.slice a0 n c0) := h.cell (i := 0) (by decide)
  have hc1 : w.cell? ⟨lt, 1, none⟩ = some (.slice a1 n c1) := h.cell (i := 1) (by decide)
  have hlt := h.lt
  have H0 := hid h0
  have H1 := hid h1
  have HCV := hid hcv
  have hl0 : gs.length = n := by have := h0.1; omega
  have hl1 : xs.length = n := by have := h1.1; omega
  have HL := hid (And.intro hl0 hl1)
  obtain ⟨x, hx⟩ : ∃ x : Int, (n : Int) = x := ⟨_, rfl⟩
  have hx0 : 0 ≤ x := by omega
  have hx1 : x ≤ 8388608 := by omega
  have HX := hid hx
  clear h h0 h1 hcv hl0 hl1
  go_enter Tryz.func41, Tryz.ntmps41
  go_wp2
  go_loopw [3] (fun iv wr => ∃ i : Nat, i ≤ 8388608 ∧ iv = .int .i64 i ∧ Hid (i ≤ n) ∧ ∃ k, Hid (wr = w.drewN k)) (fun iv _ => n - (intOf iv).toNat)
  case atStart => exact ⟨0, by omega, rfl, hid (Nat.zero_le _), 0, hid rfl⟩
  case round =>
    as_aux_lemma =>
    obtain ⟨i, hi, rfl, HI, d, HD⟩ := hrel
    have r0 : wr.cell? ⟨lt, 0, none⟩ = some (.slice a0 n c0) := by rw [HD.out]; exact hc0
    have r1 : wr.cell? ⟨lt, 1, none⟩ = some (.slice a1 n c1) := by rw [HD.out]; exact hc1
    have rs : wr.heap.size = w.heap.size := by rw [HD.out]; rfl
    have rl : lt < wr.heap.size := by rw [rs]; exact hlt
    by_cases hlt2 : i < n
    · have hlt' : (i : Int) < x := by have := HX.out; omega
      obtain ⟨b0, ha0, hb0, _, _, hcell0⟩ := own_cells H0.out (by omega)
      obtain ⟨b1, ha1, hb1, _, _, hcell1⟩ := own_cells H1.out (by omega)
      subst ha0
      subst ha1
      have hg0 : gs[i]? = some (gs[i]'(by have := HL.out; omega)) := List.getElem?_eq_getElem _
      have hy0 : xs[i]? = some (xs[i]'(by have := HL.out; omega)) := List.getElem?_eq_getElem _
      obtain ⟨l, hg5, hx5⟩ := HCV.out i _ _ hg0 hy0
      obtain ⟨g, HG⟩ : ∃ g, Hid (gs[i]'(by have := HL.out; omega) = g) := ⟨_, hid rfl⟩
      obtain ⟨y, HY⟩ : ∃ y, Hid (xs[i]'(by have := HL.out; omega) = y) := ⟨_, hid rfl⟩
      rw [HG.out] at hg0 hg5
      rw [HY.out] at hy0 hx5
      have r2 : wr.cell? ⟨b0, i, none⟩ = some g := by rw [HD.out]; show w.cell? _ = _; rw [hcell0 i hlt2, hg0]
      have r3 : wr.cell? ⟨b1, i, none⟩ = some y := by rw [HD.out]; show w.cell? _ = _; rw [hcell1 i hlt2, hy0]
      have rb0 : b0 < wr.heap.size := by rw [rs]; exact hb0
      have rb1 : b1 < wr.heap.size := by rw [rs]; exact hb1
      obtain ⟨s, HSS⟩ : ∃ s : ByteArray, Hid ((⟨l.toArray⟩ : ByteArray) = s) := ⟨_, hid rfl⟩
      have k1 : ∀ q, (convert 28 9 g).run Tryz.prog (wr.drewN q) = .ok (.string s) (wr.drewN q) := fun q => by
        rw [← HSS.out]
        exact (hg5.same (w' := wr.drewN q) (by rw [HD.out]; exact (Same.drewN 5 w d).trans (Same.drewN _ _ _)) (by rw [HD.out]; exact Nat.le_refl _)).convert
      have k2 : ∀ q, (convert 28 9 y).run Tryz.prog (wr.drewN q) = .ok (.string s) (wr.drewN q) := fun q => by
        rw [← HSS.out]
        exact (hx5.same (w' := wr.drewN q) (by rw [HD.out]; exact (Same.drewN 5 w d).trans (Same.drewN _ _ _)) (by rw [HD.out]; exact Nat.le_refl _)).convert
      clear hcell0 hcell1 hg0 hy0 hg5 hx5 rs
      go_wp2
      go_quiet ((fail))
      rename_i nq
      go_wp2
      refine ⟨⟨i + 1, by omega, by go_num, hid (by omega), d + nq, hid (by rw [HD.out, World.drewN_drewN])⟩, by simp [intOf]; omega⟩
    · have hge : x ≤ (i : Int) := by have := HX.out; omega
      go_wp2
      go_ret
      exact ⟨rfl, d, HD.out⟩
end Go.Proofs.YtfalgjdhdgkbfaaGreatDoor.Bk

/- The walk of Add. -/
namespace Go.Proofs.YtfalgjdhdgkbfaaGreatDoor.Bk
open Go Go.RowKit
open Go.RowKit (wrap32 wrap64)

/-- What Add leaves as it was. -/
structure KeptL (w w' : World) (B lt : Nat) (vg vw : Value) : Prop where
  below : Below B w w'
  block : ∀ b, b < w.heap.size → b ≠ lt → vg.ownBlock ≠ some b → vw.ownBlock ≠ some b → w'.heap[b]? = w.heap[b]?

theorem lt_block {w : World} {lt : Nat} {vg vw : Value} (h : w.rowIs lt 62 2 (ltF vg vw)) : ∃ c, w.heap[lt]? = some (.cells c 62 (0, 0)) := by
  obtain ⟨c, hb, hn, hc⟩ := h
  exact ⟨c, hb⟩

theorem lt_same {w w' : World} {lt : Nat} {vg vw : Value} (h : w.rowIs lt 62 2 (ltF vg vw)) (s : Same 62 w w') : w'.rowIs lt 62 2 (ltF vg vw) := by
  obtain ⟨c, hb, hn, hc⟩ := h
  exact ⟨c, by rw [s lt _ _ hb]; exact hb, hn, hc⟩

theorem ltF_0 (vg vw v : Value) (i : Nat) (_hi : i < 2) : (if i = 0 then v else ltF vg vw i) = ltF v vw i := by
  unfold ltF
  by_cases h : i = 0
  · simp [h]
  · simp [h]

theorem ltF_1 (vg vw v : Value) (i : Nat) (hi : i < 2) : (if i = 1 then v else ltF vg vw i) = ltF vg v i := by
  unfold ltF
  by_cases h : i = 1
  · simp [h]
  · have : i = 0 := by omega
    simp [this]

set_option maxRecDepth 100000 in
set_option maxHeartbeats 1600000 in
theorem add_any (w : World) (B lt n : Nat) (vg vw g x : Value) (gs xs : List Value) (l : List UInt8) (h : w.rowIs lt 62 2 (ltF vg vw)) (hn : n ≤ 8388607) (h0 : w.ownsRow B 28 1 vg n gs) (h1 : w.ownsRow B 28 1 vw n xs) (hap : Apart vg vw) (hx5 : Rd5 w x l) (hg : ∃ a m c, g = .slice a m c) (hB : B ≤ lt) (hBw : B ≤ w.heap.size) :
    Calls Tryz.prog 40 #[.pointer (some ⟨lt, 0, none⟩), g, x] w fun e w' => e = .returned (.tuple #[]) ∧ ∃ (vg' vw' y : Value), w'.rowIs lt 62 2 (ltF vg' vw') ∧ w'.ownsRow B 28 1 vg' (n + 1) (gs ++ [g]) ∧ w'.ownsRow B 28 1 vw' (n + 1) (xs ++ [y]) ∧ Apart vg' vw' ∧ Rd5 w' y l ∧ (∀ b, y.ownBlock = some b → w.heap.size ≤ b) ∧ KeptL w w' B lt vg vw ∧ (vg'.ownBlock = vg.ownBlock ∨ ∃ k, w.heap.size ≤ k ∧ vg'.ownBlock = some k) ∧ (vw'.ownBlock = vw.ownBlock ∨ ∃ k, w.heap.size ≤ k ∧ vw'.ownBlock = some k) := by
  obtain ⟨inf28, hi58, hz580, hz581, hz582⟩ := info_parts Tryz.info28
  obtain ⟨a0, c0, rfl⟩ := own_shape' h0
  obtain ⟨a1, c1, rfl⟩ := own_shape' h1
  obtain ⟨ga, gn, gc, rfl⟩ := hg
  have hc0 : w.cell? ⟨lt, 0, none⟩ = some (.slice a0 n c0) := h.cell (i := 0) (by decide)
  have hc1 : w.cell? ⟨lt, 1, none⟩ = some (.slice a1 n c1) := h.cell (i := 1) (by decide)
  have hlt := h.lt
  have hf0 := h.frozen 0
  have H := hid h
  have H0 := hid h0
  have H1 := hid h1
  have HAP := hid hap
  have HVW := hid (fun b hb => (h1.lt b hb).2 : ∀ b, (Value.slice a1 n c1).ownBlock = some b → b < w.heap.size)
  have HX5 := hid hx5
  clear h h1 hap hx5
  go_enter Tryz.func40, Tryz.ntmps40
  go_wp2_with (at_builtin; refine wpList_append_keeps _ rfl (.tmp 10) (.tmp 12) 33 rfl B 28 inf28 (.slice none 0 0) 24 Tryz.under33 hi58 hz580 hz581 hz582 rfl _ n _ rfl (h0.alloc _) ⟨w.heap.size, 0, none⟩ 1 (.slice ga gn gc) rfl (new_cell w _ _) rfl ?h63 ?hbytes ?hbase ?_)
  case h63 => unfold maxLen; omega
  case hbytes => omega
  case hbase => simp; omega
  intro g3 cap3 w3 hown3 hg3 hwh3 hkeep3
  have S3 : ∀ e, e ≠ 28 → Same e w w3 := fun e he => (Same.alloc e w _).trans (Same.grown (h0.alloc _) hg3 he)
  have C3 := hid (lt_same H.out (S3 62 (by decide)))
  have hb3 : Below B w w3 := ((Below.refl _ _).alloc hBw _).grown hg3 (by simp; omega) (fun j hj => (h0.lt j hj).1)
  have HB3 := hid hb3
  have hf3 := C3.out.frozen 0
  have hf31 := C3.out.frozen 1
  have hc30 : w3.cell? ⟨lt, 0, none⟩ = some (.slice a0 n c0) := C3.out.cell (i := 0) (by decide)
  have hlt3 := C3.out.lt
  obtain ⟨W4, HW4⟩ : ∃ W4, Hid (w3.setCell ⟨lt, 0, none⟩ (.slice (some ⟨g3, 0, none⟩) (n + 1) cap3) = W4) := ⟨_, hid rfl⟩
  have hbut34 : But w3 W4 lt := by rw [← HW4.out]; exact But.setCell _ _ _ _
  have C4 := (C3.out.set 0 (.slice (some ⟨g3, 0, none⟩) (n + 1) cap3)).congr (fun i hi => ltF_0 _ _ _ i hi)
  rw [HW4.out] at C4
  have S4 : ∀ e, e ≠ 62 → Same e w3 W4 := fun e he => by
    obtain ⟨cs, hcs⟩ := lt_block C3.out
    exact Same.but hcs he hbut34
  have hrow1 : W4.ownsRow B 28 1 (.slice a1 n c1) n xs := by
    refine own_same ?_ (S4 28 (by decide))
    exact (H1.out.alloc _).kept hg3 (HAP.out.symm)
  have hrow0 : W4.ownsRow B 28 1 (.slice (some ⟨g3, 0, none⟩) (n + 1) cap3) (n + 1) (gs ++ [.slice ga gn gc]) := own_same hown3 (S4 28 (by decide))
  have hx4 : Rd5 W4 x l := HX5.out.same ((S3 5 (by decide)).trans (S4 5 (by decide))) (by rw [hbut34.size]; exact hb3.size)
  have HK4 : Hid (∀ b, b < w.heap.size → b ≠ lt → (Value.slice a0 n c0).ownBlock ≠ some b → W4.heap[b]? = w.heap[b]?) := hid (fun b h1 h2 h3 => by
    rw [hbut34.block b h2, hg3.block b (by simp; omega) (fun e => h3 e.symm), heap_alloc_old w _ h1])
  have HWH : Hid (g3 = w.heap.size + 1 ∨ (Value.slice a0 n c0).ownBlock = some g3) := hid (by
    rcases hwh3 with h1 | h1
    · exact Or.inr h1
    · exact Or.inl (by simpa using h1))
  have HAPV : Hid (Apart (.slice (some ⟨g3, 0, none⟩) (n + 1) cap3) (.slice a1 n c1)) := hid (by
    rcases HWH.out with h9 | h9
    · refine Or.inr (fun h10 => ?_)
      have := HVW.out g3 h10.symm
      omega
    · have h10 := HAP.out
      unfold Apart at h10 ⊢
      rw [h9] at h10
      exact h10)
  have HB4 : Hid (Below B w W4) := hid (hb3.trans (hbut34.below hB))
  have HR0 := hid hrow0
  have HR1 := hid hrow1
  have HC4 := hid C4
  have HX4 := hid hx4
  clear hown3 hg3 hwh3 hkeep3 S3 S4 C3 hb3 hbut34 hrow0 h0 hx4 HX5 H H0 H1 HB3 hc0 hc1 hf0 hlt C4
  have hc41 : W4.cell? ⟨lt, 1, none⟩ = some (.slice a1 n c1) := HC4.out.cell (i := 1) (by decide)
  have hf41 := HC4.out.frozen 1
  have hlt4 := HC4.out.lt
  obtain ⟨s, HSS⟩ : ∃ s : ByteArray, Hid ((⟨l.toArray⟩ : ByteArray) = s) := ⟨_, hid rfl⟩
  have k1 : (convert 28 9 x).run Tryz.prog W4.drew = .ok (.string s) W4.drew := by
    rw [← HSS.out]
    exact (HX4.out.same (w' := W4.drew) (Same.drewN 5 W4 1) (Nat.le_refl _)).convert
  obtain ⟨capf, oo, k2, HOO⟩ : ∃ (capf : World → Nat) (oo : World → Obj), (∀ w : World, (convert 9 28 (.string s)).run Tryz.prog w = .ok (.slice (some ⟨w.heap.size, 0, none⟩) s.size (capf w)) (w.drew.alloc (oo w))) ∧ Hid (∀ w, ∃ cs fr, oo w = .cells cs 5 fr ∧ ∀ j (hj : j < s.data.size), cs[j]? = some (.int .u8 (s.data[j].toNat : Int))) :=
    ⟨_, _, fun w => run_bytes_of_string (P := Tryz.prog) w 9 28 5 s Tryz.underlying9 Tryz.underlying28 Tryz.underlying5, hid (fun w => ⟨_, _, rfl, fun j hj => bytesRow_at s _ j hj⟩)⟩
  go_wp2
  rw [HW4.out]
  clear hf3 hf31 hc30 hlt3 HW4
  have HNEW : Hid (∀ j u, [Value.slice (some ⟨W4.heap.size, 0, none⟩) s.size (capf W4.drew)][j]? = some u → ((W4.drew.drew.alloc (oo W4.drew)).alloc (.cells #[.slice (some ⟨W4.heap.size, 0, none⟩) s.size (capf W4.drew)] 28)).cell? ((⟨W4.heap.size + 1, 0, none⟩ : Addr).add j) = some u) := hid (by
    intro j u hu
    have h9 := news_new (W4.drew.drew.alloc (oo W4.drew)) #[.slice (some ⟨W4.heap.size, 0, none⟩) s.size (capf W4.drew)] 28 j u hu
    have e9 : (W4.drew.drew.alloc (oo W4.drew)).heap.size = W4.heap.size + 1 := by simp
    rw [e9] at h9
    exact h9)
  obtain ⟨V5, HV5⟩ : ∃ V5, Hid ((W4.drew.drew.alloc (oo W4.drew)).alloc (.cells #[.slice (some ⟨W4.heap.size, 0, none⟩) s.size (capf W4.drew)] 28) = V5) := ⟨_, hid rfl⟩
  have S45 : ∀ e, Same e W4 V5 := fun e => by
    rw [← HV5.out]
    exact ((Same.drewN e W4 2).trans (Same.alloc e _ (oo W4.drew))).trans (Same.alloc e _ _)
  have HLT : Hid (∀ w5, ((W4.drew.drew.alloc (oo W4.drew)).alloc (.cells #[.slice (some ⟨W4.heap.size, 0, none⟩) s.size (capf W4.drew)] 28)).grownBy w5 (Value.slice a1 n c1).ownBlock → ∀ e, e ≠ 28 → Same e W4 w5) := hid (fun w5 hg e he => by
    rw [HV5.out] at hg
    exact (S45 e).trans (Same.grown (own_same hrow1 (S45 28)) hg he))
  clear S45
  go_region_law (refine step_append_lies _ rfl (.tmp 20) (.tmp 24) 33 rfl B 28 inf28 (.slice none 0 0) 1 24 Tryz.under33 hi58 hz580 hz581 hz582 rfl (by decide) (.slice a1 n c1) n xs rfl (by exact (hrow1.alloc (oo W4.drew)).alloc (.cells #[.slice (some ⟨W4.heap.size, 0, none⟩) s.size (capf W4.drew)] 28)) ⟨W4.heap.size + 1, 0, none⟩ 1 1 [.slice (some ⟨W4.heap.size, 0, none⟩) s.size (capf W4.drew)] rfl rfl (by exact HNEW.out) (by intro u hu; simp at hu; rw [hu]; rfl) (by decide) (by unfold maxLen; omega) (by omega) (by simp; omega) (W4.heap.size + 2) (by simp) ?_; intro g5 cap5 w5 hown5 hg5 hat5 hlt5; have C5 := lt_same HC4.out (HLT.out w5 hg5 62 (by decide)); have hc5 : w5.cell? ⟨lt, 1, none⟩ = some (.slice a1 n c1) := C5.cell (i := 1) (by decide); have hf5 := C5.frozen 1; have hl5 := C5.lt; have HC5 := hid C5; clear C5)
  all_goals
    have HO5 := hid hown5
    have HG5 := hid hg5
    have HA5 := hid hat5
    clear hown5 hg5 hat5
    go_wp2
    go_end0
    have hg5 : V5.grownBy w5 (Value.slice a1 n c1).ownBlock := by rw [← HV5.out]; exact HG5.out
    have S45 : ∀ e, Same e W4 V5 := fun e => by
      rw [← HV5.out]
      exact ((Same.drewN e W4 2).trans (Same.alloc e _ (oo W4.drew))).trans (Same.alloc e _ _)
    have hsz5 : V5.heap.size = W4.heap.size + 2 := by rw [← HV5.out]; simp
    have hV5 : Below B W4 V5 := by
      rw [← HV5.out]
      have hb4 : B ≤ W4.heap.size := Nat.le_trans hBw HB4.out.size
      exact ((Below.refl B W4).drew.drew.alloc hb4 _).alloc (by simp; omega) _
    have hV58 : Below B V5 w5 := (Below.refl _ _).grown hg5 (by rw [hsz5]; have := HB4.out.size; omega) (fun k hk => ((own_same HR1.out (S45 28)).lt k hk).1)
    have hnew : V5.heap[W4.heap.size]? = some (oo W4.drew) := by
      rw [← HV5.out]
      rw [heap_alloc_old _ _ (by simp)]
      exact heap_alloc_new W4.drew.drew (oo W4.drew)
    have hbut6 : But w5 (w5.setCell ⟨lt, 1, none⟩ (.slice (some ⟨g5, 0, none⟩) (n + 1) cap5)) lt := But.setCell _ _ _ _
    obtain ⟨ct, hct⟩ := lt_block HC5.out
    have S56 : ∀ e, e ≠ 62 → Same e w5 (w5.setCell ⟨lt, 1, none⟩ (.slice (some ⟨g5, 0, none⟩) (n + 1) cap5)) := fun e he => Same.but hct he hbut6
    have hvw5 := own_same HR1.out (S45 28)
    refine ⟨rfl, .slice (some ⟨g3, 0, none⟩) (n + 1) cap3, .slice (some ⟨g5, 0, none⟩) (n + 1) cap5, .slice (some ⟨W4.heap.size, 0, none⟩) s.size (capf W4.drew), (HC5.out.set 1 _).congr (fun i hi => ltF_1 _ _ _ i hi), own_same ((own_same HR0.out (S45 28)).kept hg5 HAPV.out) (S56 28 (by decide)), own_same HO5.out (S56 28 (by decide)), ?_, ?_, ?_, ⟨?_, ?_⟩, ?_, ?_⟩
    · rcases HA5.out with h9 | h9
      · have h10 := HAPV.out
        unfold Apart at h10 ⊢
        rw [h9] at h10
        exact h10
      · refine Or.inr (fun h10 => ?_)
        have h11 : g3 = g5 := by simpa [Value.ownBlock] using h10
        have h12 := (HR0.out.lt g3 rfl).2
        omega
    · obtain ⟨cs, fr, hoo, hcs⟩ := HOO.out W4.drew
      have hsl : s.size = l.length := by rw [← HSS.out]; rfl
      have hb6 : (w5.setCell ⟨lt, 1, none⟩ (.slice (some ⟨g5, 0, none⟩) (n + 1) cap5)).heap[W4.heap.size]? = some (.cells cs 5 fr) := by
        have h9 : w5.heap[W4.heap.size]? = some (.cells cs 5 fr) := by
          rw [Same.grown hvw5 hg5 (by decide : (5 : TypeId) ≠ 28) W4.heap.size cs fr (by rw [hnew, hoo]), hnew, hoo]
        rw [S56 5 (by decide) _ cs fr h9, h9]
      refine ⟨_, _, by rw [hsl], fun hl => ⟨W4.heap.size, cs, fr, rfl, hb6, fun j hj => ?_⟩, fun b hb => ?_⟩
      · have hd : s.data = l.toArray := by rw [← HSS.out]
        have hj' : j < s.data.size := by rw [hd]; simpa using hj
        rw [hcs j hj']
        simp [hd]
      · have h9 : W4.heap.size = b := by simpa [Value.ownBlock] using hb
        rw [← h9]
        exact (Array.getElem?_eq_some_iff.1 hb6).1
    · intro b hb
      have h9 : W4.heap.size = b := by simpa [Value.ownBlock] using hb
      have := HB4.out.size
      omega
    · exact ((HB4.out.trans hV5).trans hV58).trans (hbut6.below hB)
    · intro b h9 h10 h11 h12
      have hb4 := Nat.lt_of_lt_of_le h9 HB4.out.size
      rw [hbut6.block b h10, hg5.block b (by rw [hsz5]; omega) (fun e => h12 e.symm), ← HV5.out, heap_alloc_old _ _ (by simp; omega), heap_alloc_old W4.drew.drew _ hb4]
      exact HK4.out b h9 h10 h11
    · rcases HWH.out with h9 | h9
      · exact Or.inr ⟨g3, by omega, rfl⟩
      · exact Or.inl h9.symm
    · rcases HA5.out with h9 | h9
      · exact Or.inl h9.symm
      · exact Or.inr ⟨g5, by have := HB4.out.size; omega, rfl⟩
end Go.Proofs.YtfalgjdhdgkbfaaGreatDoor.Bk
