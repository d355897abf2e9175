/- What answers are kept late: the walk of same. -/
import Derived.Test.YtpbiofnncdneoaaGreatDoorX20
import Derived.Laws.IdiomStrings
namespace Go.Proofs.YtpbiofnncdneoaaGreatDoor.Bq
open Go Go.RowKit Go.Proofs.YtpbiofnncdneoaaGreatDoor.Bk
open Go.RowKit (wrap32 wrap64)

def ltF (vg vw : Value) (i : Nat) : Value := if i = 0 then vg else vw

/-- A list of bytes that reads as l, in a block of bytes. -/
def Rd5 (w : World) (x : Value) (l : List UInt8) : Prop :=
 ∃ (a : Option Addr) (c : Nat), x = .slice a l.length c ∧ (0 < l.length → ∃ (b : Nat) (cs : Array Value) (fr : Nat × Nat), a = some ⟨b, 0, none⟩ ∧ w.heap[b]? = some (.cells cs 5 fr) ∧ ∀ j (h : j < l.length), cs[j]? = some (.int .u8 l[j].toNat)) ∧ ∀ b, x.ownBlock = some b → b < w.heap.size

theorem cell_fr {w : World} {b j : Nat} {cs : Array Value} {e : TypeId} {fr : Nat × Nat} {u : Value} (h : w.heap[b]? = some (.cells cs e fr)) (hu : cs[j]? = some u) : w.cell? ⟨b, j, none⟩ = some u := by
 simp [World.cell?, h, hu]

theorem Rd5.convert {w : World} {x : Value} {l : List UInt8} (h : Rd5 w x l) : (convert 74 9 x).run Tryz.prog w = .ok (.string ⟨l.toArray⟩) w := by
 obtain ⟨a, c, rfl, hh, _⟩ := h
 by_cases hl : 0 < l.length
 ·obtain ⟨b, cs, fr, rfl, hb, hcs⟩ := hh hl
  exact convert_sl l _ b 0 c w (fun _ => rfl) (fun i hi => by rw [Nat.zero_add]; exact cell_fr hb (hcs i hi))
 ·exact convert_sl l a 0 0 c w (fun h => absurd h hl) (fun i hi => absurd hi (by omega))

theorem Rd5.same {w w' : World} {x : Value} {l : List UInt8} (h : Rd5 w x l) (s : Same 5 w w') (hsz : w.heap.size ≤ w'.heap.size) : Rd5 w' x l := by
 obtain ⟨a, c, rfl, hh, hlow⟩ := h
 refine ⟨a, c, rfl, fun hl => ?_, fun b hb => Nat.lt_of_lt_of_le (hlow b hb) hsz⟩
 obtain ⟨b, cs, fr, rfl, hb, hcs⟩ := hh hl
 exact ⟨b, cs, fr, rfl, by rw [s b cs fr hb]; exact hb, hcs⟩

theorem own_rd5 {w : World} {B : Nat → Prop} {g : Value} {l : List UInt8} (h : OwnR w B 5 g l.length (cb l)) : Rd5 w g l := by
 have hlow : ∀ b, g.ownBlock = some b → b < w.heap.size := fun b hb => (h.lt b hb).2
 rcases h.2 with ⟨rfl, h0⟩ | ⟨b, cap, cur, rfl, _, hg, hle, _, hs, ht⟩
 ·exact ⟨none, 0, by rw [h0], fun h => by omega, hlow⟩
 ·refine ⟨_, _, rfl, fun _ => ⟨b, cur, (0, 0), rfl, hg, fun j hj => ?_⟩, hlow⟩
  have h1 : (cb l)[j]? = some (.int .u8 l[j].toNat) := by simp [cb, List.getElem?_eq_getElem hj]
  rw [← h1, ← ht, List.getElem?_take, if_pos (by omega)]
  simp

set_option maxRecDepth 100000 in
set_option maxHeartbeats 1600000 in
theorem same_any (w : World) (B : Nat → Prop) (lt n : Nat) (vg vw : Value) (gs xs : List Value) (h : w.rowIs lt 66 2 (ltF vg vw)) (hn : n ≤ 8388608) (h0 : OwnR w B 74 vg n gs) (h1 : OwnR w B 74 vw n xs)
  (hcv : ∀ (i : Nat) g x, gs[i]? = some g → xs[i]? = some x → ∃ l : List UInt8, Rd5 w g l ∧ Rd5 w x l) :
  Calls Tryz.prog 37 #[.pointer (some ⟨lt, 0, none⟩)] w fun e w' => e = .returned (.bool true) ∧ ∃ k, w' = w.drewN k := by
 obtain ⟨a0, c0, rfl⟩ := own_shape' h0
 obtain ⟨a1, c1, rfl⟩ := own_shape' h1
 have hc0 : w.cell? ⟨lt, 0, none⟩ = some (.slice a0 n c0) := h.cell (i := 0) (by decide)
 have hc1 : w.cell? ⟨lt, 1, none⟩ = some (.slice a1 n c1) := h.cell (i := 1) (by decide)
 have hlt := h.lt
 have H0 := hid h0
 have H1 := hid h1
 have HCV := hid hcv
 have hl0 : gs.length = n := by have := h0.1; omega
 have hl1 : xs.length = n := by have := h1.1; omega
 have HL := hid (And.intro hl0 hl1)
 obtain ⟨x, hx⟩ : ∃ x : Int, (n : Int) = x := ⟨_, rfl⟩
 have hx0 : 0 ≤ x := by omega
 have hx1 : x ≤ 8388608 := by omega
 have HX := hid hx
 clear h h0 h1 hcv hl0 hl1
 go_enter Tryz.func37, Tryz.ntmps37
 go_wp2
 go_loopw [3] (fun iv wr => ∃ i : Nat, i ≤ 8388608 ∧ iv = .int .i64 i ∧ Hid (i ≤ n) ∧ ∃ k, Hid (wr = w.drewN k)) (fun iv _ => n - (intOf iv).toNat)
 case atStart => exact ⟨0, by omega, rfl, hid (Nat.zero_le _), 0, hid rfl⟩
 case round =>
  as_aux_lemma =>
  obtain ⟨i, hi, rfl, HI, d, HD⟩ := hrel
  have r0 : wr.cell? ⟨lt, 0, none⟩ = some (.slice a0 n c0) := by rw [HD.out]; exact hc0
  have r1 : wr.cell? ⟨lt, 1, none⟩ = some (.slice a1 n c1) := by rw [HD.out]; exact hc1
  have rs : wr.heap.size = w.heap.size := by rw [HD.out]; rfl
  have rl : lt < wr.heap.size := by rw [rs]; exact hlt
  by_cases hlt2 : i < n
  ·have hlt' : (i : Int) < x := by have := HX.out; omega
   obtain ⟨b0, ha0, hb0, _, _, hcell0⟩ := own_cells H0.out (by omega)
   obtain ⟨b1, ha1, hb1, _, _, hcell1⟩ := own_cells H1.out (by omega)
   subst ha0
   subst ha1
   have hg0 : gs[i]? = some (gs[i]'(by have := HL.out; omega)) := List.getElem?_eq_getElem _
   have hy0 : xs[i]? = some (xs[i]'(by have := HL.out; omega)) := List.getElem?_eq_getElem _
   obtain ⟨l, hg5, hx5⟩ := HCV.out i _ _ hg0 hy0
   obtain ⟨g, HG⟩ : ∃ g, Hid (gs[i]'(by have := HL.out; omega) = g) := ⟨_, hid rfl⟩
   obtain ⟨y, HY⟩ : ∃ y, Hid (xs[i]'(by have := HL.out; omega) = y) := ⟨_, hid rfl⟩
   rw [HG.out] at hg0 hg5
   rw [HY.out] at hy0 hx5
   have r2 : wr.cell? ⟨b0, i, none⟩ = some g := by rw [HD.out]; show w.cell? _ = _; rw [hcell0 i hlt2, hg0]
   have r3 : wr.cell? ⟨b1, i, none⟩ = some y := by rw [HD.out]; show w.cell? _ = _; rw [hcell1 i hlt2, hy0]
   have rb0 : b0 < wr.heap.size := by rw [rs]; exact hb0
   have rb1 : b1 < wr.heap.size := by rw [rs]; exact hb1
   obtain ⟨s, HSS⟩ : ∃ s : ByteArray, Hid ((⟨l.toArray⟩ : ByteArray) = s) := ⟨_, hid rfl⟩
   have k1 : ∀ q, (convert 74 9 g).run Tryz.prog (wr.drewN q) = .ok (.string s) (wr.drewN q) := fun q => by
    rw [← HSS.out]
    exact (hg5.same (w' := wr.drewN q) (by rw [HD.out]; exact (Same.drewN 5 w d).trans (Same.drewN _ _ _)) (by rw [HD.out]; exact Nat.le_refl _)).convert
   have k2 : ∀ q, (convert 74 9 y).run Tryz.prog (wr.drewN q) = .ok (.string s) (wr.drewN q) := fun q => by
    rw [← HSS.out]
    exact (hx5.same (w' := wr.drewN q) (by rw [HD.out]; exact (Same.drewN 5 w d).trans (Same.drewN _ _ _)) (by rw [HD.out]; exact Nat.le_refl _)).convert
   clear hcell0 hcell1 hg0 hy0 hg5 hx5 rs
   go_wp2
   go_quiet ((fail))
   rename_i nq
   go_wp2
   refine ⟨⟨i + 1, by omega, by go_num, hid (by omega), d + nq, hid (by rw [HD.out, World.drewN_drewN])⟩, by simp [intOf]; omega⟩
  ·have hge : x ≤ (i : Int) := by have := HX.out; omega
   go_wp2
   go_ret
   exact ⟨rfl, d, HD.out⟩
end Go.Proofs.YtpbiofnncdneoaaGreatDoor.Bq

/- The walk of Add. -/
namespace Go.Proofs.YtpbiofnncdneoaaGreatDoor.Bq
open Go Go.RowKit Go.Proofs.YtpbiofnncdneoaaGreatDoor.Bk
open Go.RowKit (wrap32 wrap64)

/-- What Add leaves as it was. -/
structure KeptL (w w' : World) (B : Nat → Prop) (lt : Nat) (vg vw : Value) : Prop where
 below : Bel B w w'
 block : ∀ b, b < w.heap.size → b ≠ lt → vg.ownBlock ≠ some b → vw.ownBlock ≠ some b → w'.heap[b]? = w.heap[b]?

theorem lt_block {w : World} {lt : Nat} {vg vw : Value} (h : w.rowIs lt 66 2 (ltF vg vw)) : ∃ c, w.heap[lt]? = some (.cells c 66 (0, 0)) := by
 obtain ⟨c, hb, hn, hc⟩ := h
 exact ⟨c, hb⟩

theorem lt_same {w w' : World} {lt : Nat} {vg vw : Value} (h : w.rowIs lt 66 2 (ltF vg vw)) (s : Same 66 w w') : w'.rowIs lt 66 2 (ltF vg vw) := by
 obtain ⟨c, hb, hn, hc⟩ := h
 exact ⟨c, by rw [s lt _ _ hb]; exact hb, hn, hc⟩

theorem ltF_0 (vg vw v : Value) (i : Nat) (_hi : i < 2) : (if i = 0 then v else ltF vg vw i) = ltF v vw i := by
 unfold ltF
 by_cases h : i = 0
 ·simp [h]
 ·simp [h]

theorem ltF_1 (vg vw v : Value) (i : Nat) (hi : i < 2) : (if i = 1 then v else ltF vg vw i) = ltF vg v i := by
 unfold ltF
 by_cases h : i = 1
 ·simp [h]
 ·have : i = 0 := by omega
  simp [this]

set_option maxRecDepth 100000 in
set_option maxHeartbeats 1600000 in
theorem add_any (w : World) (B : Nat → Prop) (lt n : Nat) (vg vw g x : Value) (gs xs : List Value) (l : List UInt8) (h : w.rowIs lt 66 2 (ltF vg vw)) (hn : n ≤ 8388607) (h0 : OwnR w B 74 vg n gs) (h1 : OwnR w B 74 vw n xs) (hap : Apart vg vw) (hx5 : Rd5 w x l) (hg : ∃ a m c, g = .slice a m c) (hB : B lt) (hBw : NewB B w) :
  Calls Tryz.prog 23 #[.pointer (some ⟨lt, 0, none⟩), g, x] w fun e w' => e = .returned (.tuple #[]) ∧ ∃ (vg' vw' y : Value), w'.rowIs lt 66 2 (ltF vg' vw') ∧ OwnR w' B 74 vg' (n + 1) (gs ++ [g]) ∧ OwnR w' B 74 vw' (n + 1) (xs ++ [y]) ∧ Apart vg' vw' ∧ Rd5 w' y l ∧ (∀ b, y.ownBlock = some b → w.heap.size ≤ b) ∧ KeptL w w' B lt vg vw ∧ (vg'.ownBlock = vg.ownBlock ∨ ∃ k, w.heap.size ≤ k ∧ vg'.ownBlock = some k) ∧ (vw'.ownBlock = vw.ownBlock ∨ ∃ k, w.heap.size ≤ k ∧ vw'.ownBlock = some k) := by
 obtain ⟨inf28, hi58, hz580, hz581, hz582⟩ := info_parts Tryz.info74
 obtain ⟨a0, c0, rfl⟩ := own_shape' h0
 obtain ⟨a1, c1, rfl⟩ := own_shape' h1
 obtain ⟨ga, gn, gc, rfl⟩ := hg
 have hc0 : w.cell? ⟨lt, 0, none⟩ = some (.slice a0 n c0) := h.cell (i := 0) (by decide)
 have hc1 : w.cell? ⟨lt, 1, none⟩ = some (.slice a1 n c1) := h.cell (i := 1) (by decide)
 have hlt := h.lt
 have hf0 := h.frozen 0
 have H := hid h
 have H0 := hid h0
 have H1 := hid h1
 have HAP := hid hap
 have HVW := hid (fun b hb => (h1.lt b hb).2 : ∀ b, (Value.slice a1 n c1).ownBlock = some b → b < w.heap.size)
 have HX5 := hid hx5
 clear h h1 hap hx5
 go_enter Tryz.func23, Tryz.ntmps23
 go_wp2_with (at_builtin; refine wpList_append_keeps _ rfl (.tmp 10) (.tmp 12) 37 rfl B 74 inf28 (.slice none 0 0) 24 Tryz.under37 hi58 hz580 hz581 hz582 rfl _ n _ rfl (h0.alloc _) ⟨w.heap.size, 0, none⟩ 1 (.slice ga gn gc) rfl (new_cell w _ _) rfl ?h63 ?hbytes ?hbase ?_)
 case h63 => unfold maxLen; omega
 case hbytes => omega
 case hbase => first | exact hBr3.up (by simp [World.setCell]) | exact hBr2.up (by simp) | exact hBr.up (by simp) | exact hBw.up (by simp)
 intro g3 cap3 w3 hown3 hg3 hwh3 hkeep3
 have S3 : ∀ e, e ≠ 74 → Same e w w3 := fun e he => (Same.alloc e w _).trans (Same.grown (h0.alloc _) hg3 he)
 have C3 := hid (lt_same H.out (S3 66 (by decide)))
 have hb3 : Bel B w w3 := ((Bel.refl _ _).alloc hBw _).grown hg3 (fun j hj => (h0.lt j hj).1)
 have HB3 := hid hb3
 have hf3 := C3.out.frozen 0
 have hf31 := C3.out.frozen 1
 have hc30 : w3.cell? ⟨lt, 0, none⟩ = some (.slice a0 n c0) := C3.out.cell (i := 0) (by decide)
 have hlt3 := C3.out.lt
 obtain ⟨W4, HW4⟩ : ∃ W4, Hid (w3.setCell ⟨lt, 0, none⟩ (.slice (some ⟨g3, 0, none⟩) (n + 1) cap3) = W4) := ⟨_, hid rfl⟩
 have hbut34 : But w3 W4 lt := by rw [← HW4.out]; exact But.setCell _ _ _ _
 have C4 := (C3.out.set 0 (.slice (some ⟨g3, 0, none⟩) (n + 1) cap3)).congr (fun i hi => ltF_0 _ _ _ i hi)
 rw [HW4.out] at C4
 have S4 : ∀ e, e ≠ 66 → Same e w3 W4 := fun e he => by
  obtain ⟨cs, hcs⟩ := lt_block C3.out
  exact Same.but hcs he hbut34
 have hrow1 : OwnR W4 B 74 (.slice a1 n c1) n xs := by
  refine own_same ?_ (S4 74 (by decide))
  exact (H1.out.alloc _).kept hg3 (HAP.out.symm)
 have hrow0 : OwnR W4 B 74 (.slice (some ⟨g3, 0, none⟩) (n + 1) cap3) (n + 1) (gs ++ [.slice ga gn gc]) := own_same hown3 (S4 74 (by decide))
 have hx4 : Rd5 W4 x l := HX5.out.same ((S3 5 (by decide)).trans (S4 5 (by decide))) (by rw [hbut34.size]; exact hb3.size)
 have HK4 : Hid (∀ b, b < w.heap.size → b ≠ lt → (Value.slice a0 n c0).ownBlock ≠ some b → W4.heap[b]? = w.heap[b]?) := hid (fun b h1 h2 h3 => by
  rw [hbut34.block b h2, hg3.block b (by simp; omega) (fun e => h3 e.symm), heap_alloc_old w _ h1])
 have HWH : Hid (g3 = w.heap.size + 1 ∨ (Value.slice a0 n c0).ownBlock = some g3) := hid (by
  rcases hwh3 with h1 | h1
  ·exact Or.inr h1
  ·exact Or.inl (by simpa using h1))
 have HAPV : Hid (Apart (.slice (some ⟨g3, 0, none⟩) (n + 1) cap3) (.slice a1 n c1)) := hid (by
  rcases HWH.out with h9 | h9
  ·refine Or.inr (fun h10 => ?_)
   have := HVW.out g3 h10.symm
   omega
  ·have h10 := HAP.out
   unfold Apart at h10 ⊢
   rw [h9] at h10
   exact h10)
 have HB4 : Hid (Bel B w W4) := hid (hb3.trans (hbut34.belq hB))
 have HR0 := hid hrow0
 have HR1 := hid hrow1
 have HC4 := hid C4
 have HX4 := hid hx4
 clear hown3 hg3 hwh3 hkeep3 S3 S4 C3 hb3 hbut34 hrow0 h0 hx4 HX5 H H0 H1 HB3 hc0 hc1 hf0 hlt C4
 have hc41 : W4.cell? ⟨lt, 1, none⟩ = some (.slice a1 n c1) := HC4.out.cell (i := 1) (by decide)
 have hf41 := HC4.out.frozen 1
 have hlt4 := HC4.out.lt
 obtain ⟨s, HSS⟩ : ∃ s : ByteArray, Hid ((⟨l.toArray⟩ : ByteArray) = s) := ⟨_, hid rfl⟩
 have k1 : (convert 74 9 x).run Tryz.prog W4.drew = .ok (.string s) W4.drew := by
  rw [← HSS.out]
  exact (HX4.out.same (w' := W4.drew) (Same.drewN 5 W4 1) (Nat.le_refl _)).convert
 obtain ⟨capf, oo, k2, HOO⟩ : ∃ (capf : World → Nat) (oo : World → Obj), (∀ w : World, (convert 9 74 (.string s)).run Tryz.prog w = .ok (.slice (some ⟨w.heap.size, 0, none⟩) s.size (capf w)) (w.drew.alloc (oo w))) ∧ Hid (∀ w, ∃ cs fr, oo w = .cells cs 5 fr ∧ ∀ j (hj : j < s.data.size), cs[j]? = some (.int .u8 (s.data[j].toNat : Int))) :=
  ⟨_, _, fun w => run_bytes_of_string (P := Tryz.prog) w 9 74 5 s Tryz.underlying9 Tryz.underlying74 Tryz.underlying5, hid (fun w => ⟨_, _, rfl, fun j hj => bytesRow_at s _ j hj⟩)⟩
 go_wp2
 rw [HW4.out]
 clear hf3 hf31 hc30 hlt3 HW4
 have HNEW : Hid (∀ j u, [Value.slice (some ⟨W4.heap.size, 0, none⟩) s.size (capf W4.drew)][j]? = some u → ((W4.drew.drew.alloc (oo W4.drew)).alloc (.cells #[.slice (some ⟨W4.heap.size, 0, none⟩) s.size (capf W4.drew)] 74)).cell? ((⟨W4.heap.size + 1, 0, none⟩ : Addr).add j) = some u) := hid (by
  intro j u hu
  have h9 := news_new (W4.drew.drew.alloc (oo W4.drew)) #[.slice (some ⟨W4.heap.size, 0, none⟩) s.size (capf W4.drew)] 74 j u hu
  have e9 : (W4.drew.drew.alloc (oo W4.drew)).heap.size = W4.heap.size + 1 := by simp
  rw [e9] at h9
  exact h9)
 obtain ⟨V5, HV5⟩ : ∃ V5, Hid ((W4.drew.drew.alloc (oo W4.drew)).alloc (.cells #[.slice (some ⟨W4.heap.size, 0, none⟩) s.size (capf W4.drew)] 74) = V5) := ⟨_, hid rfl⟩
 have S45 : ∀ e, Same e W4 V5 := fun e => by
  rw [← HV5.out]
  exact ((Same.drewN e W4 2).trans (Same.alloc e _ (oo W4.drew))).trans (Same.alloc e _ _)
 have HLT : Hid (∀ w5, ((W4.drew.drew.alloc (oo W4.drew)).alloc (.cells #[.slice (some ⟨W4.heap.size, 0, none⟩) s.size (capf W4.drew)] 74)).grownBy w5 (Value.slice a1 n c1).ownBlock → ∀ e, e ≠ 74 → Same e W4 w5) := hid (fun w5 hg e he => by
  rw [HV5.out] at hg
  exact (S45 e).trans (Same.grown (own_same hrow1 (S45 74)) hg he))
 clear S45
 have HINB : Hid (∀ b g5 cap5, (Value.slice (some ⟨g5, 0, none⟩) (n + 1) cap5).ownBlock = some b → ((Value.slice a1 n c1).ownBlock = some g5 ∨ g5 = W4.heap.size + 2) → B b) := hid (fun b g5 cap5 hb h => by
  have hgb : g5 = b := by simpa [Value.ownBlock] using hb
  rw [← hgb]
  rcases h with h | h
  ·exact HR1.out.inb g5 h
  ·exact hBw g5 (by have := HB4.out.size; omega))
 go_region_law (refine step_append_lies _ rfl (.tmp 20) (.tmp 24) 37 rfl 0 74 inf28 (.slice none 0 0) 1 24 Tryz.under37 hi58 hz580 hz581 hz582 rfl (by decide) (.slice a1 n c1) n xs rfl (by exact ((hrow1.alloc (oo W4.drew)).alloc (.cells #[.slice (some ⟨W4.heap.size, 0, none⟩) s.size (capf W4.drew)] 74)).own) ⟨W4.heap.size + 1, 0, none⟩ 1 1 [.slice (some ⟨W4.heap.size, 0, none⟩) s.size (capf W4.drew)] rfl rfl (by exact HNEW.out) (by intro u hu; simp at hu; rw [hu]; rfl) (by decide) (by unfold maxLen; omega) (by omega) (Nat.zero_le _) (W4.heap.size + 2) (by simp) ?_; intro g5 cap5 w5 hown5' hg5 hat5 hlt5; have hown5 : OwnR w5 B 74 (.slice (some ⟨g5, 0, none⟩) (n + 1) cap5) (n + 1) _ := OwnR.of hown5' (fun b hb => HINB.out b g5 cap5 hb hat5); clear hown5'; have C5 := lt_same HC4.out (HLT.out w5 hg5 66 (by decide)); have hc5 : w5.cell? ⟨lt, 1, none⟩ = some (.slice a1 n c1) := C5.cell (i := 1) (by decide); have hf5 := C5.frozen 1; have hl5 := C5.lt; have HC5 := hid C5; clear C5)
 all_goals
  have HO5 := hid hown5
  have HG5 := hid hg5
  have HA5 := hid hat5
  clear hown5 hg5 hat5
  go_wp2
  go_end0
  have hg5 : V5.grownBy w5 (Value.slice a1 n c1).ownBlock := by rw [← HV5.out]; exact HG5.out
  have S45 : ∀ e, Same e W4 V5 := fun e => by
   rw [← HV5.out]
   exact ((Same.drewN e W4 2).trans (Same.alloc e _ (oo W4.drew))).trans (Same.alloc e _ _)
  have hsz5 : V5.heap.size = W4.heap.size + 2 := by rw [← HV5.out]; simp
  have hV5 : Bel B W4 V5 := by
   rw [← HV5.out]
   have hb4 : NewB B W4 := NewB.up hBw HB4.out.size
   exact ((Bel.refl B W4).drew.drew.alloc (hb4.up (by simp)) _).alloc (hb4.up (by simp)) _
  have hV58 : Bel B V5 w5 := (Bel.refl _ _).grown hg5 (fun k hk => ((own_same HR1.out (S45 74)).lt k hk).1)
  have hnew : V5.heap[W4.heap.size]? = some (oo W4.drew) := by
   rw [← HV5.out]
   rw [heap_alloc_old _ _ (by simp)]
   exact heap_alloc_new W4.drew.drew (oo W4.drew)
  have hbut6 : But w5 (w5.setCell ⟨lt, 1, none⟩ (.slice (some ⟨g5, 0, none⟩) (n + 1) cap5)) lt := But.setCell _ _ _ _
  obtain ⟨ct, hct⟩ := lt_block HC5.out
  have S56 : ∀ e, e ≠ 66 → Same e w5 (w5.setCell ⟨lt, 1, none⟩ (.slice (some ⟨g5, 0, none⟩) (n + 1) cap5)) := fun e he => Same.but hct he hbut6
  have hvw5 := own_same HR1.out (S45 74)
  refine ⟨rfl, .slice (some ⟨g3, 0, none⟩) (n + 1) cap3, .slice (some ⟨g5, 0, none⟩) (n + 1) cap5, .slice (some ⟨W4.heap.size, 0, none⟩) s.size (capf W4.drew), (HC5.out.set 1 _).congr (fun i hi => ltF_1 _ _ _ i hi), own_same ((own_same HR0.out (S45 74)).kept hg5 HAPV.out) (S56 74 (by decide)), own_same HO5.out (S56 74 (by decide)), ?_, ?_, ?_, ⟨?_, ?_⟩, ?_, ?_⟩
  ·rcases HA5.out with h9 | h9
   ·have h10 := HAPV.out
    unfold Apart at h10 ⊢
    rw [h9] at h10
    exact h10
   ·refine Or.inr (fun h10 => ?_)
    have h11 : g3 = g5 := by simpa [Value.ownBlock] using h10
    have h12 := (HR0.out.lt g3 rfl).2
    omega
  ·obtain ⟨cs, fr, hoo, hcs⟩ := HOO.out W4.drew
   have hsl : s.size = l.length := by rw [← HSS.out]; rfl
   have hb6 : (w5.setCell ⟨lt, 1, none⟩ (.slice (some ⟨g5, 0, none⟩) (n + 1) cap5)).heap[W4.heap.size]? = some (.cells cs 5 fr) := by
    have h9 : w5.heap[W4.heap.size]? = some (.cells cs 5 fr) := by
     rw [Same.grown hvw5 hg5 (by decide : (5 : TypeId) ≠ 74) W4.heap.size cs fr (by rw [hnew, hoo]), hnew, hoo]
    rw [S56 5 (by decide) _ cs fr h9, h9]
   refine ⟨_, _, by rw [hsl], fun hl => ⟨W4.heap.size, cs, fr, rfl, hb6, fun j hj => ?_⟩, fun b hb => ?_⟩
   ·have hd : s.data = l.toArray := by rw [← HSS.out]
    have hj' : j < s.data.size := by rw [hd]; simpa using hj
    rw [hcs j hj']
    simp [hd]
   ·have h9 : W4.heap.size = b := by simpa [Value.ownBlock] using hb
    rw [← h9]
    exact (Array.getElem?_eq_some_iff.1 hb6).1
  ·intro b hb
   have h9 : W4.heap.size = b := by simpa [Value.ownBlock] using hb
   have := HB4.out.size
   omega
  ·exact ((HB4.out.trans hV5).trans hV58).trans (hbut6.belq hB)
  ·intro b h9 h10 h11 h12
   have hb4 := Nat.lt_of_lt_of_le h9 HB4.out.size
   rw [hbut6.block b h10, hg5.block b (by rw [hsz5]; omega) (fun e => h12 e.symm), ← HV5.out, heap_alloc_old _ _ (by simp; omega), heap_alloc_old W4.drew.drew _ hb4]
   exact HK4.out b h9 h10 h11
  ·rcases HWH.out with h9 | h9
   ·exact Or.inr ⟨g3, by omega, rfl⟩
   ·exact Or.inl h9.symm
  ·rcases HA5.out with h9 | h9
   ·exact Or.inl h9.symm
   ·exact Or.inr ⟨g5, by have := HB4.out.size; omega, rfl⟩
end Go.Proofs.YtpbiofnncdneoaaGreatDoor.Bq

namespace Go.Proofs.YtpbiofnncdneoaaGreatDoor.Bq
open Go Go.RowKit Go.Proofs.YtpbiofnncdneoaaGreatDoor.Bk
open Go.RowKit (wrap32 wrap64)

abbrev Item := Value × List UInt8

/-- The book, late's list of answers, and answers that are still the caller's own. -/
structure SL (w : World) (B : Nat → Prop) (bk lt : Nat) (vg vw : Value) (n : Nat) (gv : List Value) (A T : Nat) (D : Int) (v0 v1 : Value) (U : Int) (gs : List Value) (ms : List Nat) (rs : List Item) : Prop where
 book : Bst w B bk v0 v1 A T D U gs ms A gs.length
 ale : A ≤ gs.length
 use : 1200 * (gs.length : Int) ≤ 1080 * (A : Int) + U
 u0 : 0 ≤ U
 u1 : U ≤ 16777216
 cells : w.rowIs lt 66 2 (ltF vg vw)
 row0 : OwnR w B 74 vg n gv
 ap : Apart v0 vg
 own : ∀ p ∈ rs, OwnR w B 5 p.1 p.2.length (cb p.2) ∧ p.2.length ≤ 8388608
 alone : rs.Pairwise (fun a b => Apart a.1 b.1)
 apart : ∀ (j : Nat) g', gs[j]? = some g' → ∀ p ∈ rs, Apart g' p.1
 hB : B bk ∧ B lt ∧ NewB B w

theorem own_low {w : World} {B : Nat → Prop} {e : TypeId} {v : Value} {n : Nat} {xs : List Value} (h : OwnR w B e v n xs) : ∀ b, v.ownBlock = some b → b < w.heap.size := fun b hb => (h.lt b hb).2

/-- A row of another type than a block's does not lie there. -/
theorem own_ne {w : World} {B : Nat → Prop} {b : Nat} {e e' : TypeId} {v : Value} {n : Nat} {xs : List Value} {cs : Array Value} {fr : Nat × Nat} (h : OwnR w B e v n xs) (hb : w.heap[b]? = some (.cells cs e' fr)) (hne : e' ≠ e) : v.ownBlock ≠ some b := fun k => by
 obtain ⟨_, _, cs', hcs⟩ := own_block h k
 rw [hb] at hcs
 injection hcs with q
 injection q with q1 q2
 exact hne q2

/-- A row of the same type that is apart stays under Bytes. -/
theorem Kept.row {w w' : World} {B : Nat → Prop} {bk : Nat} {v0 v1 o : Value} (h : Kept w w' B bk v0 v1 o) {B' : Nat → Prop} {e n : Nat} {v : Value} {xs : List Value} (hv : OwnR w B' e v n xs) (hbk : v.ownBlock ≠ some bk) (h0 : Apart v0 v) (h1 : Apart v1 v) (h2 : Apart o v) : OwnR w' B' e v n xs := by
 refine ⟨hv.1, ?_⟩
 rcases hv.2 with h5 | ⟨g, cap, cur, rfl, hg, hh, r⟩
 ·exact Or.inl h5
 ·refine Or.inr ⟨g, cap, cur, rfl, hg, ?_, r⟩
  have ne : ∀ u : Value, Apart u (.slice (some ⟨g, 0, none⟩) n cap) → u.ownBlock ≠ some g := fun u hu => by
   rcases hu with h6 | h6
   ·rw [h6]; exact fun k => by cases k
   ·exact h6
  rw [h.block g (Array.getElem?_eq_some_iff.1 hh).1 (fun k => hbk (by rw [← k]; rfl)) (ne _ h0) (ne _ h1) (ne _ h2)]
  exact hh

theorem apart_ty {w : World} {B B' : Nat → Prop} {n n' : Nat} {e e' : TypeId} {v v' : Value} {xs xs' : List Value} (h : OwnR w B e v n xs) (h' : OwnR w B' e' v' n' xs') (hne : e ≠ e') : Apart v v' := by
 cases hv : v.ownBlock with
 | none => exact Or.inl hv
 | some b =>
  obtain ⟨_, _, cs, hcs⟩ := own_block h hv
  exact Or.inr (fun k => own_ne h' hcs hne (by rw [← k]; exact hv))

theorem apart_new {a b : Value} {H : Nat} (ha : ∀ x, a.ownBlock = some x → x < H) (hb : ∀ x, b.ownBlock = some x → H ≤ x) : Apart a b := by
 cases h : a.ownBlock with
 | none => exact Or.inl h
 | some x =>
  refine Or.inr (fun k => ?_)
  have h1 := ha x h
  have h2 := hb x (by rw [← k]; exact h)
  omega

/-- Behind Bytes of the first answer. -/
theorem SL.step {w w' : World} {B : Nat → Prop} {bk lt : Nat} {vg vw : Value} {n : Nat} {gv : List Value} {A T : Nat} {D : Int} {v0 v1 : Value} {U : Int} {gs : List Value} {ms : List Nat} {p : Item} {rs : List Item} (h : SL w B bk lt vg vw n gv A T D v0 v1 U gs ms (p :: rs))
  {v0' v1' : Value} {gs' : List Value} {ms' : List Nat} {U' : Int} (hS : Bst w' B bk v0' v1' A ((T + 1 : Nat) : Int) D U' gs' ms' A gs'.length) (hu0 : 0 ≤ U') (hu1 : U' ≤ 16777216) (hg : (gs' = gs ∧ U' = U) ∨ (gs' = gs ++ [p.1] ∧ U' = U + (1200 + 3 * (p.2.length : Int))))
  (hK : Kept w w' B bk v0 v1 p.1) (hv : v0'.ownBlock = v0.ownBlock ∨ ∃ k, w.heap.size ≤ k ∧ v0'.ownBlock = some k) : SL w' B bk lt vg vw n gv A (T + 1) D v0' v1' U' gs' ms' rs := by
 have hp := h.own p (by simp)
 obtain ⟨cb', hcb⟩ := bkc_block h.book.cells
 obtain ⟨cl, hcl⟩ := lt_block h.cells
 have hal : ∀ q ∈ rs, Apart p.1 q.1 := fun q hq => (List.pairwise_cons.1 h.alone).1 q hq
 refine ⟨hS, ?_, ?_, hu0, hu1, ?_, ?_, ?_, ?_, (List.pairwise_cons.1 h.alone).2, ?_, ⟨h.hB.1, h.hB.2.1, NewB.up h.hB.2.2 hK.below.size⟩⟩
 ·have := h.ale
  rcases hg with ⟨e, _⟩ | ⟨e, _⟩
  ·rw [e]; exact this
  ·rw [e, List.length_append]; omega
 ·have := h.use
  rcases hg with ⟨e, e2⟩ | ⟨e, e2⟩
  ·rw [e, e2]; exact this
  ·rw [e, e2, List.length_append]; simp only [List.length_cons, List.length_nil]; omega
 ·have hne : lt ≠ bk := fun k => by
   rw [k, hcb] at hcl
   injection hcl with q
   injection q with q1 q2
   exact absurd q2 (by decide)
  obtain ⟨c, hb, hn, hc⟩ := h.cells
  refine ⟨c, ?_, hn, hc⟩
  rw [hK.block lt (Array.getElem?_eq_some_iff.1 hb).1 hne (own_ne h.book.row0 hb (by decide)) (own_ne h.book.row1 hb (by decide)) (own_ne hp.1 hb (by decide))]
  exact hb
 ·exact hK.row h.row0 (own_ne h.row0 hcb (by decide)) h.ap (apart_ty h.book.row1 h.row0 (by decide)) (apart_ty hp.1 h.row0 (by decide))
 ·rcases hv with e | ⟨k, hk, e⟩
  ·have := h.ap
   unfold Apart at this ⊢
   rw [e]
   exact this
  ·exact (apart_new (own_low h.row0) (fun x hx => by rw [e] at hx; injection hx with hx; omega)).symm
 ·intro q hq
  have ho := h.own q (List.mem_cons_of_mem _ hq)
  exact ⟨hK.row ho.1 (own_ne ho.1 hcb (by decide)) (apart_ty h.book.row0 ho.1 (by decide)) (apart_ty h.book.row1 ho.1 (by decide)) (hal q hq), ho.2⟩
 ·intro j g' hj q hq
  rcases hg with ⟨e, _⟩ | ⟨e, _⟩
  ·rw [e] at hj
   exact h.apart j g' hj q (List.mem_cons_of_mem _ hq)
  ·rw [e] at hj
   by_cases hjl : j < gs.length
   ·rw [List.getElem?_append_left hjl] at hj
    exact h.apart j g' hj q (List.mem_cons_of_mem _ hq)
   ·rw [List.getElem?_append_right (by omega)] at hj
    have hj2 : j = gs.length := by
     have := (List.getElem?_eq_some_iff.1 hj).1
     simp at this
     omega
    subst hj2
    simp at hj
    subst hj
    exact hal q hq

/-- All of it. -/
structure STx (w : World) (B : Nat → Prop) (bk lt T : Nat) (ps : List Item) (n : Nat) (A : Nat) (D : Int) (v0 v1 : Value) (U : Int) (gs : List Value) (ms : List Nat) (vg vw : Value) (xs : List Value) : Prop where
 sl : SL w B bk lt vg vw n ((ps.take n).map Prod.fst) A T D v0 v1 U gs ms ps
 row1 : OwnR w B 74 vw n xs
 apg : Apart vg vw
 apw : Apart v0 vw
 want : ∀ (i : Nat) x p, xs[i]? = some x → ps[i]? = some p → Rd5 w x p.2
 wap : ∀ x ∈ xs, ∀ p ∈ ps, Apart x p.1
 wlowb : ∀ x ∈ xs, ∀ b, x.ownBlock = some b → b < w.heap.size ∧ B b
 nle : n ≤ ps.length
theorem STx.wlow {w : World} {B : Nat → Prop} {bk lt T : Nat} {ps : List Item} {n A : Nat} {D : Int} {v0 v1 : Value} {U : Int} {gs : List Value} {ms : List Nat} {vg vw : Value} {xs : List Value} (h : STx w B bk lt T ps n A D v0 v1 U gs ms vg vw xs) : ∀ x ∈ xs, ∀ b, x.ownBlock = some b → b < w.heap.size := fun x q1 b q2 => (h.wlowb x q1 b q2).1

def ST (w : World) (B : Nat → Prop) (bk lt T : Nat) (ps : List Item) (n : Nat) : Prop := ∃ A D v0 v1 U gs ms vg vw xs, STx w B bk lt T ps n A D v0 v1 U gs ms vg vw xs

/-- All of it stays where nothing that was there turns; and a new answer is the caller's own. -/
theorem STx.below {w w' : World} {B : Nat → Prop} {bk lt T : Nat} {ps : List Item} {n A : Nat} {D : Int} {v0 v1 : Value} {U : Int} {gs : List Value} {ms : List Nat} {vg vw : Value} {xs : List Value} (h : STx w B bk lt T ps n A D v0 v1 U gs ms vg vw xs) (hb : Below w.heap.size w w') : STx w' B bk lt T ps n A D v0 v1 U gs ms vg vw xs := by
 have s : ∀ e, Same e w w' := fun e => Same.below hb
 refine ⟨⟨h.sl.book.same (fun e _ => s e) hb.size, h.sl.ale, h.sl.use, h.sl.u0, h.sl.u1, lt_same h.sl.cells (s 66), own_same h.sl.row0 (s 74), h.sl.ap, fun p hp => ⟨own_same (h.sl.own p hp).1 (s 5), (h.sl.own p hp).2⟩, h.sl.alone, h.sl.apart, ⟨h.sl.hB.1, h.sl.hB.2.1, NewB.up h.sl.hB.2.2 hb.size⟩⟩, own_same h.row1 (s 74), h.apg, h.apw, fun i x p hx hp => (h.want i x p hx hp).same (s 5) hb.size, h.wap, fun x hx b hbk => ⟨Nat.lt_of_lt_of_le (h.wlow x hx b hbk) hb.size, (h.wlowb x hx b hbk).2⟩, h.nle⟩

theorem ST.below {w w' : World} {B : Nat → Prop} {bk lt T : Nat} {ps : List Item} {n : Nat} (h : ST w B bk lt T ps n) (hb : Below w.heap.size w w') : ST w' B bk lt T ps n := by
 obtain ⟨A, D, v0, v1, U, gs, ms, vg, vw, xs, h⟩ := h
 exact ⟨A, D, v0, v1, U, gs, ms, vg, vw, xs, h.below hb⟩

end Go.Proofs.YtpbiofnncdneoaaGreatDoor.Bq

/- Add over all of it; the walk of Settle. -/
namespace Go.Proofs.YtpbiofnncdneoaaGreatDoor.Bq
open Go Go.RowKit Go.Proofs.YtpbiofnncdneoaaGreatDoor.Bk
open Go.RowKit (wrap32 wrap64)

theorem KeptL.same {w w' : World} {B : Nat → Prop} {lt n m : Nat} {vg vw : Value} {gs xs : List Value} (h : KeptL w w' B lt vg vw) (hc : w.rowIs lt 66 2 (ltF vg vw)) (h0 : OwnR w B 74 vg n gs) (h1 : OwnR w B 74 vw m xs) (e : TypeId) (he : e ≠ 66) (he2 : e ≠ 74) : Same e w w' := fun b cs fr hb => by
 obtain ⟨cl, hcl⟩ := lt_block hc
 refine h.block b (Array.getElem?_eq_some_iff.1 hb).1 (fun k => ?_) (own_ne h0 hb he2) (own_ne h1 hb he2)
 rw [k, hcl] at hb
 injection hb with q
 injection q with q1 q2
 exact he q2.symm

/-- Add of the caller's next answer. -/
theorem ST.add {w : World} {B : Nat → Prop} {bk lt T : Nat} {ps : List Item} {n : Nat} (h : ST w B bk lt T ps n) {p : Item} (hp : ps[n]? = some p) {x : Value} (hx : Rd5 w x p.2) (hn : n ≤ 8388607) :
  Calls Tryz.prog 23 #[.pointer (some ⟨lt, 0, none⟩), p.1, x] w fun e w' => e = .returned (.tuple #[]) ∧ ST w' B bk lt T ps (n + 1) ∧ Bel B w w' ∧ Same 5 w w' := by
 obtain ⟨A, D, v0, v1, U, gs, ms, vg, vw, xs, h⟩ := h
 have hpm : p ∈ ps := List.mem_of_getElem? hp
 have hpo := h.sl.own p hpm
 have hsh : ∃ a m c, p.1 = .slice a m c := by
  obtain ⟨a, c, hv⟩ := own_shape' hpo.1
  exact ⟨a, _, c, hv⟩
 refine (add_any w B lt n vg vw p.1 x ((ps.take n).map Prod.fst) xs p.2 h.sl.cells hn h.sl.row0 h.row1 h.apg hx hsh h.sl.hB.2.1 h.sl.hB.2.2).mono ?_
 rintro e w' ⟨rfl, vg', vw', y, hc, h0, h1, hap, hy5, hylow, hK, hvg, hvw⟩
 have S : ∀ e, e ≠ 66 → e ≠ 74 → Same e w w' := fun e he he2 => hK.same h.sl.cells h.sl.row0 h.row1 e he he2
 have hsz := hK.below.size
 obtain ⟨cl, hcl⟩ := lt_block h.sl.cells
 obtain ⟨cbk, hcb⟩ := bkc_block h.sl.book.cells
 -- the book's row of lists is another
 have hrow0 : OwnR w' B 74 v0 gs.length gs := by
  have hv := h.sl.book.row0
  refine ⟨hv.1, ?_⟩
  rcases hv.2 with h5 | ⟨g, cap, cur, hvv, hg, hh, r⟩
  ·exact Or.inl h5
  ·refine Or.inr ⟨g, cap, cur, hvv, hg, ?_, r⟩
   have ne : ∀ u : Value, Apart v0 u → u.ownBlock ≠ some g := fun u hu k => by
    rcases hu with h6 | h6
    ·rw [hvv] at h6; cases h6
    ·exact h6 (by rw [k, hvv]; rfl)
   rw [hK.block g (Array.getElem?_eq_some_iff.1 hh).1 (fun k => ?_) (ne vg h.sl.ap) (ne vw h.apw)]
   ·exact hh
   ·rw [k, hcl] at hh
    injection hh with q
    injection q with q1 q2
    exact absurd q2 (by decide)
 have hbook : Bst w' B bk v0 v1 A T D U gs ms A gs.length := by
  refine ⟨bkc_same h.sl.book.cells (S 63 (by decide) (by decide)), hrow0, own_same h.sl.book.row1 (S 3 (by decide) (by decide)), fun i g m hg hm => held_same (h.sl.book.held i g m hg hm) (S 5 (by decide) (by decide)), h.sl.book.mle, fun i g m h2 h3 hg hm => ?_, fun i g b hg hb => ⟨Nat.lt_of_lt_of_le (h.sl.book.low i g b hg hb) hsz, (h.sl.book.lowb i g b hg hb).2⟩⟩
  obtain ⟨⟨nn, hnn, ho⟩, h4⟩ := h.sl.book.fresh i g m h2 h3 hg hm
  exact ⟨⟨nn, hnn, own_same ho (S 5 (by decide) (by decide))⟩, h4⟩
 have hlt : n < ps.length := (List.getElem?_eq_some_iff.1 hp).1
 have hpn : ps[n] = p := by
  have := List.getElem?_eq_getElem hlt
  rw [this] at hp
  exact Option.some.inj hp
 have mv : ∀ (u u' : Value), Apart v0 u → (u'.ownBlock = u.ownBlock ∨ ∃ k, w.heap.size ≤ k ∧ u'.ownBlock = some k) → Apart v0 u' := fun u u' h2 h3 => by
  rcases h3 with h3 | ⟨k, hk, h3⟩
  ·unfold Apart at h2 ⊢
   rw [h3]
   exact h2
  ·exact apart_new (own_low h.sl.book.row0) (fun z hz => by rw [h3] at hz; injection hz with hz; omega)
 have hxl : xs.length = n := by have := h.row1.1; omega
 refine ⟨rfl, ⟨A, D, v0, v1, U, gs, ms, vg', vw', xs ++ [y], ⟨⟨hbook, h.sl.ale, h.sl.use, h.sl.u0, h.sl.u1, hc, ?_, mv vg vg' h.sl.ap hvg, fun q hq => ⟨own_same (h.sl.own q hq).1 (S 5 (by decide) (by decide)), (h.sl.own q hq).2⟩, h.sl.alone, h.sl.apart, ⟨h.sl.hB.1, h.sl.hB.2.1, NewB.up h.sl.hB.2.2 hsz⟩⟩, h1, hap, mv vw vw' h.apw hvw, ?_, ?_, ?_, hlt⟩⟩, hK.below, S 5 (by decide) (by decide)⟩
 ·rw [List.take_succ_eq_append_getElem hlt, List.map_append, hpn]
  exact h0
 ·intro i z q hz hq
  by_cases hi : i < n
  ·rw [List.getElem?_append_left (by omega)] at hz
   exact (h.want i z q hz hq).same (S 5 (by decide) (by decide)) hsz
  ·rw [List.getElem?_append_right (by omega)] at hz
   have hi2 : i = n := by
    have := (List.getElem?_eq_some_iff.1 hz).1
    simp at this
    omega
   subst hi2
   rw [hxl] at hz
   simp at hz
   subst hz
   rw [hp] at hq
   have := Option.some.inj hq
   subst this
   exact hy5
 ·intro z hz q hq
  rcases List.mem_append.1 hz with h2 | h2
  ·exact h.wap z h2 q hq
  ·simp at h2
   subst h2
   exact (apart_new (own_low (h.sl.own q hq).1) hylow).symm
 ·intro z hz b hb
  rcases List.mem_append.1 hz with h2 | h2
  ·exact ⟨Nat.lt_of_lt_of_le (h.wlow z h2 b hb) hsz, (h.wlowb z h2 b hb).2⟩
  ·simp at h2
   subst h2
   obtain ⟨_, _, _, _, hl⟩ := hy5
   exact ⟨hl b hb, h.sl.hB.2.2 b (hylow b hb)⟩
end Go.Proofs.YtpbiofnncdneoaaGreatDoor.Bq

/- The walk of Settle. -/
namespace Go.Proofs.YtpbiofnncdneoaaGreatDoor.Bq
open Go Go.RowKit Go.Proofs.YtpbiofnncdneoaaGreatDoor.Bk
open Go.RowKit (wrap32 wrap64)

theorem SL.drewN {w : World} {B : Nat → Prop} {bk lt : Nat} {vg vw : Value} {n : Nat} {gv : List Value} {A T : Nat} {D : Int} {v0 v1 : Value} {U : Int} {gs : List Value} {ms : List Nat} {rs : List Item} (h : SL w B bk lt vg vw n gv A T D v0 v1 U gs ms rs) (d : Nat) : SL (w.drewN d) B bk lt vg vw n gv A T D v0 v1 U gs ms rs := by
 have s : ∀ e, Same e w (w.drewN d) := fun e => Same.drewN e w d
 exact ⟨h.book.drewN d, h.ale, h.use, h.u0, h.u1, lt_same h.cells (s 66), own_same h.row0 (s 74), h.ap, fun p hp => ⟨own_same (h.own p hp).1 (s 5), (h.own p hp).2⟩, h.alone, h.apart, h.hB⟩

theorem ltF_nil (vg vw : Value) (i : Nat) (hi : i < 2) : (if i = 1 then Value.slice none 0 0 else if i = 0 then Value.slice none 0 0 else ltF vg vw i) = ltF (.slice none 0 0) (.slice none 0 0) i := by
 unfold ltF
 rcases (show i = 0 ∨ i = 1 by omega) with rfl | rfl <;> simp

set_option maxRecDepth 100000 in
set_option maxHeartbeats 1600000 in
theorem settle_any (w : World) (B : Nat → Prop) (bk lt T : Nat) (ps : List Item) (h : ST w B bk lt T ps ps.length) (hn : ps.length ≤ 8388608) (hT : T + ps.length ≤ 549755813887) (k0 : Int) :
  Calls Tryz.prog 12 #[.pointer (some ⟨lt, 0, none⟩), .pointer (some ⟨bk, 0, none⟩), .int .i64 k0] w fun e w' => e = .returned (.bool true) ∧ Bel B w w' ∧ ((Hid ((ps.length : Int) < k0) ∧ w' = w) ∨ ∃ T', Hid (T' ≤ T + ps.length) ∧ ST w' B bk lt T' [] 0) := by
 obtain ⟨A, D, v0, v1, U, gs, ms, vg, vw, xs, h⟩ := h
 obtain ⟨a0, c0, hvg⟩ := own_shape' h.sl.row0
 subst hvg
 obtain ⟨n, HN⟩ : ∃ n : Nat, Hid (ps.length = n) := ⟨_, hid rfl⟩
 rw [HN.out] at h hn hT
 have hc0 : w.cell? ⟨lt, 0, none⟩ = some (.slice a0 n c0) := h.sl.cells.cell (i := 0) (by decide)
 have hlt := h.sl.cells.lt
 obtain ⟨x, hx⟩ : ∃ x : Int, (n : Int) = x := ⟨_, rfl⟩
 have hx0 : 0 ≤ x := by omega
 have hx1 : x ≤ 8388608 := by omega
 have HX := hid hx
 have H := hid h
 have HT := hid hT
 clear h hT
 by_cases hlt0 : x < k0
 ·go_enter Tryz.func12, Tryz.ntmps12
  go_wp2
  go_ret
  refine ⟨rfl, Bel.refl _ _, Or.inl ⟨hid ?_, rfl⟩⟩
  first
   | (have := HX.out; have := HN.out; omega)
   | trivial
 ·have hge0 : k0 ≤ x := by omega
  have HS := hid (same_any w B lt n (.slice a0 n c0) vw ((ps.take n).map Prod.fst) xs H.out.sl.cells hn H.out.sl.row0 H.out.row1 (fun i g y hg hy => by
   have hi : i < n := by have h1 := (List.getElem?_eq_some_iff.1 hy).1; have := H.out.row1.1; omega
   have hip : i < ps.length := by have := HN.out; omega
   have h2 : ((ps.take n).map Prod.fst)[i]? = some ps[i].1 := by
    rw [List.getElem?_map, List.getElem?_take, if_pos hi, List.getElem?_eq_getElem hip]
    rfl
   rw [h2] at hg
   have := Option.some.inj hg
   subst this
   exact ⟨ps[i].2, own_rd5 (H.out.sl.own _ (List.getElem_mem hip)).1, H.out.want i y _ hy (List.getElem?_eq_getElem hip)⟩))
  have hBw := H.out.sl.hB.2.2
  go_enter Tryz.func12, Tryz.ntmps12
  go_wp2_with fail
  refine HS.out.mono ?_
  rintro e w1 ⟨rfl, d, hw⟩
  have HS1 : Hid (SL w1 B bk lt (.slice a0 n c0) vw n ((ps.take n).map Prod.fst) A T D v0 v1 U gs ms ps) := hid (by rw [hw]; exact H.out.sl.drewN d)
  have HB1 : Hid (Bel B w w1) := hid (by rw [hw]; exact Bel.drewN' w d)
  clear hw HS H hc0 hlt
  have hB2 := HS1.out.hB
  have HBB := hid hB2
  clear hB2
  go_wp2
  go_loopw [7] (fun iv wr => ∃ (i : Nat) (v0 v1 : Value) (U : Int) (gs : List Value) (ms : List Nat), iv = .int .i64 i ∧ i ≤ 8388608 ∧ Hid (i ≤ n) ∧ Hid (SL wr B bk lt (.slice a0 n c0) vw n ((ps.take n).map Prod.fst) A (T + i) D v0 v1 U gs ms (ps.drop i)) ∧ Hid (Bel B w wr)) (fun iv _ => n - (intOf iv).toNat)
  case atStart => exact ⟨0, v0, v1, U, gs, ms, rfl, by omega, hid (Nat.zero_le _), hid HS1.out, HB1⟩
  case round =>
   as_aux_lemma =>
   clear HS1 HB1
   obtain ⟨i, v0, v1, U, gs, ms, rfl, hi, HI, HS, HB⟩ := hrel
   have hc0 : wr.cell? ⟨lt, 0, none⟩ = some (.slice a0 n c0) := HS.out.cells.cell (i := 0) (by decide)
   have hlt := HS.out.cells.lt
   by_cases hin : i < n
   ·have hlt' : (i : Int) < x := by have := HX.out; omega
    obtain ⟨b0, ha0, hb0, _, _, hcell0⟩ := own_cells HS.out.row0 (by omega)
    subst ha0
    have hip : i < ps.length := by have := HN.out; omega
    have h2 : ((ps.take n).map Prod.fst)[i]? = some ps[i].1 := by
     rw [List.getElem?_map, List.getElem?_take, if_pos hin, List.getElem?_eq_getElem hip]
     rfl
    have q0 := hcell0 i hin
    rw [h2] at q0
    obtain ⟨p, HP⟩ : ∃ p : Item, Hid (ps[i] = p) := ⟨_, hid rfl⟩
    rw [HP.out] at q0
    obtain ⟨o, l⟩ := p
    have hS := HS.out
    rw [List.drop_eq_getElem_cons hip, HP.out] at hS
    have HS2 := hid hS
    have hpo := hS.own (o, l) (by simp)
    have HBY := hid (bytes_any wr B bk A (T + i) v0 v1 o D U gs ms l hS.book hS.hB.1 hS.hB.2.2 hpo.1 hpo.2 (by have := HT.out; omega) hS.u0 hS.u1 (by have := hS.ale; have := hS.use; have := hS.u1; omega) (fun j g' hj => hS.apart j g' hj (o, l) (by simp)))
    clear hS hpo hcell0 h2
    go_wp2_with (go_at_call 38; refine HBY.out.mono ?_; rintro e w2 ⟨rfl, v0', v1', gs', ms', U', hS', hu0, hu1, hg', hK, hv⟩)
    refine ⟨⟨i + 1, v0', v1', U', gs', ms', by go_num, by omega, hid (by omega), hid (HS2.out.step hS' hu0 hu1 hg' hK hv), hid (HB.out.trans hK.below)⟩, by simp [intOf]; omega⟩
   ·have hge : x ≤ (i : Int) := by have := HX.out; omega
    have hil : i = n := by have := HI.out; omega
    have hf0 := HS.out.cells.frozen 0
    have hf1 := HS.out.cells.frozen 1
    have hc1 : wr.cell? ⟨lt, 1, none⟩ = some vw := HS.out.cells.cell (i := 1) (by decide)
    obtain ⟨W2, HW2⟩ : ∃ W2, Hid ((wr.setCell ⟨lt, 0, none⟩ (.slice none 0 0)).setCell ⟨lt, 1, none⟩ (.slice none 0 0) = W2) := ⟨_, hid rfl⟩
    have hbut : But wr W2 lt := by rw [← HW2.out]; exact (But.setCell _ _ _ _).trans (But.setCell _ _ _ _)
    have hC2 : W2.rowIs lt 66 2 (ltF (.slice none 0 0) (.slice none 0 0)) := by
     rw [← HW2.out]
     exact ((HS.out.cells.set 0 (.slice none 0 0)).set 1 (.slice none 0 0)).congr (fun i hi => ltF_nil _ _ i hi)
    obtain ⟨cl, hcl⟩ := lt_block HS.out.cells
    have S2 : ∀ e, e ≠ 66 → Same e wr W2 := fun e he => Same.but hcl he hbut
    have hbk2 : Bst W2 B bk v0 v1 A ((T + i : Nat) : Int) D U gs ms A gs.length := HS.out.book.same (fun e he => S2 e (by rcases he with rfl | rfl | rfl | rfl <;> decide)) (by rw [hbut.size]; exact Nat.le_refl _)
    have HL := hid (look_any W2 B bk A v0 v1 ((T + i : Nat) : Int) D U gs ms hbk2 HS.out.ale HS.out.use HS.out.u1 HS.out.hB.1 (NewB.up HS.out.hB.2.2 (by rw [hbut.size]; exact Nat.le_refl _)))
    have HC2 := hid hC2
    have HB2 : Hid (Bel B w W2) := hid (HB.out.trans (hbut.belq HS.out.hB.2.1))
    have HU := hid (And.intro HS.out.u0 HS.out.u1)
    have HBW : Hid (NewB B W2) := hid (NewB.up HS.out.hB.2.2 (by rw [hbut.size]; exact Nat.le_refl _))
    have HHB := hid (And.intro HS.out.hB.1 HS.out.hB.2.1)
    clear hbut hC2 hcl S2 hbk2
    go_wp2_with fail
    rw [HW2.out]
    refine HL.out.mono ?_
    rintro e w4 ⟨rfl, v0', v1', A', D', gs', ms', hS', ha', hu', hb4, h57⟩
    have HF : Hid (Bel B w w4 ∧ ST w4 B bk lt (T + i) [] 0) := hid ⟨HB2.out.trans hb4, A', D', v0', v1', U, gs', ms', .slice none 0 0, .slice none 0 0, [], ⟨⟨hS', ha', hu', HU.out.1, HU.out.2, lt_same HC2.out h57, OwnR.nil _ _ _, (Apart.symm (Or.inl rfl)), fun p hp => by simp at hp, List.Pairwise.nil, fun j g' hj p hp => by simp at hp, ⟨HHB.out.1, HHB.out.2, NewB.up HBW.out hb4.size⟩⟩, OwnR.nil _ _ _, Or.inl rfl, (Apart.symm (Or.inl rfl)), fun i x p hx hp => by simp at hx, fun x hx => by simp at hx, fun x hx => by simp at hx, Nat.le_refl _⟩⟩
    clear hS' ha' hu' hb4 h57 HL
    go_wp2
    go_ret
    refine ⟨rfl, HF.out.1, Or.inr ⟨T + i, hid ?_, HF.out.2⟩⟩
    first
     | (have := HI.out; have := HN.out; omega)
     | trivial
end Go.Proofs.YtpbiofnncdneoaaGreatDoor.Bq
