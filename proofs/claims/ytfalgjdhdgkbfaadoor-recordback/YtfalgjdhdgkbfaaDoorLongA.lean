/- The walk of RecordLong. -/
import Derived.Test.YtfalgjdhdgkbfaaDoorWalkM
import Derived.Test.YtfalgjdhdgkbfaaDoorFld
namespace Go.Proofs.YtfalgjdhdgkbfaaDoor
open Go Go.RowKit
open Go.RowKit (wrap32 wrap64)

set_option maxHeartbeats 400000 in
theorem within_any (x : Int) (n : Nat) (h0 : 0 < n) (hn : n ≤ 1152921504606846976) (w : World) : Calls Tryd.prog 19 #[.int .i64 x, .int .i64 n] w fun e w' => (∃ r : Nat, r < n ∧ e = .returned (.int .i64 r)) ∧ w' = w := by
  have h1 := Int.tmod_lt_of_pos x (show (0 : Int) < (n : Int) by omega)
  have h2 := Int.lt_tmod_of_pos x (show (0 : Int) < (n : Int) by omega)
  have h3 : ¬ (n : Int) = 0 := by omega
  go_enter Tryd.func19, Tryd.ntmps19
  go_wp2
  · go_ret
    exact ⟨⟨(x.tmod n + n).toNat, by omega, ret_int (by omega)⟩, rfl⟩
  · go_ret
    exact ⟨⟨(x.tmod n).toNat, by omega, ret_int (by omega)⟩, rfl⟩

/-- make: a row of zeros. -/
theorem make_any (w : World) (n : Nat) (hn : n ≤ 140737488355328) : ∃ w', (Instr.makeSlice 29 (.int .i64 (n : Int)) (.int .i64 (n : Int))).run Tryd.prog w = .ok (.slice (some ⟨w.heap.size, 0, none⟩) n n) w' ∧ Rd w' (fun g => w.heap.size ≤ g) (.slice (some ⟨w.heap.size, 0, none⟩) n n) (List.replicate n 0) ∧ w.grownBy w' none := by
  refine ⟨_, run_make_row' (P := Tryd.prog) 29 5 (.int .u8 0) 1 Tryd.underlying29 Tryd.info5 rfl .i64 .i64 n (by omega) (by omega) w, ?_, galloc _ _ _⟩
  have hr := World.rowIs_made w (.int .u8 0) n 5
  refine ⟨some ⟨w.heap.size, 0, none⟩, w.heap.size, 0, n, by simp, by simp, (fun h => by cases h), fun _ => ⟨rfl, hr.lt, Nat.le_refl _⟩, fun i hi => ?_⟩
  have hi' : i < n := by simpa using hi
  rw [Nat.zero_add, hr.cell hi']
  simp
theorem Wr.new (w : World) (F : Nat → Prop) (hF : ¬ F w.heap.size) : ∃ f, Wr (w.alloc (.cells #[.pointer none, .int .i64 0, .int .i64 0] 27)) w.heap.size 27 3 0 f F [] 0 := by
  refine ⟨fun i => if i = 0 then .pointer none else .int .i64 0, ?_, Nat.le_refl _, hF, none, [], rfl, rfl, rfl, rfl, rfl⟩
  refine World.rowIs_alloc w #[.pointer none, .int .i64 0, .int .i64 0] 27 _ (fun i hi => ?_)
  match i, hi with
  | 0, _ => rfl
  | 1, _ => rfl
  | 2, _ => rfl

set_option maxRecDepth 100000 in
set_option maxHeartbeats 8000000 in
theorem long_walk (x : Int) (w : World) (ht : Tab w) : Calls Tryd.prog 5 #[.int .i64 x] w fun e w' => e = .returned (.bool true) ∧ w.grownBy w' none := by
  have HT : Hid (∀ u, w.grownBy u none → Tab u) := fun u hu => ht.keep hu
  have HWI : Hid (Calls Tryd.prog 19 #[.int .i64 x, .int .i64 1048578] w fun e w' => (∃ r : Nat, r < 1048578 ∧ e = .returned (.int .i64 r)) ∧ w' = w) := within_any x 1048578 (by decide) (by decide) w
  have HWk : Hid (∀ u, w.grownBy u none → Calls Tryd.prog 10 #[] u fun e w' => e = .returned (.bool true) ∧ u.grownBy w' none) := fun u hu => works_any u (HT.out u hu)
  obtain ⟨F, HFe⟩ : ∃ F : Nat → Prop, Hid (∀ g, F g ↔ g ≠ w.heap.size ∧ g ≠ w.heap.size + 1) := ⟨_, hid (fun _ => Iff.rfl)⟩
  have nF1 : ¬ F w.heap.size := fun h => ((HFe.out _).1 h).1 rfl
  have nF2 : ¬ F (w.heap.size + 1) := fun h => ((HFe.out _).1 h).2 rfl
  have HF : Hid (∀ (u : World), w.heap.size + 2 ≤ u.heap.size → ∀ g, u.heap.size ≤ g → F g) := hid (fun u hu g hg => (HFe.out g).2 ⟨by omega, by omega⟩)
  obtain ⟨W1, hW1⟩ : ∃ W1, (w.alloc (.cells #[.pointer none, .int .i64 0, .int .i64 0] 27)).alloc (.cells #[.pointer none, .int .i64 0, .int .i64 0] 27) = W1 := ⟨_, rfl⟩
  have hg1 : w.grownBy W1 none := by rw [← hW1]; exact gtrans (galloc _ _ _) (galloc _ _ _)
  have hz1 : W1.heap.size = w.heap.size + 2 := by rw [← hW1]; simp
  obtain ⟨f1, hw1⟩ := Wr.new w F nF1
  have hw1' : Wr W1 w.heap.size 27 3 0 f1 F [] 0 := by rw [← hW1]; exact hw1.keep (galloc _ _ _)
  obtain ⟨f2, hw2⟩ := Wr.new (w.alloc (.cells #[.pointer none, .int .i64 0, .int .i64 0] 27)) F (by simpa using nF2)
  have hw2' : Wr W1 (w.heap.size + 1) 27 3 0 f2 F [] 0 := by
    rw [hW1] at hw2
    simpa using hw2
  have HA := hid hw1'
  have HB := hid hw2'
  have HG1 := hid hg1
  have HZ1 := hid hz1
  clear hw1 hw2 hw1' hw2' hg1 ht hz1
  go_enter Tryd.func5, Tryd.ntmps5
  go_wp2_with fail
  refine (HWI.out).mono ?_
  rintro e w' ⟨⟨n, hn, rfl⟩, hw⟩
  have hw' := hw.symm
  clear hw
  subst hw'
  obtain ⟨W2, hmk, hrd, hg2⟩ := make_any W1 n (by omega)
  have HRD := hid hrd
  have HA2 := hid (HA.out.keep hg2)
  have HB2 := hid (HB.out.keep hg2)
  have HG2 := hid (gtrans HG1.out hg2)
  have hz2 : w.heap.size + 2 ≤ W2.heap.size := by have := hg2.size; have := HZ1.out; omega
  have HM : Hid (∀ u : World, ∃ w', (Instr.makeSlice 29 (.int .i64 (n : Int)) (.int .i64 (n : Int))).run Tryd.prog u = .ok (.slice (some ⟨u.heap.size, 0, none⟩) n n) w' ∧ Rd w' (fun g => u.heap.size ≤ g) (.slice (some ⟨u.heap.size, 0, none⟩) n n) (List.replicate n 0) ∧ u.grownBy w' none) := hid (fun u => make_any u n (by omega))
  have hrl : (List.replicate n (0 : UInt8)).length = n := by simp
  obtain ⟨Z, HZ⟩ : ∃ Z : List UInt8, Hid (List.replicate n 0 = Z) := ⟨_, hid rfl⟩
  rw [HZ.out] at HRD HM hrl
  have hsz : (w.alloc (.cells #[.pointer none, .int .i64 0, .int .i64 0] 27)).heap.size = w.heap.size + 1 := by simp
  clear hrd hg2 hsz
  by_cases hbig : 1048576 < n
  · have hd : decide ((1048576 : Int) < (n : Int)) = true := decide_eq_true (by omega)
    have HBy := hid (wbytes_no W2 w.heap.size 27 3 0 f1 F [] 0 n n (some ⟨W1.heap.size, 0, none⟩) HA2.out hbig (by omega))
    have HTx : Hid (∀ u : World, Wr u (w.heap.size + 1) 27 3 0 f2 F [] 0 → Calls Tryd.prog 21 #[.pointer (some ⟨w.heap.size + 1, 0, none⟩), .string (str Z)] u fun e w' => e = .returned (.tuple #[]) ∧ (∃ f', Wr w' (w.heap.size + 1) 27 3 0 f' F [] 31 ∧ Els 0 f2 f') ∧ u.grownBy w' (some (w.heap.size + 1))) := fun u hu =>
      wtext_no u (w.heap.size + 1) 27 3 0 f2 F [] 0 (str Z) hu (by show 1048576 < Z.toArray.size; simp [hrl]; omega) (by show Z.toArray.size ≤ _; simp [hrl]; omega)
    have HDn : Hid (∀ (u : World) (b : Nat) (f : Nat → Value), Wr u b 27 3 0 f F [] 31 → Calls Tryd.prog 8 #[.pointer (some ⟨b, 0, none⟩)] u fun e w' => e = .returned (.tuple #[.slice none 0 0, .int .i64 31]) ∧ u.grownBy w' none) := fun u b f hu => wdone_bad u b 27 3 0 f F [] 31 hu (by decide)
    have HMg : Hid (∀ u : World, ∃ w', (Instr.makeSlice 29 (.int .i64 16777217) (.int .i64 16777217)).run Tryd.prog u = .ok (.slice (some ⟨u.heap.size, 0, none⟩) 16777217 16777217) w' ∧ u.grownBy w' none) := hid (fun u => by
      obtain ⟨w', h1, _, h3⟩ := make_any u 16777217 (by decide)
      exact ⟨w', h1, h3⟩)
    have HFm : Hid (∀ (u : World) (a : Option Addr), Calls Tryd.prog 16 #[.slice a 16777217 16777217] u fun e w' => e = .returned (.tuple #[.slice none 0 0, .int .i64 31]) ∧ w' = u) := fun u a => frame_no _ 16777217 16777217 a u rfl (by decide) (by decide)
    go_wp2_with (first
      | (go_at_call 20; refine (HBy.out).mono ?_; rintro e w3 ⟨rfl, ⟨f3, hW3, _⟩, hg3⟩; have HA3 := hid hW3; have HB3 := hid (HB2.out.on hg3 (by simp) (notb nF1)); have HG3 := hid ((HG2.out).andThen hg3 (fun j hj => .inl (by injection hj with hj; omega))); have hz3 := hg3.size; clear hW3 hg3; obtain ⟨w4, hmk4, hrd4, hg4⟩ := HM.out w3; have hcv4 := hrd4.convert; have HA4 := hid (HA3.out.keep hg4); have HB4 := hid (HB3.out.keep hg4); have HG4 := hid (gtrans HG3.out hg4); clear hrd4 hg4)
      | (go_at_call 21; refine (HTx.out _ HB4.out).mono ?_; rintro e w5 ⟨rfl, ⟨f5, hW5, _⟩, hg5⟩; have HB5 := hid hW5; have HA5 := hid (HA4.out.on hg5 (by simp) (notb nF2)); have HG5 := hid ((HG4.out).andThen hg5 (fun j hj => .inl (by injection hj with hj; omega))); clear hW5 hg5)
      | (go_at_call 8; with_reducible refine (HDn.out _ _ _ HA5.out).mono ?_; rintro e w6 ⟨rfl, hg6⟩; have HB6 := hid (HB5.out.keep hg6); have HG6 := hid (gtrans HG5.out hg6); clear hg6)
      | (go_at_call 8; with_reducible refine (HDn.out _ _ _ HB6.out).mono ?_; rintro e w7 ⟨rfl, hg7⟩; have HG7 := hid (gtrans HG6.out hg7); clear hg7; obtain ⟨w8, hmk8, hg8⟩ := HMg.out w7; have HG8 := hid (gtrans HG7.out hg8); clear hg8)
      | (go_at_call 16; refine (HFm.out _ _).mono ?_; rintro e w' ⟨rfl, hw⟩; have hw' := hw.symm; clear hw; subst hw')
      | (go_at_call 9; refine (num_any _ _).mono ?_; rintro e w' ⟨rfl, hw⟩; have hw' := hw.symm; clear hw; subst hw')
      | (go_at_call 10; refine (HWk.out _ HG8.out).mono ?_; rintro e w9 ⟨rfl, hg9⟩))
    go_ret
    exact ⟨rfl, gtrans HG8.out hg9⟩
  · have hd : decide ((1048576 : Int) < (n : Int)) = false := decide_eq_false (by omega)
    obtain ⟨L, HL⟩ : ∃ L, Hid (wrow 0 [] Z = L) := ⟨_, hid rfl⟩
    have HLe : Hid (L = layL Z.length 4 ++ Z) := hid (by rw [← HL.out]; rfl)
    have HLL : Hid (L.length = n + 4) := hid (by rw [HLe.out, List.length_append, layL_length, hrl]; omega)
    have HRB : Hid (rowT L 0 = Z ∧ rowL L 0 = [] ∧ rowE L 0 = 0) := hid (by
      have := row_back Z [] (by omega)
      rw [List.append_nil] at this
      rw [HLe.out]
      exact this)
    have HBy : Hid (Calls Tryd.prog 20 #[.pointer (some ⟨w.heap.size, 0, none⟩), .slice (some ⟨W1.heap.size, 0, none⟩) n n] W2 fun e w' => e = .returned (.tuple #[]) ∧ (∃ f', Wr w' w.heap.size 27 3 0 f' F L 0 ∧ Els 0 f1 f') ∧ W2.grownBy w' (some w.heap.size)) := by
      have := wbytes_ok W2 w.heap.size 27 3 0 f1 F (fun g => W1.heap.size ≤ g) [] Z 0 _ HA2.out HRD.out (by have := HZ1.out; omega) (HF.out _ hz2) (by simp) (by omega)
      rw [HL.out] at this
      exact this
    have HTx : Hid (∀ u : World, w.heap.size + 2 ≤ u.heap.size → Wr u (w.heap.size + 1) 27 3 0 f2 F [] 0 → Calls Tryd.prog 21 #[.pointer (some ⟨w.heap.size + 1, 0, none⟩), .string (str Z)] u fun e w' => e = .returned (.tuple #[]) ∧ (∃ f', Wr w' (w.heap.size + 1) 27 3 0 f' F L 0 ∧ Els 0 f2 f') ∧ u.grownBy w' (some (w.heap.size + 1))) := fun u hz hu => by
      have := wtext_ok u (w.heap.size + 1) 27 3 0 f2 F [] (str Z) 0 hu (HF.out u hz) (by simp) (by show Z.toArray.size ≤ _; simp [hrl]; omega)
      rw [show (str Z).data.toList = Z by simp [str], HL.out] at this
      exact this
    have HDn : Hid (∀ (u : World) (b : Nat) (f : Nat → Value), Wr u b 27 3 0 f F L 0 → Calls Tryd.prog 8 #[.pointer (some ⟨b, 0, none⟩)] u fun e w' => ∃ v', e = .returned (.tuple #[v', .int .i64 0]) ∧ Out u.heap.size w' v' L ∧ u.grownBy w' none) := fun u b f hu => wdone_ok u b 27 3 0 f F L hu (by have := HLL.out; omega)
    have HSL : Hid (∀ (u : World) (B : Nat) (v : Value) (l : List UInt8) (k : Nat), l.length = k → Out B u v l → ∃ a c, v = .slice a k c) := hid (fun u B v l k hk hv => by
      obtain ⟨a, b', off, c, e, -⟩ := hv.rd
      rw [hk] at e
      exact ⟨a, c, e⟩)
    have HMg : Hid (∀ u : World, ∃ w', (Instr.makeSlice 29 (.int .i64 (16 * (n : Int))) (.int .i64 (16 * (n : Int)))).run Tryd.prog u = .ok (.slice (some ⟨u.heap.size, 0, none⟩) (16 * n) (16 * n)) w' ∧ Rd w' (fun g => u.heap.size ≤ g) (.slice (some ⟨u.heap.size, 0, none⟩) (16 * n) (16 * n)) (List.replicate (16 * n) 0) ∧ u.grownBy w' none) := hid (fun u => by
      have := make_any u (16 * n) (by omega)
      rw [show ((16 * n : Nat) : Int) = 16 * (n : Int) by omega] at this
      exact this)
    have h16 : (List.replicate (16 * n) (0 : UInt8)).length = 16 * n := by simp
    have HFm : Hid (∀ (u : World) (G : Nat → Prop) (v : Value), w.grownBy u none → Rd u G v (List.replicate (16 * n) 0) → Calls Tryd.prog 16 #[v] u fun e w' => ∃ v', e = .returned (.tuple #[v', .int .i64 0]) ∧ Out u.heap.size w' v' (frameL (List.replicate (16 * n) 0)) ∧ u.grownBy w' none) := fun u G v hu hv => frame_ok _ G v u (by rw [h16]; omega) hv (HT.out u hu)
    have HFL : Hid ((frameL (List.replicate (16 * n) 0)).length = 16 * n + 13) := hid (by rw [frameL_length, h16])
    generalize List.replicate (16 * n) (0 : UInt8) = Z16 at HMg HFm HFL h16
    generalize frameL Z16 = FL at HFm HFL
    have HFr : Hid (∀ (u : World) (B : Nat) (v : Value), Out B u v L → Calls Tryd.prog 11 #[v] u fun r w' => ∃ b, r = .returned (.pointer (some ⟨b, 0, none⟩)) ∧ u.heap.size ≤ b ∧ Rr w' b (fun g => u.heap.size ≤ g ∧ g ≠ b) L 0 ∧ u.grownBy w' none) := fun u B v hv => from_any u _ v _ hv.rd (by have := HLL.out; omega)
    have HRt : Hid (∀ (u : World) (b : Nat) (F : Nat → Prop), Rr u b F L 0 → Calls Tryd.prog 22 #[.pointer (some ⟨b, 0, none⟩)] u fun r w' => ∃ v, r = .returned v ∧ Out u.heap.size w' v Z ∧ Rr w' b F [] 0 ∧ u.grownBy w' (some b)) := fun u b F hu => by
      have := rbytes_any u b F _ 0 hu
      rw [HRB.out.1, HRB.out.2.1, HRB.out.2.2] at this
      exact this
    have HEn : Hid (∀ (u : World) (b : Nat) (F : Nat → Prop), Rr u b F [] 0 → Calls Tryd.prog 14 #[.pointer (some ⟨b, 0, none⟩)] u fun r w' => r = .returned (.int .i64 0) ∧ w' = u) := fun u b F hu => end_any u b F [] 0 hu
    have HRL := hid hrl
    clear hrl h16
    go_wp2_with (first
      | (go_at_call 20; refine (HBy.out).mono ?_; rintro e w3 ⟨rfl, ⟨f3, hW3, _⟩, hg3⟩; have HA3 := hid hW3; have HB3 := hid (HB2.out.on hg3 (by simp) (notb nF1)); have HG3 := hid ((HG2.out).andThen hg3 (fun j hj => .inl (by injection hj with hj; omega))); have hz3 := hg3.size; clear hW3 hg3; obtain ⟨w4, hmk4, hrd4, hg4⟩ := HM.out w3; have hcv4 := hrd4.convert; have HA4 := hid (HA3.out.keep hg4); have HB4 := hid (HB3.out.keep hg4); have HG4 := hid (gtrans HG3.out hg4); have HS4 := hid (Nat.le_trans hz2 (Nat.le_trans hz3 hg4.size)); clear hrd4 hg4 hz3)
      | (go_at_call 21; refine (HTx.out _ HS4.out HB4.out).mono ?_; rintro e w5 ⟨rfl, ⟨f5, hW5, _⟩, hg5⟩; have HB5 := hid hW5; have HA5 := hid (HA4.out.on hg5 (by simp) (notb nF2)); have HG5 := hid ((HG4.out).andThen hg5 (fun j hj => .inl (by injection hj with hj; omega))); clear hW5 hg5)
      | (go_at_call 8; with_reducible refine (HDn.out _ _ _ HA5.out).mono ?_; rintro e w6 ⟨v6, rfl, hO6, hg6⟩; have HB6 := hid (HB5.out.keep hg6); have HG6 := hid (gtrans HG5.out hg6); have HO6 := hid hO6; obtain ⟨a6, c6, rfl⟩ := HSL.out _ _ _ _ _ HLL.out hO6; clear hg6 hO6)
      | (go_at_call 8; with_reducible refine (HDn.out _ _ _ HB6.out).mono ?_; rintro e w7 ⟨v7, rfl, hO7, hg7⟩; have HG7 := hid (gtrans HG6.out hg7); obtain ⟨a7, c7, rfl⟩ := HSL.out _ _ _ _ _ HLL.out hO7; have HO7 := hid (HO6.out.keep hg7); clear hg7 hO7; obtain ⟨w8, hmk8, hrd8, hg8⟩ := HMg.out w7; have HG8 := hid (gtrans HG7.out hg8); have HO8 := hid (HO7.out.keep hg8); have HR8 := hid hrd8; clear hg8 hrd8)
      | (go_at_call 16; refine (HFm.out _ _ _ HG8.out HR8.out).mono ?_; rintro e w9 ⟨v9, rfl, hO9, hg9⟩; have HG9 := hid (gtrans HG8.out hg9); obtain ⟨a9, c9, rfl⟩ := HSL.out _ _ _ _ _ HFL.out hO9; have HO9 := hid (HO8.out.keep hg9); clear hg9 hO9)
      | (go_at_call 11; refine (HFr.out _ _ _ HO9.out).mono ?_; rintro e wa ⟨ba, rfl, hba, hRa, hga⟩; have HGa := hid (gtrans HG9.out hga); have HRa := hid hRa; have HBa := hid (Nat.le_trans HG9.out.size hba); clear hba hRa hga)
      | (go_at_call 9; refine (num_any _ _).mono ?_; rintro e w' ⟨rfl, hw⟩; have hw' := hw.symm; clear hw; subst hw')
      | (go_at_call 22; refine (HRt.out _ _ _ HRa.out).mono ?_; rintro e wb ⟨vb, rfl, hOb, hRb, hgb⟩; have HRb := hid hRb; have HGb := hid ((HGa.out).andThen hgb (fun j hj => .inl (by injection hj with hj; have := HBa.out; omega))); obtain ⟨ab, cb, rfl⟩ := HSL.out _ _ _ _ _ HRL.out hOb; clear hOb hRb hgb)
      | (go_at_call 14; refine (HEn.out _ _ _ HRb.out).mono ?_; rintro e w' ⟨rfl, hw⟩; have hw' := hw.symm; clear hw; subst hw')
      | (go_at_call 10; refine (HWk.out _ HGb.out).mono ?_; rintro e wc ⟨rfl, hgc⟩))
    go_ret
    exact ⟨rfl, gtrans HGb.out hgc⟩
end Go.Proofs.YtfalgjdhdgkbfaaDoor
