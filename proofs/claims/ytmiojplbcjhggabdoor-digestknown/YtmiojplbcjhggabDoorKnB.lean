/- The walk of DigestKnown. -/
import Derived.Test.YtmiojplbcjhggabDoorKnA
namespace Go.Proofs.YtmiojplbcjhggabDoor
open Go Go.RowKit
open Go.RowKit (wrap32 wrap64)

def sz (i : Nat) : Nat := [0, 1, 55, 56, 64].getD i 0
theorem sz_le (i : Nat) : sz i ≤ 64 := by
  have : ∀ x ∈ [0, 1, 55, 56, 64], x ≤ 64 := by decide
  unfold sz
  rw [List.getD_eq_getElem?_getD]
  cases h : [0, 1, 55, 56, 64][i]? with
  | none => decide
  | some x => exact this x (List.mem_of_getElem? h)
def szc : List Value := [.int .i64 0, .int .i64 1, .int .i64 55, .int .i64 56, .int .i64 64]
theorem szc_at (i : Nat) (h : i < 5) : szc[i]? = some (.int .i64 (sz i : Nat)) := by
  have hk : i = 0 ∨ i = 1 ∨ i = 2 ∨ i = 3 ∨ i = 4 := by omega
  rcases hk with rfl | rfl | rfl | rfl | rfl <;> rfl
theorem known_any (i : Nat) (h : i < 5) (w : World) : Calls Tryd.prog 22 #[.int .i64 (sz i : Nat)] w fun e w' => e = .returned (.string (sb (hexL (sumL (aaa (sz i)))))) ∧ w' = w := by
  have hk : i = 0 ∨ i = 1 ∨ i = 2 ∨ i = 3 ∨ i = 4 := by omega
  rcases hk with rfl | rfl | rfl | rfl | rfl
  · exact known0 w
  · exact known1 w
  · exact known55 w
  · exact known56 w
  · exact known64 w
theorem neq_str (s : ByteArray) {x y : Operand} (u : World) : (do eqGuard .neq 9 x y (.string s) (.string s); binOp .neq 9 (.string s) (.string s) : Sem Value).run Tryd.prog u = .ok (.bool false) u := by
  go_simp
theorem neq_u64 (n : Nat) {x y : Operand} (u : World) : (do eqGuard .neq 40 x y (.int .u64 (n : Int)) (.int .u64 (n : Int)); binOp .neq 40 (.int .u64 (n : Int)) (.int .u64 (n : Int)) : Sem Value).run Tryd.prog u = .ok (.bool false) u := by
  go_simp
theorem idx54 (b i : Nat) (h : i < 5) (u : World) : (Instr.indexAt 54 (.pointer (some ⟨b, 0, none⟩)) (.int .i64 (i : Nat))).run Tryd.prog u = .ok (.pointer (some ⟨b, i, none⟩)) u := by
  have h' : (i : Int) < 5 := by omega
  go_simp
theorem ld3 (b i : Nat) (n : Int) (u : World) (h : u.cell? ⟨b, i, none⟩ = some (.int .i64 n)) : (Instr.loadAt 3 (.pointer (some ⟨b, i, none⟩))).run Tryd.prog u = .ok (.int .i64 n) u := by
  go_simp
theorem cv340 (n : Nat) (h : n ≤ 64) (u : World) : (convert 3 40 (.int .i64 (n : Nat))).run Tryd.prog u = .ok (.int .u64 (n : Nat)) u := by
  have h' : IntKind.u64.wrap (n : Int) = (n : Int) := by rw [IntKind.wrap_u64]; omega
  go_simp
set_option maxRecDepth 100000 in
set_option maxHeartbeats 300000 in
theorem known_walk (w : World) (hg : Glob w) : Calls Tryd.prog 6 #[] w fun e w' => e = .returned (.bool true) ∧ w.grownBy w' none := by
  have kc := fun (w : World) (C : Array Value) (n c : Nat) => Lib.run_convert_bytes_const (P := Tryd.prog) w 25 5 C n c Tryd.underlying25 Tryd.underlying5
  have kc2 := conv2
  have HGl : Hid (∀ u, w.grownBy u none → Glob u) := hid (fun u hu => hg.keep hu)
  have HNw : Hid (∀ u, w.grownBy u none → Calls Tryd.prog 13 #[] u fun e w' => e = .returned (.pointer (some ⟨u.heap.size, 0, none⟩)) ∧ Hs w' u.heap.size [] ∧ u.grownBy w' none ∧ w'.heap.size = u.heap.size + 1) := fun u hu => new_any u (hg.keep hu)
  have HWk : Hid (∀ u, w.grownBy u none → Calls Tryd.prog 12 #[] u fun e w' => e = .returned (.bool true) ∧ u.grownBy w' none) := fun u hu => wakes_any u (hg.keep hu)
  obtain ⟨M, HM⟩ : ∃ M, Hid (Lib.byteCells (macL keyB hiL) = M) := ⟨_, hid rfl⟩
  have HMc : Hid (∀ (u : World) (v v2 : Value), w.grownBy u none → Rd u (fun _ => True) v keyB → Rd u (fun _ => True) v2 hiL → Calls Tryd.prog 7 #[v, v2] u fun e w' => e = .returned (.agg M.toArray) ∧ u.grownBy w' none) := fun u v v2 hu hv hv2 => by
    have := mac_any u v v2 _ _ keyB hiL hv hv2 (by decide) (hg.keep hu) (by decide)
    rw [HM.out] at this
    exact this
  obtain ⟨HX, HHX⟩ : ∃ HX, Hid (sb (hexL (macL keyB hiL)) = HX) := ⟨_, hid rfl⟩
  have HMh : Hid (∀ u : World, Calls Tryd.prog 21 #[.agg M.toArray] u fun e w' => e = .returned (.string HX) ∧ u.grownBy w' none) := fun u => by
    have := hexed_any (macL keyB hiL) (macL_length _ _) u
    rw [HM.out, HHX.out] at this
    exact this
  have HHe : Hid (HX = { data := #[98, 48, 51, 52, 52, 99, 54, 49, 100, 56, 100, 98, 51, 56, 53, 51, 53, 99, 97, 56, 97, 102, 99, 101, 97, 102, 48, 98, 102, 49, 50, 98, 56, 56, 49, 100, 99, 50, 48, 48, 99, 57, 56, 51, 51, 100, 97, 55, 50, 54, 101, 57, 51, 55, 54, 99, 50, 101, 51, 50, 99, 102, 102, 55] }) := hid (by rw [← HHX.out, khm]; rfl)
  rw [HHe.out] at HMh
  obtain ⟨b0, hb0⟩ : ∃ b0, b0 = w.heap.size := ⟨_, rfl⟩
  have Hb0 := hid hb0
  clear hg hb0
  go_enter Tryd.func6, Tryd.ntmps6
  go_wp2_with fail
  obtain ⟨W1, hW1⟩ : ∃ W1, w.alloc (.cells #[.int .i64 0, .int .i64 1, .int .i64 55, .int .i64 56, .int .i64 64] 54) = W1 := ⟨_, rfl⟩
  have HB1 : Hid (Blk W1 b0 szc 54) := hid (by rw [← hW1, Hb0.out]; exact Blk.new w szc 54)
  have HG1 : Hid (w.grownBy W1 none) := hid (by rw [← hW1]; exact galloc _ _ _)
  rw [hW1, ← Hb0.out]
  clear hW1
  go_loopw [2] (fun iv wr => ∃ i : Nat, i ≤ 5 ∧ iv = .int .i64 i ∧ Hid (Blk wr b0 szc 54) ∧ Hid (w.grownBy wr none)) (fun iv _ => 5 - (intOf iv).toNat)
  case atStart => exact ⟨0, by omega, rfl, HB1, HG1⟩
  case round =>
    obtain ⟨i, hi, rfl, HB, HW⟩ := hrel
    by_cases hlt : i < 5
    · obtain ⟨wo, hwo⟩ : ∃ wo, wo = wr := ⟨_, rfl⟩
      rw [← hwo] at HB HW ⊢
      clear hwo
      have hlt' : (i : Int) < 5 := by omega
      obtain ⟨n, hn⟩ : ∃ n, n = sz i := ⟨_, rfl⟩
      have HNe := hid hn
      have HN64 : Hid (n ≤ 64) := hid (by rw [hn]; exact sz_le i)
      have HKn : Hid (∀ u : World, Calls Tryd.prog 22 #[.int .i64 (n : Nat)] u fun e w' => e = .returned (.string (sb (hexL (sumL (aaa n))))) ∧ w' = u) := fun u => by rw [hn]; exact known_any i hlt u
      have HIX : Hid (∀ u, (Instr.indexAt 54 (.pointer (some ⟨b0, 0, none⟩)) (.int .i64 (i : Nat))).run Tryd.prog u = .ok (.pointer (some ⟨b0, i, none⟩)) u) := fun u => idx54 b0 i hlt u
      have HCn : Hid (∀ u, wo.grownBy u none → u.cell? ⟨b0, i, none⟩ = some (.int .i64 (n : Nat))) := hid (fun u hu => by rw [(HB.out.keep hu).cell, hn]; exact szc_at i hlt)
      obtain ⟨hb, hhb⟩ : ∃ hb, hb = wo.heap.size := ⟨_, rfl⟩
      have Hhb := hid hhb
      clear hn hhb
      go_wp2_with (go_at_call 13; refine (HNw.out _ HW.out).mono ?_; rintro e w2 ⟨rfl, hH2, hg2, hs2⟩; have HH2 := hid hH2; have HG2 := hid hg2; have HS2 := hid hs2; clear hH2 hg2 hs2)
      rw [← Hhb.out] at HH2 HS2 ⊢
      go_loopw [4, 5] (fun bv kv wr => ∃ k : Nat, k ≤ n ∧ kv = .int .i64 k ∧ Hid (Out (hb + 1) wr bv (aaa k)) ∧ Hid (Hs wr hb (aaa k)) ∧ Hid (wo.grownBy wr none) ∧ Hid (hb + 1 ≤ wr.heap.size)) (fun _ kv _ => n - (intOf kv).toNat)
      case atStart => exact ⟨0, by omega, rfl, hid (Out.nil _ _), HH2, HG2, hid (by have := HS2.out; omega)⟩
      case round =>
        obtain ⟨k, hk, rfl, HO, HH, HWi, HSi⟩ := hrel
        have cn := HCn.out wr HWi.out
        by_cases hkn : k < n
        · have hkn' : (k : Int) < (n : Int) := by omega
          have hk64 : (k : Int) < 64 := by have := HN64.out; omega
          obtain ⟨L1, HL1⟩ : ∃ L1, Hid (wr.heap.size = L1) := ⟨_, hid rfl⟩
          have HWr : Hid (∀ (u : World) (L : Nat), w.grownBy u none → Hs u hb (aaa k) → Rd u (fun g => g ≠ hb) (.slice (some ⟨L, 0, none⟩) 1 1) [97] → Calls Tryd.prog 14 #[.pointer (some ⟨hb, 0, none⟩), .slice (some ⟨L, 0, none⟩) 1 1] u fun e w' => e = .returned (.tuple #[]) ∧ Hs w' hb (aaa k ++ [97]) ∧ u.grownBy w' (some hb)) := fun u L hu h1 h2 =>
            write_any u hb (aaa k) _ _ [97] h1 h2 (by simp) (HGl.out u hu) (by have := (HGl.out wo HW.out).sz; have := Hhb.out; omega) (by simp [aaa]; have := HN64.out; omega)
          go_wp2_with (first
            | (refine wpList_append_byte rfl _ _ rfl (hb + 1) wr.heap.size (aaa k) 97 (by exact HO.out.keep (galloc _ _ _)) rfl (litL _ _) (by simp [aaa]; have := HN64.out; omega) (by have := HSi.out; simp; omega) ?_; intro v3 w3 hO3 hg3; have HO3 := hid hO3; have HGx := hid (HWi.out.andThen (gtrans (galloc wr _ _) hg3) (fun j hj => .inl (by have := HO.out.block j hj; have := Hhb.out; omega))); have HHx := hid ((HH.out.keep (galloc wr _ none)).on hg3 (fun e => by have := HO.out.block _ e; omega)); have HSx := hid (show hb + 1 ≤ w3.heap.size by have := hg3.size; have h4 := HSi.out; simp at this; omega); clear hO3 hg3)
            | (go_at_call 14; refine (HWr.out _ _ (gtrans HW.out (gtrans HGx.out (galloc _ _ _))) (HHx.out.keep (galloc _ _ _)) ((Blk.new w3 (Lib.byteCells [97]) 5).rd _ (by have := HSx.out; omega) 1 rfl)).mono ?_; rintro e w4 ⟨rfl, hH4, hg4⟩; have HH4 := hid hH4; have HG4 := hid hg4; clear hH4 hg4))
          go_roundw
          case rel =>
            have hO := ((HO3.out.keep (galloc w3 (.cells #[.int .u8 97] 5) none)).on HG4.out (fun j hj e => by injection hj with hj; have := HO3.out.block j e; omega))
            have hsnoc : aaa (k + 1) = aaa k ++ [97] := by unfold aaa; rw [List.replicate_succ']
            have hsz4 : hb + 1 ≤ w4.heap.size := HH4.out.lt
            refine ⟨k + 1, by omega, by go_num, hid (by rw [hsnoc]; exact hO), hid (by rw [hsnoc]; exact HH4.out), hid ((gtrans HGx.out (galloc _ _ _)).andThen HG4.out (fun j hj => .inl (by injection hj with hj; rw [← hj, Hhb.out]; exact Nat.le_refl _))), hid hsz4⟩
          case measure => simp [intOf]; omega
        · have hkn' : ¬ (k : Int) < (n : Int) := by omega
          have hke : k = n := by omega
          subst hke
          obtain ⟨S, HSe⟩ : ∃ S, Hid (Lib.byteCells (sumL (aaa k)) = S) := ⟨_, hid rfl⟩
          obtain ⟨H, HHe⟩ : ∃ H, Hid (sb (hexL (sumL (aaa k))) = H) := ⟨_, hid rfl⟩
          have HHx : Hid (∀ u : World, Calls Tryd.prog 21 #[.agg S.toArray] u fun e w' => e = .returned (.string H) ∧ u.grownBy w' none) := fun u => by
            have := hexed_any (sumL (aaa k)) (sumL_length _) u
            rw [HSe.out, HHe.out] at this
            exact this
          rw [HHe.out] at HKn
          have HLD : Hid (∀ u, wr.grownBy u none → (Instr.loadAt 3 (.pointer (some ⟨b0, i, none⟩))).run Tryd.prog u = .ok (.int .i64 (k : Nat)) u) := hid (fun u hu => ld3 b0 i k u (HCn.out u (gtrans HWi.out hu)))
          have HCv : Hid (∀ u, (convert 3 40 (.int .i64 (k : Nat))).run Tryd.prog u = .ok (.int .u64 (k : Nat)) u) := fun u => cv340 k HN64.out u
          have hal : (aaa k).length = k := by simp [aaa]
          have HLn : Hid (∀ u, wr.grownBy u none → Calls Tryd.prog 16 #[.pointer (some ⟨hb, 0, none⟩)] u fun e w' => e = .returned (.int .u64 (k : Nat)) ∧ w' = u) := fun u hu => by
            have := (HH.out.keep hu).taken
            rw [hal] at this
            exact len_any k hb u this
          have HSm : Hid (∀ u, wr.grownBy u none → Calls Tryd.prog 15 #[.pointer (some ⟨hb, 0, none⟩)] u fun e w' => e = .returned (.agg S.toArray) ∧ u.grownBy w' none) := fun u hu => by
            have := hsum_any u hb (aaa k) (HH.out.keep hu) (HGl.out u (gtrans HW.out (gtrans HWi.out hu))) (by rw [hal]; have := HN64.out; omega)
            rw [HSe.out] at this
            exact this
          obtain ⟨v4, hv4⟩ : ∃ v4, v4 = u4 := ⟨_, rfl⟩
          rw [← hv4] at HO ⊢
          clear hv4
          have HSu : Hid (∀ u, wr.grownBy u none → Calls Tryd.prog 9 #[v4] u fun e w' => e = .returned (.agg S.toArray) ∧ u.grownBy w' none) := fun u hu => by
            have := dsum_any u v4 _ (aaa k) (HO.out.keep hu).rd (HGl.out u (gtrans HW.out (gtrans HWi.out hu))) (by rw [hal]; have := HN64.out; omega)
            rw [HSe.out] at this
            exact this
          clear hal hk
          go_wp2_with fail
          refine wp_region_quietA (by kernel_rfl) (by kernel_rfl) (fun u => wr.grownBy u none) (gdrew1 wr none) _ rfl ?_
          intro A hA
          have hA1 : A.eval (.tmp 1) = .pointer (some ⟨b0, 0, none⟩) := by rw [hA]; rfl
          have hA2 : A.eval (.tmp 2) = .int .i64 (i : Nat) := by rw [hA]; rfl
          have hA3 : A.eval (.tmp 3) = .pointer (some ⟨hb, 0, none⟩) := by rw [hA]; rfl
          have hA4 : A.eval (.tmp 4) = v4 := by rw [hA]; rfl
          have hsz : A.tmps.size = 65 := by rw [hA]; rfl
          have HA := hid hA
          clear hA
          have hn : k = k := rfl
          clear hn
          with_reducible refine wpQuiet_one ?gd v4 ?q ?_
          case gd => rfl
          case q =>
            intro u hu
            with_reducible refine quietAt_mv (.tmp 4) v4 ?h0 ?h1
            case h0 => rfl
            case h1 => (repeat with_reducible refine (ev_ne _ _ _ _ (by decide)).trans ?_); with_reducible first | exact hA1 | exact hA2 | exact hA3 | exact hA4 | exact ev_same _ _ _ (by (repeat with_reducible refine lt_put ?_); rw [hsz]; decide)
          dsimp only
          with_reducible refine wpQuiet_one ?gd (.agg S.toArray) ?q ?_
          case gd => rfl
          case q =>
            intro u hu
            with_reducible refine quietAt_call 9 Tryd.f9 ?h0 ?h1 ?h2 #[.tmp 28] #[25] ?h3 (.agg S.toArray) #[v4] ?h4 ?h5
            case h0 => exact Tryd.func9
            case h1 => kernel_rfl
            case h2 => kernel_rfl
            case h3 => rfl
            case h4 => exact map1 _ _ _ (by (repeat with_reducible refine (ev_ne _ _ _ _ (by decide)).trans ?_); with_reducible first | exact hA1 | exact hA2 | exact hA3 | exact hA4 | exact ev_same _ _ _ (by (repeat with_reducible refine lt_put ?_); rw [hsz]; decide))
            case h5 => exact (HSu.out u hu).mono fun e w' h => ⟨h.1, gtrans hu h.2⟩
          dsimp only
          with_reducible refine wpQuiet_one ?gd (.string H) ?q ?_
          case gd => rfl
          case q =>
            intro u hu
            with_reducible refine quietAt_call 21 Tryd.f21 ?h0 ?h1 ?h2 #[.tmp 29] #[26] ?h3 (.string H) #[(.agg S.toArray)] ?h4 ?h5
            case h0 => exact Tryd.func21
            case h1 => kernel_rfl
            case h2 => kernel_rfl
            case h3 => rfl
            case h4 => exact map1 _ _ _ (by (repeat with_reducible refine (ev_ne _ _ _ _ (by decide)).trans ?_); with_reducible first | exact hA1 | exact hA2 | exact hA3 | exact hA4 | exact ev_same _ _ _ (by (repeat with_reducible refine lt_put ?_); rw [hsz]; decide))
            case h5 => exact (HHx.out u).mono fun e w' h => ⟨h.1, gtrans hu h.2⟩
          dsimp only
          with_reducible refine wpQuiet_one ?gd (.int .i64 (i : Nat)) ?q ?_
          case gd => rfl
          case q =>
            intro u hu
            with_reducible refine quietAt_mv (.tmp 2) (.int .i64 (i : Nat)) ?h0 ?h1
            case h0 => rfl
            case h1 => (repeat with_reducible refine (ev_ne _ _ _ _ (by decide)).trans ?_); with_reducible first | exact hA1 | exact hA2 | exact hA3 | exact hA4 | exact ev_same _ _ _ (by (repeat with_reducible refine lt_put ?_); rw [hsz]; decide)
          dsimp only
          with_reducible refine wpQuiet_one ?gd (.pointer (some ⟨b0, i, none⟩)) ?q ?_
          case gd => rfl
          case q =>
            intro u hu
            with_reducible refine quietAt_idx 54 (.tmp 1) (.tmp 31) (.pointer (some ⟨b0, 0, none⟩)) (.int .i64 (i : Nat)) (.pointer (some ⟨b0, i, none⟩)) ?h0 ?h1 ?h2 ?h3
            case h0 => rfl
            case h1 => (repeat with_reducible refine (ev_ne _ _ _ _ (by decide)).trans ?_); with_reducible first | exact hA1 | exact hA2 | exact hA3 | exact hA4 | exact ev_same _ _ _ (by (repeat with_reducible refine lt_put ?_); rw [hsz]; decide)
            case h2 => (repeat with_reducible refine (ev_ne _ _ _ _ (by decide)).trans ?_); with_reducible first | exact hA1 | exact hA2 | exact hA3 | exact hA4 | exact ev_same _ _ _ (by (repeat with_reducible refine lt_put ?_); rw [hsz]; decide)
            case h3 => exact HIX.out u
          dsimp only
          with_reducible refine wpQuiet_one ?gd (.int .i64 (k : Nat)) ?q ?_
          case gd => rfl
          case q =>
            intro u hu
            with_reducible refine quietAt_ld 3 (.tmp 32) (.pointer (some ⟨b0, i, none⟩)) (.int .i64 (k : Nat)) ?h0 ?h1 ?h2
            case h0 => rfl
            case h1 => (repeat with_reducible refine (ev_ne _ _ _ _ (by decide)).trans ?_); with_reducible first | exact hA1 | exact hA2 | exact hA3 | exact hA4 | exact ev_same _ _ _ (by (repeat with_reducible refine lt_put ?_); rw [hsz]; decide)
            case h2 => exact HLD.out u hu
          dsimp only
          with_reducible refine wpQuiet_one ?gd (.string H) ?q ?_
          case gd => rfl
          case q =>
            intro u hu
            with_reducible refine quietAt_call 22 Tryd.f22 ?h0 ?h1 ?h2 #[.tmp 33] #[3] ?h3 (.string H) #[(.int .i64 (k : Nat))] ?h4 ?h5
            case h0 => exact Tryd.func22
            case h1 => kernel_rfl
            case h2 => kernel_rfl
            case h3 => rfl
            case h4 => exact map1 _ _ _ (by (repeat with_reducible refine (ev_ne _ _ _ _ (by decide)).trans ?_); with_reducible first | exact hA1 | exact hA2 | exact hA3 | exact hA4 | exact ev_same _ _ _ (by (repeat with_reducible refine lt_put ?_); rw [hsz]; decide))
            case h5 => exact (HKn.out u).mono fun e w' h => ⟨h.1, h.2 ▸ hu⟩
          dsimp only
          with_reducible refine wpQuiet_one ?gd (.bool false) ?q ?_
          case gd => rfl
          case q =>
            intro u hu
            with_reducible refine quietAt_bin .neq 9 (.tmp 30) (.tmp 34) 9 (.string H) (.string H) (.bool false) ?h0 ?h1 ?h2 ?h3
            case h0 => rfl
            case h1 => (repeat with_reducible refine (ev_ne _ _ _ _ (by decide)).trans ?_); with_reducible first | exact hA1 | exact hA2 | exact hA3 | exact hA4 | exact ev_same _ _ _ (by (repeat with_reducible refine lt_put ?_); rw [hsz]; decide)
            case h2 => (repeat with_reducible refine (ev_ne _ _ _ _ (by decide)).trans ?_); with_reducible first | exact hA1 | exact hA2 | exact hA3 | exact hA4 | exact ev_same _ _ _ (by (repeat with_reducible refine lt_put ?_); rw [hsz]; decide)
            case h3 => exact neq_str H u
          dsimp only
          with_reducible refine wpQuiet_one ?gd (.bool false) ?q ?_
          case gd => rfl
          case q =>
            intro u hu
            with_reducible refine quietAt_mv (.tmp 35) (.bool false) ?h0 ?h1
            case h0 => rfl
            case h1 => (repeat with_reducible refine (ev_ne _ _ _ _ (by decide)).trans ?_); with_reducible first | exact hA1 | exact hA2 | exact hA3 | exact hA4 | exact ev_same _ _ _ (by (repeat with_reducible refine lt_put ?_); rw [hsz]; decide)
          dsimp only
          with_reducible refine wpQuiet_want' 8 false 36 ?gd ?gb ?gv (.pointer (some ⟨hb, 0, none⟩)) ?q ?_
          case gd => rfl
          case gb => rfl
          case gv => (repeat with_reducible refine (ev_ne _ _ _ _ (by decide)).trans ?_); with_reducible first | exact hA1 | exact hA2 | exact hA3 | exact hA4 | exact ev_same _ _ _ (by (repeat with_reducible refine lt_put ?_); rw [hsz]; decide)
          case q =>
            intro u hu
            with_reducible refine quietAt_mv (.tmp 3) (.pointer (some ⟨hb, 0, none⟩)) ?h0 ?h1
            case h0 => rfl
            case h1 => (repeat with_reducible refine (ev_ne _ _ _ _ (by decide)).trans ?_); with_reducible first | exact hA1 | exact hA2 | exact hA3 | exact hA4 | exact ev_same _ _ _ (by (repeat with_reducible refine lt_put ?_); rw [hsz]; decide)
          dsimp only
          with_reducible refine wpQuiet_want' 8 false 36 ?gd ?gb ?gv (.agg S.toArray) ?q ?_
          case gd => rfl
          case gb => rfl
          case gv => (repeat with_reducible refine (ev_ne _ _ _ _ (by decide)).trans ?_); with_reducible first | exact hA1 | exact hA2 | exact hA3 | exact hA4 | exact ev_same _ _ _ (by (repeat with_reducible refine lt_put ?_); rw [hsz]; decide)
          case q =>
            intro u hu
            with_reducible refine quietAt_call 15 Tryd.f15 ?h0 ?h1 ?h2 #[.tmp 37] #[34] ?h3 (.agg S.toArray) #[(.pointer (some ⟨hb, 0, none⟩))] ?h4 ?h5
            case h0 => exact Tryd.func15
            case h1 => kernel_rfl
            case h2 => kernel_rfl
            case h3 => rfl
            case h4 => exact map1 _ _ _ (by (repeat with_reducible refine (ev_ne _ _ _ _ (by decide)).trans ?_); with_reducible first | exact hA1 | exact hA2 | exact hA3 | exact hA4 | exact ev_same _ _ _ (by (repeat with_reducible refine lt_put ?_); rw [hsz]; decide))
            case h5 => exact (HSm.out u hu).mono fun e w' h => ⟨h.1, gtrans hu h.2⟩
          dsimp only
          with_reducible refine wpQuiet_want' 8 false 36 ?gd ?gb ?gv (.string H) ?q ?_
          case gd => rfl
          case gb => rfl
          case gv => (repeat with_reducible refine (ev_ne _ _ _ _ (by decide)).trans ?_); with_reducible first | exact hA1 | exact hA2 | exact hA3 | exact hA4 | exact ev_same _ _ _ (by (repeat with_reducible refine lt_put ?_); rw [hsz]; decide)
          case q =>
            intro u hu
            with_reducible refine quietAt_call 21 Tryd.f21 ?h0 ?h1 ?h2 #[.tmp 38] #[26] ?h3 (.string H) #[(.agg S.toArray)] ?h4 ?h5
            case h0 => exact Tryd.func21
            case h1 => kernel_rfl
            case h2 => kernel_rfl
            case h3 => rfl
            case h4 => exact map1 _ _ _ (by (repeat with_reducible refine (ev_ne _ _ _ _ (by decide)).trans ?_); with_reducible first | exact hA1 | exact hA2 | exact hA3 | exact hA4 | exact ev_same _ _ _ (by (repeat with_reducible refine lt_put ?_); rw [hsz]; decide))
            case h5 => exact (HHx.out u).mono fun e w' h => ⟨h.1, gtrans hu h.2⟩
          dsimp only
          with_reducible refine wpQuiet_want' 8 false 36 ?gd ?gb ?gv (.int .i64 (i : Nat)) ?q ?_
          case gd => rfl
          case gb => rfl
          case gv => (repeat with_reducible refine (ev_ne _ _ _ _ (by decide)).trans ?_); with_reducible first | exact hA1 | exact hA2 | exact hA3 | exact hA4 | exact ev_same _ _ _ (by (repeat with_reducible refine lt_put ?_); rw [hsz]; decide)
          case q =>
            intro u hu
            with_reducible refine quietAt_mv (.tmp 2) (.int .i64 (i : Nat)) ?h0 ?h1
            case h0 => rfl
            case h1 => (repeat with_reducible refine (ev_ne _ _ _ _ (by decide)).trans ?_); with_reducible first | exact hA1 | exact hA2 | exact hA3 | exact hA4 | exact ev_same _ _ _ (by (repeat with_reducible refine lt_put ?_); rw [hsz]; decide)
          dsimp only
          with_reducible refine wpQuiet_want' 8 false 36 ?gd ?gb ?gv (.pointer (some ⟨b0, i, none⟩)) ?q ?_
          case gd => rfl
          case gb => rfl
          case gv => (repeat with_reducible refine (ev_ne _ _ _ _ (by decide)).trans ?_); with_reducible first | exact hA1 | exact hA2 | exact hA3 | exact hA4 | exact ev_same _ _ _ (by (repeat with_reducible refine lt_put ?_); rw [hsz]; decide)
          case q =>
            intro u hu
            with_reducible refine quietAt_idx 54 (.tmp 1) (.tmp 40) (.pointer (some ⟨b0, 0, none⟩)) (.int .i64 (i : Nat)) (.pointer (some ⟨b0, i, none⟩)) ?h0 ?h1 ?h2 ?h3
            case h0 => rfl
            case h1 => (repeat with_reducible refine (ev_ne _ _ _ _ (by decide)).trans ?_); with_reducible first | exact hA1 | exact hA2 | exact hA3 | exact hA4 | exact ev_same _ _ _ (by (repeat with_reducible refine lt_put ?_); rw [hsz]; decide)
            case h2 => (repeat with_reducible refine (ev_ne _ _ _ _ (by decide)).trans ?_); with_reducible first | exact hA1 | exact hA2 | exact hA3 | exact hA4 | exact ev_same _ _ _ (by (repeat with_reducible refine lt_put ?_); rw [hsz]; decide)
            case h3 => exact HIX.out u
          dsimp only
          with_reducible refine wpQuiet_want' 8 false 36 ?gd ?gb ?gv (.int .i64 (k : Nat)) ?q ?_
          case gd => rfl
          case gb => rfl
          case gv => (repeat with_reducible refine (ev_ne _ _ _ _ (by decide)).trans ?_); with_reducible first | exact hA1 | exact hA2 | exact hA3 | exact hA4 | exact ev_same _ _ _ (by (repeat with_reducible refine lt_put ?_); rw [hsz]; decide)
          case q =>
            intro u hu
            with_reducible refine quietAt_ld 3 (.tmp 41) (.pointer (some ⟨b0, i, none⟩)) (.int .i64 (k : Nat)) ?h0 ?h1 ?h2
            case h0 => rfl
            case h1 => (repeat with_reducible refine (ev_ne _ _ _ _ (by decide)).trans ?_); with_reducible first | exact hA1 | exact hA2 | exact hA3 | exact hA4 | exact ev_same _ _ _ (by (repeat with_reducible refine lt_put ?_); rw [hsz]; decide)
            case h2 => exact HLD.out u hu
          dsimp only
          with_reducible refine wpQuiet_want' 8 false 36 ?gd ?gb ?gv (.string H) ?q ?_
          case gd => rfl
          case gb => rfl
          case gv => (repeat with_reducible refine (ev_ne _ _ _ _ (by decide)).trans ?_); with_reducible first | exact hA1 | exact hA2 | exact hA3 | exact hA4 | exact ev_same _ _ _ (by (repeat with_reducible refine lt_put ?_); rw [hsz]; decide)
          case q =>
            intro u hu
            with_reducible refine quietAt_call 22 Tryd.f22 ?h0 ?h1 ?h2 #[.tmp 42] #[3] ?h3 (.string H) #[(.int .i64 (k : Nat))] ?h4 ?h5
            case h0 => exact Tryd.func22
            case h1 => kernel_rfl
            case h2 => kernel_rfl
            case h3 => rfl
            case h4 => exact map1 _ _ _ (by (repeat with_reducible refine (ev_ne _ _ _ _ (by decide)).trans ?_); with_reducible first | exact hA1 | exact hA2 | exact hA3 | exact hA4 | exact ev_same _ _ _ (by (repeat with_reducible refine lt_put ?_); rw [hsz]; decide))
            case h5 => exact (HKn.out u).mono fun e w' h => ⟨h.1, h.2 ▸ hu⟩
          dsimp only
          with_reducible refine wpQuiet_want' 8 false 36 ?gd ?gb ?gv (.bool false) ?q ?_
          case gd => rfl
          case gb => rfl
          case gv => (repeat with_reducible refine (ev_ne _ _ _ _ (by decide)).trans ?_); with_reducible first | exact hA1 | exact hA2 | exact hA3 | exact hA4 | exact ev_same _ _ _ (by (repeat with_reducible refine lt_put ?_); rw [hsz]; decide)
          case q =>
            intro u hu
            with_reducible refine quietAt_bin .neq 9 (.tmp 39) (.tmp 43) 9 (.string H) (.string H) (.bool false) ?h0 ?h1 ?h2 ?h3
            case h0 => rfl
            case h1 => (repeat with_reducible refine (ev_ne _ _ _ _ (by decide)).trans ?_); with_reducible first | exact hA1 | exact hA2 | exact hA3 | exact hA4 | exact ev_same _ _ _ (by (repeat with_reducible refine lt_put ?_); rw [hsz]; decide)
            case h2 => (repeat with_reducible refine (ev_ne _ _ _ _ (by decide)).trans ?_); with_reducible first | exact hA1 | exact hA2 | exact hA3 | exact hA4 | exact ev_same _ _ _ (by (repeat with_reducible refine lt_put ?_); rw [hsz]; decide)
            case h3 => exact neq_str H u
          dsimp only
          with_reducible refine wpQuiet_one ?gd (.bool false) ?q ?_
          case gd => rfl
          case q =>
            intro u hu
            with_reducible refine quietAt_pick (.tmp 36) (.const (.bool true)) (.tmp 44) false (.bool false) ?h0 ?h1 ?h2
            case h0 => rfl
            case h1 => (repeat with_reducible refine (ev_ne _ _ _ _ (by decide)).trans ?_); with_reducible first | exact hA1 | exact hA2 | exact hA3 | exact hA4 | exact ev_same _ _ _ (by (repeat with_reducible refine lt_put ?_); rw [hsz]; decide)
            case h2 => rw [if_neg (by decide)]; (repeat with_reducible refine (ev_ne _ _ _ _ (by decide)).trans ?_); with_reducible first | exact hA1 | exact hA2 | exact hA3 | exact hA4 | exact ev_same _ _ _ (by (repeat with_reducible refine lt_put ?_); rw [hsz]; decide)
          dsimp only
          with_reducible refine wpQuiet_one ?gd (.bool false) ?q ?_
          case gd => rfl
          case q =>
            intro u hu
            with_reducible refine quietAt_mv (.tmp 45) (.bool false) ?h0 ?h1
            case h0 => rfl
            case h1 => (repeat with_reducible refine (ev_ne _ _ _ _ (by decide)).trans ?_); with_reducible first | exact hA1 | exact hA2 | exact hA3 | exact hA4 | exact ev_same _ _ _ (by (repeat with_reducible refine lt_put ?_); rw [hsz]; decide)
          dsimp only
          with_reducible refine wpQuiet_want' 18 false 46 ?gd ?gb ?gv (.pointer (some ⟨hb, 0, none⟩)) ?q ?_
          case gd => rfl
          case gb => rfl
          case gv => (repeat with_reducible refine (ev_ne _ _ _ _ (by decide)).trans ?_); with_reducible first | exact hA1 | exact hA2 | exact hA3 | exact hA4 | exact ev_same _ _ _ (by (repeat with_reducible refine lt_put ?_); rw [hsz]; decide)
          case q =>
            intro u hu
            with_reducible refine quietAt_mv (.tmp 3) (.pointer (some ⟨hb, 0, none⟩)) ?h0 ?h1
            case h0 => rfl
            case h1 => (repeat with_reducible refine (ev_ne _ _ _ _ (by decide)).trans ?_); with_reducible first | exact hA1 | exact hA2 | exact hA3 | exact hA4 | exact ev_same _ _ _ (by (repeat with_reducible refine lt_put ?_); rw [hsz]; decide)
          dsimp only
          with_reducible refine wpQuiet_want' 18 false 46 ?gd ?gb ?gv (.int .u64 (k : Nat)) ?q ?_
          case gd => rfl
          case gb => rfl
          case gv => (repeat with_reducible refine (ev_ne _ _ _ _ (by decide)).trans ?_); with_reducible first | exact hA1 | exact hA2 | exact hA3 | exact hA4 | exact ev_same _ _ _ (by (repeat with_reducible refine lt_put ?_); rw [hsz]; decide)
          case q =>
            intro u hu
            with_reducible refine quietAt_call 16 Tryd.f16 ?h0 ?h1 ?h2 #[.tmp 47] #[34] ?h3 (.int .u64 (k : Nat)) #[(.pointer (some ⟨hb, 0, none⟩))] ?h4 ?h5
            case h0 => exact Tryd.func16
            case h1 => kernel_rfl
            case h2 => kernel_rfl
            case h3 => rfl
            case h4 => exact map1 _ _ _ (by (repeat with_reducible refine (ev_ne _ _ _ _ (by decide)).trans ?_); with_reducible first | exact hA1 | exact hA2 | exact hA3 | exact hA4 | exact ev_same _ _ _ (by (repeat with_reducible refine lt_put ?_); rw [hsz]; decide))
            case h5 => exact (HLn.out u hu).mono fun e w' h => ⟨h.1, h.2 ▸ hu⟩
          dsimp only
          with_reducible refine wpQuiet_want' 18 false 46 ?gd ?gb ?gv (.int .i64 (i : Nat)) ?q ?_
          case gd => rfl
          case gb => rfl
          case gv => (repeat with_reducible refine (ev_ne _ _ _ _ (by decide)).trans ?_); with_reducible first | exact hA1 | exact hA2 | exact hA3 | exact hA4 | exact ev_same _ _ _ (by (repeat with_reducible refine lt_put ?_); rw [hsz]; decide)
          case q =>
            intro u hu
            with_reducible refine quietAt_mv (.tmp 2) (.int .i64 (i : Nat)) ?h0 ?h1
            case h0 => rfl
            case h1 => (repeat with_reducible refine (ev_ne _ _ _ _ (by decide)).trans ?_); with_reducible first | exact hA1 | exact hA2 | exact hA3 | exact hA4 | exact ev_same _ _ _ (by (repeat with_reducible refine lt_put ?_); rw [hsz]; decide)
          dsimp only
          with_reducible refine wpQuiet_want' 18 false 46 ?gd ?gb ?gv (.pointer (some ⟨b0, i, none⟩)) ?q ?_
          case gd => rfl
          case gb => rfl
          case gv => (repeat with_reducible refine (ev_ne _ _ _ _ (by decide)).trans ?_); with_reducible first | exact hA1 | exact hA2 | exact hA3 | exact hA4 | exact ev_same _ _ _ (by (repeat with_reducible refine lt_put ?_); rw [hsz]; decide)
          case q =>
            intro u hu
            with_reducible refine quietAt_idx 54 (.tmp 1) (.tmp 49) (.pointer (some ⟨b0, 0, none⟩)) (.int .i64 (i : Nat)) (.pointer (some ⟨b0, i, none⟩)) ?h0 ?h1 ?h2 ?h3
            case h0 => rfl
            case h1 => (repeat with_reducible refine (ev_ne _ _ _ _ (by decide)).trans ?_); with_reducible first | exact hA1 | exact hA2 | exact hA3 | exact hA4 | exact ev_same _ _ _ (by (repeat with_reducible refine lt_put ?_); rw [hsz]; decide)
            case h2 => (repeat with_reducible refine (ev_ne _ _ _ _ (by decide)).trans ?_); with_reducible first | exact hA1 | exact hA2 | exact hA3 | exact hA4 | exact ev_same _ _ _ (by (repeat with_reducible refine lt_put ?_); rw [hsz]; decide)
            case h3 => exact HIX.out u
          dsimp only
          with_reducible refine wpQuiet_want' 18 false 46 ?gd ?gb ?gv (.int .i64 (k : Nat)) ?q ?_
          case gd => rfl
          case gb => rfl
          case gv => (repeat with_reducible refine (ev_ne _ _ _ _ (by decide)).trans ?_); with_reducible first | exact hA1 | exact hA2 | exact hA3 | exact hA4 | exact ev_same _ _ _ (by (repeat with_reducible refine lt_put ?_); rw [hsz]; decide)
          case q =>
            intro u hu
            with_reducible refine quietAt_ld 3 (.tmp 50) (.pointer (some ⟨b0, i, none⟩)) (.int .i64 (k : Nat)) ?h0 ?h1 ?h2
            case h0 => rfl
            case h1 => (repeat with_reducible refine (ev_ne _ _ _ _ (by decide)).trans ?_); with_reducible first | exact hA1 | exact hA2 | exact hA3 | exact hA4 | exact ev_same _ _ _ (by (repeat with_reducible refine lt_put ?_); rw [hsz]; decide)
            case h2 => exact HLD.out u hu
          dsimp only
          with_reducible refine wpQuiet_want' 18 false 46 ?gd ?gb ?gv (.int .u64 (k : Nat)) ?q ?_
          case gd => rfl
          case gb => rfl
          case gv => (repeat with_reducible refine (ev_ne _ _ _ _ (by decide)).trans ?_); with_reducible first | exact hA1 | exact hA2 | exact hA3 | exact hA4 | exact ev_same _ _ _ (by (repeat with_reducible refine lt_put ?_); rw [hsz]; decide)
          case q =>
            intro u hu
            with_reducible refine quietAt_cv 3 40 (.tmp 51) (.int .i64 (k : Nat)) (.int .u64 (k : Nat)) ?h0 ?h1 ?h2
            case h0 => rfl
            case h1 => (repeat with_reducible refine (ev_ne _ _ _ _ (by decide)).trans ?_); with_reducible first | exact hA1 | exact hA2 | exact hA3 | exact hA4 | exact ev_same _ _ _ (by (repeat with_reducible refine lt_put ?_); rw [hsz]; decide)
            case h2 => exact HCv.out u
          dsimp only
          with_reducible refine wpQuiet_want' 18 false 46 ?gd ?gb ?gv (.bool false) ?q ?_
          case gd => rfl
          case gb => rfl
          case gv => (repeat with_reducible refine (ev_ne _ _ _ _ (by decide)).trans ?_); with_reducible first | exact hA1 | exact hA2 | exact hA3 | exact hA4 | exact ev_same _ _ _ (by (repeat with_reducible refine lt_put ?_); rw [hsz]; decide)
          case q =>
            intro u hu
            with_reducible refine quietAt_bin .neq 40 (.tmp 48) (.tmp 52) 40 (.int .u64 (k : Nat)) (.int .u64 (k : Nat)) (.bool false) ?h0 ?h1 ?h2 ?h3
            case h0 => rfl
            case h1 => (repeat with_reducible refine (ev_ne _ _ _ _ (by decide)).trans ?_); with_reducible first | exact hA1 | exact hA2 | exact hA3 | exact hA4 | exact ev_same _ _ _ (by (repeat with_reducible refine lt_put ?_); rw [hsz]; decide)
            case h2 => (repeat with_reducible refine (ev_ne _ _ _ _ (by decide)).trans ?_); with_reducible first | exact hA1 | exact hA2 | exact hA3 | exact hA4 | exact ev_same _ _ _ (by (repeat with_reducible refine lt_put ?_); rw [hsz]; decide)
            case h3 => exact neq_u64 k u
          dsimp only
          with_reducible refine wpQuiet_one ?gd (.bool false) ?q ?_
          case gd => rfl
          case q =>
            intro u hu
            with_reducible refine quietAt_pick (.tmp 46) (.const (.bool true)) (.tmp 53) false (.bool false) ?h0 ?h1 ?h2
            case h0 => rfl
            case h1 => (repeat with_reducible refine (ev_ne _ _ _ _ (by decide)).trans ?_); with_reducible first | exact hA1 | exact hA2 | exact hA3 | exact hA4 | exact ev_same _ _ _ (by (repeat with_reducible refine lt_put ?_); rw [hsz]; decide)
            case h2 => rw [if_neg (by decide)]; (repeat with_reducible refine (ev_ne _ _ _ _ (by decide)).trans ?_); with_reducible first | exact hA1 | exact hA2 | exact hA3 | exact hA4 | exact ev_same _ _ _ (by (repeat with_reducible refine lt_put ?_); rw [hsz]; decide)
          dsimp only
          with_reducible refine wpQuiet_nil ?_
          intro w5 hg5
          rw [HA.out]
          have HG5 := hid hg5
          simp only [Act.put, List.setIfInBounds_toArray, List.set_cons_succ, List.set_cons_zero]
          clear hg5 hA1 hA2 hA3 hA4 hsz HA
          go_wp2_with fail
          go_roundw
          case rel => exact ⟨i + 1, by omega, by go_num, hid (HB.out.keep (gtrans HWi.out HG5.out)), hid (gtrans HW.out (gtrans HWi.out HG5.out))⟩
          case measure => simp [intOf]; omega
    · have hlt' : ¬ (i : Int) < 5 := by omega
      go_wp2_with (first
        | (go_at_call 7; refine (HMc.out _ _ _ (gtrans HW.out (grow2 wr _ _)) ((lit_rd wr keyB (0, 0) _ rfl 20 rfl).keep (galloc _ _ _)) (lit_rd2 wr _ hiL (8, 9) _ rfl 8 rfl)).mono ?_; rintro e w5 ⟨rfl, hg5⟩; have HG5 := hid (gtrans HW.out (gtrans (grow2 wr _ _) hg5)); clear hg5)
        | (go_at_call 21; refine (HMh.out _).mono ?_; rintro e w6 ⟨rfl, hg6⟩; have HG6 := hid (gtrans HG5.out hg6); clear hg6)
        | (go_at_call 12; refine (HWk.out _ HG6.out).mono ?_; rintro e w7 ⟨rfl, hg7⟩; have HG7 := hid (gtrans HG6.out hg7); clear hg7))
      go_ret
      exact ⟨rfl, HG7.out⟩
end Go.Proofs.YtmiojplbcjhggabDoor
