/- The law's book over keys: the walk of told. -/
import Derived.Test.YtlgjmhemgfjgnaaGreatKbE
namespace Go.Proofs.YtlgjmhemgfjgnaaGreat.Bk
open Go Go.RowKit
open Go.RowKit (wrap32 wrap64)

theorem yieldsIf_bin {P : Program} {ops : Array Oper} {S : World → Prop} {o : Oper} {a : Act} (hw : Region.wanted o (yielded ops a.tmps) = true) (op : BinOp) (t : TypeId) (x y : Operand) (ty : TypeId) (ho : o.op = .binOp op t x y ty) (vx vy v : Value) (hx : a.eval x = vx) (hy : a.eval y = vy) (hr : ∀ u : World, (do eqGuard op t x y vx vy; binOp op t vx vy : Sem Value).run P u = .ok v u) : YieldsIf P ops S o v a :=
  .inl ⟨hw, fun w _ => by
    subst hx hy
    unfold execOp
    simp only [ho]
    rw [Sem.run_bind, hr]
    rfl⟩
set_option maxRecDepth 100000 in
set_option maxHeartbeats 3200000 in
theorem told_any (w : World) (B bk n : Nat) (v0 v1 : Value) (A T D U : Int) (gs : List Value) (ms : List Nat) (h : Bkc w bk v0 v1 A T D U) (hn : n ≤ 1048576)
    (h0 : w.ownsRow B 57 1 v0 n gs) (h1 : w.ownsRow B 3 1 v1 n (ci ms)) (hms : ∀ m ∈ ms, m ≤ 1099511627776)
    (hh : ∀ (i : Nat) g m, gs[i]? = some g → ms[i]? = some m → Held w g m) :
    Calls Tryz.prog 45 #[.pointer (some ⟨bk, 0, none⟩)] w fun e w' => e = .returned (.bool true) ∧ w.grownBy w' none := by
  obtain ⟨a0, c0, rfl⟩ := own_shape' h0
  obtain ⟨a1, c1, rfl⟩ := own_shape' h1
  have hlt := h.lt
  have HC : Hid (∀ u, w.grownBy u none → u.cell? ⟨bk, 30, none⟩ = some (.slice a0 n c0) ∧ u.cell? ⟨bk, 31, none⟩ = some (.slice a1 n c1) ∧ u.cell? ⟨bk, 33, none⟩ = some (.slice none 0 0) ∧ u.cell? ⟨bk, 36, none⟩ = some (.slice none 0 0) ∧ u.cell? ⟨bk, 39, none⟩ = some (.slice none 0 0)) := hid (fun u hu => by
    have e : ∀ j, u.cell? ⟨bk, j, none⟩ = w.cell? ⟨bk, j, none⟩ := fun j => cell_at hu hlt (by simp)
    exact ⟨(e 30).trans (h.cell (i := 30) (by decide)), (e 31).trans (h.cell (i := 31) (by decide)), (e 33).trans (h.cell (i := 33) (by decide)), (e 36).trans (h.cell (i := 36) (by decide)), (e 39).trans (h.cell (i := 39) (by decide))⟩)
  have hl0 : gs.length = n := by have := h0.1; omega
  have hl1 : ms.length = n := by have := h1.1; rw [ci_length] at this; omega
  have H0 := hid h0
  have H1 := hid h1
  have HMS := hid hms
  have HH := hid hh
  have HL0 := hid hl0
  have HL1 := hid hl1
  have hcc := HC.out w (grefl _ _)
  obtain ⟨d18, -, -, -, -⟩ := hcc
  clear h h0 h1 hms hh hl0 hl1
  go_enter Tryz.func45, Tryz.ntmps45
  go_wp2
  clear d18
  go_loopw [3] (fun iv wr => ∃ i : Nat, i ≤ 1048576 ∧ iv = .int .i64 i ∧ Hid (i ≤ n) ∧ Hid (w.grownBy wr none)) (fun iv _ => n - (intOf iv).toNat)
  case atStart => exact ⟨0, by omega, rfl, hid (Nat.zero_le _), hid (grefl _ _)⟩
  case round =>
    as_aux_lemma =>
    obtain ⟨i, hi, rfl, HI, HG⟩ := hrel
    by_cases hlt2 : i < n
    · have hlt' : (i : Int) < (n : Int) := by omega
      obtain ⟨b0, rfl, hb0, _, _, hcell0⟩ := own_cells H0.out (by omega)
      obtain ⟨b1, rfl, hb1, _, _, hcell1⟩ := own_cells H1.out (by omega)
      have hg0 : gs[i]? = some (gs[i]'(by have := HL0.out; omega)) := List.getElem?_eq_getElem _
      have hm0 : ms[i]? = some (ms[i]'(by have := HL1.out; omega)) := List.getElem?_eq_getElem _
      obtain ⟨m, HM⟩ : ∃ m, Hid (ms[i]'(by have := HL1.out; omega) = m) := ⟨_, hid rfl⟩
      have hd := HH.out i _ _ hg0 hm0
      rw [HM.out] at hd hm0
      have hmm : m ≤ 1099511627776 := HMS.out m (List.mem_of_getElem? hm0)
      obtain ⟨ag, ng, cg, hg, hng, hcells⟩ := hd
      have HQ : Hid (∀ u, w.grownBy u none → u.cell? ⟨b0, i, none⟩ = some (.slice ag ng cg) ∧ u.cell? ⟨b1, i, none⟩ = some (.int .i64 m)) := hid (fun u hu => by
        refine ⟨?_, ?_⟩
        · rw [cell_at hu hb0 (by simp), hcell0 i hlt2, hg0, hg]
        · rw [cell_at hu hb1 (by simp), hcell1 i hlt2]
          simp [ci, hm0])
      have HCS := hid hcells
      obtain ⟨d18, d19, -, -, -⟩ := HC.out wr HG.out
      obtain ⟨q0, q1⟩ := HQ.out wr HG.out
      clear hcells hcell0 hcell1 hg0 hm0 hg
      go_wp2
      go_loopw [4] (fun kv wr => ∃ k : Nat, k ≤ 1048576 ∧ kv = .int .i64 k ∧ Hid (k ≤ ng) ∧ Hid (w.grownBy wr none)) (fun kv _ => ng - (intOf kv).toNat)
      case atStart => exact ⟨0, by omega, rfl, hid (Nat.zero_le _), HG⟩
      case round =>
        as_aux_lemma =>
        clear HG d18 d19 q0 q1
        obtain ⟨k, hk, rfl, HK, HG⟩ := hrel
        obtain ⟨d18, d19, -, -, -⟩ := HC.out wr HG.out
        obtain ⟨q0, q1⟩ := HQ.out wr HG.out
        by_cases hlt3 : k < ng
        · have hlt3' : (k : Int) < (ng : Int) := by omega
          obtain ⟨bg, csg, rfl, hbk, hcs⟩ := HCS.out (by omega)
          obtain ⟨KM, HKM⟩ : ∃ KM, Hid ((kyM m).cells = KM) := ⟨_, hid rfl⟩
          have HKL : Hid (KM.length = 19) := hid (by rw [← HKM.out]; exact Ky.cells_length rfl)
          have HMk : Hid (∀ u, Calls Tryz.prog 27 #[.int .i64 m] u fun e w' => e = .returned (.agg KM.toArray) ∧ u.grownBy w' none) := hid (fun u => by rw [← HKM.out]; exact kmark_any u m hmm)
          have HNe : Hid (∀ (u : World) {x y : Operand}, (do eqGuard .neq 85 x y (.agg KM.toArray) (.agg KM.toArray); binOp .neq 85 (.agg KM.toArray) (.agg KM.toArray) : Sem Value).run Tryz.prog u = .ok (.bool false) u) := hid (fun u {x y} => by
            have e := neq_key (k := kyM m) (q := kyM m) rfl rfl (x := x) (y := y) u
            rw [HKM.out] at e
            simpa using e)
          have HSK : Hid (∀ u, w.grownBy u none → (fun u => u.cell? ⟨bk, 30, none⟩ = some (.slice (some ⟨b0, 0, none⟩) n c0) ∧ u.cell? ⟨b0, i, none⟩ = some (.slice (some ⟨bg, 0, none⟩) ng cg) ∧ u.cell? ⟨bk, 31, none⟩ = some (.slice (some ⟨b1, 0, none⟩) n c1) ∧ u.cell? ⟨b1, i, none⟩ = some (.int .i64 m) ∧ u.rangeAt bg (k * 19) KM) u) := hid (fun u hu => by
            obtain ⟨x1, x2, _⟩ := HC.out u hu
            obtain ⟨x3, x4⟩ := HQ.out u hu
            refine ⟨x1, x3, x2, x4, fun j v hv => ?_⟩
            have hj : j < 19 := by have := (List.getElem?_eq_some_iff.1 hv).1; rw [HKL.out] at this; exact this
            rw [cell_at hu (Array.getElem?_eq_some_iff.1 hbk).1 (by simp)]
            have h9 := hcs k j hlt3 hj
            rw [HKM.out, hv] at h9
            simp [World.cell?, hbk, h9])
          clear hbk hcs
          go_wp2
          refine wp_region_held_drew (S := (fun u => u.cell? ⟨bk, 30, none⟩ = some (.slice (some ⟨b0, 0, none⟩) n c0) ∧ u.cell? ⟨b0, i, none⟩ = some (.slice (some ⟨bg, 0, none⟩) ng cg) ∧ u.cell? ⟨bk, 31, none⟩ = some (.slice (some ⟨b1, 0, none⟩) n c1) ∧ u.cell? ⟨b1, i, none⟩ = some (.int .i64 m) ∧ u.rangeAt bg (k * 19) KM)) (by kernel_rfl) ?_ (fun hHeld => ?_)
          · exact HSK.out _ (gtrans HG.out (gdrew1 _ _))
          refine wpAnyH_take (i := 0) (oi := { dst := some 36, op := Op.move (Operand.tmp 0), type := 23, pos := "book.go:1104", after := #[], guard := none }) (v := (.pointer (some ⟨bk, 0, none⟩))) rfl (by kernel_rfl) (by kernel_rfl) (by kernel_rfl) (fun _ _ _ h => h) (Or.inl ⟨by rfl, by intro u hSu; (try dsimp only at hSu); go_simp⟩) (by assumption) ?_
          (try simp only [Act.put, List.setIfInBounds_toArray, List.set_cons_zero, List.set_cons_succ])
          refine wpAnyH_take (i := 1) (oi := { dst := some 37, op := Op.nilCheck (Operand.tmp 36), type := 0, pos := "book.go:1104", after := #[{ on := 0, ground := Ground.data }], guard := none }) (v := (.pointer (some ⟨bk, 0, none⟩))) rfl (by kernel_rfl) (by kernel_rfl) (by kernel_rfl) (fun _ _ _ h => h) (Or.inl ⟨by rfl, by intro u hSu; (try dsimp only at hSu); go_simp⟩) (by assumption) ?_
          (try simp only [Act.put, List.setIfInBounds_toArray, List.set_cons_zero, List.set_cons_succ])
          refine wpAnyH_take (i := 2) (oi := { dst := some 38, op := Op.fieldAddr 50 (Operand.tmp 37) 30, type := 0, pos := "book.go:1104", after := #[{ on := 1, ground := Ground.data }], guard := none }) (v := (.pointer (some ⟨bk, 30, none⟩))) rfl (by kernel_rfl) (by kernel_rfl) (by kernel_rfl) (fun _ _ _ h => h) (Or.inl ⟨by rfl, by intro u hSu; (try dsimp only at hSu); go_simp⟩) (by assumption) ?_
          (try simp only [Act.put, List.setIfInBounds_toArray, List.set_cons_zero, List.set_cons_succ])
          refine wpAnyH_take (i := 3) (oi := { dst := some 39, op := Op.load 35 (Operand.tmp 38), type := 35, pos := "book.go:1104", after := #[{ on := 2, ground := Ground.data }], guard := none }) (v := (.slice (some ⟨b0, 0, none⟩) n c0)) rfl (by kernel_rfl) (by kernel_rfl) (by kernel_rfl) (fun _ _ _ h => h) (Or.inl ⟨by rfl, by intro u hSu; (try dsimp only at hSu); go_simp⟩) (by assumption) ?_
          (try simp only [Act.put, List.setIfInBounds_toArray, List.set_cons_zero, List.set_cons_succ])
          refine wpAnyH_take (i := 4) (oi := { dst := some 40, op := Op.move (Operand.tmp 3), type := 3, pos := "book.go:1104", after := #[], guard := none }) (v := (.int .i64 i)) rfl (by kernel_rfl) (by kernel_rfl) (by kernel_rfl) (fun _ _ _ h => h) (Or.inl ⟨by rfl, by intro u hSu; (try dsimp only at hSu); go_simp⟩) (by assumption) ?_
          (try simp only [Act.put, List.setIfInBounds_toArray, List.set_cons_zero, List.set_cons_succ])
          refine wpAnyH_take (i := 5) (oi := { dst := some 41, op := Op.indexAddr 35 (Operand.tmp 39) (Operand.tmp 40), type := 0, pos := "book.go:1104", after := #[{ on := 3, ground := Ground.data }, { on := 4, ground := Ground.data }], guard := none }) (v := (.pointer (some ⟨b0, i, none⟩))) rfl (by kernel_rfl) (by kernel_rfl) (by kernel_rfl) (fun _ _ _ h => h) (Or.inl ⟨by rfl, by intro u hSu; (try dsimp only at hSu); go_simp⟩) (by assumption) ?_
          (try simp only [Act.put, List.setIfInBounds_toArray, List.set_cons_zero, List.set_cons_succ])
          refine wpAnyH_take (i := 6) (oi := { dst := some 42, op := Op.load 57 (Operand.tmp 41), type := 57, pos := "book.go:1104", after := #[{ on := 5, ground := Ground.data }], guard := none }) (v := (.slice (some ⟨bg, 0, none⟩) ng cg)) rfl (by kernel_rfl) (by kernel_rfl) (by kernel_rfl) (fun _ _ _ h => h) (Or.inl ⟨by rfl, by intro u hSu; (try dsimp only at hSu); go_simp⟩) (by assumption) ?_
          (try simp only [Act.put, List.setIfInBounds_toArray, List.set_cons_zero, List.set_cons_succ])
          refine wpAnyH_take (i := 7) (oi := { dst := some 43, op := Op.move (Operand.tmp 4), type := 3, pos := "book.go:1104", after := #[], guard := none }) (v := (.int .i64 k)) rfl (by kernel_rfl) (by kernel_rfl) (by kernel_rfl) (fun _ _ _ h => h) (Or.inl ⟨by rfl, by intro u hSu; (try dsimp only at hSu); go_simp⟩) (by assumption) ?_
          (try simp only [Act.put, List.setIfInBounds_toArray, List.set_cons_zero, List.set_cons_succ])
          refine wpAnyH_take (i := 8) (oi := { dst := some 44, op := Op.indexAddr 57 (Operand.tmp 42) (Operand.tmp 43), type := 0, pos := "book.go:1104", after := #[{ on := 6, ground := Ground.data }, { on := 7, ground := Ground.data }], guard := none }) (v := (.pointer (some ⟨bg, k * 19, none⟩))) rfl (by kernel_rfl) (by kernel_rfl) (by kernel_rfl) (fun _ _ _ h => h) (Or.inl ⟨by rfl, by intro u hSu; (try dsimp only at hSu); go_simp⟩) (by assumption) ?_
          (try simp only [Act.put, List.setIfInBounds_toArray, List.set_cons_zero, List.set_cons_succ])
          refine wpAnyH_take (i := 9) (oi := { dst := some 45, op := Op.load 85 (Operand.tmp 44), type := 85, pos := "book.go:1104", after := #[{ on := 8, ground := Ground.data }], guard := none }) (v := (.agg KM.toArray)) rfl (by kernel_rfl) (by kernel_rfl) (by kernel_rfl) (fun _ _ _ h => h) (yieldsIf_load_mid rfl 85 (.tmp 44) rfl bg (k * 19) rfl KM _ (fun _ h => h.2.2.2.2) Tryz.underlying85 rfl (by rw [HKL.out]; exact Tryz.size85)) (by assumption) ?_
          (try simp only [Act.put, List.setIfInBounds_toArray, List.set_cons_zero, List.set_cons_succ])
          refine wpAnyH_take (i := 10) (oi := { dst := some 46, op := Op.move (Operand.tmp 0), type := 23, pos := "book.go:1104", after := #[], guard := none }) (v := (.pointer (some ⟨bk, 0, none⟩))) rfl (by kernel_rfl) (by kernel_rfl) (by kernel_rfl) (fun _ _ _ h => h) (Or.inl ⟨by rfl, by intro u hSu; (try dsimp only at hSu); go_simp⟩) (by assumption) ?_
          (try simp only [Act.put, List.setIfInBounds_toArray, List.set_cons_zero, List.set_cons_succ])
          refine wpAnyH_take (i := 11) (oi := { dst := some 47, op := Op.nilCheck (Operand.tmp 46), type := 0, pos := "book.go:1104", after := #[{ on := 10, ground := Ground.data }], guard := none }) (v := (.pointer (some ⟨bk, 0, none⟩))) rfl (by kernel_rfl) (by kernel_rfl) (by kernel_rfl) (fun _ _ _ h => h) (Or.inl ⟨by rfl, by intro u hSu; (try dsimp only at hSu); go_simp⟩) (by assumption) ?_
          (try simp only [Act.put, List.setIfInBounds_toArray, List.set_cons_zero, List.set_cons_succ])
          refine wpAnyH_take (i := 12) (oi := { dst := some 48, op := Op.fieldAddr 50 (Operand.tmp 47) 31, type := 0, pos := "book.go:1104", after := #[{ on := 11, ground := Ground.data }], guard := none }) (v := (.pointer (some ⟨bk, 31, none⟩))) rfl (by kernel_rfl) (by kernel_rfl) (by kernel_rfl) (fun _ _ _ h => h) (Or.inl ⟨by rfl, by intro u hSu; (try dsimp only at hSu); go_simp⟩) (by assumption) ?_
          (try simp only [Act.put, List.setIfInBounds_toArray, List.set_cons_zero, List.set_cons_succ])
          refine wpAnyH_take (i := 13) (oi := { dst := some 49, op := Op.load 25 (Operand.tmp 48), type := 25, pos := "book.go:1104", after := #[{ on := 12, ground := Ground.data }], guard := none }) (v := (.slice (some ⟨b1, 0, none⟩) n c1)) rfl (by kernel_rfl) (by kernel_rfl) (by kernel_rfl) (fun _ _ _ h => h) (Or.inl ⟨by rfl, by intro u hSu; (try dsimp only at hSu); go_simp⟩) (by assumption) ?_
          (try simp only [Act.put, List.setIfInBounds_toArray, List.set_cons_zero, List.set_cons_succ])
          refine wpAnyH_take (i := 14) (oi := { dst := some 50, op := Op.move (Operand.tmp 3), type := 3, pos := "book.go:1104", after := #[], guard := none }) (v := (.int .i64 i)) rfl (by kernel_rfl) (by kernel_rfl) (by kernel_rfl) (fun _ _ _ h => h) (Or.inl ⟨by rfl, by intro u hSu; (try dsimp only at hSu); go_simp⟩) (by assumption) ?_
          (try simp only [Act.put, List.setIfInBounds_toArray, List.set_cons_zero, List.set_cons_succ])
          refine wpAnyH_take (i := 15) (oi := { dst := some 51, op := Op.indexAddr 25 (Operand.tmp 49) (Operand.tmp 50), type := 0, pos := "book.go:1104", after := #[{ on := 13, ground := Ground.data }, { on := 14, ground := Ground.data }], guard := none }) (v := (.pointer (some ⟨b1, i, none⟩))) rfl (by kernel_rfl) (by kernel_rfl) (by kernel_rfl) (fun _ _ _ h => h) (Or.inl ⟨by rfl, by intro u hSu; (try dsimp only at hSu); go_simp⟩) (by assumption) ?_
          (try simp only [Act.put, List.setIfInBounds_toArray, List.set_cons_zero, List.set_cons_succ])
          refine wpAnyH_take (i := 16) (oi := { dst := some 52, op := Op.load 3 (Operand.tmp 51), type := 3, pos := "book.go:1104", after := #[{ on := 15, ground := Ground.data }], guard := none }) (v := (.int .i64 m)) rfl (by kernel_rfl) (by kernel_rfl) (by kernel_rfl) (fun _ _ _ h => h) (Or.inl ⟨by rfl, by intro u hSu; (try dsimp only at hSu); go_simp⟩) (by assumption) ?_
          (try simp only [Act.put, List.setIfInBounds_toArray, List.set_cons_zero, List.set_cons_succ])
          refine wpAnyH_ready (rs := [17]) (by kernel_rfl) (by simp) ?_
          refine AllReadyH.cons (o := { dst := some 53, op := Op.call { callee := Callee.value (Operand.func 27), args := #[Operand.tmp 52], argTypes := #[3] }, type := 85, pos := "book.go:1104", after := #[{ on := 16, ground := Ground.data }], guard := none }) rfl (fun K hK => ?_) AllReadyH.nil
          go_simp
          go_wp2_with (go_at_call 27; refine (HMk.out _).mono ?_; rintro e w4 ⟨rfl, hg⟩; have HG4 := hid (gtrans (gtrans HG.out (gdrew1 _ _)) hg); clear hg)
          refine hK.out _ _ ?_ (fun hHeld => ?_)
          · exact HSK.out _ HG4.out
          clear hK K
          (try simp only [Act.put, List.setIfInBounds_toArray, List.set_cons_zero, List.set_cons_succ])
          refine wpAnyH_take (i := 18) (oi := { dst := some 54, op := Op.binOp BinOp.neq 85 (Operand.tmp 45) (Operand.tmp 53) 85, type := 4, pos := "book.go:1104", after := #[{ on := 9, ground := Ground.data }, { on := 17, ground := Ground.data }], guard := none }) (v := (.bool false)) rfl (by kernel_rfl) (by kernel_rfl) (by kernel_rfl) (fun _ _ _ h => h) (yieldsIf_bin rfl .neq 85 (.tmp 45) (.tmp 53) 85 rfl _ _ _ rfl rfl (fun u => HNe.out u)) (by assumption) ?_
          (try simp only [Act.put, List.setIfInBounds_toArray, List.set_cons_zero, List.set_cons_succ])
          refine wpAnyH_done (by kernel_rfl) ?_ _
          go_wp2
          exact ⟨⟨k + 1, by omega, by go_num, hid (by omega), HG4⟩, by simp [intOf]; omega⟩
        · have hge : (ng : Int) ≤ (k : Int) := by omega
          go_wp2
          exact ⟨⟨i + 1, by omega, by go_num, hid (by omega), HG⟩, by simp [intOf]; omega⟩
    · have hge : (n : Int) ≤ (i : Int) := by omega
      obtain ⟨d18, d19, d21, d24, d27⟩ := HC.out wr HG.out
      go_wp2
      go_loop [5] (fun iv => iv = .int .i64 0) (fun _ => 0)
      case atStart => rfl
      case round =>
        subst hrel
        go_wp2
        go_loop [7] (fun iv => iv = .int .i64 0) (fun _ => 0)
        case atStart => rfl
        case round =>
          subst hrel
          go_wp2
          go_loop [11] (fun iv => iv = .int .i64 0) (fun _ => 0)
          case atStart => rfl
          case round =>
            subst hrel
            go_wp2
            go_ret
            exact ⟨rfl, HG.out⟩
end Go.Proofs.YtlgjmhemgfjgnaaGreat.Bk
