/- num, CopyKeys, CopyRing, EqKeys, EqRing. -/
import Derived.Test.YtlgjmhemgfjgnaaGreatVN
namespace Go.Proofs.YtlgjmhemgfjgnaaGreat
open Go Go.RowKit
open Go.RowKit (wrap32 wrap64)

set_option maxRecDepth 100000 in
theorem gdrew1 (w : World) (row : Option Nat) : w.grownBy w.drew row := ⟨rfl, rfl, rfl, Nat.le_refl _, fun _ _ _ => rfl⟩
set_option maxRecDepth 100000 in
theorem num_any (e : Int) (w : World) : Calls Tryz.prog 16 #[.int .i64 e] w fun r w' => r = .returned (.int .i64 e) ∧ w' = w := by
  go_enter Tryz.func16, Tryz.ntmps16
  go_wp2
  go_ret
  exact ⟨rfl, rfl⟩
set_option maxRecDepth 100000 in
set_option maxHeartbeats 800000 in
theorem copyKeys_any (w : World) (v : Value) (F : Nat → Prop) (l : List Ky) (hv : RdK w F v l) (hl : l.length ≤ 1099511627776) :
    Calls Tryz.prog 4 #[v] w fun e w' => ∃ v', e = .returned v' ∧ OutK w.heap.size w' v' l ∧ w.grownBy w' none := by
  have HV := hid hv
  obtain ⟨ho, a, b, off, c, rfl, hc, Ha, Hc⟩ := hv.open
  obtain ⟨n, HN⟩ : ∃ n, Hid (l.length = n) := ⟨_, hid rfl⟩
  rw [HN.out] at HV hl ⊢
  clear hv ho hc Ha Hc
  go_enter Tryz.func4, Tryz.ntmps4
  go_wp2_with (at_builtin; refine wpList_append_keys rfl _ _ rfl w.heap.size F [] l (OutK.nil _ _) HV.out (by show 0 + l.length ≤ _; rw [HN.out]; omega) (Nat.le_refl _) ?_; intro v4 w4 hO4 hg4; have HO4 := hid hO4; have HG4 : Hid (w.grownBy w4 none) := hid hg4; clear hO4 hg4)
  go_ret
  exact ⟨_, rfl, HO4.out, HG4.out⟩
set_option maxRecDepth 100000 in
theorem take_stepK {x y : List Ky} {i : Nat} (hl : x.length = y.length) (hi : i < x.length) (h : x.take i = y.take i) (he : x[i] = y[i]'(by omega)) : x.take (i + 1) = y.take (i + 1) := by
  rw [List.take_succ_eq_append_getElem hi, List.take_succ_eq_append_getElem (by omega), h, he]
set_option maxRecDepth 100000 in
set_option maxHeartbeats 1600000 in
theorem eqKeys_any (w : World) (va vb : Value) (F G : Nat → Prop) (x y : List Ky) (hx : RdK w F va x) (hy : RdK w G vb y) (hxl : x.length ≤ 1099511627776) :
    Calls Tryz.prog 9 #[va, vb] w fun e w' => e = .returned (.bool (decide (x = y))) ∧ w.grownBy w' none := by
  obtain ⟨ho, a, b, off, c, rfl, hc, Ha, Hc⟩ := hx.open
  obtain ⟨ho', a', b', off', c', rfl, hc', Ha', Hc'⟩ := hy.open
  have HO := hid ho
  have HO' := hid ho'
  obtain ⟨D, HD⟩ : ∃ D, Hid (decide (x = y) = D) := ⟨_, hid rfl⟩
  rw [HD.out]
  clear hx hy hc hc' ho ho'
  by_cases hl : x.length = y.length
  · have HL := hid hl
    rw [← hl]
    obtain ⟨n, HN⟩ : ∃ n, Hid (x.length = n) := ⟨_, hid rfl⟩
    rw [HN.out] at hxl ⊢
    clear hl
    go_enter Tryz.func9, Tryz.ntmps9
    go_wp2_with fail
    go_loopw [5] (fun iv wr => ∃ i : Nat, iv = .int .i64 i ∧ i ≤ n ∧ Hid (x.take i = y.take i) ∧ Hid (w.grownBy wr none)) (fun iv _ => n - (intOf iv).toNat)
    case atStart => exact ⟨0, rfl, Nat.zero_le _, hid rfl, hid (grefl _ _)⟩
    case round =>
      obtain ⟨i, rfl, hi, HT, HG⟩ := hrel
      by_cases hlt : i < n
      · have hix : i < x.length := by rw [HN.out]; exact hlt
        have hiy : i < y.length := by rw [← HL.out]; exact hix
        have hlt' : (i : Int) < (n : Int) := by omega
        obtain ⟨rfl, -⟩ := Ha.out (by omega)
        obtain ⟨rfl, -⟩ := Ha'.out (by omega)
        have HRa : Hid (∀ u, wr.grownBy u none → u.rangeAt b (off + i * 19) x[i].cells ∧ b < u.heap.size) := hid (fun u hu => Hc.out u (gtrans HG.out hu) i hix)
        have HRb : Hid (∀ u, wr.grownBy u none → u.rangeAt b' (off' + i * 19) y[i].cells ∧ b' < u.heap.size) := hid (fun u hu => Hc'.out u (gtrans HG.out hu) i hiy)
        have hko := HO.out _ (List.getElem_mem hix)
        have hqo := HO'.out _ (List.getElem_mem hiy)
        have HTN := hid (take_stepK HL.out hix HT.out)
        have HDf : Hid (¬ x[i] = y[i] → D = false) := hid (fun he => by rw [← HD.out]; exact decide_eq_false (fun e => he (by simp only [e])))
        obtain ⟨K, HK⟩ : ∃ K, Hid (x[i] = K) := ⟨_, hid rfl⟩
        obtain ⟨Q, HQ⟩ : ∃ K, Hid (y[i] = K) := ⟨_, hid rfl⟩
        rw [HK.out] at HRa hko
        rw [HQ.out] at HRb hqo
        rw [HK.out, HQ.out] at HTN HDf
        have HKL : Hid (K.cells.length = 19) := hid (Ky.cells_length hko.2.1)
        have HQL : Hid (Q.cells.length = 19) := hid (Ky.cells_length hqo.2.1)
        have HIa : Hid (∀ u, (Instr.indexAt 57 (.slice (some ⟨b, off, none⟩) n c) (.int .i64 (i : Nat))).run Tryz.prog u = .ok (.pointer (some ⟨b, off + i * 19, none⟩)) u) := fun u => idx23 b off n c i hlt u
        have HIb : Hid (∀ u, (Instr.indexAt 57 (.slice (some ⟨b', off', none⟩) n c') (.int .i64 (i : Nat))).run Tryz.prog u = .ok (.pointer (some ⟨b', off' + i * 19, none⟩)) u) := fun u => idx23 b' off' n c' i hlt u
        have hne := fun (x y : Operand) (u : World) => neq_key (k := K) (q := Q) hko.2.1 hqo.2.1 (x := x) (y := y) u
        clear hko hqo HK HQ hix hiy
        by_cases he : K = Q
        · have HNe : Hid (∀ (x y : Operand) (u : World), (do eqGuard .neq 85 x y (.agg K.cells.toArray) (.agg Q.cells.toArray); binOp .neq 85 (.agg K.cells.toArray) (.agg Q.cells.toArray) : Sem Value).run Tryz.prog u = .ok (.bool false) u) := fun x y u => by rw [hne, he]; simp
          clear hne
          go_wp2_with fail
          refine wp_region_quietA (by kernel_rfl) (by kernel_rfl) (fun u => wr.grownBy u none) (gdrew1 wr none) _ rfl ?_
          intro A hA
          have hA0 : A.eval (.tmp 0) = (.slice (some ⟨b, off, none⟩) n c) := by rw [hA]; rfl
          have hA1 : A.eval (.tmp 1) = (.slice (some ⟨b', off', none⟩) n c') := by rw [hA]; rfl
          have hA5 : A.eval (.tmp 5) = (.int .i64 (i : Nat)) := by rw [hA]; rfl
          have hsz : A.tmps.size = 26 := by rw [hA]; rfl
          have HAx := hid hA
          clear hA
          with_reducible refine wpQuiet_one ?gd (.slice (some ⟨b, off, none⟩) n c) ?q ?_
          case gd => rfl
          case q =>
            intro u hu
            with_reducible refine quietAt_mv (.tmp 0) (.slice (some ⟨b, off, none⟩) n c) ?h0 ?h1
            case h0 => rfl
            case h1 => (repeat with_reducible refine (ev_ne _ _ _ _ (by decide)).trans ?_); with_reducible first | exact hA0 | exact hA1 | exact hA5 | exact ev_same _ _ _ (by (repeat with_reducible refine lt_put ?_); rw [hsz]; decide)
          dsimp only
          with_reducible refine wpQuiet_one ?gd (.int .i64 (i : Nat)) ?q ?_
          case gd => rfl
          case q =>
            intro u hu
            with_reducible refine quietAt_mv (.tmp 5) (.int .i64 (i : Nat)) ?h0 ?h1
            case h0 => rfl
            case h1 => (repeat with_reducible refine (ev_ne _ _ _ _ (by decide)).trans ?_); with_reducible first | exact hA0 | exact hA1 | exact hA5 | exact ev_same _ _ _ (by (repeat with_reducible refine lt_put ?_); rw [hsz]; decide)
          dsimp only
          with_reducible refine wpQuiet_one ?gd (.pointer (some ⟨b, off + i * 19, none⟩)) ?q ?_
          case gd => rfl
          case q =>
            intro u hu
            with_reducible refine quietAt_idx 57 (.tmp 17) (.tmp 18) (.slice (some ⟨b, off, none⟩) n c) (.int .i64 (i : Nat)) (.pointer (some ⟨b, off + i * 19, none⟩)) ?h0 ?h1 ?h2 ?h3
            case h0 => rfl
            case h1 => (repeat with_reducible refine (ev_ne _ _ _ _ (by decide)).trans ?_); with_reducible first | exact hA0 | exact hA1 | exact hA5 | exact ev_same _ _ _ (by (repeat with_reducible refine lt_put ?_); rw [hsz]; decide)
            case h2 => (repeat with_reducible refine (ev_ne _ _ _ _ (by decide)).trans ?_); with_reducible first | exact hA0 | exact hA1 | exact hA5 | exact ev_same _ _ _ (by (repeat with_reducible refine lt_put ?_); rw [hsz]; decide)
            case h3 => exact HIa.out u
          dsimp only
          with_reducible refine wpQuiet_one ?gd (.agg K.cells.toArray) ?q ?_
          case gd => rfl
          case q =>
            intro u hu
            with_reducible refine quietAt_load 85 (.tmp 19) ?h0 b (off + i * 19) K.cells (.struct (Tryz.prog.fieldsOf 85)) ?h1 ?h2 ?h3 ?h4 ?h5
            case h0 => rfl
            case h1 => (repeat with_reducible refine (ev_ne _ _ _ _ (by decide)).trans ?_); with_reducible first | exact hA0 | exact hA1 | exact hA5 | exact ev_same _ _ _ (by (repeat with_reducible refine lt_put ?_); rw [hsz]; decide)
            case h2 => exact (HRa.out u hu).1
            case h3 => exact Tryz.under48
            case h4 => rfl
            case h5 => rw [HKL.out]; exact Tryz.size85
          dsimp only
          with_reducible refine wpQuiet_one ?gd (.slice (some ⟨b', off', none⟩) n c') ?q ?_
          case gd => rfl
          case q =>
            intro u hu
            with_reducible refine quietAt_mv (.tmp 1) (.slice (some ⟨b', off', none⟩) n c') ?h0 ?h1
            case h0 => rfl
            case h1 => (repeat with_reducible refine (ev_ne _ _ _ _ (by decide)).trans ?_); with_reducible first | exact hA0 | exact hA1 | exact hA5 | exact ev_same _ _ _ (by (repeat with_reducible refine lt_put ?_); rw [hsz]; decide)
          dsimp only
          with_reducible refine wpQuiet_one ?gd (.int .i64 (i : Nat)) ?q ?_
          case gd => rfl
          case q =>
            intro u hu
            with_reducible refine quietAt_mv (.tmp 5) (.int .i64 (i : Nat)) ?h0 ?h1
            case h0 => rfl
            case h1 => (repeat with_reducible refine (ev_ne _ _ _ _ (by decide)).trans ?_); with_reducible first | exact hA0 | exact hA1 | exact hA5 | exact ev_same _ _ _ (by (repeat with_reducible refine lt_put ?_); rw [hsz]; decide)
          dsimp only
          with_reducible refine wpQuiet_one ?gd (.pointer (some ⟨b', off' + i * 19, none⟩)) ?q ?_
          case gd => rfl
          case q =>
            intro u hu
            with_reducible refine quietAt_idx 57 (.tmp 21) (.tmp 22) (.slice (some ⟨b', off', none⟩) n c') (.int .i64 (i : Nat)) (.pointer (some ⟨b', off' + i * 19, none⟩)) ?h0 ?h1 ?h2 ?h3
            case h0 => rfl
            case h1 => (repeat with_reducible refine (ev_ne _ _ _ _ (by decide)).trans ?_); with_reducible first | exact hA0 | exact hA1 | exact hA5 | exact ev_same _ _ _ (by (repeat with_reducible refine lt_put ?_); rw [hsz]; decide)
            case h2 => (repeat with_reducible refine (ev_ne _ _ _ _ (by decide)).trans ?_); with_reducible first | exact hA0 | exact hA1 | exact hA5 | exact ev_same _ _ _ (by (repeat with_reducible refine lt_put ?_); rw [hsz]; decide)
            case h3 => exact HIb.out u
          dsimp only
          with_reducible refine wpQuiet_one ?gd (.agg Q.cells.toArray) ?q ?_
          case gd => rfl
          case q =>
            intro u hu
            with_reducible refine quietAt_load 85 (.tmp 23) ?h0 b' (off' + i * 19) Q.cells (.struct (Tryz.prog.fieldsOf 85)) ?h1 ?h2 ?h3 ?h4 ?h5
            case h0 => rfl
            case h1 => (repeat with_reducible refine (ev_ne _ _ _ _ (by decide)).trans ?_); with_reducible first | exact hA0 | exact hA1 | exact hA5 | exact ev_same _ _ _ (by (repeat with_reducible refine lt_put ?_); rw [hsz]; decide)
            case h2 => exact (HRb.out u hu).1
            case h3 => exact Tryz.under48
            case h4 => rfl
            case h5 => rw [HQL.out]; exact Tryz.size85
          dsimp only
          with_reducible refine wpQuiet_one ?gd (.bool false) ?q ?_
          case gd => rfl
          case q =>
            intro u hu
            with_reducible refine quietAt_bin .neq 85 (.tmp 20) (.tmp 24) 85 (.agg K.cells.toArray) (.agg Q.cells.toArray) (.bool false) ?h0 ?h1 ?h2 ?h3
            case h0 => rfl
            case h1 => (repeat with_reducible refine (ev_ne _ _ _ _ (by decide)).trans ?_); with_reducible first | exact hA0 | exact hA1 | exact hA5 | exact ev_same _ _ _ (by (repeat with_reducible refine lt_put ?_); rw [hsz]; decide)
            case h2 => (repeat with_reducible refine (ev_ne _ _ _ _ (by decide)).trans ?_); with_reducible first | exact hA0 | exact hA1 | exact hA5 | exact ev_same _ _ _ (by (repeat with_reducible refine lt_put ?_); rw [hsz]; decide)
            case h3 => exact HNe.out _ _ u
          dsimp only
          with_reducible refine wpQuiet_nil ?_
          intro u8 hu8
          rw [HAx.out]
          simp only [Act.put, List.setIfInBounds_toArray, List.set_cons_succ, List.set_cons_zero]
          clear HAx hA0 hA1 hA5 hsz
          go_wp2_with fail
          go_roundw
          case rel => exact ⟨i + 1, by go_num, by omega, hid (HTN.out he), hid (gtrans HG.out hu8)⟩
          case measure => simp [intOf]; omega
        · have HNe : Hid (∀ (x y : Operand) (u : World), (do eqGuard .neq 85 x y (.agg K.cells.toArray) (.agg Q.cells.toArray); binOp .neq 85 (.agg K.cells.toArray) (.agg Q.cells.toArray) : Sem Value).run Tryz.prog u = .ok (.bool true) u) := fun x y u => by rw [hne, beq_eq_false_iff_ne.2 he]; rfl
          clear hne
          go_wp2_with fail
          refine wp_region_quietA (by kernel_rfl) (by kernel_rfl) (fun u => wr.grownBy u none) (gdrew1 wr none) _ rfl ?_
          intro A hA
          have hA0 : A.eval (.tmp 0) = (.slice (some ⟨b, off, none⟩) n c) := by rw [hA]; rfl
          have hA1 : A.eval (.tmp 1) = (.slice (some ⟨b', off', none⟩) n c') := by rw [hA]; rfl
          have hA5 : A.eval (.tmp 5) = (.int .i64 (i : Nat)) := by rw [hA]; rfl
          have hsz : A.tmps.size = 26 := by rw [hA]; rfl
          have HAx := hid hA
          clear hA
          with_reducible refine wpQuiet_one ?gd (.slice (some ⟨b, off, none⟩) n c) ?q ?_
          case gd => rfl
          case q =>
            intro u hu
            with_reducible refine quietAt_mv (.tmp 0) (.slice (some ⟨b, off, none⟩) n c) ?h0 ?h1
            case h0 => rfl
            case h1 => (repeat with_reducible refine (ev_ne _ _ _ _ (by decide)).trans ?_); with_reducible first | exact hA0 | exact hA1 | exact hA5 | exact ev_same _ _ _ (by (repeat with_reducible refine lt_put ?_); rw [hsz]; decide)
          dsimp only
          with_reducible refine wpQuiet_one ?gd (.int .i64 (i : Nat)) ?q ?_
          case gd => rfl
          case q =>
            intro u hu
            with_reducible refine quietAt_mv (.tmp 5) (.int .i64 (i : Nat)) ?h0 ?h1
            case h0 => rfl
            case h1 => (repeat with_reducible refine (ev_ne _ _ _ _ (by decide)).trans ?_); with_reducible first | exact hA0 | exact hA1 | exact hA5 | exact ev_same _ _ _ (by (repeat with_reducible refine lt_put ?_); rw [hsz]; decide)
          dsimp only
          with_reducible refine wpQuiet_one ?gd (.pointer (some ⟨b, off + i * 19, none⟩)) ?q ?_
          case gd => rfl
          case q =>
            intro u hu
            with_reducible refine quietAt_idx 57 (.tmp 17) (.tmp 18) (.slice (some ⟨b, off, none⟩) n c) (.int .i64 (i : Nat)) (.pointer (some ⟨b, off + i * 19, none⟩)) ?h0 ?h1 ?h2 ?h3
            case h0 => rfl
            case h1 => (repeat with_reducible refine (ev_ne _ _ _ _ (by decide)).trans ?_); with_reducible first | exact hA0 | exact hA1 | exact hA5 | exact ev_same _ _ _ (by (repeat with_reducible refine lt_put ?_); rw [hsz]; decide)
            case h2 => (repeat with_reducible refine (ev_ne _ _ _ _ (by decide)).trans ?_); with_reducible first | exact hA0 | exact hA1 | exact hA5 | exact ev_same _ _ _ (by (repeat with_reducible refine lt_put ?_); rw [hsz]; decide)
            case h3 => exact HIa.out u
          dsimp only
          with_reducible refine wpQuiet_one ?gd (.agg K.cells.toArray) ?q ?_
          case gd => rfl
          case q =>
            intro u hu
            with_reducible refine quietAt_load 85 (.tmp 19) ?h0 b (off + i * 19) K.cells (.struct (Tryz.prog.fieldsOf 85)) ?h1 ?h2 ?h3 ?h4 ?h5
            case h0 => rfl
            case h1 => (repeat with_reducible refine (ev_ne _ _ _ _ (by decide)).trans ?_); with_reducible first | exact hA0 | exact hA1 | exact hA5 | exact ev_same _ _ _ (by (repeat with_reducible refine lt_put ?_); rw [hsz]; decide)
            case h2 => exact (HRa.out u hu).1
            case h3 => exact Tryz.under48
            case h4 => rfl
            case h5 => rw [HKL.out]; exact Tryz.size85
          dsimp only
          with_reducible refine wpQuiet_one ?gd (.slice (some ⟨b', off', none⟩) n c') ?q ?_
          case gd => rfl
          case q =>
            intro u hu
            with_reducible refine quietAt_mv (.tmp 1) (.slice (some ⟨b', off', none⟩) n c') ?h0 ?h1
            case h0 => rfl
            case h1 => (repeat with_reducible refine (ev_ne _ _ _ _ (by decide)).trans ?_); with_reducible first | exact hA0 | exact hA1 | exact hA5 | exact ev_same _ _ _ (by (repeat with_reducible refine lt_put ?_); rw [hsz]; decide)
          dsimp only
          with_reducible refine wpQuiet_one ?gd (.int .i64 (i : Nat)) ?q ?_
          case gd => rfl
          case q =>
            intro u hu
            with_reducible refine quietAt_mv (.tmp 5) (.int .i64 (i : Nat)) ?h0 ?h1
            case h0 => rfl
            case h1 => (repeat with_reducible refine (ev_ne _ _ _ _ (by decide)).trans ?_); with_reducible first | exact hA0 | exact hA1 | exact hA5 | exact ev_same _ _ _ (by (repeat with_reducible refine lt_put ?_); rw [hsz]; decide)
          dsimp only
          with_reducible refine wpQuiet_one ?gd (.pointer (some ⟨b', off' + i * 19, none⟩)) ?q ?_
          case gd => rfl
          case q =>
            intro u hu
            with_reducible refine quietAt_idx 57 (.tmp 21) (.tmp 22) (.slice (some ⟨b', off', none⟩) n c') (.int .i64 (i : Nat)) (.pointer (some ⟨b', off' + i * 19, none⟩)) ?h0 ?h1 ?h2 ?h3
            case h0 => rfl
            case h1 => (repeat with_reducible refine (ev_ne _ _ _ _ (by decide)).trans ?_); with_reducible first | exact hA0 | exact hA1 | exact hA5 | exact ev_same _ _ _ (by (repeat with_reducible refine lt_put ?_); rw [hsz]; decide)
            case h2 => (repeat with_reducible refine (ev_ne _ _ _ _ (by decide)).trans ?_); with_reducible first | exact hA0 | exact hA1 | exact hA5 | exact ev_same _ _ _ (by (repeat with_reducible refine lt_put ?_); rw [hsz]; decide)
            case h3 => exact HIb.out u
          dsimp only
          with_reducible refine wpQuiet_one ?gd (.agg Q.cells.toArray) ?q ?_
          case gd => rfl
          case q =>
            intro u hu
            with_reducible refine quietAt_load 85 (.tmp 23) ?h0 b' (off' + i * 19) Q.cells (.struct (Tryz.prog.fieldsOf 85)) ?h1 ?h2 ?h3 ?h4 ?h5
            case h0 => rfl
            case h1 => (repeat with_reducible refine (ev_ne _ _ _ _ (by decide)).trans ?_); with_reducible first | exact hA0 | exact hA1 | exact hA5 | exact ev_same _ _ _ (by (repeat with_reducible refine lt_put ?_); rw [hsz]; decide)
            case h2 => exact (HRb.out u hu).1
            case h3 => exact Tryz.under48
            case h4 => rfl
            case h5 => rw [HQL.out]; exact Tryz.size85
          dsimp only
          with_reducible refine wpQuiet_one ?gd (.bool true) ?q ?_
          case gd => rfl
          case q =>
            intro u hu
            with_reducible refine quietAt_bin .neq 85 (.tmp 20) (.tmp 24) 85 (.agg K.cells.toArray) (.agg Q.cells.toArray) (.bool true) ?h0 ?h1 ?h2 ?h3
            case h0 => rfl
            case h1 => (repeat with_reducible refine (ev_ne _ _ _ _ (by decide)).trans ?_); with_reducible first | exact hA0 | exact hA1 | exact hA5 | exact ev_same _ _ _ (by (repeat with_reducible refine lt_put ?_); rw [hsz]; decide)
            case h2 => (repeat with_reducible refine (ev_ne _ _ _ _ (by decide)).trans ?_); with_reducible first | exact hA0 | exact hA1 | exact hA5 | exact ev_same _ _ _ (by (repeat with_reducible refine lt_put ?_); rw [hsz]; decide)
            case h3 => exact HNe.out _ _ u
          dsimp only
          with_reducible refine wpQuiet_nil ?_
          intro u8 hu8
          rw [HAx.out]
          simp only [Act.put, List.setIfInBounds_toArray, List.set_cons_succ, List.set_cons_zero]
          clear HAx hA0 hA1 hA5 hsz
          go_wp2_with fail
          go_ret
          exact ⟨by rw [HDf.out he]; rfl, gtrans HG.out hu8⟩
      · have hge : ¬ (i : Int) < (n : Int) := by omega
        have he : i = n := by omega
        subst he
        have HDt : Hid (D = true) := hid (by
          rw [← HD.out]
          refine decide_eq_true ?_
          have := HT.out
          rw [List.take_of_length_le (by rw [HN.out]; exact Nat.le_refl _), List.take_of_length_le (by rw [← HL.out, HN.out]; exact Nat.le_refl _)] at this
          exact this)
        go_wp2_with fail
        go_ret
        exact ⟨by rw [HDt.out]; rfl, HG.out⟩
  · have hb : ¬ (x.length : Int) = (y.length : Int) := by omega
    have HDf : Hid (D = false) := hid (by rw [← HD.out]; exact decide_eq_false (fun e => hl (by rw [e])))
    obtain ⟨n, HN⟩ : ∃ n, Hid (x.length = n) := ⟨_, hid rfl⟩
    obtain ⟨m, HM⟩ : ∃ n, Hid (y.length = n) := ⟨_, hid rfl⟩
    rw [HN.out, HM.out] at hb ⊢
    clear hl Ha Ha' Hc Hc'
    go_enter Tryz.func9, Tryz.ntmps9
    go_wp2_with fail
    go_ret
    exact ⟨by rw [HDf.out]; rfl, grefl _ _⟩
end Go.Proofs.YtlgjmhemgfjgnaaGreat
