/- Check. -/
import Derived.Test.YtmpcpakdocaieaaRingB
import Derived.Test.YtmpcpakdocaieaaKeyEq
namespace Go.Proofs.Ytmpcpakdocaieaa
open Go Go.RowKit
open Go.RowKit (wrap32 wrap64)

theorem map3 (f : Operand → Value) (x y z : Operand) (u v t : Value) (hx : f x = u) (hy : f y = v) (hz : f z = t) : #[x, y, z].map f = #[u, v, t] := by simp [hx, hy, hz]
theorem quietAt_fd {P : Program} {C : World → Prop} {o : Oper} {a : Act} {u : World} (t : TypeId) (x : Operand) (i : Nat) (vx v : Value) (ho : o.op = .field t x i) (hx : a.eval x = vx) (hr : (Instr.field t vx i).run P u = .ok v u) : o.quietAt P a C u v := by
  subst hx
  unfold Oper.quietAt execOp
  simp only [ho]
  rw [Sem.run_bind, hr]
  exact ⟨rfl, rfl⟩
theorem gdrew1 (w : World) (row : Option Nat) : w.grownBy w.drew row := ⟨rfl, rfl, rfl, Nat.le_refl _, fun _ _ _ => rfl⟩
/-- The current key. -/
def lastK (l : List Ky) : Ky := l.getLast?.getD zky
/-- Whether it is a ring. -/
def isRing (l : List Ky) (nx : Nat) : Bool := goodL l && (decide ((lastK l).kid < nx) && decide (nx ≤ 9223372036854775807))
def chk (l : List Ky) (nx : Nat) : Int := if isRing l nx = true then 0 else 50
theorem leq_u64 (a b : Nat) {x y : Operand} (u : World) : (do eqGuard .leq 67 x y (.int .u64 (a : Nat)) (.int .u64 (b : Nat)); binOp .leq 67 (.int .u64 (a : Nat)) (.int .u64 (b : Nat)) : Sem Value).run Try.prog u = .ok (.bool (decide (a ≤ b))) u := by
  have e : decide ((a : Int) ≤ (b : Int)) = decide (a ≤ b) := decide_eq_decide.2 (by omega)
  rw [← e]
  go_simp
theorem gtr_u64 (a b : Nat) {x y : Operand} (u : World) : (do eqGuard .gtr 67 x y (.int .u64 (a : Nat)) (.int .u64 (b : Nat)); binOp .gtr 67 (.int .u64 (a : Nat)) (.int .u64 (b : Nat)) : Sem Value).run Try.prog u = .ok (.bool (decide (b < a))) u := by
  have e : decide ((b : Int) < (a : Int)) = decide (b < a) := decide_eq_decide.2 (by omega)
  rw [← e]
  go_simp
theorem ld67 (b i : Nat) (n : Int) (u : World) (h : u.cell? ⟨b, i, none⟩ = some (.int .u64 n)) : (Instr.loadAt 67 (.pointer (some ⟨b, i, none⟩))).run Try.prog u = .ok (.int .u64 n) u := by
  go_simp
theorem ld55 (b i n c : Nat) (a : Option Addr) (u : World) (h : u.cell? ⟨b, i, none⟩ = some (.slice a n c)) : (Instr.loadAt 55 (.pointer (some ⟨b, i, none⟩))).run Try.prog u = .ok (.slice a n c) u := by
  go_simp
theorem goodL_pos {l : List Ky} (h : goodL l = true) : 0 < l.length ∧ l.length ≤ 8 := by
  unfold goodL at h
  simp only [Bool.and_eq_true, decide_eq_true_eq] at h
  exact ⟨h.1, h.2.1⟩
set_option maxRecDepth 100000 in
set_option maxHeartbeats 800000 in
theorem check_any (w : World) (v : Value) (F : Nat → Prop) (l : List Ky) (nx : Nat) (hv : RdK w F v l) (hl : l.length ≤ 1099511627776) :
    Calls Try.prog 31 #[.agg #[v, .int .u64 nx]] w fun e w' => e = .returned (.int .i64 (chk l nx)) ∧ w.grownBy w' none := by
  have HV := hid hv
  obtain ⟨ho, a, b, off, c, rfl, hc, Ha, Hc⟩ := hv.open
  obtain ⟨n, HN⟩ : ∃ n, Hid (l.length = n) := ⟨_, hid rfl⟩
  obtain ⟨R, HR⟩ : ∃ R, Hid (chk l nx = R) := ⟨_, hid rfl⟩
  obtain ⟨g, HGd⟩ : ∃ g, Hid (goodL l = g) := ⟨_, hid rfl⟩
  have HO := hid ho
  rw [HR.out, HN.out]
  rw [HN.out] at HV
  have HGk : Hid (∀ u, w.grownBy u none → Calls Try.prog 50 #[.slice a n c] u fun e w' => e = .returned (.bool g) ∧ u.grownBy w' none) := fun u hu => by
    rw [← HGd.out]
    exact goodKeys_any u _ F l (HV.out.keep hu) hl
  clear hv hc ho Ha Hc
  cases g with
  | false =>
    have HRv : Hid (R = 50) := hid (by rw [← HR.out]; unfold chk isRing; rw [HGd.out]; rfl)
    obtain ⟨W1, hW1⟩ : ∃ x, w.alloc (.cells #[.slice a n c, .int .u64 nx] 69) = x := ⟨_, rfl⟩
    obtain ⟨b1, hb1⟩ : ∃ x, w.heap.size = x := ⟨_, rfl⟩
    have HB1 : Hid (Blk W1 b1 [.slice a n c, .int .u64 nx] 69) := hid (by rw [← hW1, ← hb1]; exact Blk.new w [.slice a n c, .int .u64 nx] 69)
    have HG1 : Hid (w.grownBy W1 none) := hid (by rw [← hW1]; exact galloc _ _ _)
    have y0 : W1.cell? ⟨b1, 0, none⟩ = some (.slice a n c) := HB1.out.cell 0
    have y1 : W1.cell? ⟨b1, 1, none⟩ = some (.int .u64 nx) := HB1.out.cell 1
    go_enter Try.func31, Try.ntmps31
    go_wp2_with ((go_at_call 50; with_reducible refine (HGk.out _ HG1.out).mono ?_; rintro e w2 ⟨rfl, hg2⟩; have HG2 := hid hg2; clear hg2))
    go_ret
    exact ⟨ret_int HRv.out.symm, gtrans HG1.out HG2.out⟩
  | true =>
    obtain ⟨h0, h8⟩ := goodL_pos HGd.out
    have HRi : Hid (chk l nx = if (decide ((lastK l).kid < nx) && decide (nx ≤ 9223372036854775807)) = true then 0 else 50) := hid (by unfold chk isRing; rw [HGd.out, Bool.true_and])
    obtain ⟨K, HK⟩ : ∃ K, Hid (lastK l = K) := ⟨_, hid rfl⟩
    rw [HK.out] at HRi
    have HLa0 : Hid (∀ u, w.grownBy u none → Calls Try.prog 39 #[.slice a n c] u fun e w' => e = .returned (.agg K.cells.toArray) ∧ u.grownBy w' none) := fun u hu => by
      rw [← HK.out]
      exact last_any u _ F l (HV.out.keep hu) h0 hl
    clear h0 h8 hl
    obtain ⟨W1, hW1⟩ : ∃ x, w.alloc (.cells #[.slice a n c, .int .u64 nx] 69) = x := ⟨_, rfl⟩
    obtain ⟨b1, hb1⟩ : ∃ x, w.heap.size = x := ⟨_, rfl⟩
    have HB1 : Hid (Blk W1 b1 [.slice a n c, .int .u64 nx] 69) := hid (by rw [← hW1, ← hb1]; exact Blk.new w [.slice a n c, .int .u64 nx] 69)
    have HG1 : Hid (w.grownBy W1 none) := hid (by rw [← hW1]; exact galloc _ _ _)
    have y0 : W1.cell? ⟨b1, 0, none⟩ = some (.slice a n c) := HB1.out.cell 0
    have y1 : W1.cell? ⟨b1, 1, none⟩ = some (.int .u64 nx) := HB1.out.cell 1
    go_enter Try.func31, Try.ntmps31
    go_wp2_with (go_at_call 50; with_reducible refine (HGk.out _ HG1.out).mono ?_; rintro e w2 ⟨rfl, hg2⟩; have HG2 := hid hg2; have HGa := hid (gtrans HG1.out hg2); clear hg2; have HB2 := hid (HB1.out.keep HG2.out); clear y0 y1)
    have HLa : Hid (∀ u, w2.grownBy u none → Calls Try.prog 39 #[.slice a n c] u fun e w' => e = .returned (.agg K.cells.toArray) ∧ u.grownBy w' none) := fun u hu => HLa0.out u (gtrans HGa.out hu)
    have HLN : Hid (∀ u, w2.grownBy u none → (Instr.loadAt 67 (.pointer (some ⟨b1, 1, none⟩))).run Try.prog u = .ok (.int .u64 (nx : Nat)) u) := fun u hu => ld67 b1 1 nx u ((HB2.out.keep hu).cell 1)
    have HLS : Hid (∀ u, w2.grownBy u none → (Instr.loadAt 55 (.pointer (some ⟨b1, 0, none⟩))).run Try.prog u = .ok (.slice a n c) u) := fun u hu => ld55 b1 0 n c a u ((HB2.out.keep hu).cell 0)
    by_cases hle : nx ≤ K.kid
    · have HLe : Hid (∀ (x y : Operand) (u : World), (do eqGuard .leq 67 x y (.int .u64 (nx : Nat)) (.int .u64 (K.kid : Nat)); binOp .leq 67 (.int .u64 (nx : Nat)) (.int .u64 (K.kid : Nat)) : Sem Value).run Try.prog u = .ok (.bool true) u) := fun x y u => by rw [leq_u64, decide_eq_true hle]
      refine wp_region_quietA (by kernel_rfl) (by kernel_rfl) (fun u => w2.grownBy u none) (gdrew1 w2 none) _ rfl ?_
      intro A hA
      have hA1 : A.eval (.tmp 1) = (.pointer (some ⟨b1, 0, none⟩)) := by rw [hA]; rfl
      have hsz : A.tmps.size = 19 := by rw [hA]; rfl
      have HAx := hid hA
      clear hA
      with_reducible refine wpQuiet_one ?gd (.pointer (some ⟨b1, 1, none⟩)) ?q ?_
      case gd => rfl
      case q =>
        intro u hu
        with_reducible refine quietAt_field 69 (.tmp 1) 1 ?h0 ⟨b1, 0, none⟩ ⟨b1, 1, none⟩ ?h1 ?h2
        case h0 => rfl
        case h1 => (repeat with_reducible refine (ev_ne _ _ _ _ (by decide)).trans ?_); with_reducible first | exact hA1 | exact ev_same _ _ _ (by (repeat with_reducible refine lt_put ?_); rw [hsz]; decide)
        case h2 => kernel_rfl
      dsimp only
      with_reducible refine wpQuiet_one ?gd (.int .u64 (nx : Nat)) ?q ?_
      case gd => rfl
      case q =>
        intro u hu
        with_reducible refine quietAt_ld 67 (.tmp 7) (.pointer (some ⟨b1, 1, none⟩)) (.int .u64 (nx : Nat)) ?h0 ?h1 ?h2
        case h0 => rfl
        case h1 => (repeat with_reducible refine (ev_ne _ _ _ _ (by decide)).trans ?_); with_reducible first | exact hA1 | exact ev_same _ _ _ (by (repeat with_reducible refine lt_put ?_); rw [hsz]; decide)
        case h2 => exact HLN.out u hu
      dsimp only
      with_reducible refine wpQuiet_one ?gd (.pointer (some ⟨b1, 0, none⟩)) ?q ?_
      case gd => rfl
      case q =>
        intro u hu
        with_reducible refine quietAt_field 69 (.tmp 1) 0 ?h0 ⟨b1, 0, none⟩ ⟨b1, 0, none⟩ ?h1 ?h2
        case h0 => rfl
        case h1 => (repeat with_reducible refine (ev_ne _ _ _ _ (by decide)).trans ?_); with_reducible first | exact hA1 | exact ev_same _ _ _ (by (repeat with_reducible refine lt_put ?_); rw [hsz]; decide)
        case h2 => kernel_rfl
      dsimp only
      with_reducible refine wpQuiet_one ?gd (.slice a n c) ?q ?_
      case gd => rfl
      case q =>
        intro u hu
        with_reducible refine quietAt_ld 55 (.tmp 9) (.pointer (some ⟨b1, 0, none⟩)) (.slice a n c) ?h0 ?h1 ?h2
        case h0 => rfl
        case h1 => (repeat with_reducible refine (ev_ne _ _ _ _ (by decide)).trans ?_); with_reducible first | exact hA1 | exact ev_same _ _ _ (by (repeat with_reducible refine lt_put ?_); rw [hsz]; decide)
        case h2 => exact HLS.out u hu
      dsimp only
      with_reducible refine wpQuiet_one ?gd (.agg K.cells.toArray) ?q ?_
      case gd => rfl
      case q =>
        intro u hu
        with_reducible refine quietAt_call 39 Try.f39 ?h0 ?h1 ?h2 #[.tmp 10] #[55] ?h3 (.agg K.cells.toArray) #[(.slice a n c)] ?h4 ?h5
        case h0 => exact Try.func39
        case h1 => kernel_rfl
        case h2 => kernel_rfl
        case h3 => rfl
        case h4 => exact map1 _ _ _ (by (repeat with_reducible refine (ev_ne _ _ _ _ (by decide)).trans ?_); with_reducible first | exact hA1 | exact ev_same _ _ _ (by (repeat with_reducible refine lt_put ?_); rw [hsz]; decide))
        case h5 => exact (HLa.out u hu).mono fun e w' h => ⟨h.1, gtrans hu h.2⟩
      dsimp only
      with_reducible refine wpQuiet_one ?gd (.int .u64 (K.kid : Nat)) ?q ?_
      case gd => rfl
      case q =>
        intro u hu
        with_reducible refine quietAt_fd 107 (.tmp 11) 0 (.agg K.cells.toArray) (.int .u64 (K.kid : Nat)) ?h0 ?h1 ?h2
        case h0 => rfl
        case h1 => (repeat with_reducible refine (ev_ne _ _ _ _ (by decide)).trans ?_); with_reducible first | exact hA1 | exact ev_same _ _ _ (by (repeat with_reducible refine lt_put ?_); rw [hsz]; decide)
        case h2 => exact fd0 u
      dsimp only
      with_reducible refine wpQuiet_one ?gd (.bool true) ?q ?_
      case gd => rfl
      case q =>
        intro u hu
        with_reducible refine quietAt_bin .leq 67 (.tmp 8) (.tmp 12) 67 (.int .u64 (nx : Nat)) (.int .u64 (K.kid : Nat)) (.bool true) ?h0 ?h1 ?h2 ?h3
        case h0 => rfl
        case h1 => (repeat with_reducible refine (ev_ne _ _ _ _ (by decide)).trans ?_); with_reducible first | exact hA1 | exact ev_same _ _ _ (by (repeat with_reducible refine lt_put ?_); rw [hsz]; decide)
        case h2 => (repeat with_reducible refine (ev_ne _ _ _ _ (by decide)).trans ?_); with_reducible first | exact hA1 | exact ev_same _ _ _ (by (repeat with_reducible refine lt_put ?_); rw [hsz]; decide)
        case h3 => exact HLe.out _ _ u
      dsimp only
      with_reducible refine wpQuiet_one ?gd (.bool true) ?q ?_
      case gd => rfl
      case q =>
        intro u hu
        with_reducible refine quietAt_mv (.tmp 13) (.bool true) ?h0 ?h1
        case h0 => rfl
        case h1 => (repeat with_reducible refine (ev_ne _ _ _ _ (by decide)).trans ?_); with_reducible first | exact hA1 | exact ev_same _ _ _ (by (repeat with_reducible refine lt_put ?_); rw [hsz]; decide)
      dsimp only
      with_reducible refine wpQuiet_pass 7 false true 14 ?gd ?gb ?gv ?gc ?_
      case gd => rfl
      case gb => rfl
      case gv => (repeat with_reducible refine (ev_ne _ _ _ _ (by decide)).trans ?_); with_reducible first | exact hA1 | exact ev_same _ _ _ (by (repeat with_reducible refine lt_put ?_); rw [hsz]; decide)
      case gc => decide
      dsimp only
      with_reducible refine wpQuiet_pass 7 false true 14 ?gd ?gb ?gv ?gc ?_
      case gd => rfl
      case gb => rfl
      case gv => (repeat with_reducible refine (ev_ne _ _ _ _ (by decide)).trans ?_); with_reducible first | exact hA1 | exact ev_same _ _ _ (by (repeat with_reducible refine lt_put ?_); rw [hsz]; decide)
      case gc => decide
      dsimp only
      with_reducible refine wpQuiet_pass 7 false true 14 ?gd ?gb ?gv ?gc ?_
      case gd => rfl
      case gb => rfl
      case gv => (repeat with_reducible refine (ev_ne _ _ _ _ (by decide)).trans ?_); with_reducible first | exact hA1 | exact ev_same _ _ _ (by (repeat with_reducible refine lt_put ?_); rw [hsz]; decide)
      case gc => decide
      dsimp only
      with_reducible refine wpQuiet_one ?gd (.bool true) ?q ?_
      case gd => rfl
      case q =>
        intro u hu
        with_reducible refine quietAt_pick (.tmp 14) (.const (.bool true)) (.tmp 17) true (.bool true) ?h0 ?h1 ?h2
        case h0 => rfl
        case h1 => (repeat with_reducible refine (ev_ne _ _ _ _ (by decide)).trans ?_); with_reducible first | exact hA1 | exact ev_same _ _ _ (by (repeat with_reducible refine lt_put ?_); rw [hsz]; decide)
        case h2 => rw [if_pos rfl]; rfl
      dsimp only
      with_reducible refine wpQuiet_nil ?_
      intro u5 hu5
      rw [HAx.out]
      simp only [Act.put, List.setIfInBounds_toArray, List.set_cons_succ, List.set_cons_zero]
      clear HAx hA1 hsz
      go_wp2_with fail
      go_ret
      exact ⟨ret_int (by rw [← HR.out, HRi.out, decide_eq_false (show ¬ K.kid < nx by omega)]; rfl), gtrans HGa.out hu5⟩
    · have HLe : Hid (∀ (x y : Operand) (u : World), (do eqGuard .leq 67 x y (.int .u64 (nx : Nat)) (.int .u64 (K.kid : Nat)); binOp .leq 67 (.int .u64 (nx : Nat)) (.int .u64 (K.kid : Nat)) : Sem Value).run Try.prog u = .ok (.bool false) u) := fun x y u => by rw [leq_u64, decide_eq_false hle]
      by_cases hgt : 9223372036854775807 < nx
      · have HGt : Hid (∀ (x y : Operand) (u : World), (do eqGuard .gtr 67 x y (.int .u64 (nx : Nat)) (.int .u64 9223372036854775807); binOp .gtr 67 (.int .u64 (nx : Nat)) (.int .u64 9223372036854775807) : Sem Value).run Try.prog u = .ok (.bool true) u) := fun x y u => by have := gtr_u64 nx 9223372036854775807 (x := x) (y := y) u; rw [decide_eq_true hgt] at this; exact this
        refine wp_region_quietA (by kernel_rfl) (by kernel_rfl) (fun u => w2.grownBy u none) (gdrew1 w2 none) _ rfl ?_
        intro A hA
        have hA1 : A.eval (.tmp 1) = (.pointer (some ⟨b1, 0, none⟩)) := by rw [hA]; rfl
        have hsz : A.tmps.size = 19 := by rw [hA]; rfl
        have HAx := hid hA
        clear hA
        with_reducible refine wpQuiet_one ?gd (.pointer (some ⟨b1, 1, none⟩)) ?q ?_
        case gd => rfl
        case q =>
          intro u hu
          with_reducible refine quietAt_field 69 (.tmp 1) 1 ?h0 ⟨b1, 0, none⟩ ⟨b1, 1, none⟩ ?h1 ?h2
          case h0 => rfl
          case h1 => (repeat with_reducible refine (ev_ne _ _ _ _ (by decide)).trans ?_); with_reducible first | exact hA1 | exact ev_same _ _ _ (by (repeat with_reducible refine lt_put ?_); rw [hsz]; decide)
          case h2 => kernel_rfl
        dsimp only
        with_reducible refine wpQuiet_one ?gd (.int .u64 (nx : Nat)) ?q ?_
        case gd => rfl
        case q =>
          intro u hu
          with_reducible refine quietAt_ld 67 (.tmp 7) (.pointer (some ⟨b1, 1, none⟩)) (.int .u64 (nx : Nat)) ?h0 ?h1 ?h2
          case h0 => rfl
          case h1 => (repeat with_reducible refine (ev_ne _ _ _ _ (by decide)).trans ?_); with_reducible first | exact hA1 | exact ev_same _ _ _ (by (repeat with_reducible refine lt_put ?_); rw [hsz]; decide)
          case h2 => exact HLN.out u hu
        dsimp only
        with_reducible refine wpQuiet_one ?gd (.pointer (some ⟨b1, 0, none⟩)) ?q ?_
        case gd => rfl
        case q =>
          intro u hu
          with_reducible refine quietAt_field 69 (.tmp 1) 0 ?h0 ⟨b1, 0, none⟩ ⟨b1, 0, none⟩ ?h1 ?h2
          case h0 => rfl
          case h1 => (repeat with_reducible refine (ev_ne _ _ _ _ (by decide)).trans ?_); with_reducible first | exact hA1 | exact ev_same _ _ _ (by (repeat with_reducible refine lt_put ?_); rw [hsz]; decide)
          case h2 => kernel_rfl
        dsimp only
        with_reducible refine wpQuiet_one ?gd (.slice a n c) ?q ?_
        case gd => rfl
        case q =>
          intro u hu
          with_reducible refine quietAt_ld 55 (.tmp 9) (.pointer (some ⟨b1, 0, none⟩)) (.slice a n c) ?h0 ?h1 ?h2
          case h0 => rfl
          case h1 => (repeat with_reducible refine (ev_ne _ _ _ _ (by decide)).trans ?_); with_reducible first | exact hA1 | exact ev_same _ _ _ (by (repeat with_reducible refine lt_put ?_); rw [hsz]; decide)
          case h2 => exact HLS.out u hu
        dsimp only
        with_reducible refine wpQuiet_one ?gd (.agg K.cells.toArray) ?q ?_
        case gd => rfl
        case q =>
          intro u hu
          with_reducible refine quietAt_call 39 Try.f39 ?h0 ?h1 ?h2 #[.tmp 10] #[55] ?h3 (.agg K.cells.toArray) #[(.slice a n c)] ?h4 ?h5
          case h0 => exact Try.func39
          case h1 => kernel_rfl
          case h2 => kernel_rfl
          case h3 => rfl
          case h4 => exact map1 _ _ _ (by (repeat with_reducible refine (ev_ne _ _ _ _ (by decide)).trans ?_); with_reducible first | exact hA1 | exact ev_same _ _ _ (by (repeat with_reducible refine lt_put ?_); rw [hsz]; decide))
          case h5 => exact (HLa.out u hu).mono fun e w' h => ⟨h.1, gtrans hu h.2⟩
        dsimp only
        with_reducible refine wpQuiet_one ?gd (.int .u64 (K.kid : Nat)) ?q ?_
        case gd => rfl
        case q =>
          intro u hu
          with_reducible refine quietAt_fd 107 (.tmp 11) 0 (.agg K.cells.toArray) (.int .u64 (K.kid : Nat)) ?h0 ?h1 ?h2
          case h0 => rfl
          case h1 => (repeat with_reducible refine (ev_ne _ _ _ _ (by decide)).trans ?_); with_reducible first | exact hA1 | exact ev_same _ _ _ (by (repeat with_reducible refine lt_put ?_); rw [hsz]; decide)
          case h2 => exact fd0 u
        dsimp only
        with_reducible refine wpQuiet_one ?gd (.bool false) ?q ?_
        case gd => rfl
        case q =>
          intro u hu
          with_reducible refine quietAt_bin .leq 67 (.tmp 8) (.tmp 12) 67 (.int .u64 (nx : Nat)) (.int .u64 (K.kid : Nat)) (.bool false) ?h0 ?h1 ?h2 ?h3
          case h0 => rfl
          case h1 => (repeat with_reducible refine (ev_ne _ _ _ _ (by decide)).trans ?_); with_reducible first | exact hA1 | exact ev_same _ _ _ (by (repeat with_reducible refine lt_put ?_); rw [hsz]; decide)
          case h2 => (repeat with_reducible refine (ev_ne _ _ _ _ (by decide)).trans ?_); with_reducible first | exact hA1 | exact ev_same _ _ _ (by (repeat with_reducible refine lt_put ?_); rw [hsz]; decide)
          case h3 => exact HLe.out _ _ u
        dsimp only
        with_reducible refine wpQuiet_one ?gd (.bool false) ?q ?_
        case gd => rfl
        case q =>
          intro u hu
          with_reducible refine quietAt_mv (.tmp 13) (.bool false) ?h0 ?h1
          case h0 => rfl
          case h1 => (repeat with_reducible refine (ev_ne _ _ _ _ (by decide)).trans ?_); with_reducible first | exact hA1 | exact ev_same _ _ _ (by (repeat with_reducible refine lt_put ?_); rw [hsz]; decide)
        dsimp only
        with_reducible refine wpQuiet_want' 7 false 14 ?gd ?gb ?gv (.pointer (some ⟨b1, 1, none⟩)) ?q ?_
        case gd => rfl
        case gb => rfl
        case gv => (repeat with_reducible refine (ev_ne _ _ _ _ (by decide)).trans ?_); with_reducible first | exact hA1 | exact ev_same _ _ _ (by (repeat with_reducible refine lt_put ?_); rw [hsz]; decide)
        case q =>
          intro u hu
          with_reducible refine quietAt_field 69 (.tmp 1) 1 ?h0 ⟨b1, 0, none⟩ ⟨b1, 1, none⟩ ?h1 ?h2
          case h0 => rfl
          case h1 => (repeat with_reducible refine (ev_ne _ _ _ _ (by decide)).trans ?_); with_reducible first | exact hA1 | exact ev_same _ _ _ (by (repeat with_reducible refine lt_put ?_); rw [hsz]; decide)
          case h2 => kernel_rfl
        dsimp only
        with_reducible refine wpQuiet_want' 7 false 14 ?gd ?gb ?gv (.int .u64 (nx : Nat)) ?q ?_
        case gd => rfl
        case gb => rfl
        case gv => (repeat with_reducible refine (ev_ne _ _ _ _ (by decide)).trans ?_); with_reducible first | exact hA1 | exact ev_same _ _ _ (by (repeat with_reducible refine lt_put ?_); rw [hsz]; decide)
        case q =>
          intro u hu
          with_reducible refine quietAt_ld 67 (.tmp 15) (.pointer (some ⟨b1, 1, none⟩)) (.int .u64 (nx : Nat)) ?h0 ?h1 ?h2
          case h0 => rfl
          case h1 => (repeat with_reducible refine (ev_ne _ _ _ _ (by decide)).trans ?_); with_reducible first | exact hA1 | exact ev_same _ _ _ (by (repeat with_reducible refine lt_put ?_); rw [hsz]; decide)
          case h2 => exact HLN.out u hu
        dsimp only
        with_reducible refine wpQuiet_want' 7 false 14 ?gd ?gb ?gv (.bool true) ?q ?_
        case gd => rfl
        case gb => rfl
        case gv => (repeat with_reducible refine (ev_ne _ _ _ _ (by decide)).trans ?_); with_reducible first | exact hA1 | exact ev_same _ _ _ (by (repeat with_reducible refine lt_put ?_); rw [hsz]; decide)
        case q =>
          intro u hu
          with_reducible refine quietAt_bin .gtr 67 (.tmp 16) (.const (.int .u64 9223372036854775807)) 67 (.int .u64 (nx : Nat)) (.int .u64 9223372036854775807) (.bool true) ?h0 ?h1 ?h2 ?h3
          case h0 => rfl
          case h1 => (repeat with_reducible refine (ev_ne _ _ _ _ (by decide)).trans ?_); with_reducible first | exact hA1 | exact ev_same _ _ _ (by (repeat with_reducible refine lt_put ?_); rw [hsz]; decide)
          case h2 => rfl
          case h3 => exact HGt.out _ _ u
        dsimp only
        with_reducible refine wpQuiet_one ?gd (.bool true) ?q ?_
        case gd => rfl
        case q =>
          intro u hu
          with_reducible refine quietAt_pick (.tmp 14) (.const (.bool true)) (.tmp 17) false (.bool true) ?h0 ?h1 ?h2
          case h0 => rfl
          case h1 => (repeat with_reducible refine (ev_ne _ _ _ _ (by decide)).trans ?_); with_reducible first | exact hA1 | exact ev_same _ _ _ (by (repeat with_reducible refine lt_put ?_); rw [hsz]; decide)
          case h2 => rw [if_neg (by decide)]; (repeat with_reducible refine (ev_ne _ _ _ _ (by decide)).trans ?_); with_reducible first | exact hA1 | exact ev_same _ _ _ (by (repeat with_reducible refine lt_put ?_); rw [hsz]; decide)
        dsimp only
        with_reducible refine wpQuiet_nil ?_
        intro u5 hu5
        rw [HAx.out]
        simp only [Act.put, List.setIfInBounds_toArray, List.set_cons_succ, List.set_cons_zero]
        clear HAx hA1 hsz
        go_wp2_with fail
        go_ret
        exact ⟨ret_int (by rw [← HR.out, HRi.out, decide_eq_false (show ¬ nx ≤ 9223372036854775807 by omega), Bool.and_false]; rfl), gtrans HGa.out hu5⟩
      · have HGt : Hid (∀ (x y : Operand) (u : World), (do eqGuard .gtr 67 x y (.int .u64 (nx : Nat)) (.int .u64 9223372036854775807); binOp .gtr 67 (.int .u64 (nx : Nat)) (.int .u64 9223372036854775807) : Sem Value).run Try.prog u = .ok (.bool false) u) := fun x y u => by have := gtr_u64 nx 9223372036854775807 (x := x) (y := y) u; rw [decide_eq_false hgt] at this; exact this
        refine wp_region_quietA (by kernel_rfl) (by kernel_rfl) (fun u => w2.grownBy u none) (gdrew1 w2 none) _ rfl ?_
        intro A hA
        have hA1 : A.eval (.tmp 1) = (.pointer (some ⟨b1, 0, none⟩)) := by rw [hA]; rfl
        have hsz : A.tmps.size = 19 := by rw [hA]; rfl
        have HAx := hid hA
        clear hA
        with_reducible refine wpQuiet_one ?gd (.pointer (some ⟨b1, 1, none⟩)) ?q ?_
        case gd => rfl
        case q =>
          intro u hu
          with_reducible refine quietAt_field 69 (.tmp 1) 1 ?h0 ⟨b1, 0, none⟩ ⟨b1, 1, none⟩ ?h1 ?h2
          case h0 => rfl
          case h1 => (repeat with_reducible refine (ev_ne _ _ _ _ (by decide)).trans ?_); with_reducible first | exact hA1 | exact ev_same _ _ _ (by (repeat with_reducible refine lt_put ?_); rw [hsz]; decide)
          case h2 => kernel_rfl
        dsimp only
        with_reducible refine wpQuiet_one ?gd (.int .u64 (nx : Nat)) ?q ?_
        case gd => rfl
        case q =>
          intro u hu
          with_reducible refine quietAt_ld 67 (.tmp 7) (.pointer (some ⟨b1, 1, none⟩)) (.int .u64 (nx : Nat)) ?h0 ?h1 ?h2
          case h0 => rfl
          case h1 => (repeat with_reducible refine (ev_ne _ _ _ _ (by decide)).trans ?_); with_reducible first | exact hA1 | exact ev_same _ _ _ (by (repeat with_reducible refine lt_put ?_); rw [hsz]; decide)
          case h2 => exact HLN.out u hu
        dsimp only
        with_reducible refine wpQuiet_one ?gd (.pointer (some ⟨b1, 0, none⟩)) ?q ?_
        case gd => rfl
        case q =>
          intro u hu
          with_reducible refine quietAt_field 69 (.tmp 1) 0 ?h0 ⟨b1, 0, none⟩ ⟨b1, 0, none⟩ ?h1 ?h2
          case h0 => rfl
          case h1 => (repeat with_reducible refine (ev_ne _ _ _ _ (by decide)).trans ?_); with_reducible first | exact hA1 | exact ev_same _ _ _ (by (repeat with_reducible refine lt_put ?_); rw [hsz]; decide)
          case h2 => kernel_rfl
        dsimp only
        with_reducible refine wpQuiet_one ?gd (.slice a n c) ?q ?_
        case gd => rfl
        case q =>
          intro u hu
          with_reducible refine quietAt_ld 55 (.tmp 9) (.pointer (some ⟨b1, 0, none⟩)) (.slice a n c) ?h0 ?h1 ?h2
          case h0 => rfl
          case h1 => (repeat with_reducible refine (ev_ne _ _ _ _ (by decide)).trans ?_); with_reducible first | exact hA1 | exact ev_same _ _ _ (by (repeat with_reducible refine lt_put ?_); rw [hsz]; decide)
          case h2 => exact HLS.out u hu
        dsimp only
        with_reducible refine wpQuiet_one ?gd (.agg K.cells.toArray) ?q ?_
        case gd => rfl
        case q =>
          intro u hu
          with_reducible refine quietAt_call 39 Try.f39 ?h0 ?h1 ?h2 #[.tmp 10] #[55] ?h3 (.agg K.cells.toArray) #[(.slice a n c)] ?h4 ?h5
          case h0 => exact Try.func39
          case h1 => kernel_rfl
          case h2 => kernel_rfl
          case h3 => rfl
          case h4 => exact map1 _ _ _ (by (repeat with_reducible refine (ev_ne _ _ _ _ (by decide)).trans ?_); with_reducible first | exact hA1 | exact ev_same _ _ _ (by (repeat with_reducible refine lt_put ?_); rw [hsz]; decide))
          case h5 => exact (HLa.out u hu).mono fun e w' h => ⟨h.1, gtrans hu h.2⟩
        dsimp only
        with_reducible refine wpQuiet_one ?gd (.int .u64 (K.kid : Nat)) ?q ?_
        case gd => rfl
        case q =>
          intro u hu
          with_reducible refine quietAt_fd 107 (.tmp 11) 0 (.agg K.cells.toArray) (.int .u64 (K.kid : Nat)) ?h0 ?h1 ?h2
          case h0 => rfl
          case h1 => (repeat with_reducible refine (ev_ne _ _ _ _ (by decide)).trans ?_); with_reducible first | exact hA1 | exact ev_same _ _ _ (by (repeat with_reducible refine lt_put ?_); rw [hsz]; decide)
          case h2 => exact fd0 u
        dsimp only
        with_reducible refine wpQuiet_one ?gd (.bool false) ?q ?_
        case gd => rfl
        case q =>
          intro u hu
          with_reducible refine quietAt_bin .leq 67 (.tmp 8) (.tmp 12) 67 (.int .u64 (nx : Nat)) (.int .u64 (K.kid : Nat)) (.bool false) ?h0 ?h1 ?h2 ?h3
          case h0 => rfl
          case h1 => (repeat with_reducible refine (ev_ne _ _ _ _ (by decide)).trans ?_); with_reducible first | exact hA1 | exact ev_same _ _ _ (by (repeat with_reducible refine lt_put ?_); rw [hsz]; decide)
          case h2 => (repeat with_reducible refine (ev_ne _ _ _ _ (by decide)).trans ?_); with_reducible first | exact hA1 | exact ev_same _ _ _ (by (repeat with_reducible refine lt_put ?_); rw [hsz]; decide)
          case h3 => exact HLe.out _ _ u
        dsimp only
        with_reducible refine wpQuiet_one ?gd (.bool false) ?q ?_
        case gd => rfl
        case q =>
          intro u hu
          with_reducible refine quietAt_mv (.tmp 13) (.bool false) ?h0 ?h1
          case h0 => rfl
          case h1 => (repeat with_reducible refine (ev_ne _ _ _ _ (by decide)).trans ?_); with_reducible first | exact hA1 | exact ev_same _ _ _ (by (repeat with_reducible refine lt_put ?_); rw [hsz]; decide)
        dsimp only
        with_reducible refine wpQuiet_want' 7 false 14 ?gd ?gb ?gv (.pointer (some ⟨b1, 1, none⟩)) ?q ?_
        case gd => rfl
        case gb => rfl
        case gv => (repeat with_reducible refine (ev_ne _ _ _ _ (by decide)).trans ?_); with_reducible first | exact hA1 | exact ev_same _ _ _ (by (repeat with_reducible refine lt_put ?_); rw [hsz]; decide)
        case q =>
          intro u hu
          with_reducible refine quietAt_field 69 (.tmp 1) 1 ?h0 ⟨b1, 0, none⟩ ⟨b1, 1, none⟩ ?h1 ?h2
          case h0 => rfl
          case h1 => (repeat with_reducible refine (ev_ne _ _ _ _ (by decide)).trans ?_); with_reducible first | exact hA1 | exact ev_same _ _ _ (by (repeat with_reducible refine lt_put ?_); rw [hsz]; decide)
          case h2 => kernel_rfl
        dsimp only
        with_reducible refine wpQuiet_want' 7 false 14 ?gd ?gb ?gv (.int .u64 (nx : Nat)) ?q ?_
        case gd => rfl
        case gb => rfl
        case gv => (repeat with_reducible refine (ev_ne _ _ _ _ (by decide)).trans ?_); with_reducible first | exact hA1 | exact ev_same _ _ _ (by (repeat with_reducible refine lt_put ?_); rw [hsz]; decide)
        case q =>
          intro u hu
          with_reducible refine quietAt_ld 67 (.tmp 15) (.pointer (some ⟨b1, 1, none⟩)) (.int .u64 (nx : Nat)) ?h0 ?h1 ?h2
          case h0 => rfl
          case h1 => (repeat with_reducible refine (ev_ne _ _ _ _ (by decide)).trans ?_); with_reducible first | exact hA1 | exact ev_same _ _ _ (by (repeat with_reducible refine lt_put ?_); rw [hsz]; decide)
          case h2 => exact HLN.out u hu
        dsimp only
        with_reducible refine wpQuiet_want' 7 false 14 ?gd ?gb ?gv (.bool false) ?q ?_
        case gd => rfl
        case gb => rfl
        case gv => (repeat with_reducible refine (ev_ne _ _ _ _ (by decide)).trans ?_); with_reducible first | exact hA1 | exact ev_same _ _ _ (by (repeat with_reducible refine lt_put ?_); rw [hsz]; decide)
        case q =>
          intro u hu
          with_reducible refine quietAt_bin .gtr 67 (.tmp 16) (.const (.int .u64 9223372036854775807)) 67 (.int .u64 (nx : Nat)) (.int .u64 9223372036854775807) (.bool false) ?h0 ?h1 ?h2 ?h3
          case h0 => rfl
          case h1 => (repeat with_reducible refine (ev_ne _ _ _ _ (by decide)).trans ?_); with_reducible first | exact hA1 | exact ev_same _ _ _ (by (repeat with_reducible refine lt_put ?_); rw [hsz]; decide)
          case h2 => rfl
          case h3 => exact HGt.out _ _ u
        dsimp only
        with_reducible refine wpQuiet_one ?gd (.bool false) ?q ?_
        case gd => rfl
        case q =>
          intro u hu
          with_reducible refine quietAt_pick (.tmp 14) (.const (.bool true)) (.tmp 17) false (.bool false) ?h0 ?h1 ?h2
          case h0 => rfl
          case h1 => (repeat with_reducible refine (ev_ne _ _ _ _ (by decide)).trans ?_); with_reducible first | exact hA1 | exact ev_same _ _ _ (by (repeat with_reducible refine lt_put ?_); rw [hsz]; decide)
          case h2 => rw [if_neg (by decide)]; (repeat with_reducible refine (ev_ne _ _ _ _ (by decide)).trans ?_); with_reducible first | exact hA1 | exact ev_same _ _ _ (by (repeat with_reducible refine lt_put ?_); rw [hsz]; decide)
        dsimp only
        with_reducible refine wpQuiet_nil ?_
        intro u5 hu5
        rw [HAx.out]
        simp only [Act.put, List.setIfInBounds_toArray, List.set_cons_succ, List.set_cons_zero]
        clear HAx hA1 hsz
        go_wp2_with fail
        go_ret
        exact ⟨ret_int (by rw [← HR.out, HRi.out, decide_eq_true (show nx ≤ 9223372036854775807 by omega), decide_eq_true (show K.kid < nx by omega)]; rfl), gtrans HGa.out hu5⟩
end Go.Proofs.Ytmpcpakdocaieaa
