/- The walk of DigestExact. -/
import Derived.Test.YtmiojplbcjhggaaDoorRefC
import Derived.Test.YtmiojplbcjhggaaDoorRefE
import Derived.Test.YtmiojplbcjhggaaDoorSameB
namespace Go.Proofs.YtmiojplbcjhggaaDoor
open Go Go.RowKit
open Go.RowKit (wrap32 wrap64)

theorem neqG_32 (op : BinOp) (D E : List UInt8) {x y : Operand} (u : World) : (do eqGuard op 24 x y (.agg (Lib.byteCells D).toArray) (.agg (Lib.byteCells E).toArray); binOp op 24 (.agg (Lib.byteCells D).toArray) (.agg (Lib.byteCells E).toArray) : Sem Value).run Tryd.prog u = (binOp op 24 (.agg (Lib.byteCells D).toArray) (.agg (Lib.byteCells E).toArray)).run Tryd.prog u := by
  rw [Sem.run_bind, run_eqGuard_agg u op 24 x y _ _ (by kernel_rfl)]
  rfl
theorem neq_self (D : List UInt8) (hD : D.length = 32) (u : World) : (binOp .neq 24 (.agg (Lib.byteCells D).toArray) (.agg (Lib.byteCells D).toArray)).run Tryd.prog u = .ok (.bool false) u := by
  rw [neq_32 D D hD hD u]
  simp
theorem idx22 (b o n c i : Nat) (h : i < n) (u : World) : (Instr.indexAt 22 (.slice (some ⟨b, o, none⟩) n c) (.int .i64 (i : Nat))).run Tryd.prog u = .ok (.pointer (some ⟨b, o + i, none⟩)) u := by
  have h' : (i : Int) < (n : Int) := by omega
  go_simp
theorem ld23 (b i n c : Nat) (a : Option Addr) (u : World) (h : u.cell? ⟨b, i, none⟩ = some (.slice a n c)) : (Instr.loadAt 23 (.pointer (some ⟨b, i, none⟩))).run Tryd.prog u = .ok (.slice a n c) u := by
  go_simp
theorem wpList_bin {P : Program} {ops : Array Oper} {rest : List Oper} {o : Oper} {a : Act} {w : World} {Q : Exit → Act → World → Prop} (hgd : o.guard = none) (op : BinOp) (t : TypeId) (x y : Operand) (ty : TypeId) (ho : o.op = .binOp op t x y ty) (vx vy v : Value) (hx : a.eval x = vx) (hy : a.eval y = vy) (hr : (do eqGuard op t x y vx vy; binOp op t vx vy : Sem Value).run P w = .ok v w)
    (h : wpList P ops Q rest (a.put o.dst v) w) : wpList P ops Q (o :: rest) a w :=
  wpList_plain hgd fun _ hK => by
    subst hx hy
    unfold Oper.wp execOp
    simp only [ho]
    rw [Sem.run_bind, hr]
    exact hK _ _ h
set_option maxRecDepth 100000 in
set_option maxHeartbeats 1600000 in
theorem exact_walk (w : World) (a : Option Addr) (b o n c : Nat) (V : Nat → Value) (L : Nat → List UInt8) (hG : Glob w) (hn : n ≤ 140737488355328)
    (hA : RowsB w a b o n V L) :
    Calls Tryd.prog 3 #[.slice a n c] w fun e w' => e = .returned (.bool true) ∧ w.grownBy w' none := by
  have HWk : Hid (∀ u, w.grownBy u none → Calls Tryd.prog 15 #[] u fun e w' => e = .returned (.bool true) ∧ u.grownBy w' none) := fun u hu => wakes_any u (hG.keep hu)
  have HA : Hid (∀ u, w.grownBy u none → RowsB u a b o n V L) := fun u hu => hA.on hu
  have HGl : Hid (∀ u, w.grownBy u none → Glob u) := fun u hu => hG.keep hu
  obtain ⟨B0, HB0⟩ : ∃ x, Hid (w.heap.size = x) := ⟨_, hid rfl⟩
  clear hA hG
  go_enter Tryd.func3, Tryd.ntmps3
  go_wp2_with fail
  go_loopw [3, 4] (fun sv iv wr => ∃ (s i : Nat), sv = .int .i64 s ∧ iv = .int .i64 i ∧ i ≤ n ∧ Hid (s ≤ 1048576) ∧ Hid (w.grownBy wr none)) (fun _ iv _ => n - (intOf iv).toNat)
  case atStart => exact ⟨0, 0, rfl, rfl, Nat.zero_le _, hid (Nat.zero_le _), hid (grefl _ _)⟩
  case round =>
    obtain ⟨s, i, rfl, rfl, hi, HS20, HG⟩ := hrel
    by_cases hlt : i < n
    · have i1 : (i : Int) < (n : Int) := by omega
      obtain ⟨rfl, hb0⟩ := (HA.out w (grefl _ _)).1 (by omega)
      obtain ⟨-, r1, l1⟩ := (HA.out w (grefl _ _)).2 i hlt
      obtain ⟨a1, b1, o1, q1, e1, -⟩ := r1
      obtain ⟨X, HX⟩ : ∃ x, Hid (L i = x) := ⟨_, hid rfl⟩
      obtain ⟨N1, HN1⟩ : ∃ x, Hid ((L i).length = x) := ⟨_, hid rfl⟩
      rw [HN1.out] at e1 l1
      have HNX : Hid (X.length = N1) := hid (by rw [← HX.out]; exact HN1.out)
      have HL1 := hid l1
      have HB0l := hid hb0
      clear l1 hb0
      have HC : Hid (∀ u, w.grownBy u none → u.cell? ⟨b, o + i, none⟩ = some (.slice a1 N1 q1) ∧ b < u.heap.size) := fun u hu => ⟨by rw [← e1]; exact ((HA.out u hu).2 i hlt).1, ((HA.out u hu).1 (by omega)).2⟩
      have HR1 : Hid (∀ u, w.grownBy u none → Rd u (fun k => k < B0) (.slice a1 N1 q1) X) := fun u hu => by
        rw [← HX.out, ← e1, ← HB0.out]
        exact (((HA.out w (grefl _ _)).2 i hlt).2.1.mono (fun k hk _ => hk)).keep hu
      obtain ⟨T, hT⟩ : ∃ x : Int, (s : Int) = x := ⟨_, rfl⟩
      obtain ⟨Y, hY⟩ : ∃ x : Int, (N1 : Int) = x := ⟨_, rfl⟩
      have t0 : 0 ≤ T := by omega
      have t1 : T ≤ 1048576 := by have := HS20.out; omega
      have w0 : 0 ≤ Y := by omega
      have w1 : Y ≤ 140737488351232 := by have := HL1.out; omega
      obtain ⟨y0, y1⟩ := HC.out wr HG.out
      by_cases hbig : 1048576 < s + N1
      · have hb2 : (1048576 : Int) < T + Y := by omega
        clear hbig
        go_wp2_with (go_at_call 15; with_reducible refine (HWk.out _ HG.out).mono ?_; rintro e w9 ⟨rfl, hg9⟩; have HG9 := hid hg9; clear hg9)
        go_ret
        exact ⟨rfl, gtrans HG.out HG9.out⟩
      · have hb2 : ¬ (1048576 : Int) < T + Y := by omega
        have HBG := hid hbig
        have HN20 : Hid (N1 ≤ 1048576) := hid (by omega)
        clear hbig
        obtain ⟨S, HSe⟩ : ∃ S, Hid (Lib.byteCells (sumL X) = S) := ⟨_, hid rfl⟩
        have HSL : Hid (S.length = 32) := hid (by rw [← HSe.out, byteCells_length, sumL_length])
        have HS1 : Hid (∀ v ∈ S, v.oneCell' = true) := hid (by rw [← HSe.out]; exact bcs_one _)
        have HSr : Hid (∀ u, w.grownBy u none → Calls Tryd.prog 9 #[.slice a1 N1 q1] u fun e w' => e = .returned (.agg S.toArray) ∧ u.grownBy w' none) := fun u hu => by
          rw [← HSe.out]
          exact sumR_any u _ _ X (HR1.out u hu) (by rw [HNX.out]; have := HN20.out; omega)
        have HLe : Hid (∀ u, w.grownBy u none → Calls Tryd.prog 10 #[.slice a1 N1 q1] u fun e w' => ∃ v, e = .returned v ∧ LentW u.heap.size w' v X ∧ u.grownBy w' none) := fun u hu => lendW_any u _ _ _ (HR1.out u hu) (by rw [HNX.out]; exact HL1.out)
        have HNe : Hid (∀ (x y : Operand) (u : World), (do eqGuard .neq 24 x y (.agg S.toArray) (.agg S.toArray); binOp .neq 24 (.agg S.toArray) (.agg S.toArray) : Sem Value).run Tryd.prog u = .ok (.bool false) u) := fun x y u => by
          rw [← HSe.out, neqG_32]
          exact neq_self _ (sumL_length _) u
        go_wp2_with (first
          | (go_at_call 9; with_reducible refine (HSr.out _ HG.out).mono ?_; rintro e u1 ⟨rfl, hg1⟩; have HU1 := hid (gtrans HG.out hg1); clear hg1; obtain ⟨y0, y1⟩ := HC.out u1 HU1.out)
          | (refine wpList_alloc_row rfl 24 rfl y32 Tryd.zero24 ?_; intro u2 B2 s2 g2; have HB2 := hid B2; have HU2 := hid (gtrans HU1.out g2); have HS2 := hid s2; clear B2 g2 s2)
          | (refine wpList_store_all rfl 24 _ _ rfl _ y32 S 24 rfl rfl HB2.out (by rw [HSL.out]; rfl) (by rw [HSL.out]; exact Tryd.size24) HS1.out ?_; intro u3 B3 g3 s3; have HB3 := hid B3; have HU3 := hid (HU2.out.andThen g3 (fun j hj => .inl (by injection hj with hj; have := HU1.out.size; omega))); have HS3 := hid s3; clear B3 g3 s3; obtain ⟨y0, y1⟩ := HC.out u3 HU3.out)
          | (go_at_call 10; with_reducible refine (HLe.out _ HU3.out).mono ?_; rintro e u4 ⟨v4, rfl, hl4, hg4⟩; have HV4 := hid hl4; have HU4 := hid (gtrans HU3.out hg4); have HB4 := hid (HB3.out.keep hg4); clear hl4 hg4; obtain ⟨y0, y1⟩ := HC.out u4 HU4.out))
        obtain ⟨bw, hbw⟩ : ∃ x, u1.heap.size = x := ⟨_, rfl⟩
        have HBW0 : Hid (B0 ≤ bw) := hid (by rw [← hbw, ← HB0.out]; exact HU1.out.size)
        have HBW : Hid (bw < u3.heap.size) := hid (by rw [← hbw]; have := HS2.out; have := HS3.out; omega)
        rw [hbw] at HB4 ⊢
        clear hbw HB3 HB2 HS2 HS3 HU1 HU2 HSr HLe
        obtain ⟨bx, cx, rfl, hbx, hOx⟩ := HV4.out
        rw [HNX.out] at hOx ⊢
        have HOx := hid hOx
        have HBX : Hid (bw < bx ∧ B0 ≤ bx) := hid ⟨by have := HBW.out; omega, by have := HBW.out; have := HBW0.out; omega⟩
        have HV4r : Hid (LentW 0 u4 (.slice (some ⟨bx, 0, none⟩) N1 cx) X) := hid ⟨bx, cx, by rw [HNX.out], Nat.zero_le _, by rw [HNX.out]; exact HOx.out⟩
        clear hbx hOx HV4 HU3 HBW
        have HD11 : Hid (∀ u, u4.grownBy u none → Calls Tryd.prog 11 #[.slice (some ⟨bx, 0, none⟩) N1 cx] u fun e w' => e = .returned (.agg S.toArray) ∧ u.grownBy w' none) := fun u hu => by
          rw [← HSe.out]
          exact dsum_any u _ _ X ((HV4r.out.keep hu).lent.rd) (HGl.out u (gtrans HU4.out hu)) (by rw [HNX.out]; have := HN20.out; omega)
        have HI12 : Hid (∀ u, u4.grownBy u none → Calls Tryd.prog 12 #[.slice (some ⟨bx, 0, none⟩) N1 cx, .slice a1 N1 q1] u fun e w' => e = .returned (.bool true) ∧ u.grownBy w' none) := fun u hu => (intact_any u 0 _ _ _ X ((HV4r.out.keep hu).lent) (HR1.out u (gtrans HU4.out hu)) (by rw [HNX.out]; exact HL1.out)).mono (fun e w' ⟨he, m, hm⟩ => ⟨he, by rw [hm]; exact gdrew _ _ _⟩)
        have HBq : Hid (∀ u, u4.grownBy u none → Blk u bw S 24) := fun u hu => HB4.out.keep hu
        have HLD : Hid (∀ u, u4.grownBy u none → (Instr.loadAt 23 (.pointer (some ⟨b, o + i, none⟩))).run Tryd.prog u = .ok (.slice a1 N1 q1) u) := fun u hu => ld23 b (o + i) N1 q1 a1 u (HC.out u (gtrans HU4.out hu)).1
        have HIX : Hid (∀ u, (Instr.indexAt 22 (.slice (some ⟨b, o, none⟩) n c) (.int .i64 (i : Nat))).run Tryd.prog u = .ok (.pointer (some ⟨b, o + i, none⟩)) u) := fun u => idx22 b o n c i hlt u
        refine wp_region_quietA (by kernel_rfl) (by kernel_rfl) (fun u => u4.grownBy u none) (gdrew1 u4 none) _ rfl ?_
        intro A hA
        have hA0 : A.eval (.tmp 0) = (.slice (some ⟨b, o, none⟩) n c) := by rw [hA]; rfl
        have hA4 : A.eval (.tmp 4) = (.int .i64 (i : Nat)) := by rw [hA]; rfl
        have hA5 : A.eval (.tmp 5) = (.pointer (some ⟨bw, 0, none⟩)) := by rw [hA]; rfl
        have hA6 : A.eval (.tmp 6) = (.slice (some ⟨bx, 0, none⟩) N1 cx) := by rw [hA]; rfl
        have hsz : A.tmps.size = 76 := by rw [hA]; rfl
        have HAx := hid hA
        clear hA
        with_reducible refine wpQuiet_one ?gd (.slice (some ⟨bx, 0, none⟩) N1 cx) ?q ?_
        case gd => rfl
        case q =>
          intro u hu
          with_reducible refine quietAt_mv (.tmp 6) (.slice (some ⟨bx, 0, none⟩) N1 cx) ?h0 ?h1
          case h0 => rfl
          case h1 => (repeat with_reducible refine (ev_ne _ _ _ _ (by decide)).trans ?_); with_reducible first | exact hA0 | exact hA4 | exact hA5 | exact hA6 | exact ev_same _ _ _ (by (repeat with_reducible refine lt_put ?_); rw [hsz]; decide)
        dsimp only
        with_reducible refine wpQuiet_one ?gd (.agg S.toArray) ?q ?_
        case gd => rfl
        case q =>
          intro u hu
          with_reducible refine quietAt_call 11 Tryd.f11 ?h0 ?h1 ?h2 #[.tmp 33] #[23] ?h3 (.agg S.toArray) #[(.slice (some ⟨bx, 0, none⟩) N1 cx)] ?h4 ?h5
          case h0 => exact Tryd.func11
          case h1 => kernel_rfl
          case h2 => kernel_rfl
          case h3 => rfl
          case h4 => exact map1 _ _ _ (by (repeat with_reducible refine (ev_ne _ _ _ _ (by decide)).trans ?_); with_reducible first | exact hA0 | exact hA4 | exact hA5 | exact hA6 | exact ev_same _ _ _ (by (repeat with_reducible refine lt_put ?_); rw [hsz]; decide))
          case h5 => exact (HD11.out u hu).mono fun e w' h => ⟨h.1, gtrans hu h.2⟩
        dsimp only
        with_reducible refine wpQuiet_one ?gd (.agg S.toArray) ?q ?_
        case gd => rfl
        case q =>
          intro u hu
          with_reducible refine quietAt_load 24 (.tmp 5) ?h0 bw 0 S (.array 32 5) ?h1 ?h2 ?h3 ?h4 ?h5
          case h0 => rfl
          case h1 => (repeat with_reducible refine (ev_ne _ _ _ _ (by decide)).trans ?_); with_reducible first | exact hA0 | exact hA4 | exact hA5 | exact hA6 | exact ev_same _ _ _ (by (repeat with_reducible refine lt_put ?_); rw [hsz]; decide)
          case h2 => exact (HBq.out u hu).whole
          case h3 => exact Tryd.underlying24
          case h4 => rfl
          case h5 => rw [HSL.out]; exact Tryd.size24
        dsimp only
        with_reducible refine wpQuiet_one ?gd (.bool false) ?q ?_
        case gd => rfl
        case q =>
          intro u hu
          with_reducible refine quietAt_bin .neq 24 (.tmp 34) (.tmp 35) 24 (.agg S.toArray) (.agg S.toArray) (.bool false) ?h0 ?h1 ?h2 ?h3
          case h0 => rfl
          case h1 => (repeat with_reducible refine (ev_ne _ _ _ _ (by decide)).trans ?_); with_reducible first | exact hA0 | exact hA4 | exact hA5 | exact hA6 | exact ev_same _ _ _ (by (repeat with_reducible refine lt_put ?_); rw [hsz]; decide)
          case h2 => (repeat with_reducible refine (ev_ne _ _ _ _ (by decide)).trans ?_); with_reducible first | exact hA0 | exact hA4 | exact hA5 | exact hA6 | exact ev_same _ _ _ (by (repeat with_reducible refine lt_put ?_); rw [hsz]; decide)
          case h3 => exact HNe.out _ _ u
        dsimp only
        with_reducible refine wpQuiet_one ?gd (.bool false) ?q ?_
        case gd => rfl
        case q =>
          intro u hu
          with_reducible refine quietAt_mv (.tmp 36) (.bool false) ?h0 ?h1
          case h0 => rfl
          case h1 => (repeat with_reducible refine (ev_ne _ _ _ _ (by decide)).trans ?_); with_reducible first | exact hA0 | exact hA4 | exact hA5 | exact hA6 | exact ev_same _ _ _ (by (repeat with_reducible refine lt_put ?_); rw [hsz]; decide)
        dsimp only
        with_reducible refine wpQuiet_want' 4 false 37 ?gd ?gb ?gv (.slice (some ⟨bx, 0, none⟩) N1 cx) ?q ?_
        case gd => rfl
        case gb => rfl
        case gv => (repeat with_reducible refine (ev_ne _ _ _ _ (by decide)).trans ?_); with_reducible first | exact hA0 | exact hA4 | exact hA5 | exact hA6 | exact ev_same _ _ _ (by (repeat with_reducible refine lt_put ?_); rw [hsz]; decide)
        case q =>
          intro u hu
          with_reducible refine quietAt_mv (.tmp 6) (.slice (some ⟨bx, 0, none⟩) N1 cx) ?h0 ?h1
          case h0 => rfl
          case h1 => (repeat with_reducible refine (ev_ne _ _ _ _ (by decide)).trans ?_); with_reducible first | exact hA0 | exact hA4 | exact hA5 | exact hA6 | exact ev_same _ _ _ (by (repeat with_reducible refine lt_put ?_); rw [hsz]; decide)
        dsimp only
        with_reducible refine wpQuiet_want' 4 false 37 ?gd ?gb ?gv (.agg S.toArray) ?q ?_
        case gd => rfl
        case gb => rfl
        case gv => (repeat with_reducible refine (ev_ne _ _ _ _ (by decide)).trans ?_); with_reducible first | exact hA0 | exact hA4 | exact hA5 | exact hA6 | exact ev_same _ _ _ (by (repeat with_reducible refine lt_put ?_); rw [hsz]; decide)
        case q =>
          intro u hu
          with_reducible refine quietAt_call 11 Tryd.f11 ?h0 ?h1 ?h2 #[.tmp 38] #[23] ?h3 (.agg S.toArray) #[(.slice (some ⟨bx, 0, none⟩) N1 cx)] ?h4 ?h5
          case h0 => exact Tryd.func11
          case h1 => kernel_rfl
          case h2 => kernel_rfl
          case h3 => rfl
          case h4 => exact map1 _ _ _ (by (repeat with_reducible refine (ev_ne _ _ _ _ (by decide)).trans ?_); with_reducible first | exact hA0 | exact hA4 | exact hA5 | exact hA6 | exact ev_same _ _ _ (by (repeat with_reducible refine lt_put ?_); rw [hsz]; decide))
          case h5 => exact (HD11.out u hu).mono fun e w' h => ⟨h.1, gtrans hu h.2⟩
        dsimp only
        with_reducible refine wpQuiet_want' 4 false 37 ?gd ?gb ?gv (.agg S.toArray) ?q ?_
        case gd => rfl
        case gb => rfl
        case gv => (repeat with_reducible refine (ev_ne _ _ _ _ (by decide)).trans ?_); with_reducible first | exact hA0 | exact hA4 | exact hA5 | exact hA6 | exact ev_same _ _ _ (by (repeat with_reducible refine lt_put ?_); rw [hsz]; decide)
        case q =>
          intro u hu
          with_reducible refine quietAt_load 24 (.tmp 5) ?h0 bw 0 S (.array 32 5) ?h1 ?h2 ?h3 ?h4 ?h5
          case h0 => rfl
          case h1 => (repeat with_reducible refine (ev_ne _ _ _ _ (by decide)).trans ?_); with_reducible first | exact hA0 | exact hA4 | exact hA5 | exact hA6 | exact ev_same _ _ _ (by (repeat with_reducible refine lt_put ?_); rw [hsz]; decide)
          case h2 => exact (HBq.out u hu).whole
          case h3 => exact Tryd.underlying24
          case h4 => rfl
          case h5 => rw [HSL.out]; exact Tryd.size24
        dsimp only
        with_reducible refine wpQuiet_want' 4 false 37 ?gd ?gb ?gv (.bool false) ?q ?_
        case gd => rfl
        case gb => rfl
        case gv => (repeat with_reducible refine (ev_ne _ _ _ _ (by decide)).trans ?_); with_reducible first | exact hA0 | exact hA4 | exact hA5 | exact hA6 | exact ev_same _ _ _ (by (repeat with_reducible refine lt_put ?_); rw [hsz]; decide)
        case q =>
          intro u hu
          with_reducible refine quietAt_bin .neq 24 (.tmp 39) (.tmp 40) 24 (.agg S.toArray) (.agg S.toArray) (.bool false) ?h0 ?h1 ?h2 ?h3
          case h0 => rfl
          case h1 => (repeat with_reducible refine (ev_ne _ _ _ _ (by decide)).trans ?_); with_reducible first | exact hA0 | exact hA4 | exact hA5 | exact hA6 | exact ev_same _ _ _ (by (repeat with_reducible refine lt_put ?_); rw [hsz]; decide)
          case h2 => (repeat with_reducible refine (ev_ne _ _ _ _ (by decide)).trans ?_); with_reducible first | exact hA0 | exact hA4 | exact hA5 | exact hA6 | exact ev_same _ _ _ (by (repeat with_reducible refine lt_put ?_); rw [hsz]; decide)
          case h3 => exact HNe.out _ _ u
        dsimp only
        with_reducible refine wpQuiet_one ?gd (.bool false) ?q ?_
        case gd => rfl
        case q =>
          intro u hu
          with_reducible refine quietAt_pick (.tmp 37) (.const (.bool true)) (.tmp 41) false (.bool false) ?h0 ?h1 ?h2
          case h0 => rfl
          case h1 => (repeat with_reducible refine (ev_ne _ _ _ _ (by decide)).trans ?_); with_reducible first | exact hA0 | exact hA4 | exact hA5 | exact hA6 | exact ev_same _ _ _ (by (repeat with_reducible refine lt_put ?_); rw [hsz]; decide)
          case h2 => rw [if_neg (by decide)]; (repeat with_reducible refine (ev_ne _ _ _ _ (by decide)).trans ?_); with_reducible first | exact hA0 | exact hA4 | exact hA5 | exact hA6 | exact ev_same _ _ _ (by (repeat with_reducible refine lt_put ?_); rw [hsz]; decide)
        dsimp only
        with_reducible refine wpQuiet_one ?gd (.bool false) ?q ?_
        case gd => rfl
        case q =>
          intro u hu
          with_reducible refine quietAt_mv (.tmp 42) (.bool false) ?h0 ?h1
          case h0 => rfl
          case h1 => (repeat with_reducible refine (ev_ne _ _ _ _ (by decide)).trans ?_); with_reducible first | exact hA0 | exact hA4 | exact hA5 | exact hA6 | exact ev_same _ _ _ (by (repeat with_reducible refine lt_put ?_); rw [hsz]; decide)
        dsimp only
        with_reducible refine wpQuiet_want' 10 false 43 ?gd ?gb ?gv (.slice (some ⟨bx, 0, none⟩) N1 cx) ?q ?_
        case gd => rfl
        case gb => rfl
        case gv => (repeat with_reducible refine (ev_ne _ _ _ _ (by decide)).trans ?_); with_reducible first | exact hA0 | exact hA4 | exact hA5 | exact hA6 | exact ev_same _ _ _ (by (repeat with_reducible refine lt_put ?_); rw [hsz]; decide)
        case q =>
          intro u hu
          with_reducible refine quietAt_mv (.tmp 6) (.slice (some ⟨bx, 0, none⟩) N1 cx) ?h0 ?h1
          case h0 => rfl
          case h1 => (repeat with_reducible refine (ev_ne _ _ _ _ (by decide)).trans ?_); with_reducible first | exact hA0 | exact hA4 | exact hA5 | exact hA6 | exact ev_same _ _ _ (by (repeat with_reducible refine lt_put ?_); rw [hsz]; decide)
        dsimp only
        with_reducible refine wpQuiet_want' 10 false 43 ?gd ?gb ?gv (.slice (some ⟨b, o, none⟩) n c) ?q ?_
        case gd => rfl
        case gb => rfl
        case gv => (repeat with_reducible refine (ev_ne _ _ _ _ (by decide)).trans ?_); with_reducible first | exact hA0 | exact hA4 | exact hA5 | exact hA6 | exact ev_same _ _ _ (by (repeat with_reducible refine lt_put ?_); rw [hsz]; decide)
        case q =>
          intro u hu
          with_reducible refine quietAt_mv (.tmp 0) (.slice (some ⟨b, o, none⟩) n c) ?h0 ?h1
          case h0 => rfl
          case h1 => (repeat with_reducible refine (ev_ne _ _ _ _ (by decide)).trans ?_); with_reducible first | exact hA0 | exact hA4 | exact hA5 | exact hA6 | exact ev_same _ _ _ (by (repeat with_reducible refine lt_put ?_); rw [hsz]; decide)
        dsimp only
        with_reducible refine wpQuiet_want' 10 false 43 ?gd ?gb ?gv (.int .i64 (i : Nat)) ?q ?_
        case gd => rfl
        case gb => rfl
        case gv => (repeat with_reducible refine (ev_ne _ _ _ _ (by decide)).trans ?_); with_reducible first | exact hA0 | exact hA4 | exact hA5 | exact hA6 | exact ev_same _ _ _ (by (repeat with_reducible refine lt_put ?_); rw [hsz]; decide)
        case q =>
          intro u hu
          with_reducible refine quietAt_mv (.tmp 4) (.int .i64 (i : Nat)) ?h0 ?h1
          case h0 => rfl
          case h1 => (repeat with_reducible refine (ev_ne _ _ _ _ (by decide)).trans ?_); with_reducible first | exact hA0 | exact hA4 | exact hA5 | exact hA6 | exact ev_same _ _ _ (by (repeat with_reducible refine lt_put ?_); rw [hsz]; decide)
        dsimp only
        with_reducible refine wpQuiet_want' 10 false 43 ?gd ?gb ?gv (.pointer (some ⟨b, o + i, none⟩)) ?q ?_
        case gd => rfl
        case gb => rfl
        case gv => (repeat with_reducible refine (ev_ne _ _ _ _ (by decide)).trans ?_); with_reducible first | exact hA0 | exact hA4 | exact hA5 | exact hA6 | exact ev_same _ _ _ (by (repeat with_reducible refine lt_put ?_); rw [hsz]; decide)
        case q =>
          intro u hu
          with_reducible refine quietAt_idx 22 (.tmp 45) (.tmp 46) (.slice (some ⟨b, o, none⟩) n c) (.int .i64 (i : Nat)) (.pointer (some ⟨b, o + i, none⟩)) ?h0 ?h1 ?h2 ?h3
          case h0 => rfl
          case h1 => (repeat with_reducible refine (ev_ne _ _ _ _ (by decide)).trans ?_); with_reducible first | exact hA0 | exact hA4 | exact hA5 | exact hA6 | exact ev_same _ _ _ (by (repeat with_reducible refine lt_put ?_); rw [hsz]; decide)
          case h2 => (repeat with_reducible refine (ev_ne _ _ _ _ (by decide)).trans ?_); with_reducible first | exact hA0 | exact hA4 | exact hA5 | exact hA6 | exact ev_same _ _ _ (by (repeat with_reducible refine lt_put ?_); rw [hsz]; decide)
          case h3 => exact HIX.out u
        dsimp only
        with_reducible refine wpQuiet_want' 10 false 43 ?gd ?gb ?gv (.slice a1 N1 q1) ?q ?_
        case gd => rfl
        case gb => rfl
        case gv => (repeat with_reducible refine (ev_ne _ _ _ _ (by decide)).trans ?_); with_reducible first | exact hA0 | exact hA4 | exact hA5 | exact hA6 | exact ev_same _ _ _ (by (repeat with_reducible refine lt_put ?_); rw [hsz]; decide)
        case q =>
          intro u hu
          with_reducible refine quietAt_ld 23 (.tmp 47) (.pointer (some ⟨b, o + i, none⟩)) (.slice a1 N1 q1) ?h0 ?h1 ?h2
          case h0 => rfl
          case h1 => (repeat with_reducible refine (ev_ne _ _ _ _ (by decide)).trans ?_); with_reducible first | exact hA0 | exact hA4 | exact hA5 | exact hA6 | exact ev_same _ _ _ (by (repeat with_reducible refine lt_put ?_); rw [hsz]; decide)
          case h2 => exact HLD.out u hu
        dsimp only
        with_reducible refine wpQuiet_want' 10 false 43 ?gd ?gb ?gv (.bool true) ?q ?_
        case gd => rfl
        case gb => rfl
        case gv => (repeat with_reducible refine (ev_ne _ _ _ _ (by decide)).trans ?_); with_reducible first | exact hA0 | exact hA4 | exact hA5 | exact hA6 | exact ev_same _ _ _ (by (repeat with_reducible refine lt_put ?_); rw [hsz]; decide)
        case q =>
          intro u hu
          with_reducible refine quietAt_call 12 Tryd.f12 ?h0 ?h1 ?h2 #[.tmp 44, .tmp 48] #[23, 23] ?h3 (.bool true) #[(.slice (some ⟨bx, 0, none⟩) N1 cx), (.slice a1 N1 q1)] ?h4 ?h5
          case h0 => exact Tryd.func12
          case h1 => kernel_rfl
          case h2 => kernel_rfl
          case h3 => rfl
          case h4 => exact map2 _ _ _ _ _ (by (repeat with_reducible refine (ev_ne _ _ _ _ (by decide)).trans ?_); with_reducible first | exact hA0 | exact hA4 | exact hA5 | exact hA6 | exact ev_same _ _ _ (by (repeat with_reducible refine lt_put ?_); rw [hsz]; decide)) (by (repeat with_reducible refine (ev_ne _ _ _ _ (by decide)).trans ?_); with_reducible first | exact hA0 | exact hA4 | exact hA5 | exact hA6 | exact ev_same _ _ _ (by (repeat with_reducible refine lt_put ?_); rw [hsz]; decide))
          case h5 => exact (HI12.out u hu).mono fun e w' h => ⟨h.1, gtrans hu h.2⟩
        dsimp only
        with_reducible refine wpQuiet_want' 10 false 43 ?gd ?gb ?gv (.bool false) ?q ?_
        case gd => rfl
        case gb => rfl
        case gv => (repeat with_reducible refine (ev_ne _ _ _ _ (by decide)).trans ?_); with_reducible first | exact hA0 | exact hA4 | exact hA5 | exact hA6 | exact ev_same _ _ _ (by (repeat with_reducible refine lt_put ?_); rw [hsz]; decide)
        case q =>
          intro u hu
          with_reducible refine quietAt_un .not 4 (.tmp 49) (.bool true) (.bool false) ?h0 ?h1 ?h2
          case h0 => rfl
          case h1 => (repeat with_reducible refine (ev_ne _ _ _ _ (by decide)).trans ?_); with_reducible first | exact hA0 | exact hA4 | exact hA5 | exact hA6 | exact ev_same _ _ _ (by (repeat with_reducible refine lt_put ?_); rw [hsz]; decide)
          case h2 => rfl
        dsimp only
        with_reducible refine wpQuiet_one ?gd (.bool false) ?q ?_
        case gd => rfl
        case q =>
          intro u hu
          with_reducible refine quietAt_pick (.tmp 43) (.const (.bool true)) (.tmp 50) false (.bool false) ?h0 ?h1 ?h2
          case h0 => rfl
          case h1 => (repeat with_reducible refine (ev_ne _ _ _ _ (by decide)).trans ?_); with_reducible first | exact hA0 | exact hA4 | exact hA5 | exact hA6 | exact ev_same _ _ _ (by (repeat with_reducible refine lt_put ?_); rw [hsz]; decide)
          case h2 => rw [if_neg (by decide)]; (repeat with_reducible refine (ev_ne _ _ _ _ (by decide)).trans ?_); with_reducible first | exact hA0 | exact hA4 | exact hA5 | exact hA6 | exact ev_same _ _ _ (by (repeat with_reducible refine lt_put ?_); rw [hsz]; decide)
        dsimp only
        with_reducible refine wpQuiet_nil ?_
        intro u5 hu5
        rw [HAx.out]
        simp only [Act.put, List.setIfInBounds_toArray, List.set_cons_succ, List.set_cons_zero]
        clear HAx hA0 hA4 hA5 hA6 hsz HD11 HI12 HLD HBq
        have HU5 := hid (gtrans HU4.out hu5)
        have HOx5 := hid (HOx.out.keep hu5)
        have HB5 := hid (HB4.out.keep hu5)
        clear hu5 HOx HB4 HV4r HU4 y0 y1
        obtain ⟨y0, y1⟩ := HC.out u5 HU5.out
        have HOt : Hid (∀ u, w.grownBy u none → Calls Tryd.prog 13 #[.slice a1 N1 q1] u fun e w' => ∃ v, e = .returned v ∧ Hid (∃ l', l'.length = X.length ∧ Out u.heap.size w' v l' ∧ u.grownBy w' none)) := fun u hu => other_any u _ _ X (HR1.out u hu) (by rw [HNX.out]; exact HN20.out)
        have HInto : Hid (∀ (u : World) (v : Value) (F : Nat → Prop) (p q : List UInt8), p.length = N1 → q.length = N1 → ¬ F bx → Rd u F v q → Out bx u (.slice (some ⟨bx, 0, none⟩) (N1 + 70) cx) (p ++ mkL 70) → Calls Tryd.prog 14 #[.slice (some ⟨bx, 0, none⟩) N1 cx, v] u fun e w' => e = .returned (.tuple #[]) ∧ Out bx w' (.slice (some ⟨bx, 0, none⟩) (N1 + 70) cx) (q ++ mkL 70) ∧ u.grownBy w' (some bx)) := fun u v F p q hp hq hF hr ho => by
          have h := into_any u 0 bx cx v F p q (Nat.zero_le _) (by rw [hp]; exact ho) hr hF (by rw [hp, hq]) (by rw [hp]; exact HL1.out)
          rw [hp, hq] at h
          refine h.mono ?_
          rintro e w' ⟨he, ⟨b', c', hv, -, hO⟩, hg⟩
          injection hv with e1 e2 e3
          injection e1 with e1
          injection e1 with e1
          subst e1 e3
          rw [hq] at hO
          exact ⟨he, hO, hg⟩
        have HDs : Hid (∀ (u : World) (p : List UInt8) (T : List Value), p.length = N1 → Lib.byteCells (sumL p) = T → Out bx u (.slice (some ⟨bx, 0, none⟩) (N1 + 70) cx) (p ++ mkL 70) → w.grownBy u none → Calls Tryd.prog 11 #[.slice (some ⟨bx, 0, none⟩) N1 cx] u fun e w' => e = .returned (.agg T.toArray) ∧ u.grownBy w' none) := fun u p T hp hT ho hu => by
          have hL : LentW 0 u (.slice (some ⟨bx, 0, none⟩) N1 cx) p := ⟨bx, cx, by rw [hp], Nat.zero_le _, by rw [hp]; exact ho⟩
          rw [← hT]
          exact dsum_any u _ _ p hL.lent.rd (HGl.out u hu) (by rw [hp]; have := HN20.out; omega)
        have HSs : Hid (∀ (u : World) (v : Value) (F : Nat → Prop) (p : List UInt8) (T : List Value), p.length = N1 → Lib.byteCells (sumL p) = T → Rd u F v p → Calls Tryd.prog 9 #[v] u fun e w' => e = .returned (.agg T.toArray) ∧ u.grownBy w' none) := fun u v F p T hp hT hr => by
          rw [← hT]
          exact sumR_any u v F p hr (by rw [hp]; have := HN20.out; omega)
        have HNs : Hid (∀ (p : List UInt8) (T : List Value) (x y : Operand) (u : World), Lib.byteCells (sumL p) = T → (do eqGuard .neq 24 x y (.agg T.toArray) (.agg T.toArray); binOp .neq 24 (.agg T.toArray) (.agg T.toArray) : Sem Value).run Tryd.prog u = .ok (.bool false) u) := fun p T x y u hT => by
          rw [← hT, neqG_32]
          exact neq_self _ (sumL_length _) u
        have HBx5 : Hid (bx < u5.heap.size) := hid (World.ownsRow.lt HOx5.out bx rfl).2
        obtain ⟨M5, HM5⟩ : ∃ x, Hid (u5.heap.size = x) := ⟨_, hid rfl⟩
        rw [HM5.out] at HBx5
        go_wp2_with (first
          | (go_at_call 13; with_reducible refine (HOt.out _ HU5.out).mono ?_; rintro e u6 ⟨v6, rfl, HH6⟩; obtain ⟨l6, hl6, hO6, hg6⟩ := HH6.out; rw [HM5.out] at hO6; have HL6 : Hid (l6.length = N1) := hid (by rw [hl6]; exact HNX.out); have HO6 := hid hO6; have HU6 := hid (gtrans HU5.out hg6); have HOx6 := hid (HOx5.out.keep hg6); have HB6 := hid (HB5.out.keep hg6); clear hl6 hO6 hg6 HH6; obtain ⟨S6, HS6⟩ : ∃ S, Hid (Lib.byteCells (sumL l6) = S) := ⟨_, hid rfl⟩)
          | (have := HB6; go_at_call 14; with_reducible refine (HInto.out _ _ (fun g => M5 ≤ g) X l6 HNX.out HL6.out (by have := HBx5.out; omega) HO6.out.rd HOx6.out).mono ?_; rintro e u7 ⟨rfl, hO7, hg7⟩; have HOx7 := hid hO7; have HU7 := hid (HU6.out.andThen hg7 (fun j hj => .inl (by injection hj with hj; have := HBX.out; have := HB0.out; omega))); have HO7 := hid (HO6.out.on hg7 (fun j hj e => by injection hj with hj; have := HO6.out.block _ e; have := HBx5.out; omega)); have HB7 := hid (HB6.out.on hg7 (by simp; have := HBX.out; omega)); clear hO7 hg7; clear HB6 HOx6 HO6 HU6)
          | (go_at_call 11; with_reducible refine (HDs.out _ l6 S6 HL6.out HS6.out HOx7.out HU7.out).mono ?_; rintro e u8 ⟨rfl, hg8⟩; have HU8 := hid (gtrans HU7.out hg8); have HOx8 := hid (HOx7.out.keep hg8); have HO8 := hid (HO7.out.keep hg8); have HB8 := hid (HB7.out.keep hg8); clear hg8 HOx7 HO7 HB7 HU7)
          | (go_at_call 9; with_reducible refine (HSs.out _ _ _ l6 S6 HL6.out HS6.out HO8.out.rd).mono ?_; rintro e u9 ⟨rfl, hg9⟩; have HU9 := hid (gtrans HU8.out hg9); have HOx9 := hid (HOx8.out.keep hg9); have HB9 := hid (HB8.out.keep hg9); clear hg9 HOx8 HO8 HB8 HU8; obtain ⟨y0, y1⟩ := HC.out u9 HU9.out)
          | (with_reducible refine wpList_bin (by with_unfolding_all rfl) .neq 24 _ _ _ (by with_unfolding_all rfl) _ _ _ (by with_unfolding_all rfl) (by with_unfolding_all rfl) (HNs.out l6 S6 _ _ _ HS6.out) ?_)
          | (go_at_call 14; with_reducible refine (HInto.out _ _ (fun g => g < B0) l6 X HL6.out HNX.out (by have := HBX.out; omega) (HR1.out _ HU9.out) HOx9.out).mono ?_; rintro e u10 ⟨rfl, hO10, hg10⟩; have HOx10 := hid hO10; have HU10 := hid (HU9.out.andThen hg10 (fun j hj => .inl (by injection hj with hj; have := HBX.out; have := HB0.out; omega))); have HB10 := hid (HB9.out.on hg10 (by simp; have := HBX.out; omega)); clear hO10 hg10 HOx9 HB9))
        have HD11 : Hid (∀ u, u10.grownBy u none → Calls Tryd.prog 11 #[.slice (some ⟨bx, 0, none⟩) N1 cx] u fun e w' => e = .returned (.agg S.toArray) ∧ u.grownBy w' none) := fun u hu => HDs.out u X S HNX.out HSe.out (HOx10.out.keep hu) (gtrans HU10.out hu)
        have HBq : Hid (∀ u, u10.grownBy u none → Blk u bw S 24) := fun u hu => HB10.out.keep hu
        refine wp_region_quietA (by kernel_rfl) (by kernel_rfl) (fun u => u10.grownBy u none) (gdrew1 u10 none) _ rfl ?_
        intro A hA
        have hA5 : A.eval (.tmp 5) = (.pointer (some ⟨bw, 0, none⟩)) := by rw [hA]; rfl
        have hA6 : A.eval (.tmp 6) = (.slice (some ⟨bx, 0, none⟩) N1 cx) := by rw [hA]; rfl
        have hsz : A.tmps.size = 76 := by rw [hA]; rfl
        have HAx := hid hA
        clear hA
        with_reducible refine wpQuiet_one ?gd (.slice (some ⟨bx, 0, none⟩) N1 cx) ?q ?_
        case gd => rfl
        case q =>
          intro u hu
          with_reducible refine quietAt_mv (.tmp 6) (.slice (some ⟨bx, 0, none⟩) N1 cx) ?h0 ?h1
          case h0 => rfl
          case h1 => (repeat with_reducible refine (ev_ne _ _ _ _ (by decide)).trans ?_); with_reducible first | exact hA5 | exact hA6 | exact ev_same _ _ _ (by (repeat with_reducible refine lt_put ?_); rw [hsz]; decide)
        dsimp only
        with_reducible refine wpQuiet_one ?gd (.agg S.toArray) ?q ?_
        case gd => rfl
        case q =>
          intro u hu
          with_reducible refine quietAt_call 11 Tryd.f11 ?h0 ?h1 ?h2 #[.tmp 71] #[23] ?h3 (.agg S.toArray) #[(.slice (some ⟨bx, 0, none⟩) N1 cx)] ?h4 ?h5
          case h0 => exact Tryd.func11
          case h1 => kernel_rfl
          case h2 => kernel_rfl
          case h3 => rfl
          case h4 => exact map1 _ _ _ (by (repeat with_reducible refine (ev_ne _ _ _ _ (by decide)).trans ?_); with_reducible first | exact hA5 | exact hA6 | exact ev_same _ _ _ (by (repeat with_reducible refine lt_put ?_); rw [hsz]; decide))
          case h5 => exact (HD11.out u hu).mono fun e w' h => ⟨h.1, gtrans hu h.2⟩
        dsimp only
        with_reducible refine wpQuiet_one ?gd (.agg S.toArray) ?q ?_
        case gd => rfl
        case q =>
          intro u hu
          with_reducible refine quietAt_load 24 (.tmp 5) ?h0 bw 0 S (.array 32 5) ?h1 ?h2 ?h3 ?h4 ?h5
          case h0 => rfl
          case h1 => (repeat with_reducible refine (ev_ne _ _ _ _ (by decide)).trans ?_); with_reducible first | exact hA5 | exact hA6 | exact ev_same _ _ _ (by (repeat with_reducible refine lt_put ?_); rw [hsz]; decide)
          case h2 => exact (HBq.out u hu).whole
          case h3 => exact Tryd.underlying24
          case h4 => rfl
          case h5 => rw [HSL.out]; exact Tryd.size24
        dsimp only
        with_reducible refine wpQuiet_one ?gd (.bool false) ?q ?_
        case gd => rfl
        case q =>
          intro u hu
          with_reducible refine quietAt_bin .neq 24 (.tmp 72) (.tmp 73) 24 (.agg S.toArray) (.agg S.toArray) (.bool false) ?h0 ?h1 ?h2 ?h3
          case h0 => rfl
          case h1 => (repeat with_reducible refine (ev_ne _ _ _ _ (by decide)).trans ?_); with_reducible first | exact hA5 | exact hA6 | exact ev_same _ _ _ (by (repeat with_reducible refine lt_put ?_); rw [hsz]; decide)
          case h2 => (repeat with_reducible refine (ev_ne _ _ _ _ (by decide)).trans ?_); with_reducible first | exact hA5 | exact hA6 | exact ev_same _ _ _ (by (repeat with_reducible refine lt_put ?_); rw [hsz]; decide)
          case h3 => exact HNe.out _ _ u
        dsimp only
        with_reducible refine wpQuiet_nil ?_
        intro u11 hu11
        rw [HAx.out]
        simp only [Act.put, List.setIfInBounds_toArray, List.set_cons_succ, List.set_cons_zero]
        clear HAx hA5 hA6 hsz HD11 HBq
        have HU11 := hid (gtrans HU10.out hu11)
        clear hu11
        go_wp2_with fail
        go_roundw
        case rel => exact ⟨s + N1, i + 1, by rw [show ((s + N1 : Nat) : Int) = T + Y by omega], by go_num, by omega, hid (by have := HBG.out; omega), HU11⟩
        case measure => simp [intOf]; omega
    · have hge : ¬ (i : Int) < (n : Int) := by omega
      go_wp2_with (go_at_call 15; with_reducible refine (HWk.out _ HG.out).mono ?_; rintro e w9 ⟨rfl, hg9⟩; have HG9 := hid hg9; clear hg9)
      go_ret
      exact ⟨rfl, gtrans HG.out HG9.out⟩
end Go.Proofs.YtmiojplbcjhggaaDoor
