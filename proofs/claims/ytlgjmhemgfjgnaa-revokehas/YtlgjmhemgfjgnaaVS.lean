/- RevokeHas' walk. -/
import Derived.Test.YtlgjmhemgfjgnaaWD
namespace Go.Proofs.Ytlgjmhemgfjgnaa
open Go Go.RowKit
open Go.RowKit (wrap32 wrap64)

section
variable {P : Program} {ops : Array Oper} {S : World → Prop} {o : Oper} {a : Act}
theorem yieldsIf_mv (hw : Region.wanted o (yielded ops a.tmps) = true) (x : Operand) (ho : o.op = .move x) (v : Value) (hx : a.eval x = v) : YieldsIf P ops S o v a :=
  .inl ⟨hw, fun w _ => by
    unfold execOp
    simp only [ho, hx]
    rfl⟩
theorem yieldsIf_slice0 (hw : Region.wanted o (yielded ops a.tmps) = true) (t : TypeId) (x : Operand) (ho : o.op = .slice t x none none none) (vx v : Value) (hx : a.eval x = vx) (hr : ∀ u : World, (Instr.sliceAt t vx none none none).run P u = .ok v u) : YieldsIf P ops S o v a :=
  .inl ⟨hw, fun w _ => by
    subst hx
    unfold execOp
    simp only [ho, Option.map_none]
    rw [Sem.run_bind, hr]
    rfl⟩
theorem yieldsIf_bin (hw : Region.wanted o (yielded ops a.tmps) = true) (op : BinOp) (t : TypeId) (x y : Operand) (ty : TypeId) (ho : o.op = .binOp op t x y ty) (vx vy v : Value) (hx : a.eval x = vx) (hy : a.eval y = vy) (hr : ∀ u : World, (do eqGuard op t x y vx vy; binOp op t vx vy : Sem Value).run P u = .ok v u) : YieldsIf P ops S o v a :=
  .inl ⟨hw, fun w _ => by
    subst hx hy
    unfold execOp
    simp only [ho]
    rw [Sem.run_bind, hr]
    rfl⟩
theorem yieldsIf_pickf (hw : Region.wanted o (yielded ops a.tmps) = true) (c x y : Operand) (ho : o.op = .pick c x y) (hc : a.eval c = .bool false) (v : Value) (hy : a.eval y = v) : YieldsIf P ops S o v a :=
  .inl ⟨hw, fun w _ => by
    unfold execOp
    simp only [ho, hc, hy]
    rfl⟩
end
section
variable {P : Program} {ops : Array Oper} {S : World → Prop} {o : Oper} {a : Act}
theorem yieldsIf_idx (hw : Region.wanted o (yielded ops a.tmps) = true) (t : TypeId) (x i : Operand) (ho : o.op = .indexAddr t x i) (vx vi v : Value) (hx : a.eval x = vx) (hi : a.eval i = vi) (hr : ∀ u : World, (Instr.indexAt t vx vi).run P u = .ok v u) : YieldsIf P ops S o v a :=
  .inl ⟨hw, fun w _ => by
    subst hx hi
    unfold execOp
    simp only [ho]
    rw [Sem.run_bind, hr]
    rfl⟩
theorem yieldsIf_ld (hw : Region.wanted o (yielded ops a.tmps) = true) (t : TypeId) (x : Operand) (ho : o.op = .load t x) (vx v : Value) (hx : a.eval x = vx) (hr : ∀ u : World, S u → (Instr.loadAt t vx).run P u = .ok v u) : YieldsIf P ops S o v a :=
  .inl ⟨hw, fun w hS => by
    subst hx
    unfold execOp
    simp only [ho]
    rw [Sem.run_bind, hr w hS]
    rfl⟩
end
set_option maxRecDepth 100000 in
set_option maxHeartbeats 6400000 in
theorem has_walk (w : World) (a : Option Addr) (b o n c : Nat) (T : Nat → St) (hs : ArgS w a b o n T) (hn : n ≤ 140737488355328) :
    Calls Try.prog 3 #[.slice a n c] w fun e w' => e = .returned (.bool true) ∧ w.grownBy w' none := by
  have HS := hid hs
  have HA : Hid (0 < n → a = some ⟨b, o, none⟩) := hid (fun h => (hs.1 h).1)
  have HAd : Hid (∀ (u : World) (v : Value) (l : List Ky) (i : Nat), OutK 0 u v l → l.length ≤ 1000 → i < n → Calls Try.prog 6 #[v, .int .u64 (T i).g, .agg (Lib.byteCells (T i).id).toArray, .int .i64 (T i).ex] u fun e w' => ∃ v', e = .returned v' ∧ OutK 0 w' v' (addL l (T i).g (T i).id (T i).ex) ∧ u.grownBy w' none) := hid (fun u v l i h hl hi =>
    (add_any u v _ l _ _ _ h.rd (by omega) (hs.2 i hi).2.2.1 (hs.2 i hi).2.1 (hs.2 i hi).2.2.2.1).mono fun e w' ⟨v', he, ho, hg⟩ => ⟨v', he, ho.below (Nat.zero_le _), hg⟩)
  have HKl : Hid (∀ (u : World) (v : Value) (l : List Ky) (i : Nat), OutK 0 u v l → l.length ≤ 1000 → i < n → Calls Try.prog 8 #[v, .int .u64 (T i).g, .int .i64 (T i).ex] u fun e w' => ∃ v', e = .returned v' ∧ OutK 0 w' v' (killL l (T i).g (T i).ex) ∧ u.grownBy w' none) := hid (fun u v l i h hl hi =>
    (kill_any u v _ l _ _ h.rd (by omega) (hs.2 i hi).2.1 (hs.2 i hi).2.2.2.1).mono fun e w' ⟨v', he, ho, hg⟩ => ⟨v', he, ho.below (Nat.zero_le _), hg⟩)
  have HPr : Hid (∀ (u : World) (v : Value) (l : List Ky) (i : Nat), OutK 0 u v l → l.length ≤ 1000 → i < n → Calls Try.prog 10 #[v, .int .i64 (T i).ex] u fun e w' => ∃ v', e = .returned v' ∧ OutK 0 w' v' (prnL l (T i).ex) ∧ u.grownBy w' none) := hid (fun u v l i h hl hi =>
    (prune_any u v _ l _ h.rd (by omega)).mono fun e w' ⟨v', he, ho, hg⟩ => ⟨v', he, ho.below (Nat.zero_le _), hg⟩)
  have HAk : Hid (∀ (u : World) (v : Value) (m : List Ky) (i : Nat), OutN w.heap.size u v m → m.length ≤ 1000 → i < n → w.grownBy u none → Calls Try.prog 7 #[v, .agg (T i).cells.toArray] u fun e w' => ∃ v', e = .returned v' ∧ OutN w.heap.size w' v' (addK (T i).g (T i).id (T i).ex m) ∧ u.grownBy w' v.ownBlock) := hid (fun u v m i h hm hi hu => added_any u _ v m (T i) h (by omega) (hs.2 i hi).2 hu.size)
  have HKk : Hid (∀ (u : World) (v : Value) (m : List Ky) (i : Nat), OutN w.heap.size u v m → m.length ≤ 1000 → i < n → w.grownBy u none → Calls Try.prog 9 #[v, .agg (T i).cells.toArray] u fun e w' => ∃ v', e = .returned v' ∧ OutN w.heap.size w' v' (killK (T i).g (T i).ex m) ∧ u.grownBy w' none) := hid (fun u v m i h hm hi hu => (killed_any u _ v m (T i) h (by omega) (hs.2 i hi).2).mono fun e w' ⟨v', he, ho, hg⟩ => ⟨v', he, ho.below hu.size, hg⟩)
  have HCk : Hid (∀ (u : World) (v : Value) (l : List Ky), OutK 0 u v l → l.length ≤ 1000 → chk l = true → Calls Try.prog 12 #[v] u fun e w' => e = .returned (.int .i64 0) ∧ u.grownBy w' none) := hid (fun u v l h hl hc => by
    have := check_any u v _ l h.rd (by omega)
    rw [hc, if_pos rfl] at this
    exact this)
  have HHs : Hid (∀ (u : World) (v : Value) (l : List Ky) (i : Nat), OutK 0 u v l → l.length ≤ 1000 → i < n → Calls Try.prog 14 #[v, .int .u64 (T i).g, .agg (Lib.byteCells (T i).id).toArray] u fun e w' => e = .returned (.bool (hasL l (T i).g (T i).id)) ∧ u.grownBy w' none) := hid (fun u v l i h hl hi => has_any u v _ l _ _ h.rd (by omega) (hs.2 i hi).2.2.1)
  have HCv : Hid (∀ (u : World) (r : Ky) (i : Nat), r.id.length = 16 → i < n → Calls Try.prog 13 #[.agg r.cells.toArray, .int .u64 (T i).g, .agg (Lib.byteCells (T i).id).toArray] u fun e w' => e = .returned (.bool (cov r (T i).g (T i).id)) ∧ u.grownBy w' none) := hid (fun u r i hr hi => covers_any u r _ _ hr (hs.2 i hi).2.2.1)
  have HWk : Hid (∀ u : World, Calls Try.prog 15 #[] u fun e w' => e = .returned (.bool true) ∧ u.grownBy w' none) := hid (fun u => wakes_any u)
  clear hs
  go_enter Try.func3, Try.ntmps3
  go_wp2_with fail
  go_loopw [3, 4, 5] (fun lv mv iv wr => ∃ (i : Nat) (x y : Value) (l m : List Ky), x = lv ∧ y = mv ∧ iv = .int .i64 i ∧ i ≤ n ∧ i ≤ 150 ∧ Hid (OutK 0 wr x l) ∧ Hid (OutN w.heap.size wr y m) ∧ Hid (Hs i l m) ∧ Hid (w.grownBy wr none)) (fun _ _ iv _ => 150 - (intOf iv).toNat)
  case atStart => exact ⟨0, _, _, [], [], rfl, rfl, rfl, Nat.zero_le _, by decide, hid (OutK.nil _ _), hid (OutN.nil _ _), hid ⟨rfl, List.Perm.refl _, Nat.le_refl _⟩, hid (grefl _ _)⟩
  case round =>
    obtain ⟨i, lv, mv, l, m, rfl, rfl, rfl, hin, hi150, HL, HM, HH, HG⟩ := hrel
    by_cases hlt : i < n
    · have hlt' : (i : Int) < (n : Int) := by omega
      by_cases h150 : i < 150
      · have h150' : (i : Int) < 150 := by omega
        obtain rfl : a = some ⟨b, o, none⟩ := HA.out (by omega)
        have HRr := hid ((HS.out.keep HG.out).2 i hlt).1
        have hok := ((HS.out.keep HG.out).2 i hlt).2
        have HKs : Hid ((Try.prog.info? 29).map (·.size) = some (T i).cells.length) := hid (by rw [St.cells_length hok.2.1]; exact Try.size29)
        have HKl1 : Hid ((T i).cells.length = 20) := hid (St.cells_length hok.2.1)
        have HK1 : Hid (∀ v ∈ (T i).cells, v.oneCell' = true) := hid (St.one hok)
        obtain ⟨K, HKe⟩ : ∃ x, Hid ((T i).cells = x) := ⟨_, hid rfl⟩
        have HCc0 : Hid (∀ (u : World) (B : Nat), Blk u B (T i).cells 29 → u.cell? ⟨B, 0, none⟩ = some (.int .i64 (T i).dO) ∧ u.cell? ⟨B, 1, none⟩ = some (.int .u64 (T i).g) ∧ u.cell? ⟨B, 18, none⟩ = some (.int .i64 (T i).ex)) := hid (fun u B h => ⟨by rw [h.cell]; exact St.c0 _, by rw [h.cell]; exact St.c1 _, by rw [h.cell]; exact St.c18 hok.2.1⟩)
        have HIr : Hid (∀ (u : World) (B : Nat), Blk u B (T i).cells 29 → u.rangeAt B 2 (Lib.byteCells (T i).id)) := hid (fun u B h => by have := St.rid h.whole; rw [Nat.zero_add] at this; exact this)
        have HJL : Hid ((Try.prog.info? 27).map (·.size) = some (Lib.byteCells (T i).id).length) := hid (by rw [byteCells_length, hok.2.1]; exact Try.size27)
        have HI16 := hid hok.2.1
        have HLl : Hid (l.length ≤ 1000 ∧ m.length ≤ 1000) := hid (by have h1 := HH.out.n; have h2 := HH.out.len; omega)
        have HA1 : Hid (∀ u, OutK 0 u lv l → Calls Try.prog 6 #[lv, .int .u64 (T i).g, .agg (Lib.byteCells (T i).id).toArray, .int .i64 (T i).ex] u fun e w' => ∃ v', e = .returned v' ∧ OutK 0 w' v' (addL l (T i).g (T i).id (T i).ex) ∧ u.grownBy w' none) := hid (fun u h => HAd.out u lv l i h HLl.out.1 hlt)
        have HA2 : Hid (∀ u, OutN w.heap.size u mv m → w.grownBy u none → Calls Try.prog 7 #[mv, .agg (T i).cells.toArray] u fun e w' => ∃ v', e = .returned v' ∧ OutN w.heap.size w' v' (addK (T i).g (T i).id (T i).ex m) ∧ u.grownBy w' mv.ownBlock) := hid (fun u h hu => HAk.out u mv m i h HLl.out.2 hlt hu)
        have HB1 : Hid (∀ u, OutK 0 u lv l → Calls Try.prog 8 #[lv, .int .u64 (T i).g, .int .i64 (T i).ex] u fun e w' => ∃ v', e = .returned v' ∧ OutK 0 w' v' (killL l (T i).g (T i).ex) ∧ u.grownBy w' none) := hid (fun u h => HKl.out u lv l i h HLl.out.1 hlt)
        have HB2 : Hid (∀ u, OutN w.heap.size u mv m → w.grownBy u none → Calls Try.prog 9 #[mv, .agg (T i).cells.toArray] u fun e w' => ∃ v', e = .returned v' ∧ OutN w.heap.size w' v' (killK (T i).g (T i).ex m) ∧ u.grownBy w' none) := hid (fun u h hu => HKk.out u mv m i h HLl.out.2 hlt hu)
        have HC1 : Hid (∀ u, OutK 0 u lv l → Calls Try.prog 10 #[lv, .int .i64 (T i).ex] u fun e w' => ∃ v', e = .returned v' ∧ OutK 0 w' v' (prnL l (T i).ex) ∧ u.grownBy w' none) := hid (fun u h => HPr.out u lv l i h HLl.out.1 hlt)
        have HH3p : Hid (Hs (i + 1) (prnL l (T i).ex) (m.filter (fun r => decide (r.ex > (T i).ex)))) := hid (HH.out.prune _)
        have HH1 : Hid (Hs (i + 1) (addL l (T i).g (T i).id (T i).ex) (addK (T i).g (T i).id (T i).ex m)) := hid (HH.out.add HL.out.1 _ hok.2.1 _)
        have HH2 : Hid (Hs (i + 1) (killL l (T i).g (T i).ex) (killK (T i).g (T i).ex m)) := hid (HH.out.kill _ _)
        obtain ⟨D, hD⟩ : ∃ x, (T i).dO = x := ⟨_, rfl⟩
        obtain ⟨J, HJ⟩ : ∃ x, Hid (Lib.byteCells (T i).id = x) := ⟨_, hid rfl⟩
        obtain ⟨g, hg⟩ : ∃ x, (T i).g = x := ⟨_, rfl⟩
        obtain ⟨ex, hex⟩ : ∃ x, (T i).ex = x := ⟨_, rfl⟩
        rw [HKe.out, hD, hg, hex] at HCc0
        rw [HKe.out, HJ.out] at HIr
        rw [HJ.out] at HJL
        rw [hg, HJ.out, hex] at HA1
        rw [HKe.out, hg, hex] at HA2
        rw [hg, hex] at HB1 HH1 HH2
        rw [hex] at HC1 HH3p
        rw [HKe.out, hg, hex] at HB2
        rw [HKe.out] at HRr HKs HK1 HKl1
        clear hD hg hex hok
        go_upto_region 7 with (first
          | ((with_reducible refine wpList_store_all (by with_unfolding_all rfl) 29 _ _ (by with_unfolding_all rfl) _ zst.cells K 29 (by with_unfolding_all rfl) (by with_unfolding_all rfl) HZ2.out (by rw [HKl1.out]; with_unfolding_all rfl) HKs.out HK1.out ?_); intro w3 BB gg ss; have HX3 := hid BB; have y3 := HCc0.out _ _ BB; obtain ⟨y0, y1, y18⟩ := y3; have HG3 := hid (HG2.out.andThen gg (fun j hj => .inl (by injection hj with hj; omega))); clear BB gg ss)
          | ((with_reducible refine wpList_alloc_row (by with_unfolding_all rfl) 29 (by with_unfolding_all rfl) zst.cells Try.zero29 ?_); intro w2 BB ss gg; have HZ2 := hid BB; have HG2 := hid gg; clear BB ss gg)
          | (with_reducible refine wpList_load_part (by with_unfolding_all rfl) 29 _ (by with_unfolding_all rfl) b (o + i * 20) K _ (by with_unfolding_all rfl) HRr.out Try.underlying29 (by with_unfolding_all rfl) HKs.out ?_))
        have HGw := hid (gtrans HG.out HG3.out)
        have HL3 := hid (HL.out.keep HG3.out)
        have HM3 := hid (HM.out.keep HG3.out)
        obtain ⟨p6, hp6⟩ : ∃ x, wr.heap.size = x := ⟨_, rfl⟩
        rw [hp6] at HX3 y0 y1 y18
        simp only [hp6]
        clear hp6 HZ2 HG2 HAd HKl HAk HKk HKe
        go_upto_block 2 with fail
        go_cut [3, 4, 7, 8] from 12 to 133 (fun lv2 mv2 s7 s8 wc => ∃ (x y : Value) (l2 m2 : List Ky), x = lv2 ∧ y = mv2 ∧ Hid (OutK 0 wc x l2) ∧ Hid (OutN w.heap.size wc y m2) ∧ Hid (Hs (i + 1) l2 m2) ∧ Hid (w.grownBy wc none))
        case first =>
          by_cases h1 : D = 1
          · as_aux_lemma =>
            subst h1
            go_wp2_with (first
              | (with_reducible refine wpList_load_part (by with_unfolding_all rfl) 27 _ (by with_unfolding_all rfl) p6 2 J _ (by with_unfolding_all rfl) (HIr.out _ _ HX3.out) Try.underlying27 (by with_unfolding_all rfl) HJL.out ?_)
              | (with_reducible refine wpList_load_part (by with_unfolding_all rfl) 29 _ (by with_unfolding_all rfl) p6 0 K _ (by with_unfolding_all rfl) HX4.out.whole Try.underlying29 (by with_unfolding_all rfl) HKs.out ?_)
              | (go_at_call 6; (with_reducible refine (HA1.out _ HL3.out).mono ?_); rintro e w4 ⟨v4, rfl, ho, gg⟩; have HL4 := hid ho; have HM4 := hid (HM3.out.keep gg); have HX4 := hid (HX3.out.keep gg); have HG4 := hid (gtrans HGw.out gg); clear ho gg)
              | (go_at_call 7; (with_reducible refine (HA2.out _ HM4.out HG4.out).mono ?_); rintro e w5 ⟨v5, rfl, ho, gg⟩; have HM5 := hid ho; have HL5 := hid (HL4.out.on gg (fun j hj => apart HL4.out HM4.out j hj)); have HG5 := hid (HG4.out.andThen gg (fun j hj => .inl (HM4.out.block j hj))); clear ho gg))
            go_meet
            case rel => exact ⟨_, _, _, _, rfl, rfl, HL5, HM5, HH1, HG5⟩
          · have h1' : (D == 1) = false := beq_eq_false_iff_ne.2 h1
            by_cases h2 : D = 2
            · as_aux_lemma =>
              subst h2
              go_wp2_with (first
                | (with_reducible refine wpList_load_part (by with_unfolding_all rfl) 29 _ (by with_unfolding_all rfl) p6 0 K _ (by with_unfolding_all rfl) HX4.out.whole Try.underlying29 (by with_unfolding_all rfl) HKs.out ?_)
                | (go_at_call 8; (with_reducible refine (HB1.out _ HL3.out).mono ?_); rintro e w4 ⟨v4, rfl, ho, gg⟩; have HL4 := hid ho; have HM4 := hid (HM3.out.keep gg); have HX4 := hid (HX3.out.keep gg); have HG4 := hid (gtrans HGw.out gg); clear ho gg)
                | (go_at_call 9; (with_reducible refine (HB2.out _ HM4.out HG4.out).mono ?_); rintro e w5 ⟨v5, rfl, ho, gg⟩; have HM5 := hid ho; have HL5 := hid (HL4.out.keep gg); have HG5 := hid (gtrans HG4.out gg); clear ho gg))
              go_meet
              case rel => exact ⟨_, _, _, _, rfl, rfl, HL5, HM5, HH2, HG5⟩
            · have h2' : (D == 2) = false := beq_eq_false_iff_ne.2 h2
              by_cases h3 : D = 3
              · as_aux_lemma =>
                subst h3
                clear HA1 HA2 HB1 HB2 HH1 HH2 HIr HJL
                obtain ⟨ma, mn, mc, mg, mrest, rfl, hmn, hmA⟩ : ∃ ma mn mc mg mrest, mv = .slice ma mn mc ∧ m.length = mn ∧ (0 < mn → ma = some ⟨mg, 0, none⟩ ∧ Blk w3 mg (kcs m ++ mrest) 35) := by
                  rcases HM3.out.open with ⟨rfl, rfl⟩ | ⟨g', cap, rest, rfl, q1, q2, q3, q4, q5⟩
                  · exact ⟨none, 0, 0, 0, [], rfl, rfl, fun h => absurd h (Nat.lt_irrefl _)⟩
                  · exact ⟨_, _, _, g', rest, rfl, rfl, fun _ => ⟨rfl, q4⟩⟩
                have HMn := hid hmn
                have HMA := hid hmA
                have HMo := hid HM3.out.1
                have hm1 : (mn : Int) ≤ 1000 := by have := HLl.out.2; omega
                clear hmn hmA
                go_wp2_with (go_at_call 10; (with_reducible refine (HC1.out _ HL3.out).mono ?_); rintro e w4 ⟨v4, rfl, ho, gg⟩; have HL4 := hid ho; have HX4 := hid (HX3.out.keep gg); have HW4 := hid gg; have HG4 := hid (gtrans HGw.out gg); clear ho gg)
                have HNil : Hid (OutN w4.heap.size w4 (.slice none 0 0) ((m.take 0).filter (fun r => decide (r.ex > ex)))) := hid (by rw [List.take_zero, List.filter_nil]; exact OutN.nil _ _)
                go_loopw [7, 8] (fun sv kv wy => ∃ (k : Nat) (x : Value), x = sv ∧ kv = .int .i64 k ∧ k ≤ mn ∧ Hid (OutN w4.heap.size wy x ((m.take k).filter (fun r => decide (r.ex > ex)))) ∧ Hid (w4.grownBy wy none)) (fun _ kv _ => mn - (intOf kv).toNat)
                case atStart => exact ⟨0, _, rfl, rfl, Nat.zero_le _, HNil, hid (grefl _ _)⟩
                case round =>
                  obtain ⟨k, sv, rfl, rfl, hk, HW, HY⟩ := hrel
                  by_cases hkl : k < mn
                  · have hkl' : (k : Int) < (mn : Int) := by omega
                    obtain ⟨rfl, hblk⟩ := HMA.out (by omega)
                    have hkL : k < m.length := by rw [HMn.out]; exact hkl
                    have hrr := ((hblk.keep HW4.out).keep HY.out).elemT HMo.out k hkL
                    have hok := HMo.out _ (List.getElem_mem hkL)
                    have HTk : Hid ((m.take (k + 1)).filter (fun r => decide (r.ex > ex)) = if m[k].ex > ex then (m.take k).filter (fun r => decide (r.ex > ex)) ++ [m[k]] else (m.take k).filter (fun r => decide (r.ex > ex))) := hid (by
                      rw [List.take_succ_eq_append_getElem hkL, List.filter_append]
                      split
                      · rename_i h; rw [List.filter_cons_of_pos (by simpa using h), List.filter_nil]
                      · rename_i h; rw [List.filter_cons_of_neg (by simpa using h), List.filter_nil, List.append_nil])
                    have HFl : Hid (((m.take k).filter (fun r => decide (r.ex > ex))).length ≤ 1000) := hid (by
                      have h1 := List.length_filter_le (fun r : Ky => decide (r.ex > ex)) (m.take k)
                      have h2 := HLl.out.2
                      have h3 : (m.take k).length ≤ m.length := by rw [List.length_take]; omega
                      omega)
                    have ya : ∀ z, (wr.drewN z).cell? ⟨mg, k * 19 + 18, none⟩ = some (.int .i64 m[k].ex) := fun z => hrr 18 _ (Ky.c18 hok.2.1)
                    have yb : ∀ z, (wr.drewN z).cell? ⟨p6, 18, none⟩ = some (.int .i64 ex) := fun z => (HCc0.out _ p6 ((HX4.out.keep HY.out).keep (gdrew wr z none))).2.2
                    obtain ⟨q, hq⟩ : ∃ q, m[k] = q := ⟨_, rfl⟩
                    rw [hq] at hrr hok HTk ya
                    have HQ16 := hid hok.2.1
                    have HQo := hid hok
                    have HEm : Hid (∀ z, (wr.drewN z).rangeAt mg (k * 19) q.cells) := hid (fun z => hrr)
                    have HKq : Hid ((Try.prog.info? 35).map (·.size) = some q.cells.length) := hid (by rw [Ky.cells_length hok.2.1]; exact Try.size35)
                    obtain ⟨FL, HFe⟩ : ∃ x, Hid ((m.take k).filter (fun r => decide (r.ex > ex)) = x) := ⟨_, hid rfl⟩
                    rw [HFe.out] at HW HTk HFl
                    obtain ⟨qe, hqe⟩ : ∃ x, q.ex = x := ⟨_, rfl⟩
                    rw [hqe] at ya HTk
                    have HKk1 := hid (show k + 1 ≤ mn by omega)
                    clear hrr hok hq hqe HFe hkL hk hkl hblk
                    by_cases hqx : qe > ex
                    · have hqx' : ex < qe := hqx
                      have HTp : Hid ((m.take (k + 1)).filter (fun r => decide (r.ex > ex)) = FL ++ [q]) := hid (by rw [HTk.out, if_pos hqx])
                      clear HTk
                      go_wp2_with fail
                      go_quiet (fail)
                      go_wp2_with (first
                        | (with_reducible refine wpList_load_part (by with_unfolding_all rfl) 35 _ (by with_unfolding_all rfl) mg (k * 19) q.cells _ (by with_unfolding_all rfl) (HEm.out _) Try.under35 (by with_unfolding_all rfl) HKq.out ?_)
                        | ((with_reducible refine wpList_slice1N (by with_unfolding_all rfl) _ (by with_unfolding_all rfl) q HQ16.out (by with_unfolding_all rfl) ?_); intro z1 BB ss gg; have HZB := hid (one_rdN HQo.out BB (fun x => x = wr.heap.size) rfl); have HZ1 := hid (gtrans (gdrew _ _ none) gg); have HVz := hid (HW.out.keep HZ1.out); clear BB ss gg)
                        | (at_builtin; refine wpList_append_knowns rfl _ _ rfl w4.heap.size (fun x => x = wr.heap.size) FL [q] HVz.out HZB.out (by have := HFl.out; show FL.length + 1 ≤ _; omega) (Nat.le_trans HY.out.size HZ1.out.size) ?_; intro v5 z4 hO4 hg4; have HO4 := hid hO4; have HG5 := hid ((gtrans HY.out HZ1.out).andThen hg4 (fun j hj => .inl (HVz.out.block j hj))); clear hO4 hg4))
                      go_roundw
                      case rel => exact ⟨k + 1, v5, rfl, by go_num, HKk1.out, by rw [HTp.out]; exact HO4, HG5⟩
                      case measure => have := HKk1.out; simp [intOf]; omega
                    · have hqx' : ¬ ex < qe := hqx
                      have HTp : Hid ((m.take (k + 1)).filter (fun r => decide (r.ex > ex)) = FL) := hid (by rw [HTk.out, if_neg hqx])
                      clear HTk
                      go_wp2_with fail
                      go_quiet (fail)
                      go_wp2_with fail
                      go_roundw
                      case rel => exact ⟨k + 1, sv, rfl, by go_num, HKk1.out, by rw [HTp.out]; exact hid (HW.out.keep (gdrew _ _ _)), hid (gtrans HY.out (gdrew _ _ _))⟩
                      case measure => have := HKk1.out; simp [intOf]; omega
                  · have hkl' : ¬ (k : Int) < (mn : Int) := by omega
                    have HLf := hid (HL4.out.keep HY.out)
                    have HMf : Hid (OutN w.heap.size wr sv (m.filter (fun r => decide (r.ex > ex)))) := hid (by
                      have h := HW.out
                      rw [List.take_of_length_le (by rw [HMn.out]; omega)] at h
                      exact h.below HG4.out.size)
                    have HGf := hid (gtrans HG4.out HY.out)
                    go_wp2_with fail
                    go_meet
                    case rel => exact ⟨_, _, _, _, rfl, rfl, HLf, HMf, HH3p, HGf⟩
              · as_aux_lemma =>
                have h3' : (D == 3) = false := beq_eq_false_iff_ne.2 h3
                have HH3 := hid HH.out.skip
                go_wp2_with fail
                go_meet
                case rel => exact ⟨_, _, _, _, rfl, rfl, HL3, HM3, HH3, HGw⟩
        case rest =>
          obtain ⟨x, y, l2, m2, rfl, rfl, HL2, HM2, HH2, HG2⟩ := hcut
          clear HA1 HA2 HB1 HB2 HC1 HH1 HH3p HIr HJL HCc0 HX3 HL3 HM3 HL HM HH HGw HKs HK1 HKl1 HRr HG3 HG y0 y1 y18
          obtain ⟨xa, xc, rfl⟩ := HL2.out.form rfl
          obtain ⟨ma, mc, mg, mrest, rfl, hmA⟩ : ∃ ma mc mg mrest, y = .slice ma l2.length mc ∧ (0 < l2.length → ma = some ⟨mg, 0, none⟩ ∧ Blk wc mg (kcs m2 ++ mrest) 35) := by
            have hlen := HH2.out.len
            rcases HM2.out.open with ⟨rfl, rfl⟩ | ⟨g', cap, rest, rfl, q1, q2, q3, q4, q5⟩
            · rw [← hlen]; exact ⟨none, 0, 0, [], rfl, fun h => absurd h (Nat.lt_irrefl _)⟩
            · rw [← hlen]; exact ⟨_, _, g', rest, rfl, fun _ => ⟨rfl, q4⟩⟩
          have HMA := hid hmA
          have HMo := hid HM2.out.1
          have HLen : Hid (m2.length = l2.length) := hid HH2.out.len
          have HL1k : Hid (l2.length ≤ 1000) := hid (by have := HH2.out.n; omega)
          have HC2 : Hid (∀ u, OutK 0 u (.slice xa l2.length xc) l2 → Calls Try.prog 12 #[.slice xa l2.length xc] u fun e w' => e = .returned (.int .i64 0) ∧ u.grownBy w' none) := hid (fun u h => HCk.out u _ l2 h HL1k.out HH2.out.c)
          have HNu : Hid (∀ u : World, Calls Try.prog 11 #[.int .i64 0] u fun r w' => r = .returned (.int .i64 0) ∧ w' = u) := hid (fun u => num_any 0 u)
          have HHj : Hid (∀ (u : World) (j : Nat), wc.grownBy u none → j < n → Calls Try.prog 14 #[.slice xa l2.length xc, .int .u64 (T j).g, .agg (Lib.byteCells (T j).id).toArray] u fun e w' => e = .returned (.bool (m2.any (fun r => cov r (T j).g (T j).id))) ∧ u.grownBy w' none) := hid (fun u j hu hj => by
            have := HHs.out u _ l2 j (HL2.out.keep hu) HL1k.out hj
            rw [HH2.out.has] at this
            exact this)
          obtain ⟨ln, HLN⟩ : ∃ x, Hid (l2.length = x) := ⟨_, hid rfl⟩
          rw [HLN.out] at HMA HLen HC2 HHj HL2 HM2
          simp only [HLN.out]
          have hln : (ln : Int) ≤ 1000 := by have := HL1k.out; rw [HLN.out] at this; omega
          have hin' : (i : Int) + 1 ≤ (n : Int) := by omega
          have hi9 : (i : Int) ≤ 150 := by omega
          have HIn := hid (show i < n ∧ i + 1 ≤ 150 by omega)
          clear hmA HCk HHs hin hi150 hlt h150
          obtain ⟨w0, hw0⟩ : ∃ x, x = wc := ⟨_, rfl⟩
          subst hw0
          go_wp2_with (first
            | (go_at_call 12; (with_reducible refine (HC2.out _ HL2.out).mono ?_); rintro e w1 ⟨rfl, gg⟩; have HW1 := hid gg; clear gg)
            | (go_at_call 11; (with_reducible refine (HNu.out _).mono ?_); rintro e wn ⟨rfl, hwn⟩; have hwn' := hwn.symm; clear hwn; subst hwn'))
          go_loopw [9] (fun jv wr => ∃ j : Nat, jv = .int .i64 j ∧ j ≤ i + 1 ∧ Hid (w0.grownBy wr none)) (fun jv _ => i + 1 - (intOf jv).toNat)
          case atStart => exact ⟨0, rfl, Nat.zero_le _, HW1⟩
          case round =>
            obtain ⟨j, rfl, hj, HX⟩ := hrel
            by_cases hji : j ≤ i
            · have hji' : (j : Int) ≤ (i : Int) := by omega
              have hjn : j < n := by have := HIn.out; omega
              obtain ⟨wx, hwx⟩ : ∃ x, x = wr := ⟨_, rfl⟩
              subst hwx
              have HGx := hid (gtrans HG2.out HX.out)
              have HYg : Hid (∀ u, wx.grownBy u none → u.cell? ⟨b, o + j * 20 + 1, none⟩ = some (.int .u64 (T j).g)) := hid (fun u hu => ((HS.out.keep (gtrans HGx.out hu)).at_ j hjn).2.1)
              have HYi : Hid (∀ u, wx.grownBy u none → u.rangeAt b (o + j * 20 + 2) (Lib.byteCells (T j).id)) := hid (fun u hu => ((HS.out.keep (gtrans HGx.out hu)).at_ j hjn).2.2.2)
              have HJL : Hid ((Try.prog.info? 27).map (·.size) = some (Lib.byteCells (T j).id).length) := hid (by rw [byteCells_length, (HS.out.2 j hjn).2.2.1]; exact Try.size27)
              have HHq : Hid (∀ u, wx.grownBy u none → Calls Try.prog 14 #[.slice xa ln xc, .int .u64 (T j).g, .agg (Lib.byteCells (T j).id).toArray] u fun e w' => e = .returned (.bool (m2.any (fun r => cov r (T j).g (T j).id))) ∧ u.grownBy w' none) := hid (fun u hu => HHj.out u j (gtrans HX.out hu) hjn)
              have HCq : Hid (∀ (u : World) (r : Ky), r.id.length = 16 → Calls Try.prog 13 #[.agg r.cells.toArray, .int .u64 (T j).g, .agg (Lib.byteCells (T j).id).toArray] u fun e w' => e = .returned (.bool (cov r (T j).g (T j).id)) ∧ u.grownBy w' none) := hid (fun u r hr => HCv.out u r j hr hjn)
              obtain ⟨pc, hpc⟩ : ∃ p : Ky → Bool, p = (fun r => cov r (T j).g (T j).id) := ⟨_, rfl⟩
              have HPc : Hid (∀ r, cov r (T j).g (T j).id = pc r) := hid (fun r => by rw [hpc])
              rw [← hpc] at HHq
              have HCr : Hid (∀ (u : World) (r : Ky), r.id.length = 16 → Calls Try.prog 13 #[.agg r.cells.toArray, .int .u64 (T j).g, .agg (Lib.byteCells (T j).id).toArray] u fun e w' => e = .returned (.bool (pc r)) ∧ u.grownBy w' none) := hid (fun u r hr => by have := HCq.out u r hr; rw [HPc.out] at this; exact this)
              obtain ⟨gj, hgj⟩ : ∃ x, (T j).g = x := ⟨_, rfl⟩
              obtain ⟨J, HJ⟩ : ∃ x, Hid (Lib.byteCells (T j).id = x) := ⟨_, hid rfl⟩
              rw [hgj] at HYg HHq HCr
              rw [HJ.out] at HYi HJL HHq HCr
              have HJn := hid hjn
              have HJi := hid (show j + 1 ≤ i + 1 by omega)
              clear hpc hgj HCq HPc hj hji hjn HCv
              go_wp2_with fail
              go_loopw [10, 11] (fun bv kv wr => ∃ k : Nat, kv = .int .i64 k ∧ k ≤ ln ∧ bv = .bool ((m2.take k).any pc) ∧ Hid (wx.grownBy wr none)) (fun _ kv _ => ln - (intOf kv).toNat)
              case atStart => exact ⟨0, rfl, Nat.zero_le _, by rw [List.take_zero]; rfl, hid (grefl _ _)⟩
              case round =>
                obtain ⟨k, rfl, hk, rfl, HY⟩ := hrel
                by_cases hkl : k < ln
                · have hkl' : (k : Int) < (ln : Int) := by omega
                  obtain ⟨rfl, hblk⟩ := HMA.out (by omega)
                  have hkL : k < m2.length := by rw [HLen.out]; exact hkl
                  have HTk : Hid ((m2.take (k + 1)).any pc = ((m2.take k).any pc || pc m2[k])) := hid (by rw [List.take_succ_eq_append_getElem hkL, List.any_append]; simp)
                  have hok := HMo.out _ (List.getElem_mem hkL)
                  have HEl : Hid (∀ u, wr.grownBy u none → u.rangeAt mg (k * 19) m2[k].cells) := hid (fun u hu => ((hblk.keep HX.out).keep (gtrans HY.out hu)).elemT HMo.out k hkL)
                  have HKq : Hid ((Try.prog.info? 35).map (·.size) = some m2[k].cells.length) := hid (by rw [Ky.cells_length hok.2.1]; exact Try.size35)
                  have HCo := hid (fun u => HCr.out u m2[k] hok.2.1)
                  obtain ⟨W, hW⟩ : ∃ x, (m2.take k).any pc = x := ⟨_, rfl⟩
                  obtain ⟨C, hC⟩ : ∃ x, pc m2[k] = x := ⟨_, rfl⟩
                  obtain ⟨K, HK⟩ : ∃ x, Hid (m2[k].cells = x) := ⟨_, hid rfl⟩
                  rw [hW, hC] at HTk
                  rw [hW]
                  rw [hC, HK.out] at HCo
                  rw [HK.out] at HEl HKq
                  have HKn := hid hkl
                  clear hblk hkL hok hW hC HK hk hkl HHq HCr HHj
                  cases W with
                  | true =>
                    as_aux_lemma =>
                    have HTt : Hid ((m2.take (k + 1)).any pc = true) := hid (by rw [HTk.out]; rfl)
                    clear HTk
                    go_wp2_with fail
                    go_quiet (fail)
                    go_wp2_with fail
                    go_roundw
                    case rel => exact ⟨k + 1, by go_num, by have := HKn.out; omega, by rw [HTt.out], hid (gtrans HY.out (gdrew _ _ _))⟩
                    case measure => have := HKn.out; simp [intOf]; omega
                  | false =>
                    cases C with
                    | true =>
                      as_aux_lemma =>
                      have HTt : Hid ((m2.take (k + 1)).any pc = true) := hid (by rw [HTk.out]; rfl)
                      clear HTk
                      go_upto_region 32 with fail
                      refine wp_region_held_drew (S := fun v => wr.grownBy v none) (by kernel_rfl) ?_ (fun hHeld => ?_)
                      · exact gdrew _ _ _
                      refine wpAnyH_take (i := 0) (oi := { dst := some 102, op := Op.move (Operand.tmp 10), type := 4, pos := "outright.go:53", after := #[], guard := none }) (v := (.bool false)) rfl (by kernel_rfl) (by kernel_rfl) (by kernel_rfl) (fun _ _ _ h => h) (yieldsIf_mv rfl (.tmp 10) rfl _ rfl) (by assumption) ?_
                      (try simp only [Act.put, List.setIfInBounds_toArray, List.set_cons_zero, List.set_cons_succ])
                      refine wpAnyH_take (i := 1) (oi := { dst := some 103, op := Op.move (Operand.tmp 102), type := 4, pos := "outright.go:53", after := #[{ on := 0, ground := Ground.data }], guard := none }) (v := (.bool false)) rfl (by kernel_rfl) (by kernel_rfl) (by kernel_rfl) (fun _ _ _ h => h) (yieldsIf_mv rfl (.tmp 102) rfl _ rfl) (by assumption) ?_
                      (try simp only [Act.put, List.setIfInBounds_toArray, List.set_cons_zero, List.set_cons_succ])
                      refine wpAnyH_take (i := 2) (oi := { dst := some 104, op := Op.move (Operand.tmp 4), type := 24, pos := "outright.go:53", after := #[{ on := 1, ground := Ground.guard }], guard := some (1, false) }) (v := (.slice (some ⟨mg, 0, none⟩) ln mc)) rfl (by kernel_rfl) (by kernel_rfl) (by kernel_rfl) (fun _ _ _ h => h) (yieldsIf_mv rfl (.tmp 4) rfl _ rfl) (by assumption) ?_
                      (try simp only [Act.put, List.setIfInBounds_toArray, List.set_cons_zero, List.set_cons_succ])
                      refine wpAnyH_take (i := 3) (oi := { dst := some 105, op := Op.move (Operand.tmp 11), type := 3, pos := "outright.go:53", after := #[{ on := 1, ground := Ground.guard }], guard := some (1, false) }) (v := (.int .i64 (k : Nat))) rfl (by kernel_rfl) (by kernel_rfl) (by kernel_rfl) (fun _ _ _ h => h) (yieldsIf_mv rfl (.tmp 11) rfl _ rfl) (by assumption) ?_
                      (try simp only [Act.put, List.setIfInBounds_toArray, List.set_cons_zero, List.set_cons_succ])
                      refine wpAnyH_take (i := 4) (oi := { dst := some 106, op := Op.indexAddr 24 (Operand.tmp 104) (Operand.tmp 105), type := 0, pos := "outright.go:53", after := #[{ on := 2, ground := Ground.data }, { on := 3, ground := Ground.data }, { on := 1, ground := Ground.guard }], guard := some (1, false) }) (v := (.pointer (some ⟨mg, k * 19, none⟩))) rfl (by kernel_rfl) (by kernel_rfl) (by kernel_rfl) (fun _ _ _ h => h) (yieldsIf_idx rfl 24 (.tmp 104) (.tmp 105) rfl _ _ _ rfl rfl (idx24 mg ln mc k HKn.out)) (by assumption) ?_
                      (try simp only [Act.put, List.setIfInBounds_toArray, List.set_cons_zero, List.set_cons_succ])
                      refine wpAnyH_take (i := 5) (oi := { dst := some 107, op := Op.load 35 (Operand.tmp 106), type := 35, pos := "outright.go:53", after := #[{ on := 4, ground := Ground.data }, { on := 1, ground := Ground.guard }], guard := some (1, false) }) (v := (.agg K.toArray)) rfl (by kernel_rfl) (by kernel_rfl) (by kernel_rfl) (fun _ _ _ h => h) (yieldsIf_load_mid rfl 35 (.tmp 106) rfl mg (k * 19) rfl K (.struct (Try.prog.fieldsOf 35)) (fun u hu => HEl.out u hu) Try.under35 rfl HKq.out) (by assumption) ?_
                      (try simp only [Act.put, List.setIfInBounds_toArray, List.set_cons_zero, List.set_cons_succ])
                      refine wpAnyH_take (i := 6) (oi := { dst := some 108, op := Op.move (Operand.tmp 0), type := 22, pos := "outright.go:53", after := #[{ on := 1, ground := Ground.guard }], guard := some (1, false) }) (v := (.slice (some ⟨b, o, none⟩) n c)) rfl (by kernel_rfl) (by kernel_rfl) (by kernel_rfl) (fun _ _ _ h => h) (yieldsIf_mv rfl (.tmp 0) rfl _ rfl) (by assumption) ?_
                      (try simp only [Act.put, List.setIfInBounds_toArray, List.set_cons_zero, List.set_cons_succ])
                      refine wpAnyH_take (i := 7) (oi := { dst := some 109, op := Op.move (Operand.tmp 9), type := 3, pos := "outright.go:53", after := #[{ on := 1, ground := Ground.guard }], guard := some (1, false) }) (v := (.int .i64 (j : Nat))) rfl (by kernel_rfl) (by kernel_rfl) (by kernel_rfl) (fun _ _ _ h => h) (yieldsIf_mv rfl (.tmp 9) rfl _ rfl) (by assumption) ?_
                      (try simp only [Act.put, List.setIfInBounds_toArray, List.set_cons_zero, List.set_cons_succ])
                      refine wpAnyH_take (i := 8) (oi := { dst := some 110, op := Op.indexAddr 22 (Operand.tmp 108) (Operand.tmp 109), type := 0, pos := "outright.go:53", after := #[{ on := 6, ground := Ground.data }, { on := 7, ground := Ground.data }, { on := 1, ground := Ground.guard }], guard := some (1, false) }) (v := (.pointer (some ⟨b, o + j * 20, none⟩))) rfl (by kernel_rfl) (by kernel_rfl) (by kernel_rfl) (fun _ _ _ h => h) (yieldsIf_idx rfl 22 (.tmp 108) (.tmp 109) rfl _ _ _ rfl rfl (idx22 b o n c j HJn.out)) (by assumption) ?_
                      (try simp only [Act.put, List.setIfInBounds_toArray, List.set_cons_zero, List.set_cons_succ])
                      refine wpAnyH_take (i := 9) (oi := { dst := some 111, op := Op.fieldAddr 29 (Operand.tmp 110) 1, type := 0, pos := "outright.go:53", after := #[{ on := 8, ground := Ground.data }, { on := 1, ground := Ground.guard }], guard := some (1, false) }) (v := (.pointer (some ⟨b, o + j * 20 + 1, none⟩))) rfl (by kernel_rfl) (by kernel_rfl) (by kernel_rfl) (fun _ _ _ h => h) (Or.inl ⟨by rfl, by intro u hSu; go_simp⟩) (by assumption) ?_
                      (try simp only [Act.put, List.setIfInBounds_toArray, List.set_cons_zero, List.set_cons_succ])
                      refine wpAnyH_take (i := 10) (oi := { dst := some 112, op := Op.load 25 (Operand.tmp 111), type := 25, pos := "outright.go:53", after := #[{ on := 9, ground := Ground.data }, { on := 1, ground := Ground.guard }], guard := some (1, false) }) (v := (.int .u64 (gj : Nat))) rfl (by kernel_rfl) (by kernel_rfl) (by kernel_rfl) (fun _ _ _ h => h) (yieldsIf_ld rfl 25 (.tmp 111) rfl _ _ rfl (fun u hu => ld25 b (o + j * 20 + 1) gj u (HYg.out u (gtrans HY.out hu)))) (by assumption) ?_
                      (try simp only [Act.put, List.setIfInBounds_toArray, List.set_cons_zero, List.set_cons_succ])
                      refine wpAnyH_take (i := 11) (oi := { dst := some 113, op := Op.move (Operand.tmp 0), type := 22, pos := "outright.go:53", after := #[{ on := 1, ground := Ground.guard }], guard := some (1, false) }) (v := (.slice (some ⟨b, o, none⟩) n c)) rfl (by kernel_rfl) (by kernel_rfl) (by kernel_rfl) (fun _ _ _ h => h) (yieldsIf_mv rfl (.tmp 0) rfl _ rfl) (by assumption) ?_
                      (try simp only [Act.put, List.setIfInBounds_toArray, List.set_cons_zero, List.set_cons_succ])
                      refine wpAnyH_take (i := 12) (oi := { dst := some 114, op := Op.move (Operand.tmp 9), type := 3, pos := "outright.go:53", after := #[{ on := 1, ground := Ground.guard }], guard := some (1, false) }) (v := (.int .i64 (j : Nat))) rfl (by kernel_rfl) (by kernel_rfl) (by kernel_rfl) (fun _ _ _ h => h) (yieldsIf_mv rfl (.tmp 9) rfl _ rfl) (by assumption) ?_
                      (try simp only [Act.put, List.setIfInBounds_toArray, List.set_cons_zero, List.set_cons_succ])
                      refine wpAnyH_take (i := 13) (oi := { dst := some 115, op := Op.indexAddr 22 (Operand.tmp 113) (Operand.tmp 114), type := 0, pos := "outright.go:53", after := #[{ on := 11, ground := Ground.data }, { on := 12, ground := Ground.data }, { on := 1, ground := Ground.guard }], guard := some (1, false) }) (v := (.pointer (some ⟨b, o + j * 20, none⟩))) rfl (by kernel_rfl) (by kernel_rfl) (by kernel_rfl) (fun _ _ _ h => h) (yieldsIf_idx rfl 22 (.tmp 113) (.tmp 114) rfl _ _ _ rfl rfl (idx22 b o n c j HJn.out)) (by assumption) ?_
                      (try simp only [Act.put, List.setIfInBounds_toArray, List.set_cons_zero, List.set_cons_succ])
                      refine wpAnyH_take (i := 14) (oi := { dst := some 116, op := Op.fieldAddr 29 (Operand.tmp 115) 2, type := 0, pos := "outright.go:53", after := #[{ on := 13, ground := Ground.data }, { on := 1, ground := Ground.guard }], guard := some (1, false) }) (v := (.pointer (some ⟨b, o + j * 20 + 2, none⟩))) rfl (by kernel_rfl) (by kernel_rfl) (by kernel_rfl) (fun _ _ _ h => h) (Or.inl ⟨by rfl, by intro u hSu; go_simp⟩) (by assumption) ?_
                      (try simp only [Act.put, List.setIfInBounds_toArray, List.set_cons_zero, List.set_cons_succ])
                      refine wpAnyH_take (i := 15) (oi := { dst := some 117, op := Op.load 27 (Operand.tmp 116), type := 27, pos := "outright.go:53", after := #[{ on := 14, ground := Ground.data }, { on := 1, ground := Ground.guard }], guard := some (1, false) }) (v := (.agg J.toArray)) rfl (by kernel_rfl) (by kernel_rfl) (by kernel_rfl) (fun _ _ _ h => h) (yieldsIf_load_mid rfl 27 (.tmp 116) rfl b (o + j * 20 + 2) rfl J (.array 16 5) (fun u hu => HYi.out u (gtrans HY.out hu)) (by kernel_rfl) rfl HJL.out) (by assumption) ?_
                      (try simp only [Act.put, List.setIfInBounds_toArray, List.set_cons_zero, List.set_cons_succ])
                      refine wpAnyH_ready (rs := [16]) (by kernel_rfl) (by simp) ?_
                      refine AllReadyH.cons rfl (fun K hK => ?_) AllReadyH.nil
                      go_simp
                      refine (HCo.out _).mono ?_
                      rintro e uz ⟨rfl, hgz⟩
                      have HUz := hid (gtrans hHeld hgz)
                      clear hgz
                      refine hK.out _ _ ?_ (fun hHeld => ?_)
                      · exact HUz.out
                      clear hK K
                      (try simp only [Act.put, List.setIfInBounds_toArray, List.set_cons_zero, List.set_cons_succ])
                      refine wpAnyH_take (i := 17) (oi := { dst := some 119, op := Op.pick (Operand.tmp 103) (Operand.const (Value.bool true)) (Operand.tmp 118), type := 4, pos := "outright.go:53", after := #[{ on := 1, ground := Ground.data }, { on := 16, ground := Ground.data }], guard := none }) (v := (.bool true)) rfl (by kernel_rfl) (by kernel_rfl) (by kernel_rfl) (fun _ _ _ h => h) (yieldsIf_pickf rfl (.tmp 103) (.const (.bool true)) (.tmp 118) rfl rfl _ rfl) (by assumption) ?_
                      (try simp only [Act.put, List.setIfInBounds_toArray, List.set_cons_zero, List.set_cons_succ])
                      refine wpAnyH_ready (rs := [18]) (by kernel_rfl) (by simp) ?_
                      refine AllReadyH.cons rfl (fun K hK => ?_) AllReadyH.nil
                      go_simp
                      refine hK.out _ _ ?_ (fun hHeld => ?_)
                      · exact HUz.out
                      clear hK K
                      (try simp only [Act.put, List.setIfInBounds_toArray, List.set_cons_zero, List.set_cons_succ])
                      refine wpAnyH_done (by kernel_rfl) ?_ _
                      have HVz := hid (gtrans HY.out HUz.out)
                      clear HUz
                      go_wp2_with fail
                      go_roundw
                      case rel => exact ⟨k + 1, by go_num, by have := HKn.out; omega, by rw [HTt.out], HVz⟩
                      case measure => have := HKn.out; simp [intOf]; omega
                    | false =>
                      as_aux_lemma =>
                      have HTt : Hid ((m2.take (k + 1)).any pc = false) := hid (by rw [HTk.out]; rfl)
                      clear HTk
                      go_upto_region 32 with fail
                      refine wp_region_held_drew (S := fun v => wr.grownBy v none) (by kernel_rfl) ?_ (fun hHeld => ?_)
                      · exact gdrew _ _ _
                      refine wpAnyH_take (i := 0) (oi := { dst := some 102, op := Op.move (Operand.tmp 10), type := 4, pos := "outright.go:53", after := #[], guard := none }) (v := (.bool false)) rfl (by kernel_rfl) (by kernel_rfl) (by kernel_rfl) (fun _ _ _ h => h) (yieldsIf_mv rfl (.tmp 10) rfl _ rfl) (by assumption) ?_
                      (try simp only [Act.put, List.setIfInBounds_toArray, List.set_cons_zero, List.set_cons_succ])
                      refine wpAnyH_take (i := 1) (oi := { dst := some 103, op := Op.move (Operand.tmp 102), type := 4, pos := "outright.go:53", after := #[{ on := 0, ground := Ground.data }], guard := none }) (v := (.bool false)) rfl (by kernel_rfl) (by kernel_rfl) (by kernel_rfl) (fun _ _ _ h => h) (yieldsIf_mv rfl (.tmp 102) rfl _ rfl) (by assumption) ?_
                      (try simp only [Act.put, List.setIfInBounds_toArray, List.set_cons_zero, List.set_cons_succ])
                      refine wpAnyH_take (i := 2) (oi := { dst := some 104, op := Op.move (Operand.tmp 4), type := 24, pos := "outright.go:53", after := #[{ on := 1, ground := Ground.guard }], guard := some (1, false) }) (v := (.slice (some ⟨mg, 0, none⟩) ln mc)) rfl (by kernel_rfl) (by kernel_rfl) (by kernel_rfl) (fun _ _ _ h => h) (yieldsIf_mv rfl (.tmp 4) rfl _ rfl) (by assumption) ?_
                      (try simp only [Act.put, List.setIfInBounds_toArray, List.set_cons_zero, List.set_cons_succ])
                      refine wpAnyH_take (i := 3) (oi := { dst := some 105, op := Op.move (Operand.tmp 11), type := 3, pos := "outright.go:53", after := #[{ on := 1, ground := Ground.guard }], guard := some (1, false) }) (v := (.int .i64 (k : Nat))) rfl (by kernel_rfl) (by kernel_rfl) (by kernel_rfl) (fun _ _ _ h => h) (yieldsIf_mv rfl (.tmp 11) rfl _ rfl) (by assumption) ?_
                      (try simp only [Act.put, List.setIfInBounds_toArray, List.set_cons_zero, List.set_cons_succ])
                      refine wpAnyH_take (i := 4) (oi := { dst := some 106, op := Op.indexAddr 24 (Operand.tmp 104) (Operand.tmp 105), type := 0, pos := "outright.go:53", after := #[{ on := 2, ground := Ground.data }, { on := 3, ground := Ground.data }, { on := 1, ground := Ground.guard }], guard := some (1, false) }) (v := (.pointer (some ⟨mg, k * 19, none⟩))) rfl (by kernel_rfl) (by kernel_rfl) (by kernel_rfl) (fun _ _ _ h => h) (yieldsIf_idx rfl 24 (.tmp 104) (.tmp 105) rfl _ _ _ rfl rfl (idx24 mg ln mc k HKn.out)) (by assumption) ?_
                      (try simp only [Act.put, List.setIfInBounds_toArray, List.set_cons_zero, List.set_cons_succ])
                      refine wpAnyH_take (i := 5) (oi := { dst := some 107, op := Op.load 35 (Operand.tmp 106), type := 35, pos := "outright.go:53", after := #[{ on := 4, ground := Ground.data }, { on := 1, ground := Ground.guard }], guard := some (1, false) }) (v := (.agg K.toArray)) rfl (by kernel_rfl) (by kernel_rfl) (by kernel_rfl) (fun _ _ _ h => h) (yieldsIf_load_mid rfl 35 (.tmp 106) rfl mg (k * 19) rfl K (.struct (Try.prog.fieldsOf 35)) (fun u hu => HEl.out u hu) Try.under35 rfl HKq.out) (by assumption) ?_
                      (try simp only [Act.put, List.setIfInBounds_toArray, List.set_cons_zero, List.set_cons_succ])
                      refine wpAnyH_take (i := 6) (oi := { dst := some 108, op := Op.move (Operand.tmp 0), type := 22, pos := "outright.go:53", after := #[{ on := 1, ground := Ground.guard }], guard := some (1, false) }) (v := (.slice (some ⟨b, o, none⟩) n c)) rfl (by kernel_rfl) (by kernel_rfl) (by kernel_rfl) (fun _ _ _ h => h) (yieldsIf_mv rfl (.tmp 0) rfl _ rfl) (by assumption) ?_
                      (try simp only [Act.put, List.setIfInBounds_toArray, List.set_cons_zero, List.set_cons_succ])
                      refine wpAnyH_take (i := 7) (oi := { dst := some 109, op := Op.move (Operand.tmp 9), type := 3, pos := "outright.go:53", after := #[{ on := 1, ground := Ground.guard }], guard := some (1, false) }) (v := (.int .i64 (j : Nat))) rfl (by kernel_rfl) (by kernel_rfl) (by kernel_rfl) (fun _ _ _ h => h) (yieldsIf_mv rfl (.tmp 9) rfl _ rfl) (by assumption) ?_
                      (try simp only [Act.put, List.setIfInBounds_toArray, List.set_cons_zero, List.set_cons_succ])
                      refine wpAnyH_take (i := 8) (oi := { dst := some 110, op := Op.indexAddr 22 (Operand.tmp 108) (Operand.tmp 109), type := 0, pos := "outright.go:53", after := #[{ on := 6, ground := Ground.data }, { on := 7, ground := Ground.data }, { on := 1, ground := Ground.guard }], guard := some (1, false) }) (v := (.pointer (some ⟨b, o + j * 20, none⟩))) rfl (by kernel_rfl) (by kernel_rfl) (by kernel_rfl) (fun _ _ _ h => h) (yieldsIf_idx rfl 22 (.tmp 108) (.tmp 109) rfl _ _ _ rfl rfl (idx22 b o n c j HJn.out)) (by assumption) ?_
                      (try simp only [Act.put, List.setIfInBounds_toArray, List.set_cons_zero, List.set_cons_succ])
                      refine wpAnyH_take (i := 9) (oi := { dst := some 111, op := Op.fieldAddr 29 (Operand.tmp 110) 1, type := 0, pos := "outright.go:53", after := #[{ on := 8, ground := Ground.data }, { on := 1, ground := Ground.guard }], guard := some (1, false) }) (v := (.pointer (some ⟨b, o + j * 20 + 1, none⟩))) rfl (by kernel_rfl) (by kernel_rfl) (by kernel_rfl) (fun _ _ _ h => h) (Or.inl ⟨by rfl, by intro u hSu; go_simp⟩) (by assumption) ?_
                      (try simp only [Act.put, List.setIfInBounds_toArray, List.set_cons_zero, List.set_cons_succ])
                      refine wpAnyH_take (i := 10) (oi := { dst := some 112, op := Op.load 25 (Operand.tmp 111), type := 25, pos := "outright.go:53", after := #[{ on := 9, ground := Ground.data }, { on := 1, ground := Ground.guard }], guard := some (1, false) }) (v := (.int .u64 (gj : Nat))) rfl (by kernel_rfl) (by kernel_rfl) (by kernel_rfl) (fun _ _ _ h => h) (yieldsIf_ld rfl 25 (.tmp 111) rfl _ _ rfl (fun u hu => ld25 b (o + j * 20 + 1) gj u (HYg.out u (gtrans HY.out hu)))) (by assumption) ?_
                      (try simp only [Act.put, List.setIfInBounds_toArray, List.set_cons_zero, List.set_cons_succ])
                      refine wpAnyH_take (i := 11) (oi := { dst := some 113, op := Op.move (Operand.tmp 0), type := 22, pos := "outright.go:53", after := #[{ on := 1, ground := Ground.guard }], guard := some (1, false) }) (v := (.slice (some ⟨b, o, none⟩) n c)) rfl (by kernel_rfl) (by kernel_rfl) (by kernel_rfl) (fun _ _ _ h => h) (yieldsIf_mv rfl (.tmp 0) rfl _ rfl) (by assumption) ?_
                      (try simp only [Act.put, List.setIfInBounds_toArray, List.set_cons_zero, List.set_cons_succ])
                      refine wpAnyH_take (i := 12) (oi := { dst := some 114, op := Op.move (Operand.tmp 9), type := 3, pos := "outright.go:53", after := #[{ on := 1, ground := Ground.guard }], guard := some (1, false) }) (v := (.int .i64 (j : Nat))) rfl (by kernel_rfl) (by kernel_rfl) (by kernel_rfl) (fun _ _ _ h => h) (yieldsIf_mv rfl (.tmp 9) rfl _ rfl) (by assumption) ?_
                      (try simp only [Act.put, List.setIfInBounds_toArray, List.set_cons_zero, List.set_cons_succ])
                      refine wpAnyH_take (i := 13) (oi := { dst := some 115, op := Op.indexAddr 22 (Operand.tmp 113) (Operand.tmp 114), type := 0, pos := "outright.go:53", after := #[{ on := 11, ground := Ground.data }, { on := 12, ground := Ground.data }, { on := 1, ground := Ground.guard }], guard := some (1, false) }) (v := (.pointer (some ⟨b, o + j * 20, none⟩))) rfl (by kernel_rfl) (by kernel_rfl) (by kernel_rfl) (fun _ _ _ h => h) (yieldsIf_idx rfl 22 (.tmp 113) (.tmp 114) rfl _ _ _ rfl rfl (idx22 b o n c j HJn.out)) (by assumption) ?_
                      (try simp only [Act.put, List.setIfInBounds_toArray, List.set_cons_zero, List.set_cons_succ])
                      refine wpAnyH_take (i := 14) (oi := { dst := some 116, op := Op.fieldAddr 29 (Operand.tmp 115) 2, type := 0, pos := "outright.go:53", after := #[{ on := 13, ground := Ground.data }, { on := 1, ground := Ground.guard }], guard := some (1, false) }) (v := (.pointer (some ⟨b, o + j * 20 + 2, none⟩))) rfl (by kernel_rfl) (by kernel_rfl) (by kernel_rfl) (fun _ _ _ h => h) (Or.inl ⟨by rfl, by intro u hSu; go_simp⟩) (by assumption) ?_
                      (try simp only [Act.put, List.setIfInBounds_toArray, List.set_cons_zero, List.set_cons_succ])
                      refine wpAnyH_take (i := 15) (oi := { dst := some 117, op := Op.load 27 (Operand.tmp 116), type := 27, pos := "outright.go:53", after := #[{ on := 14, ground := Ground.data }, { on := 1, ground := Ground.guard }], guard := some (1, false) }) (v := (.agg J.toArray)) rfl (by kernel_rfl) (by kernel_rfl) (by kernel_rfl) (fun _ _ _ h => h) (yieldsIf_load_mid rfl 27 (.tmp 116) rfl b (o + j * 20 + 2) rfl J (.array 16 5) (fun u hu => HYi.out u (gtrans HY.out hu)) (by kernel_rfl) rfl HJL.out) (by assumption) ?_
                      (try simp only [Act.put, List.setIfInBounds_toArray, List.set_cons_zero, List.set_cons_succ])
                      refine wpAnyH_ready (rs := [16]) (by kernel_rfl) (by simp) ?_
                      refine AllReadyH.cons rfl (fun K hK => ?_) AllReadyH.nil
                      go_simp
                      refine (HCo.out _).mono ?_
                      rintro e uz ⟨rfl, hgz⟩
                      have HUz := hid (gtrans hHeld hgz)
                      clear hgz
                      refine hK.out _ _ ?_ (fun hHeld => ?_)
                      · exact HUz.out
                      clear hK K
                      (try simp only [Act.put, List.setIfInBounds_toArray, List.set_cons_zero, List.set_cons_succ])
                      refine wpAnyH_take (i := 17) (oi := { dst := some 119, op := Op.pick (Operand.tmp 103) (Operand.const (Value.bool true)) (Operand.tmp 118), type := 4, pos := "outright.go:53", after := #[{ on := 1, ground := Ground.data }, { on := 16, ground := Ground.data }], guard := none }) (v := (.bool false)) rfl (by kernel_rfl) (by kernel_rfl) (by kernel_rfl) (fun _ _ _ h => h) (yieldsIf_pickf rfl (.tmp 103) (.const (.bool true)) (.tmp 118) rfl rfl _ rfl) (by assumption) ?_
                      (try simp only [Act.put, List.setIfInBounds_toArray, List.set_cons_zero, List.set_cons_succ])
                      refine wpAnyH_ready (rs := [18]) (by kernel_rfl) (by simp) ?_
                      refine AllReadyH.cons rfl (fun K hK => ?_) AllReadyH.nil
                      go_simp
                      refine hK.out _ _ ?_ (fun hHeld => ?_)
                      · exact HUz.out
                      clear hK K
                      (try simp only [Act.put, List.setIfInBounds_toArray, List.set_cons_zero, List.set_cons_succ])
                      refine wpAnyH_done (by kernel_rfl) ?_ _
                      have HVz := hid (gtrans HY.out HUz.out)
                      clear HUz
                      go_wp2_with fail
                      go_roundw
                      case rel => exact ⟨k + 1, by go_num, by have := HKn.out; omega, by rw [HTt.out], HVz⟩
                      case measure => have := HKn.out; simp [intOf]; omega
                · as_aux_lemma =>
                  have hkl' : ¬ (k : Int) < (ln : Int) := by omega
                  obtain ⟨W, hW⟩ : ∃ x, m2.any pc = x := ⟨_, rfl⟩
                  have hfull : (m2.take k).any pc = W := by rw [List.take_of_length_le (by rw [HLen.out]; omega), hW]
                  rw [hfull]
                  rw [hW] at HHq
                  clear hfull hW hk hkl HCr
                  go_upto_region 33 with fail
                  refine wp_region_listX (by kernel_rfl) [fun v _ => v = (Value.slice xa ln xc), fun v _ => v = (Value.slice (some ⟨b, o, none⟩) n c), fun v _ => v = (Value.int .i64 (j : Nat)), fun v _ => v = (Value.pointer (some ⟨b, o + j * 20, none⟩)), fun v _ => v = (Value.pointer (some ⟨b, o + j * 20 + 1, none⟩)), fun v _ => v = (Value.int .u64 (gj : Nat)), fun v _ => v = (Value.slice (some ⟨b, o, none⟩) n c), fun v _ => v = (Value.int .i64 (j : Nat)), fun v _ => v = (Value.pointer (some ⟨b, o + j * 20, none⟩)), fun v _ => v = (Value.pointer (some ⟨b, o + j * 20 + 2, none⟩)), fun v _ => v = (Value.agg J.toArray), fun v _ => v = (Value.bool W), fun v _ => v = (Value.bool W), fun v _ => v = (Value.bool false)] (none) (fun _ => none) 14 (by kernel_rfl) (by kernel_rfl) (by kernel_rfl) (by kernel_rfl) (by decide) noRow_one (fun _ => .inl rfl) ⟨fun i v u u' hki h hg => h, fun i v u u' hki h hg => h, fun i v u u' hki h hg => h, fun i v u u' hki h hg => h, fun i v u u' hki h hg => h, fun i v u u' hki h hg => h, fun i v u u' hki h hg => h, fun i v u u' hki h hg => h, fun i v u u' hki h hg => h, fun i v u u' hki h hg => h, fun i v u u' hki h hg => h, fun i v u u' hki h hg => h, fun i v u u' hki h hg => h, fun i v u u' hki h hg => h, trivial⟩ ⟨?_, ?_, ?_, ?_, ?_, ?_, ?_, ?_, ?_, ?_, ?_, ?_, ?_, ?_, trivial⟩ ?_
                  · intro A u hu hpu hsz hout hdeps
                    have e3 : A.eval (.tmp 3) = (.slice xa ln xc) := (hout 3 (by kernel_rfl)).trans rfl
                    refine ifw_none rfl ?_
                    with_reducible refine shown_q (Value.slice xa ln xc) ?qq_3s3_0 (fun _ _ => ?qr_3s3_0)
                    case qr_3s3_0 => exact (rfl : (Value.slice xa ln xc) = (Value.slice xa ln xc))
                    with_reducible refine quietAt_mv (.tmp 3) (Value.slice xa ln xc) ?h0_3s3_0 ?h1_3s3_0
                    case h0_3s3_0 => rfl
                    case h1_3s3_0 => exact e3
                  · intro A u hu hpu hsz hout hdeps
                    have e0 : A.eval (.tmp 0) = (.slice (some ⟨b, o, none⟩) n c) := (hout 0 (by kernel_rfl)).trans rfl
                    refine ifw_none rfl ?_
                    with_reducible refine shown_q (Value.slice (some ⟨b, o, none⟩) n c) ?qq_3s3_1 (fun _ _ => ?qr_3s3_1)
                    case qr_3s3_1 => exact (rfl : (Value.slice (some ⟨b, o, none⟩) n c) = (Value.slice (some ⟨b, o, none⟩) n c))
                    with_reducible refine quietAt_mv (.tmp 0) (Value.slice (some ⟨b, o, none⟩) n c) ?h0_3s3_1 ?h1_3s3_1
                    case h0_3s3_1 => rfl
                    case h1_3s3_1 => exact e0
                  · intro A u hu hpu hsz hout hdeps
                    have e9 : A.eval (.tmp 9) = (.int .i64 (j : Nat)) := (hout 9 (by kernel_rfl)).trans rfl
                    refine ifw_none rfl ?_
                    with_reducible refine shown_q (Value.int .i64 (j : Nat)) ?qq_3s3_2 (fun _ _ => ?qr_3s3_2)
                    case qr_3s3_2 => exact (rfl : (Value.int .i64 (j : Nat)) = (Value.int .i64 (j : Nat)))
                    with_reducible refine quietAt_mv (.tmp 9) (Value.int .i64 (j : Nat)) ?h0_3s3_2 ?h1_3s3_2
                    case h0_3s3_2 => rfl
                    case h1_3s3_2 => exact e9
                  · intro A u hu hpu hsz hout hdeps
                    have e121 : A.eval (.tmp 121) = (.slice (some ⟨b, o, none⟩) n c) := by have h := depL hdeps 1 (by kernel_rfl) 121 (by kernel_rfl); exact h
                    have e122 : A.eval (.tmp 122) = (.int .i64 (j : Nat)) := by have h := depL hdeps 2 (by kernel_rfl) 122 (by kernel_rfl); exact h
                    refine ifw_none rfl ?_
                    with_reducible refine shown_q (Value.pointer (some ⟨b, o + j * 20, none⟩)) ?qq_3s3_3 (fun _ _ => ?qr_3s3_3)
                    case qr_3s3_3 => exact (rfl : (Value.pointer (some ⟨b, o + j * 20, none⟩)) = (Value.pointer (some ⟨b, o + j * 20, none⟩)))
                    with_reducible refine quietAt_idx 22 (.tmp 121) (.tmp 122) (Value.slice (some ⟨b, o, none⟩) n c) (Value.int .i64 (j : Nat)) (Value.pointer (some ⟨b, o + j * 20, none⟩)) ?h0_3s3_3 ?h1_3s3_3 ?h2_3s3_3 ?h3_3s3_3
                    case h0_3s3_3 => rfl
                    case h1_3s3_3 => exact e121
                    case h2_3s3_3 => exact e122
                    case h3_3s3_3 => exact (idx22 b o n c j HJn.out u)
                  · intro A u hu hpu hsz hout hdeps
                    have e123 : A.eval (.tmp 123) = (.pointer (some ⟨b, o + j * 20, none⟩)) := by have h := depL hdeps 3 (by kernel_rfl) 123 (by kernel_rfl); exact h
                    refine ifw_none rfl ?_
                    with_reducible refine shown_q (Value.pointer (some ⟨b, o + j * 20 + 1, none⟩)) ?qq_3s3_4 (fun _ _ => ?qr_3s3_4)
                    case qr_3s3_4 => exact (rfl : (Value.pointer (some ⟨b, o + j * 20 + 1, none⟩)) = (Value.pointer (some ⟨b, o + j * 20 + 1, none⟩)))
                    with_reducible refine quietAt_field 29 (.tmp 123) 1 ?h0_3s3_4 ⟨b, o + j * 20, none⟩ ⟨b, o + j * 20 + 1, none⟩ ?h1_3s3_4 ?h2_3s3_4
                    case h0_3s3_4 => rfl
                    case h1_3s3_4 => exact e123
                    case h2_3s3_4 => kernel_rfl
                  · intro A u hu hpu hsz hout hdeps
                    have e124 : A.eval (.tmp 124) = (.pointer (some ⟨b, o + j * 20 + 1, none⟩)) := by have h := depL hdeps 4 (by kernel_rfl) 124 (by kernel_rfl); exact h
                    refine ifw_none rfl ?_
                    with_reducible refine shown_q (Value.int .u64 (gj : Nat)) ?qq_3s3_5 (fun _ _ => ?qr_3s3_5)
                    case qr_3s3_5 => exact (rfl : (Value.int .u64 (gj : Nat)) = (Value.int .u64 (gj : Nat)))
                    with_reducible refine quietAt_ld 25 (.tmp 124) (Value.pointer (some ⟨b, o + j * 20 + 1, none⟩)) (Value.int .u64 (gj : Nat)) ?h0_3s3_5 ?h1_3s3_5 ?h2_3s3_5
                    case h0_3s3_5 => rfl
                    case h1_3s3_5 => exact e124
                    case h2_3s3_5 => exact ld25 b (o + j * 20 + 1) gj u (HYg.out u (gtrans HY.out hu))
                  · intro A u hu hpu hsz hout hdeps
                    have e0 : A.eval (.tmp 0) = (.slice (some ⟨b, o, none⟩) n c) := (hout 0 (by kernel_rfl)).trans rfl
                    refine ifw_none rfl ?_
                    with_reducible refine shown_q (Value.slice (some ⟨b, o, none⟩) n c) ?qq_3s3_6 (fun _ _ => ?qr_3s3_6)
                    case qr_3s3_6 => exact (rfl : (Value.slice (some ⟨b, o, none⟩) n c) = (Value.slice (some ⟨b, o, none⟩) n c))
                    with_reducible refine quietAt_mv (.tmp 0) (Value.slice (some ⟨b, o, none⟩) n c) ?h0_3s3_6 ?h1_3s3_6
                    case h0_3s3_6 => rfl
                    case h1_3s3_6 => exact e0
                  · intro A u hu hpu hsz hout hdeps
                    have e9 : A.eval (.tmp 9) = (.int .i64 (j : Nat)) := (hout 9 (by kernel_rfl)).trans rfl
                    refine ifw_none rfl ?_
                    with_reducible refine shown_q (Value.int .i64 (j : Nat)) ?qq_3s3_7 (fun _ _ => ?qr_3s3_7)
                    case qr_3s3_7 => exact (rfl : (Value.int .i64 (j : Nat)) = (Value.int .i64 (j : Nat)))
                    with_reducible refine quietAt_mv (.tmp 9) (Value.int .i64 (j : Nat)) ?h0_3s3_7 ?h1_3s3_7
                    case h0_3s3_7 => rfl
                    case h1_3s3_7 => exact e9
                  · intro A u hu hpu hsz hout hdeps
                    have e126 : A.eval (.tmp 126) = (.slice (some ⟨b, o, none⟩) n c) := by have h := depL hdeps 6 (by kernel_rfl) 126 (by kernel_rfl); exact h
                    have e127 : A.eval (.tmp 127) = (.int .i64 (j : Nat)) := by have h := depL hdeps 7 (by kernel_rfl) 127 (by kernel_rfl); exact h
                    refine ifw_none rfl ?_
                    with_reducible refine shown_q (Value.pointer (some ⟨b, o + j * 20, none⟩)) ?qq_3s3_8 (fun _ _ => ?qr_3s3_8)
                    case qr_3s3_8 => exact (rfl : (Value.pointer (some ⟨b, o + j * 20, none⟩)) = (Value.pointer (some ⟨b, o + j * 20, none⟩)))
                    with_reducible refine quietAt_idx 22 (.tmp 126) (.tmp 127) (Value.slice (some ⟨b, o, none⟩) n c) (Value.int .i64 (j : Nat)) (Value.pointer (some ⟨b, o + j * 20, none⟩)) ?h0_3s3_8 ?h1_3s3_8 ?h2_3s3_8 ?h3_3s3_8
                    case h0_3s3_8 => rfl
                    case h1_3s3_8 => exact e126
                    case h2_3s3_8 => exact e127
                    case h3_3s3_8 => exact (idx22 b o n c j HJn.out u)
                  · intro A u hu hpu hsz hout hdeps
                    have e128 : A.eval (.tmp 128) = (.pointer (some ⟨b, o + j * 20, none⟩)) := by have h := depL hdeps 8 (by kernel_rfl) 128 (by kernel_rfl); exact h
                    refine ifw_none rfl ?_
                    with_reducible refine shown_q (Value.pointer (some ⟨b, o + j * 20 + 2, none⟩)) ?qq_3s3_9 (fun _ _ => ?qr_3s3_9)
                    case qr_3s3_9 => exact (rfl : (Value.pointer (some ⟨b, o + j * 20 + 2, none⟩)) = (Value.pointer (some ⟨b, o + j * 20 + 2, none⟩)))
                    with_reducible refine quietAt_field 29 (.tmp 128) 2 ?h0_3s3_9 ⟨b, o + j * 20, none⟩ ⟨b, o + j * 20 + 2, none⟩ ?h1_3s3_9 ?h2_3s3_9
                    case h0_3s3_9 => rfl
                    case h1_3s3_9 => exact e128
                    case h2_3s3_9 => kernel_rfl
                  · intro A u hu hpu hsz hout hdeps
                    have e129 : A.eval (.tmp 129) = (.pointer (some ⟨b, o + j * 20 + 2, none⟩)) := by have h := depL hdeps 9 (by kernel_rfl) 129 (by kernel_rfl); exact h
                    refine ifw_none rfl ?_
                    with_reducible refine shown_q (Value.agg J.toArray) ?qq_3s3_10 (fun _ _ => ?qr_3s3_10)
                    case qr_3s3_10 => exact (rfl : (Value.agg J.toArray) = (Value.agg J.toArray))
                    with_reducible refine quietAt_load 27 (.tmp 129) ?h0_3s3_10 b (o + j * 20 + 2) J (.array 16 5) ?h1_3s3_10 ?h2_3s3_10 ?h3_3s3_10 ?h4_3s3_10 ?h5_3s3_10
                    case h0_3s3_10 => rfl
                    case h1_3s3_10 => exact e129
                    case h2_3s3_10 => exact (HYi.out u (gtrans HY.out hu))
                    case h3_3s3_10 => exact Try.underlying27
                    case h4_3s3_10 => rfl
                    case h5_3s3_10 => exact HJL.out
                  · intro A u hu hpu hsz hout hdeps
                    have e120 : A.eval (.tmp 120) = (.slice xa ln xc) := by have h := depL hdeps 0 (by kernel_rfl) 120 (by kernel_rfl); exact h
                    have e125 : A.eval (.tmp 125) = (.int .u64 (gj : Nat)) := by have h := depL hdeps 5 (by kernel_rfl) 125 (by kernel_rfl); exact h
                    have e130 : A.eval (.tmp 130) = (.agg J.toArray) := by have h := depL hdeps 10 (by kernel_rfl) 130 (by kernel_rfl); exact h
                    refine ifw_none rfl ?_
                    with_reducible refine shown_q (Value.bool W) ?qq_3s3_11 (fun _ _ => ?qr_3s3_11)
                    case qr_3s3_11 => exact (rfl : (Value.bool W) = (Value.bool W))
                    with_reducible refine quietAt_call 14 Try.f14 ?h0_3s3_11 ?h1_3s3_11 ?h2_3s3_11 #[.tmp 120, .tmp 125, .tmp 130] #[23, 25, 27] ?h3_3s3_11 (Value.bool W) #[(Value.slice xa ln xc), (Value.int .u64 (gj : Nat)), (Value.agg J.toArray)] ?h4_3s3_11 ?h5_3s3_11
                    case h0_3s3_11 => exact Try.func14
                    case h1_3s3_11 => kernel_rfl
                    case h2_3s3_11 => kernel_rfl
                    case h3_3s3_11 => rfl
                    case h4_3s3_11 => exact map3 _ _ _ _ _ _ _ e120 e125 e130
                    case h5_3s3_11 => exact HHq.out u (gtrans HY.out hu)
                  · intro A u hu hpu hsz hout hdeps
                    have e10 : A.eval (.tmp 10) = (.bool W) := (hout 10 (by kernel_rfl)).trans rfl
                    refine ifw_none rfl ?_
                    with_reducible refine shown_q (Value.bool W) ?qq_3s3_12 (fun _ _ => ?qr_3s3_12)
                    case qr_3s3_12 => exact (rfl : (Value.bool W) = (Value.bool W))
                    with_reducible refine quietAt_mv (.tmp 10) (Value.bool W) ?h0_3s3_12 ?h1_3s3_12
                    case h0_3s3_12 => rfl
                    case h1_3s3_12 => exact e10
                  · intro A u hu hpu hsz hout hdeps
                    have e131 : A.eval (.tmp 131) = (.bool W) := by have h := depL hdeps 11 (by kernel_rfl) 131 (by kernel_rfl); exact h
                    have e132 : A.eval (.tmp 132) = (.bool W) := by have h := depL hdeps 12 (by kernel_rfl) 132 (by kernel_rfl); exact h
                    refine ifw_none rfl ?_
                    with_reducible refine shown_q (Value.bool false) ?qq_3s3_13 (fun _ _ => ?qr_3s3_13)
                    case qr_3s3_13 => exact (rfl : (Value.bool false) = (Value.bool false))
                    with_reducible refine quietAt_bin .neq 4 (.tmp 131) (.tmp 132) 4 (Value.bool W) (Value.bool W) (Value.bool false) ?h0_3s3_13 ?h1_3s3_13 ?h2_3s3_13 ?h3_3s3_13
                    case h0_3s3_13 => rfl
                    case h1_3s3_13 => exact e131
                    case h2_3s3_13 => exact e132
                    case h3_3s3_13 => exact (neq4 W u)
                  · intro A u8 listed hh hall
                    have hA := hh.frame
                    have HU := hid hh.grown
                    obtain ⟨x120, hx120⟩ : ∃ x, A.eval (.tmp 120) = x := ⟨_, rfl⟩
                    have f120 : (fun v _ => v = (Value.slice xa ln xc)) x120 u8 := by rw [← hx120]; exact hh.got 0 _ 120 rfl rfl (hall 0 (by decide))
                    obtain ⟨x121, hx121⟩ : ∃ x, A.eval (.tmp 121) = x := ⟨_, rfl⟩
                    have f121 : (fun v _ => v = (Value.slice (some ⟨b, o, none⟩) n c)) x121 u8 := by rw [← hx121]; exact hh.got 1 _ 121 rfl rfl (hall 1 (by decide))
                    obtain ⟨x122, hx122⟩ : ∃ x, A.eval (.tmp 122) = x := ⟨_, rfl⟩
                    have f122 : (fun v _ => v = (Value.int .i64 (j : Nat))) x122 u8 := by rw [← hx122]; exact hh.got 2 _ 122 rfl rfl (hall 2 (by decide))
                    obtain ⟨x123, hx123⟩ : ∃ x, A.eval (.tmp 123) = x := ⟨_, rfl⟩
                    have f123 : (fun v _ => v = (Value.pointer (some ⟨b, o + j * 20, none⟩))) x123 u8 := by rw [← hx123]; exact hh.got 3 _ 123 rfl rfl (hall 3 (by decide))
                    obtain ⟨x124, hx124⟩ : ∃ x, A.eval (.tmp 124) = x := ⟨_, rfl⟩
                    have f124 : (fun v _ => v = (Value.pointer (some ⟨b, o + j * 20 + 1, none⟩))) x124 u8 := by rw [← hx124]; exact hh.got 4 _ 124 rfl rfl (hall 4 (by decide))
                    obtain ⟨x125, hx125⟩ : ∃ x, A.eval (.tmp 125) = x := ⟨_, rfl⟩
                    have f125 : (fun v _ => v = (Value.int .u64 (gj : Nat))) x125 u8 := by rw [← hx125]; exact hh.got 5 _ 125 rfl rfl (hall 5 (by decide))
                    obtain ⟨x126, hx126⟩ : ∃ x, A.eval (.tmp 126) = x := ⟨_, rfl⟩
                    have f126 : (fun v _ => v = (Value.slice (some ⟨b, o, none⟩) n c)) x126 u8 := by rw [← hx126]; exact hh.got 6 _ 126 rfl rfl (hall 6 (by decide))
                    obtain ⟨x127, hx127⟩ : ∃ x, A.eval (.tmp 127) = x := ⟨_, rfl⟩
                    have f127 : (fun v _ => v = (Value.int .i64 (j : Nat))) x127 u8 := by rw [← hx127]; exact hh.got 7 _ 127 rfl rfl (hall 7 (by decide))
                    obtain ⟨x128, hx128⟩ : ∃ x, A.eval (.tmp 128) = x := ⟨_, rfl⟩
                    have f128 : (fun v _ => v = (Value.pointer (some ⟨b, o + j * 20, none⟩))) x128 u8 := by rw [← hx128]; exact hh.got 8 _ 128 rfl rfl (hall 8 (by decide))
                    obtain ⟨x129, hx129⟩ : ∃ x, A.eval (.tmp 129) = x := ⟨_, rfl⟩
                    have f129 : (fun v _ => v = (Value.pointer (some ⟨b, o + j * 20 + 2, none⟩))) x129 u8 := by rw [← hx129]; exact hh.got 9 _ 129 rfl rfl (hall 9 (by decide))
                    obtain ⟨x130, hx130⟩ : ∃ x, A.eval (.tmp 130) = x := ⟨_, rfl⟩
                    have f130 : (fun v _ => v = (Value.agg J.toArray)) x130 u8 := by rw [← hx130]; exact hh.got 10 _ 130 rfl rfl (hall 10 (by decide))
                    obtain ⟨x131, hx131⟩ : ∃ x, A.eval (.tmp 131) = x := ⟨_, rfl⟩
                    have f131 : (fun v _ => v = (Value.bool W)) x131 u8 := by rw [← hx131]; exact hh.got 11 _ 131 rfl rfl (hall 11 (by decide))
                    obtain ⟨x132, hx132⟩ : ∃ x, A.eval (.tmp 132) = x := ⟨_, rfl⟩
                    have f132 : (fun v _ => v = (Value.bool W)) x132 u8 := by rw [← hx132]; exact hh.got 12 _ 132 rfl rfl (hall 12 (by decide))
                    obtain ⟨x133, hx133⟩ : ∃ x, A.eval (.tmp 133) = x := ⟨_, rfl⟩
                    have f133 : (fun v _ => v = (Value.bool false)) x133 u8 := by rw [← hx133]; exact hh.got 13 _ 133 rfl rfl (hall 13 (by decide))
                    dsimp only [wrote, List.foldl] at hA
                    rw [hx120, hx121, hx122, hx123, hx124, hx125, hx126, hx127, hx128, hx129, hx130, hx131, hx132, hx133] at hA
                    clear hh hall hx120 hx121 hx122 hx123 hx124 hx125 hx126 hx127 hx128 hx129 hx130 hx131 hx132 hx133
                    replace f120 := (f120 : x120 = (.slice xa ln xc))
                    subst f120
                    replace f121 := (f121 : x121 = (.slice (some ⟨b, o, none⟩) n c))
                    subst f121
                    replace f122 := (f122 : x122 = (.int .i64 (j : Nat)))
                    subst f122
                    replace f123 := (f123 : x123 = (.pointer (some ⟨b, o + j * 20, none⟩)))
                    subst f123
                    replace f124 := (f124 : x124 = (.pointer (some ⟨b, o + j * 20 + 1, none⟩)))
                    subst f124
                    replace f125 := (f125 : x125 = (.int .u64 (gj : Nat)))
                    subst f125
                    replace f126 := (f126 : x126 = (.slice (some ⟨b, o, none⟩) n c))
                    subst f126
                    replace f127 := (f127 : x127 = (.int .i64 (j : Nat)))
                    subst f127
                    replace f128 := (f128 : x128 = (.pointer (some ⟨b, o + j * 20, none⟩)))
                    subst f128
                    replace f129 := (f129 : x129 = (.pointer (some ⟨b, o + j * 20 + 2, none⟩)))
                    subst f129
                    replace f130 := (f130 : x130 = (.agg J.toArray))
                    subst f130
                    replace f131 := (f131 : x131 = (.bool W))
                    subst f131
                    replace f132 := (f132 : x132 = (.bool W))
                    subst f132
                    replace f133 := (f133 : x133 = (.bool false))
                    subst f133
                    subst hA
                    show wpList _ _ _ [] _ _
                    unfold wpList
                    simp only [Act.put, List.setIfInBounds_toArray, List.set_cons_succ, List.set_cons_zero]
                    have HUz := hid (gtrans HX.out (gtrans HY.out HU.out))
                    go_wp2_with fail
                    go_roundw
                    case rel => exact ⟨j + 1, by go_num, HJi.out, HUz⟩
                    case measure => have := HJi.out; simp [intOf]; omega
            · as_aux_lemma =>
              have hji' : ¬ (j : Int) ≤ (i : Int) := by omega
              have hfin : OutK 0 wr (.slice xa ln xc) l2 := HL2.out.keep HX.out
              have HF1 := hid hfin
              have HF2 : Hid (OutN w.heap.size wr (.slice ma ln mc) m2) := hid (HM2.out.keep HX.out)
              have HF3 := hid (gtrans HG2.out HX.out)
              clear hfin
              go_wp2_with fail
              go_roundw
              case rel => exact ⟨i + 1, _, _, l2, m2, rfl, rfl, by go_num, by have := HIn.out; omega, HIn.out.2, HF1, HF2, HH2, HF3⟩
              case measure => have := HIn.out; simp [intOf]; omega
      · have h150' : ¬ (i : Int) < 150 := by omega
        go_wp2_with (go_at_call 15; (with_reducible refine (HWk.out _).mono ?_); rintro e wl ⟨rfl, hgl⟩; have HGl := hid (gtrans HG.out hgl); clear hgl)
        go_ret
        exact ⟨rfl, HGl.out⟩
    · have hlt' : ¬ (i : Int) < (n : Int) := by omega
      go_wp2_with (go_at_call 15; (with_reducible refine (HWk.out _).mono ?_); rintro e wl ⟨rfl, hgl⟩; have HGl := hid (gtrans HG.out hgl); clear hgl)
      go_ret
      exact ⟨rfl, HGl.out⟩
end Go.Proofs.Ytlgjmhemgfjgnaa
