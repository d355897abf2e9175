/- RecordWrites' walk. -/
import Derived.Test.YtfalgjdhdgkbfaaGreatDoorX23
import Derived.Test.YtfalgjdhdgkbfaaGreatDoorX15
import Derived.Test.YtfalgjdhdgkbfaaGreatDoorX11
import Derived.Test.YtfalgjdhdgkbfaaGreatDoorX04
namespace Go.Proofs.YtfalgjdhdgkbfaaGreatDoor
open Go Go.RowKit
open Go.RowKit (wrap32 wrap64)

variable {w u u' : World} {pb vb bk lt ob N M m k : Nat} {oc : List Value}
def FI (w : World) (pb vb bk lt ob : Nat) (oc : List Value) (N m : Nat) (u : World) : Prop := ∃ Lp Lv E T ps, DS w pb vb bk lt ob oc Lp Lv E N T ps ps.length u ∧ T + ps.length ≤ m
theorem FI.keep (h : FI w pb vb bk lt ob oc N m u) (hg : u.grownBy u' none) : FI w pb vb bk lt ob oc N m u' := by
  obtain ⟨Lp, Lv, E, T, ps, h1, h2⟩ := h
  exact ⟨Lp, Lv, E, T, ps, h1.keep hg, h2⟩
theorem FI.gr (h : FI w pb vb bk lt ob oc N m u) : w.grownBy u none := by
  obtain ⟨Lp, Lv, E, T, ps, h1, h2⟩ := h
  exact h1.gr
theorem FI.up {m' : Nat} (h : FI w pb vb bk lt ob oc N m u) (hN : N ≤ M) (hm : m ≤ m') : FI w pb vb bk lt ob oc M m' u := by
  obtain ⟨Lp, Lv, E, T, ps, ⟨col, h1, h3⟩, h2⟩ := h
  exact ⟨Lp, Lv, E, T, ps, ⟨col, ⟨h1.ww, h1.eq, fun k hk => by have := h1.ln k hk; omega⟩, h3⟩, by omega⟩
theorem FI.blk (h : FI w pb vb bk lt ob oc N m u) (hc : oc ≠ []) : Blk u ob oc 67 := by
  obtain ⟨Lp, Lv, E, T, ps, h1, h2⟩ := h
  exact h1.cellO hc
theorem FI.lays (h : FI w pb vb bk lt ob oc N m u) (hN : N ≤ 1000000000) (o : Ow) (ho : o.In w) (hl : o.bs.length ≤ 4194304) (hk : k < 2) :
    Calls Tryz.prog 6 #[.pointer (some ⟨pb, 3 * k, none⟩), .pointer (some ⟨vb, 2 * k, none⟩), .agg o.cs.toArray] u fun e u' => e = .returned (.bool true) ∧ FI w pb vb bk lt ob oc (N + o.bs.length + 20) m u' := by
  obtain ⟨Lp, Lv, E, T, ps, h1, h2⟩ := h
  exact (h1.lays hN o ho hl hk).mono fun e u' ⟨q1, Lp', Lv', E', q2⟩ => ⟨q1, Lp', Lv', E', T, ps, q2, h2⟩
theorem FI.done (h : FI w pb vb bk lt ob oc N m u) (hk : k < 2) (hN : N ≤ 8388608) (hm : m ≤ 8000000) :
    Calls Tryz.prog 7 #[.pointer (some ⟨pb, 3 * k, none⟩), .pointer (some ⟨vb, 2 * k, none⟩), .pointer (some ⟨lt, 0, none⟩)] u fun e u' => e = .returned (.bool true) ∧ FI w pb vb bk lt ob oc N (m + 2) u' := by
  obtain ⟨Lp, Lv, E, T, ps, h1, h2⟩ := h
  exact (done_any h1 hk hN (by omega)).mono fun e u' ⟨q1, ps', q2, q3⟩ => ⟨q1, Lp, Lv, E, T, ps', q2, by omega⟩
theorem FI.settle (h : FI w pb vb bk lt ob oc N m u) (hm : m ≤ 1000) (k0 : Int) :
    Calls Tryz.prog 8 #[.pointer (some ⟨lt, 0, none⟩), .pointer (some ⟨bk, 0, none⟩), .int .i64 k0] u fun e u' => e = .returned (.bool true) ∧ FI w pb vb bk lt ob oc N m u' := by
  obtain ⟨Lp, Lv, E, T, ps, h1, h2⟩ := h
  exact (h1.settle (by omega) (by omega) k0).mono fun e u' ⟨q1, T', ps', q2, q3, q4⟩ => ⟨q1, Lp, Lv, E, T', ps', q2, by omega⟩
theorem FI.look (h : FI w pb vb bk lt ob oc N m u) : Calls Tryz.prog 9 #[.pointer (some ⟨bk, 0, none⟩)] u fun e u' => e = .returned (.bool true) ∧ w.grownBy u' none := by
  obtain ⟨Lp, Lv, E, T, ps, h1, h2⟩ := h
  exact h1.look
theorem FI.field (h : FI w pb vb bk lt ob oc N m u) {ob' : Nat} {oc' : List Value} (hg : u.grownBy u' none) (hb : Blk u' ob' oc' 67) (ho : u.heap.size ≤ ob') : FI w pb vb bk lt ob' oc' N m u' := by
  obtain ⟨Lp, Lv, E, T, ps, h1, h2⟩ := h
  exact ⟨Lp, Lv, E, T, ps, h1.field hg hb ho, h2⟩
def Z27 : List Value := [.pointer none, .int .i64 0, .int .i64 0, .pointer none, .int .i64 0, .int .i64 0]
def Z31 : List Value := [.slice none 0 0, .int .i64 0, .slice none 0 0, .int .i64 0]
def zB : List Value := (List.range 75).map (Bk.bkF (.slice none 0 0) (.slice none 0 0) 0 0 0 0)
def zL : List Value := [.slice none 0 0, .slice none 0 0]
theorem zero27 : (Tryz.prog.info? 27).map (fun i => i.zero) = some (some (.agg Z27.toArray)) := by kernel_rfl
theorem zero31 : (Tryz.prog.info? 31).map (fun i => i.zero) = some (some (.agg Z31.toArray)) := by kernel_rfl
theorem built59 : Tryz.prog.built 59 [] = some zB.toArray := by kernel_rfl
theorem built62 : Tryz.prog.built 62 [] = some zL.toArray := by kernel_rfl
theorem rowis_of {b t n : Nat} {cs : List Value} (h : Blk u b cs t) (hn : cs.length = n) : u.rowIs b t n (fun i => cs.getD i undef) := ⟨cs.toArray, h, by simpa using hn, fun i hi => by
  have hi' : i < cs.length := by omega
  simp [List.getElem?_eq_getElem hi', List.getD]⟩
/-- All of it, at the beginning. -/
theorem FI.new (hg : w.grownBy u none) (h1 : Blk u pb Z27 27) (h2 : Blk u vb Z31 31) (h3 : Blk u bk zB 59) (h4 : Blk u lt zL 62) (q1 : w.heap.size ≤ pb) (q2 : pb < vb) (q3 : vb < bk) (q4 : bk < lt) : FI w pb vb bk lt 0 [] 0 0 u := by
  have c5 : Co w u (fun j => if j = pb then 5 else if j = vb then 6 else 4) 5 pb := ⟨if_pos rfl, q1, h1.lt⟩
  have c6 : Co w u (fun j => if j = pb then 5 else if j = vb then 6 else 4) 6 vb := ⟨by show (if vb = pb then 5 else if vb = vb then 6 else 4) = 6; rw [if_neg (by omega), if_pos rfl], by omega, h2.lt⟩
  have cb : Bt w u (fun j => if j = pb then 5 else if j = vb then 6 else 4) bk := .inl ⟨by show (if bk = pb then 5 else if bk = vb then 6 else 4) = 4; rw [if_neg (by omega), if_neg (by omega)], by omega, h3.lt⟩
  have cl : Bt w u (fun j => if j = pb then 5 else if j = vb then 6 else 4) lt := .inl ⟨by show (if lt = pb then 5 else if lt = vb then 6 else 4) = 4; rw [if_neg (by omega), if_neg (by omega)], by omega, h4.lt⟩
  refine ⟨fun _ => [], fun _ => [], fun _ => 0, 0, [], ⟨_, ⟨⟨⟨_, fun k hk => ⟨rowis_of h1 rfl, by omega, co_ne c5 (by decide), none, [], ?_, ?_, ?_, rfl, rfl⟩⟩, ⟨_, fun k hk => ⟨rowis_of h2 rfl, by omega, co_ne c6 (by omega), ?_, ?_, ?_⟩⟩, c5, c6, hg⟩, fun _ _ _ => rfl, fun _ _ => ⟨Nat.le_refl _, Nat.le_refl _⟩⟩, Bq.ST.new ?_ ?_ cb cl (fun b hb => .inr hb), .inl rfl⟩, Nat.le_refl _⟩
  · rcases (show k = 0 ∨ k = 1 by omega) with rfl | rfl <;> rfl
  · rcases (show k = 0 ∨ k = 1 by omega) with rfl | rfl <;> rfl
  · rcases (show k = 0 ∨ k = 1 by omega) with rfl | rfl <;> rfl
  · rcases (show k = 0 ∨ k = 1 by omega) with rfl | rfl <;> rfl
  · rcases (show k = 0 ∨ k = 1 by omega) with rfl | rfl <;> exact ⟨rfl, .inl ⟨rfl, rfl⟩⟩
  · intro g hgk
    rcases (show k = 0 ∨ k = 1 by omega) with rfl | rfl <;> cases hgk
  · exact ⟨zB.toArray, h3, by simp [zB], fun i hi => by simp [zB, hi]⟩
  · exact ⟨zL.toArray, h4, rfl, fun i hi => by rcases (show i = 0 ∨ i = 1 by omega) with rfl | rfl <;> simp [zL, Bq.ltF]⟩
theorem idx27 (b k : Nat) (hk : k < 2) (u : World) : (Instr.indexAt 27 (.pointer (some ⟨b, 0, none⟩)) (.int .i64 (k : Nat))).run Tryz.prog u = .ok (.pointer (some ⟨b, 3 * k, none⟩)) u := by
  rcases (show k = 0 ∨ k = 1 by omega) with rfl | rfl <;> go_simp
theorem idx31 (b k : Nat) (hk : k < 2) (u : World) : (Instr.indexAt 31 (.pointer (some ⟨b, 0, none⟩)) (.int .i64 (k : Nat))).run Tryz.prog u = .ok (.pointer (some ⟨b, 2 * k, none⟩)) u := by
  rcases (show k = 0 ∨ k = 1 by omega) with rfl | rfl <;> go_simp
theorem grow_two {u1 u2 : World} {b : Nat} (h1 : u.grownBy u1 none) (h2 : u1.grownBy u2 (some b)) (hb : u.heap.size ≤ b) : u.grownBy u2 none :=
  ⟨h2.os.trans h1.os, h2.tape.trans h1.tape, h2.output.trans h1.output, Nat.le_trans h1.size h2.size, fun k hk _ => (h2.block k (Nat.lt_of_lt_of_le hk h1.size) (fun e => by injection e with e; omega)).trans (h1.block k hk (by simp))⟩
def RowsO (w : World) (a : Option Addr) (g off n : Nat) (f : Nat → Ow) : Prop := (0 < n → a = some ⟨g, off, none⟩ ∧ g < w.heap.size) ∧ ∀ i, i < n → w.rangeAt g (off + i * 23) (f i).cs ∧ (f i).In w
theorem size67w : (Tryz.prog.info? 67).map (·.size) = some 23 := by kernel_rfl
def Z67 : List Value := [.int .i64 0, .int .i64 0, .int .u64 0, .int .i64 0, .int .i64 0, .bool false, .slice none 0 0] ++ Lib.byteCells (List.replicate 16 0)
theorem zero67 : (Tryz.prog.info? 67).map (fun i => i.zero) = some (some (.agg Z67.toArray)) := by kernel_rfl
theorem Ow.len (o : Ow) (h : o.d.length = 16) : o.cs.length = 23 := by
  unfold Ow.cs
  rw [List.length_append]
  simp [Lib.byteCells, h]
theorem Ow.one (o : Ow) : ∀ v ∈ o.cs, v.oneCell' = true := fun v hv => by
  unfold Ow.cs at hv
  rcases List.mem_append.1 hv with hv | hv
  · simp only [List.mem_cons, List.not_mem_nil, or_false] at hv
    rcases hv with rfl | rfl | rfl | rfl | rfl | rfl | rfl <;> rfl
  · obtain ⟨x, _, rfl⟩ := List.mem_map.1 hv
    rfl
theorem rng_keep {g o : Nat} {cs : List Value} (h : w.rangeAt g o cs) (hg : w.grownBy u none) (hl : g < w.heap.size) : u.rangeAt g o cs := fun j v hv => (cell_at hg hl (by simp)).trans (h j v hv)
set_option maxRecDepth 100000 in
set_option maxHeartbeats 12800000 in
theorem writes_walk (w : World) (oa : Option Addr) (g off n oc : Nat) (f : Nat → Ow) (ht : Tab w) (hn : n ≤ 140737488355328) (hR : RowsO w oa g off n f) : Calls Tryz.prog 3 #[.slice oa n oc] w fun e w' => e = .returned (.bool true) ∧ w.grownBy w' none := by
  have HWk : Hid (∀ u, w.grownBy u none → Calls Tryz.prog 10 #[] u fun e w' => e = .returned (.bool true) ∧ u.grownBy w' none) := hid (fun u hu => works_any u (ht.keep hu))
  have HRO := hid hR
  clear ht hR
  go_enter Tryz.func3, Tryz.ntmps3
  go_upto_region 5 with (first
    | ((with_reducible refine wpList_alloc_row (by with_unfolding_all rfl) 27 (by with_unfolding_all rfl) Z27 zero27 ?_); intro w1 B1 s1 g1; have HB1 := hid B1; have HG1 := hid g1; clear B1 s1 g1)
    | ((with_reducible refine wpList_alloc_row (by with_unfolding_all rfl) 31 (by with_unfolding_all rfl) Z31 zero31 ?_); intro w2 B2 s2 g2; have HB2 := hid B2; have HG2 := hid g2; clear B2 s2 g2)
    | (with_reducible refine wpList_build_row (by with_unfolding_all rfl) 59 (by with_unfolding_all rfl) zB built59 ?_)
    | (with_reducible refine wpList_build_row (by with_unfolding_all rfl) 62 (by with_unfolding_all rfl) zL built62 ?_)
    | ((with_reducible refine wpList_box_row (by with_unfolding_all rfl) 59 _ (by with_unfolding_all rfl) zB (by with_unfolding_all rfl) ?_); intro w3 B3 s3 g3; have HB3 := hid B3; have HG3 := hid g3; clear B3 s3 g3)
    | ((with_reducible refine wpList_box_row (by with_unfolding_all rfl) 62 _ (by with_unfolding_all rfl) zL (by with_unfolding_all rfl) ?_); intro w4 B4 s4 g4; have HB4 := hid B4; have HG4 := hid g4; clear B4 s4 g4))
  obtain ⟨pb, hpb⟩ : ∃ q, w.heap.size = q := ⟨_, rfl⟩
  obtain ⟨vb, hvb⟩ : ∃ q, w1.heap.size = q := ⟨_, rfl⟩
  obtain ⟨bk, hbk⟩ : ∃ q, w2.heap.size = q := ⟨_, rfl⟩
  obtain ⟨lt, hlt⟩ : ∃ q, w3.heap.size = q := ⟨_, rfl⟩
  have HF0 : Hid (FI w pb vb bk lt 0 [] 0 0 w4) := hid (by
    have l1 := HB1.out.lt
    have l2 := HB2.out.lt
    have l3 := HB3.out.lt
    have e1 := HB1.out
    have e2 := HB2.out
    have e3 := HB3.out
    have e4 := HB4.out
    rw [hpb] at e1 l1
    rw [hvb] at e2 l2
    rw [hbk] at e3 l3
    rw [hlt] at e4
    exact FI.new (gtrans HG1.out (gtrans HG2.out (gtrans HG3.out HG4.out))) (((e1.keep HG2.out).keep HG3.out).keep HG4.out) ((e2.keep HG3.out).keep HG4.out) (e3.keep HG4.out) e4 (by omega) (by omega) (by omega) (by omega))
  rw [hpb, hvb, hbk, hlt]
  clear hpb hvb hbk hlt HB1 HB2 HB3 HB4 HG1 HG2 HG3 HG4
  go_wp2_with fail
  go_loopw [8, 7] (fun iv av wr => ∃ i al : Nat, iv = .int .i64 i ∧ av = .int .i64 al ∧ i ≤ n ∧ i ≤ 300 ∧ al ≤ 4194304 ∧ Hid (∃ xb xc, FI w pb vb bk lt xb xc (al + 20 * i) (2 * i) wr)) (fun iv _ _ => n - (intOf iv).toNat)
  case atStart => exact ⟨0, 0, rfl, rfl, Nat.zero_le _, by omega, by omega, hid ⟨0, [], HF0.out⟩⟩
  case round =>
    obtain ⟨i, al, rfl, rfl, hi1, hi2, hal, HI⟩ := hrel
    have HNb : Hid (al + 20 * i ≤ 8388608) := hid (by omega)
    by_cases hin : i < n
    · have hin' : (i : Int) < (n : Int) := by omega
      by_cases hi3 : i < 300
      · have hi3' : (i : Int) < 300 := by omega
        as_aux_lemma =>
        obtain ⟨rfl, hgl⟩ := HRO.out.1 (by omega)
        obtain ⟨xb, xc, hfi⟩ := HI.out
        have HFi := hid hfi
        have HO := hid (HRO.out.2 i hin)
        have HRg : Hid (wr.rangeAt g (off + i * 23) (f i).cs) := hid (rng_keep HO.out.1 hfi.gr hgl)
        clear hfi hgl
        obtain ⟨k, hk, hand⟩ : ∃ k : Nat, k < 2 ∧ bits .and .i64 (f i).on 1 = (k : Int) := ⟨((f i).on % 2).toNat, by omega, by rw [Bk.i64_and1]; omega⟩
        obtain ⟨cs, hcs⟩ : ∃ x, (f i).cs = x := ⟨_, rfl⟩
        obtain ⟨dv, hdv⟩ : ∃ x, (f i).dv = x := ⟨_, rfl⟩
        obtain ⟨on, hon⟩ : ∃ x, (f i).on = x := ⟨_, rfl⟩
        obtain ⟨bl, hbl⟩ : ∃ x, (f i).bn = x := ⟨_, rfl⟩
        obtain ⟨ba, hba⟩ : ∃ x, (f i).ba = x := ⟨_, rfl⟩
        obtain ⟨bc, hbc⟩ : ∃ x, (f i).bc = x := ⟨_, rfl⟩
        have hbs : bl = (f i).bs.length := by
          rw [← hbl]
          obtain ⟨_, _, _, _, e, _⟩ := HO.out.2.b
          injection e with _ e _
        have hbl2 : bl ≤ 140737488355328 := by rw [hbs]; exact HO.out.2.l
        have HBS := hid hbs
        have HCl : Hid ((Tryz.prog.info? 67).map (·.size) = some cs.length) := hid (by rw [← hcs, Ow.len _ HO.out.2.d]; exact size67w)
        have HC0 : Hid (cs[0]? = some (.int .i64 dv) ∧ cs[1]? = some (.int .i64 on) ∧ cs[6]? = some (.slice ba bl bc) ∧ cs ≠ []) := hid (by rw [← hcs, ← hdv, ← hon, ← hba, ← hbl, ← hbc]; exact ⟨rfl, rfl, rfl, by intro e; cases e⟩)
        have HCS := hid hcs
        have HOne : Hid (∀ v ∈ cs, v.oneCell' = true) := hid (by rw [← hcs]; exact (f i).one)
        rw [hcs] at HRg
        rw [hon] at hand
        have HLen : Hid (cs.length = 23) := hid (by rw [← hcs]; exact Ow.len _ HO.out.2.d)
        have HFit : Hid (cs.length = Z67.length) := hid (HLen.out.trans rfl)
        clear hcs hdv hon hbl hba hbc hbs
        go_upto_region 10 with (first
          | (with_reducible refine wpList_load_part (by with_unfolding_all rfl) 67 _ (by with_unfolding_all rfl) g (off + i * 23) cs _ (by with_unfolding_all rfl) HRg.out Tryz.underlying67 (by with_unfolding_all rfl) HCl.out ?_)
          | ((with_reducible refine wpList_store_all (by with_unfolding_all rfl) 67 _ _ (by with_unfolding_all rfl) _ Z67 cs 67 (by with_unfolding_all rfl) (by with_unfolding_all rfl) HBo.out HFit.out HCl.out HOne.out ?_); intro w6 BB hg ss; have HB6 := hid BB; have HG6 := hid (grow_two HG5.out hg (Nat.le_refl _)); clear BB ss hg)
          | ((with_reducible refine wpList_alloc_row (by with_unfolding_all rfl) 67 (by with_unfolding_all rfl) Z67 zero67 ?_); intro w5 BB ss hg; have HBo := hid BB; have HG5 := hid hg; clear BB ss hg))
        obtain ⟨ob, hob⟩ : ∃ x, wr.heap.size = x := ⟨_, rfl⟩
        have HF : Hid (FI w pb vb bk lt ob cs (al + 20 * i) (2 * i) w6) := hid (by
          have h6 := HB6.out
          rw [hob] at h6
          exact HFi.out.field HG6.out h6 (by omega))
        rw [hob]
        clear hob HB6 HG6 HFi HRg HBo HG5
        have c1 : w6.cell? ⟨ob, 1, none⟩ = some (.int .i64 on) := ((HF.out.blk HC0.out.2.2.2).cell 1).trans HC0.out.2.1
        have c6 : w6.cell? ⟨ob, 6, none⟩ = some (.slice ba bl bc) := ((HF.out.blk HC0.out.2.2.2).cell 6).trans HC0.out.2.2.1
        by_cases hbig : (4194304 : Int) < (al : Int) + (bl : Int)
        · have HI : Hid (∃ xb xc, FI w pb vb bk lt xb xc (al + 20 * i) (2 * i) w6) := hid ⟨_, _, HF.out⟩
          clear HF HCl HC0 HCS HOne HLen HFit HO HBS hand
          obtain ⟨xb, xc, hfi⟩ := HI.out
          have HFe := hid hfi
          clear hfi
          have HEa := hid trivial
          have HE1 := hid (fun u hu => FI.done (k := 0) (u := u) hu (by decide) HNb.out (by omega) : ∀ u, FI w pb vb bk lt xb xc (al + 20 * i) (2 * i) u → Calls Tryz.prog 7 #[.pointer (some ⟨pb, 0, none⟩), .pointer (some ⟨vb, 0, none⟩), .pointer (some ⟨lt, 0, none⟩)] u fun e u' => e = .returned (.bool true) ∧ FI w pb vb bk lt xb xc (al + 20 * i) (2 * i + 2) u')
          have HE2 := hid (fun u hu => FI.done (k := 1) (u := u) hu (by decide) HNb.out (by omega) : ∀ u, FI w pb vb bk lt xb xc (al + 20 * i) (2 * i + 2) u → Calls Tryz.prog 7 #[.pointer (some ⟨pb, 3, none⟩), .pointer (some ⟨vb, 2, none⟩), .pointer (some ⟨lt, 0, none⟩)] u fun e u' => e = .returned (.bool true) ∧ FI w pb vb bk lt xb xc (al + 20 * i) (2 * i + 2 + 2) u')
          have HE3 := hid (fun u hu => FI.settle (u := u) hu (by omega) 0 : ∀ u, FI w pb vb bk lt xb xc (al + 20 * i) (2 * i + 2 + 2) u → Calls Tryz.prog 8 #[.pointer (some ⟨lt, 0, none⟩), .pointer (some ⟨bk, 0, none⟩), .int .i64 0] u fun e u' => e = .returned (.bool true) ∧ FI w pb vb bk lt xb xc (al + 20 * i) (2 * i + 2 + 2) u')
          have HE4 := hid (fun u hu => FI.look (u := u) hu : ∀ u, FI w pb vb bk lt xb xc (al + 20 * i) (2 * i + 2 + 2) u → Calls Tryz.prog 9 #[.pointer (some ⟨bk, 0, none⟩)] u fun e u' => e = .returned (.bool true) ∧ w.grownBy u' none)
          go_wp2_with (first
            | (go_at_call 7; have := HEa; clear this HEa; (with_reducible refine (HE1.out _ HFe.out).mono ?_); rintro e y1 ⟨rfl, hm⟩; replace HFe := hid hm; clear hm)
            | (go_at_call 7; (with_reducible refine (HE2.out _ HFe.out).mono ?_); rintro e y2 ⟨rfl, hm⟩; replace HFe := hid hm; clear hm)
            | (go_at_call 8; (with_reducible refine (HE3.out _ HFe.out).mono ?_); rintro e y3 ⟨rfl, hm⟩; replace HFe := hid hm; clear hm)
            | (go_at_call 9; (with_reducible refine (HE4.out _ HFe.out).mono ?_); rintro e y4 ⟨rfl, hm⟩; have HG9 := hid hm; clear hm)
            | (go_at_call 10; (with_reducible refine (HWk.out _ HG9.out).mono ?_); rintro e y5 ⟨rfl, hm⟩; have HG10 := hid hm; clear hm))
          go_ret
          exact ⟨rfl, gtrans HG9.out HG10.out⟩
        · have hbig' : al + bl ≤ 4194304 := by omega
          have HSK : Hid (∀ (N' m' : Nat) (u : World), FI w pb vb bk lt ob cs N' m' u → u.cell? ⟨ob, 0, none⟩ = some (.int .i64 dv) ∧ u.rangeAt ob 0 cs) := hid (fun N' m' u hu => ⟨((hu.blk HC0.out.2.2.2).cell 0).trans HC0.out.1, (hu.blk HC0.out.2.2.2).whole⟩)
          have H6 : Hid (∀ u, FI w pb vb bk lt ob cs (al + 20 * i) (2 * i) u → Calls Tryz.prog 6 #[.pointer (some ⟨pb, 3 * k, none⟩), .pointer (some ⟨vb, 2 * k, none⟩), .agg cs.toArray] u fun e u' => e = .returned (.bool true) ∧ FI w pb vb bk lt ob cs (al + 20 * i + bl + 20) (2 * i) u') := hid (fun u hu => by
            rw [← HCS.out, HBS.out]
            rw [← HCS.out] at hu
            exact hu.lays (by omega) (f i) HO.out.2 (by rw [← HBS.out]; omega) hk)
          have H7 : Hid (∀ u, FI w pb vb bk lt ob cs (al + 20 * i + bl + 20) (2 * i) u → Calls Tryz.prog 7 #[.pointer (some ⟨pb, 3 * k, none⟩), .pointer (some ⟨vb, 2 * k, none⟩), .pointer (some ⟨lt, 0, none⟩)] u fun e u' => e = .returned (.bool true) ∧ FI w pb vb bk lt ob cs (al + 20 * i + bl + 20) (2 * i + 2) u') := hid (fun u hu => hu.done hk (by omega) (by omega))
          have H8m : Hid (∀ m', m' ≤ 1000 → ∀ u, FI w pb vb bk lt ob cs (al + 20 * i + bl + 20) m' u → Calls Tryz.prog 8 #[.pointer (some ⟨lt, 0, none⟩), .pointer (some ⟨bk, 0, none⟩), .int .i64 6] u fun e u' => e = .returned (.bool true) ∧ FI w pb vb bk lt ob cs (al + 20 * i + bl + 20) m' u') := hid (fun m' hm u hu => hu.settle hm 6)
          have HI27 : Hid (∀ u, (Instr.indexAt 27 (.pointer (some ⟨pb, 0, none⟩)) (.int .i64 (k : Nat))).run Tryz.prog u = .ok (.pointer (some ⟨pb, 3 * k, none⟩)) u) := hid (fun u => idx27 pb k hk u)
          have HI31 : Hid (∀ u, (Instr.indexAt 31 (.pointer (some ⟨vb, 0, none⟩)) (.int .i64 (k : Nat))).run Tryz.prog u = .ok (.pointer (some ⟨vb, 2 * k, none⟩)) u) := hid (fun u => idx31 vb k hk u)
          clear HCS HOne HLen HFit HO HBS hk HC0 HI HNb
          by_cases hd7 : dv = 7
          · have H8 := hid (H8m.out (2 * i + 2) (by omega))
            go_upto_region 13 with fail
            clear c1 c6
            subst hd7
            refine wp_region_held_drew (S := (fun u => u.cell? ⟨ob, 0, none⟩ = some (.int .i64 7) ∧ u.rangeAt ob 0 cs)) (by kernel_rfl) ?_ (fun hHeld => ?_)
            · exact HSK.out _ _ _ (HF.out.keep (gdrew1 _ none))
            as_aux_lemma =>
              refine wpAnyH_take (i := 0) (oi := { dst := some 39, op := Op.move (Operand.tmp 10), type := 3, pos := "law.go:110", after := #[], guard := none }) (v := (.int .i64 (k : Nat))) rfl (by kernel_rfl) (by kernel_rfl) (by kernel_rfl) (fun _ _ _ h => h) (Or.inl ⟨by rfl, by intro u hSu; (try dsimp only at hSu); go_simp⟩) (by assumption) ?_
              (try simp only [Act.put, List.setIfInBounds_toArray, List.set_cons_zero, List.set_cons_succ])
              refine wpAnyH_take (i := 1) (oi := { dst := some 40, op := Op.indexAddr 27 (Operand.tmp 3) (Operand.tmp 39), type := 0, pos := "law.go:110", after := #[{ on := 0, ground := Ground.data }], guard := none }) (v := (.pointer (some ⟨pb, 3 * k, none⟩))) rfl (by kernel_rfl) (by kernel_rfl) (by kernel_rfl) (fun _ _ _ h => h) (Or.inl ⟨by rfl, by intro u hSu; (try dsimp only at hSu); have hq := HI27.out u; go_simp⟩) (by assumption) ?_
              (try simp only [Act.put, List.setIfInBounds_toArray, List.set_cons_zero, List.set_cons_succ])
              refine wpAnyH_take (i := 2) (oi := { dst := some 41, op := Op.move (Operand.tmp 10), type := 3, pos := "law.go:110", after := #[], guard := none }) (v := (.int .i64 (k : Nat))) rfl (by kernel_rfl) (by kernel_rfl) (by kernel_rfl) (fun _ _ _ h => h) (Or.inl ⟨by rfl, by intro u hSu; (try dsimp only at hSu); go_simp⟩) (by assumption) ?_
              (try simp only [Act.put, List.setIfInBounds_toArray, List.set_cons_zero, List.set_cons_succ])
              refine wpAnyH_take (i := 3) (oi := { dst := some 42, op := Op.indexAddr 31 (Operand.tmp 4) (Operand.tmp 41), type := 0, pos := "law.go:110", after := #[{ on := 2, ground := Ground.data }], guard := none }) (v := (.pointer (some ⟨vb, 2 * k, none⟩))) rfl (by kernel_rfl) (by kernel_rfl) (by kernel_rfl) (fun _ _ _ h => h) (Or.inl ⟨by rfl, by intro u hSu; (try dsimp only at hSu); have hq := HI31.out u; go_simp⟩) (by assumption) ?_
              (try simp only [Act.put, List.setIfInBounds_toArray, List.set_cons_zero, List.set_cons_succ])
              refine wpAnyH_take (i := 4) (oi := { dst := some 43, op := Op.load 67 (Operand.tmp 9), type := 67, pos := "law.go:110", after := #[], guard := none }) (v := (.agg cs.toArray)) rfl (by kernel_rfl) (by kernel_rfl) (by kernel_rfl) (fun _ _ _ h => h) (yieldsIf_load_mid rfl 67 (.tmp 9) rfl ob 0 rfl cs _ (fun _ h => h.2) Tryz.underlying67 rfl HCl.out) (by assumption) ?_
              (try simp only [Act.put, List.setIfInBounds_toArray, List.set_cons_zero, List.set_cons_succ])
              as_aux_lemma =>
                refine wpAnyH_ready (rs := [5]) (by kernel_rfl) (by simp) ?_
                refine AllReadyH.cons (o := { dst := some 44, op := Op.call { callee := Callee.value (Operand.func 6), args := #[Operand.tmp 40, Operand.tmp 42, Operand.tmp 43], argTypes := #[69, 70, 67] }, type := 4, pos := "law.go:110", after := #[{ on := 1, ground := Ground.data }, { on := 3, ground := Ground.data }, { on := 4, ground := Ground.data }], guard := none }) rfl (fun K hK => ?_) AllReadyH.nil
                go_simp
                go_wp2_with (go_at_call 6; refine (H6.out _ (HF.out.keep (gdrew1 _ none))).mono ?_; rintro e w6 ⟨rfl, hm⟩; have HF6 := hid hm; clear hm)
                refine hK.out _ _ ?_ (fun hHeld => ?_)
                · exact HSK.out _ _ _ HF6.out
                clear hK K
                (try simp only [Act.put, List.setIfInBounds_toArray, List.set_cons_zero, List.set_cons_succ])
                refine wpAnyH_take (i := 6) (oi := { dst := some 45, op := Op.unOp UnOp.not 4 (Operand.tmp 44), type := 4, pos := "law.go:110", after := #[{ on := 5, ground := Ground.data }], guard := none }) (v := (.bool false)) rfl (by kernel_rfl) (by kernel_rfl) (by kernel_rfl) (fun _ _ _ h => h) (Or.inl ⟨by rfl, by intro u hSu; (try dsimp only at hSu); go_simp⟩) (by assumption) ?_
                (try simp only [Act.put, List.setIfInBounds_toArray, List.set_cons_zero, List.set_cons_succ])
                refine wpAnyH_take (i := 7) (oi := { dst := some 46, op := Op.move (Operand.tmp 45), type := 4, pos := "law.go:110", after := #[{ on := 6, ground := Ground.data }, { on := 5, ground := Ground.chain }], guard := none }) (v := (.bool false)) rfl (by kernel_rfl) (by kernel_rfl) (by kernel_rfl) (fun _ _ _ h => h) (Or.inl ⟨by rfl, by intro u hSu; (try dsimp only at hSu); go_simp⟩) (by assumption) ?_
                (try simp only [Act.put, List.setIfInBounds_toArray, List.set_cons_zero, List.set_cons_succ])
                refine wpAnyH_take (i := 8) (oi := { dst := some 47, op := Op.fieldAddr 67 (Operand.tmp 9) 0, type := 0, pos := "law.go:110", after := #[{ on := 7, ground := Ground.guard }], guard := some (7, false) }) (v := (.pointer (some ⟨ob, 0, none⟩))) rfl (by kernel_rfl) (by kernel_rfl) (by kernel_rfl) (fun _ _ _ h => h) (Or.inl ⟨by rfl, by intro u hSu; (try dsimp only at hSu); go_simp⟩) (by assumption) ?_
                (try simp only [Act.put, List.setIfInBounds_toArray, List.set_cons_zero, List.set_cons_succ])
                refine wpAnyH_take (i := 9) (oi := { dst := some 48, op := Op.load 3 (Operand.tmp 47), type := 3, pos := "law.go:110", after := #[{ on := 8, ground := Ground.data }, { on := 7, ground := Ground.guard }], guard := some (7, false) }) (v := (.int .i64 7)) rfl (by kernel_rfl) (by kernel_rfl) (by kernel_rfl) (fun _ _ _ h => h) (Or.inl ⟨by rfl, by intro u hSu; (try dsimp only at hSu); go_simp⟩) (by assumption) ?_
                (try simp only [Act.put, List.setIfInBounds_toArray, List.set_cons_zero, List.set_cons_succ])
                as_aux_lemma =>
                  refine wpAnyH_take (i := 10) (oi := { dst := some 49, op := Op.binOp BinOp.eql 3 (Operand.tmp 48) (Operand.const (Value.int IntKind.i64 7)) 3, type := 4, pos := "law.go:110", after := #[{ on := 9, ground := Ground.data }, { on := 7, ground := Ground.guard }], guard := some (7, false) }) (v := (.bool true)) rfl (by kernel_rfl) (by kernel_rfl) (by kernel_rfl) (fun _ _ _ h => h) (Or.inl ⟨by rfl, by intro u hSu; (try dsimp only at hSu); go_simp⟩) (by assumption) ?_
                  (try simp only [Act.put, List.setIfInBounds_toArray, List.set_cons_zero, List.set_cons_succ])
                  refine wpAnyH_take (i := 11) (oi := { dst := some 50, op := Op.move (Operand.tmp 49), type := 4, pos := "law.go:110", after := #[{ on := 10, ground := Ground.data }, { on := 7, ground := Ground.chain }, { on := 7, ground := Ground.guard }], guard := some (7, false) }) (v := (.bool true)) rfl (by kernel_rfl) (by kernel_rfl) (by kernel_rfl) (fun _ _ _ h => h) (Or.inl ⟨by rfl, by intro u hSu; (try dsimp only at hSu); go_simp⟩) (by assumption) ?_
                  (try simp only [Act.put, List.setIfInBounds_toArray, List.set_cons_zero, List.set_cons_succ])
                  refine wpAnyH_take (i := 12) (oi := { dst := some 51, op := Op.move (Operand.tmp 10), type := 3, pos := "law.go:110", after := #[{ on := 11, ground := Ground.guard }], guard := some (11, true) }) (v := (.int .i64 (k : Nat))) rfl (by kernel_rfl) (by kernel_rfl) (by kernel_rfl) (fun _ _ _ h => h) (Or.inl ⟨by rfl, by intro u hSu; (try dsimp only at hSu); go_simp⟩) (by assumption) ?_
                  (try simp only [Act.put, List.setIfInBounds_toArray, List.set_cons_zero, List.set_cons_succ])
                  refine wpAnyH_take (i := 13) (oi := { dst := some 52, op := Op.indexAddr 27 (Operand.tmp 3) (Operand.tmp 51), type := 0, pos := "law.go:110", after := #[{ on := 12, ground := Ground.data }, { on := 11, ground := Ground.guard }], guard := some (11, true) }) (v := (.pointer (some ⟨pb, 3 * k, none⟩))) rfl (by kernel_rfl) (by kernel_rfl) (by kernel_rfl) (fun _ _ _ h => h) (Or.inl ⟨by rfl, by intro u hSu; (try dsimp only at hSu); have hq := HI27.out u; go_simp⟩) (by assumption) ?_
                  (try simp only [Act.put, List.setIfInBounds_toArray, List.set_cons_zero, List.set_cons_succ])
                  refine wpAnyH_take (i := 14) (oi := { dst := some 53, op := Op.move (Operand.tmp 10), type := 3, pos := "law.go:110", after := #[{ on := 11, ground := Ground.guard }], guard := some (11, true) }) (v := (.int .i64 (k : Nat))) rfl (by kernel_rfl) (by kernel_rfl) (by kernel_rfl) (fun _ _ _ h => h) (Or.inl ⟨by rfl, by intro u hSu; (try dsimp only at hSu); go_simp⟩) (by assumption) ?_
                  (try simp only [Act.put, List.setIfInBounds_toArray, List.set_cons_zero, List.set_cons_succ])
                  refine wpAnyH_take (i := 15) (oi := { dst := some 54, op := Op.indexAddr 31 (Operand.tmp 4) (Operand.tmp 53), type := 0, pos := "law.go:110", after := #[{ on := 14, ground := Ground.data }, { on := 11, ground := Ground.guard }], guard := some (11, true) }) (v := (.pointer (some ⟨vb, 2 * k, none⟩))) rfl (by kernel_rfl) (by kernel_rfl) (by kernel_rfl) (fun _ _ _ h => h) (Or.inl ⟨by rfl, by intro u hSu; (try dsimp only at hSu); have hq := HI31.out u; go_simp⟩) (by assumption) ?_
                  (try simp only [Act.put, List.setIfInBounds_toArray, List.set_cons_zero, List.set_cons_succ])
                  refine wpAnyH_take (i := 16) (oi := { dst := some 55, op := Op.move (Operand.tmp 6), type := 60, pos := "law.go:110", after := #[{ on := 11, ground := Ground.guard }], guard := some (11, true) }) (v := (.pointer (some ⟨lt, 0, none⟩))) rfl (by kernel_rfl) (by kernel_rfl) (by kernel_rfl) (fun _ _ _ h => h) (Or.inl ⟨by rfl, by intro u hSu; (try dsimp only at hSu); go_simp⟩) (by assumption) ?_
                  (try simp only [Act.put, List.setIfInBounds_toArray, List.set_cons_zero, List.set_cons_succ])
                  as_aux_lemma =>
                    refine wpAnyH_ready (rs := [17]) (by kernel_rfl) (by simp) ?_
                    refine AllReadyH.cons (o := { dst := some 56, op := Op.call { callee := Callee.value (Operand.func 7), args := #[Operand.tmp 52, Operand.tmp 54, Operand.tmp 55], argTypes := #[69, 70, 60] }, type := 4, pos := "law.go:110", after := #[{ on := 13, ground := Ground.data }, { on := 15, ground := Ground.data }, { on := 16, ground := Ground.data }, { on := 11, ground := Ground.chain }, { on := 11, ground := Ground.guard }], guard := some (11, true) }) rfl (fun K hK => ?_) AllReadyH.nil
                    go_simp
                    go_wp2_with (go_at_call 7; refine (H7.out _ HF6.out).mono ?_; rintro e w7 ⟨rfl, hm⟩; have HF7 := hid hm; clear hm)
                    refine hK.out _ _ ?_ (fun hHeld => ?_)
                    · exact HSK.out _ _ _ HF7.out
                    clear hK K
                    (try simp only [Act.put, List.setIfInBounds_toArray, List.set_cons_zero, List.set_cons_succ])
                    refine wpAnyH_take (i := 18) (oi := { dst := some 57, op := Op.unOp UnOp.not 4 (Operand.tmp 56), type := 4, pos := "law.go:110", after := #[{ on := 17, ground := Ground.data }, { on := 11, ground := Ground.guard }], guard := some (11, true) }) (v := (.bool false)) rfl (by kernel_rfl) (by kernel_rfl) (by kernel_rfl) (fun _ _ _ h => h) (Or.inl ⟨by rfl, by intro u hSu; (try dsimp only at hSu); go_simp⟩) (by assumption) ?_
                    (try simp only [Act.put, List.setIfInBounds_toArray, List.set_cons_zero, List.set_cons_succ])
                    refine wpAnyH_take (i := 19) (oi := { dst := some 58, op := Op.pick (Operand.tmp 50) (Operand.tmp 57) (Operand.const (Value.bool false)), type := 4, pos := "law.go:110", after := #[{ on := 11, ground := Ground.data }, { on := 18, ground := Ground.data }, { on := 7, ground := Ground.guard }], guard := some (7, false) }) (v := (.bool false)) rfl (by kernel_rfl) (by kernel_rfl) (by kernel_rfl) (fun _ _ _ h => h) (Or.inl ⟨by rfl, by intro u hSu; (try dsimp only at hSu); go_simp⟩) (by assumption) ?_
                    (try simp only [Act.put, List.setIfInBounds_toArray, List.set_cons_zero, List.set_cons_succ])
                    refine wpAnyH_take (i := 20) (oi := { dst := some 59, op := Op.pick (Operand.tmp 46) (Operand.const (Value.bool true)) (Operand.tmp 58), type := 4, pos := "law.go:110", after := #[{ on := 7, ground := Ground.data }, { on := 19, ground := Ground.data }], guard := none }) (v := (.bool false)) rfl (by kernel_rfl) (by kernel_rfl) (by kernel_rfl) (fun _ _ _ h => h) (Or.inl ⟨by rfl, by intro u hSu; (try dsimp only at hSu); go_simp⟩) (by assumption) ?_
                    (try simp only [Act.put, List.setIfInBounds_toArray, List.set_cons_zero, List.set_cons_succ])
                    refine wpAnyH_take (i := 21) (oi := { dst := some 60, op := Op.move (Operand.tmp 59), type := 4, pos := "law.go:110", after := #[{ on := 20, ground := Ground.data }, { on := 17, ground := Ground.chain }], guard := none }) (v := (.bool false)) rfl (by kernel_rfl) (by kernel_rfl) (by kernel_rfl) (fun _ _ _ h => h) (Or.inl ⟨by rfl, by intro u hSu; (try dsimp only at hSu); go_simp⟩) (by assumption) ?_
                    (try simp only [Act.put, List.setIfInBounds_toArray, List.set_cons_zero, List.set_cons_succ])
                    refine wpAnyH_take (i := 22) (oi := { dst := some 61, op := Op.move (Operand.tmp 6), type := 60, pos := "law.go:110", after := #[{ on := 21, ground := Ground.guard }], guard := some (21, false) }) (v := (.pointer (some ⟨lt, 0, none⟩))) rfl (by kernel_rfl) (by kernel_rfl) (by kernel_rfl) (fun _ _ _ h => h) (Or.inl ⟨by rfl, by intro u hSu; (try dsimp only at hSu); go_simp⟩) (by assumption) ?_
                    (try simp only [Act.put, List.setIfInBounds_toArray, List.set_cons_zero, List.set_cons_succ])
                    refine wpAnyH_take (i := 23) (oi := { dst := some 62, op := Op.move (Operand.tmp 5), type := 32, pos := "law.go:110", after := #[{ on := 21, ground := Ground.guard }], guard := some (21, false) }) (v := (.pointer (some ⟨bk, 0, none⟩))) rfl (by kernel_rfl) (by kernel_rfl) (by kernel_rfl) (fun _ _ _ h => h) (Or.inl ⟨by rfl, by intro u hSu; (try dsimp only at hSu); go_simp⟩) (by assumption) ?_
                    (try simp only [Act.put, List.setIfInBounds_toArray, List.set_cons_zero, List.set_cons_succ])
                    as_aux_lemma =>
                      refine wpAnyH_ready (rs := [24]) (by kernel_rfl) (by simp) ?_
                      refine AllReadyH.cons (o := { dst := some 63, op := Op.call { callee := Callee.value (Operand.func 8), args := #[Operand.tmp 61, Operand.tmp 62, Operand.const (Value.int IntKind.i64 6)], argTypes := #[60, 32, 3] }, type := 4, pos := "law.go:110", after := #[{ on := 22, ground := Ground.data }, { on := 23, ground := Ground.data }, { on := 21, ground := Ground.chain }, { on := 21, ground := Ground.guard }], guard := some (21, false) }) rfl (fun K hK => ?_) AllReadyH.nil
                      go_simp
                      go_wp2_with (go_at_call 8; refine (H8.out _ HF7.out).mono ?_; rintro e w8 ⟨rfl, hm⟩; have HF8 := hid hm; clear hm)
                      refine hK.out _ _ ?_ (fun hHeld => ?_)
                      · exact HSK.out _ _ _ HF8.out
                      clear hK K
                      (try simp only [Act.put, List.setIfInBounds_toArray, List.set_cons_zero, List.set_cons_succ])
                      refine wpAnyH_take (i := 25) (oi := { dst := some 64, op := Op.unOp UnOp.not 4 (Operand.tmp 63), type := 4, pos := "law.go:110", after := #[{ on := 24, ground := Ground.data }, { on := 21, ground := Ground.guard }], guard := some (21, false) }) (v := (.bool false)) rfl (by kernel_rfl) (by kernel_rfl) (by kernel_rfl) (fun _ _ _ h => h) (Or.inl ⟨by rfl, by intro u hSu; (try dsimp only at hSu); go_simp⟩) (by assumption) ?_
                      (try simp only [Act.put, List.setIfInBounds_toArray, List.set_cons_zero, List.set_cons_succ])
                      refine wpAnyH_take (i := 26) (oi := { dst := some 65, op := Op.pick (Operand.tmp 60) (Operand.const (Value.bool true)) (Operand.tmp 64), type := 4, pos := "law.go:110", after := #[{ on := 21, ground := Ground.data }, { on := 25, ground := Ground.data }], guard := none }) (v := (.bool false)) rfl (by kernel_rfl) (by kernel_rfl) (by kernel_rfl) (fun _ _ _ h => h) (Or.inl ⟨by rfl, by intro u hSu; (try dsimp only at hSu); go_simp⟩) (by assumption) ?_
                      (try simp only [Act.put, List.setIfInBounds_toArray, List.set_cons_zero, List.set_cons_succ])
                      refine wpAnyH_done (by kernel_rfl) ?_ _
                      as_aux_lemma =>
                        go_wp2_with fail
                        go_roundw
                        case rel => exact ⟨i + 1, al + bl, by go_num, by go_num, by omega, by omega, by omega, hid ⟨ob, cs, HF8.out.up (by omega) (by omega)⟩⟩
                        case measure => simp [intOf]; omega
          · have H8 := hid (H8m.out (2 * i) (by omega))
            have hd7' : decide (dv = 7) = false := decide_eq_false hd7
            have hd8 : (dv == 7) = false := beq_eq_false_iff_ne.2 hd7
            go_upto_region 13 with fail
            clear c1 c6
            refine wp_region_held_drew (S := (fun u => u.cell? ⟨ob, 0, none⟩ = some (.int .i64 dv) ∧ u.rangeAt ob 0 cs)) (by kernel_rfl) ?_ (fun hHeld => ?_)
            · exact HSK.out _ _ _ (HF.out.keep (gdrew1 _ none))
            as_aux_lemma =>
              refine wpAnyH_take (i := 0) (oi := { dst := some 39, op := Op.move (Operand.tmp 10), type := 3, pos := "law.go:110", after := #[], guard := none }) (v := (.int .i64 (k : Nat))) rfl (by kernel_rfl) (by kernel_rfl) (by kernel_rfl) (fun _ _ _ h => h) (Or.inl ⟨by rfl, by intro u hSu; (try dsimp only at hSu); go_simp⟩) (by assumption) ?_
              (try simp only [Act.put, List.setIfInBounds_toArray, List.set_cons_zero, List.set_cons_succ])
              refine wpAnyH_take (i := 1) (oi := { dst := some 40, op := Op.indexAddr 27 (Operand.tmp 3) (Operand.tmp 39), type := 0, pos := "law.go:110", after := #[{ on := 0, ground := Ground.data }], guard := none }) (v := (.pointer (some ⟨pb, 3 * k, none⟩))) rfl (by kernel_rfl) (by kernel_rfl) (by kernel_rfl) (fun _ _ _ h => h) (Or.inl ⟨by rfl, by intro u hSu; (try dsimp only at hSu); have hq := HI27.out u; go_simp⟩) (by assumption) ?_
              (try simp only [Act.put, List.setIfInBounds_toArray, List.set_cons_zero, List.set_cons_succ])
              refine wpAnyH_take (i := 2) (oi := { dst := some 41, op := Op.move (Operand.tmp 10), type := 3, pos := "law.go:110", after := #[], guard := none }) (v := (.int .i64 (k : Nat))) rfl (by kernel_rfl) (by kernel_rfl) (by kernel_rfl) (fun _ _ _ h => h) (Or.inl ⟨by rfl, by intro u hSu; (try dsimp only at hSu); go_simp⟩) (by assumption) ?_
              (try simp only [Act.put, List.setIfInBounds_toArray, List.set_cons_zero, List.set_cons_succ])
              refine wpAnyH_take (i := 3) (oi := { dst := some 42, op := Op.indexAddr 31 (Operand.tmp 4) (Operand.tmp 41), type := 0, pos := "law.go:110", after := #[{ on := 2, ground := Ground.data }], guard := none }) (v := (.pointer (some ⟨vb, 2 * k, none⟩))) rfl (by kernel_rfl) (by kernel_rfl) (by kernel_rfl) (fun _ _ _ h => h) (Or.inl ⟨by rfl, by intro u hSu; (try dsimp only at hSu); have hq := HI31.out u; go_simp⟩) (by assumption) ?_
              (try simp only [Act.put, List.setIfInBounds_toArray, List.set_cons_zero, List.set_cons_succ])
              refine wpAnyH_take (i := 4) (oi := { dst := some 43, op := Op.load 67 (Operand.tmp 9), type := 67, pos := "law.go:110", after := #[], guard := none }) (v := (.agg cs.toArray)) rfl (by kernel_rfl) (by kernel_rfl) (by kernel_rfl) (fun _ _ _ h => h) (yieldsIf_load_mid rfl 67 (.tmp 9) rfl ob 0 rfl cs _ (fun _ h => h.2) Tryz.underlying67 rfl HCl.out) (by assumption) ?_
              (try simp only [Act.put, List.setIfInBounds_toArray, List.set_cons_zero, List.set_cons_succ])
              as_aux_lemma =>
                refine wpAnyH_ready (rs := [5]) (by kernel_rfl) (by simp) ?_
                refine AllReadyH.cons (o := { dst := some 44, op := Op.call { callee := Callee.value (Operand.func 6), args := #[Operand.tmp 40, Operand.tmp 42, Operand.tmp 43], argTypes := #[69, 70, 67] }, type := 4, pos := "law.go:110", after := #[{ on := 1, ground := Ground.data }, { on := 3, ground := Ground.data }, { on := 4, ground := Ground.data }], guard := none }) rfl (fun K hK => ?_) AllReadyH.nil
                go_simp
                go_wp2_with (go_at_call 6; refine (H6.out _ (HF.out.keep (gdrew1 _ none))).mono ?_; rintro e w6 ⟨rfl, hm⟩; have HF6 := hid hm; clear hm)
                refine hK.out _ _ ?_ (fun hHeld => ?_)
                · exact HSK.out _ _ _ HF6.out
                clear hK K
                (try simp only [Act.put, List.setIfInBounds_toArray, List.set_cons_zero, List.set_cons_succ])
                refine wpAnyH_take (i := 6) (oi := { dst := some 45, op := Op.unOp UnOp.not 4 (Operand.tmp 44), type := 4, pos := "law.go:110", after := #[{ on := 5, ground := Ground.data }], guard := none }) (v := (.bool false)) rfl (by kernel_rfl) (by kernel_rfl) (by kernel_rfl) (fun _ _ _ h => h) (Or.inl ⟨by rfl, by intro u hSu; (try dsimp only at hSu); go_simp⟩) (by assumption) ?_
                (try simp only [Act.put, List.setIfInBounds_toArray, List.set_cons_zero, List.set_cons_succ])
                refine wpAnyH_take (i := 7) (oi := { dst := some 46, op := Op.move (Operand.tmp 45), type := 4, pos := "law.go:110", after := #[{ on := 6, ground := Ground.data }, { on := 5, ground := Ground.chain }], guard := none }) (v := (.bool false)) rfl (by kernel_rfl) (by kernel_rfl) (by kernel_rfl) (fun _ _ _ h => h) (Or.inl ⟨by rfl, by intro u hSu; (try dsimp only at hSu); go_simp⟩) (by assumption) ?_
                (try simp only [Act.put, List.setIfInBounds_toArray, List.set_cons_zero, List.set_cons_succ])
                refine wpAnyH_take (i := 8) (oi := { dst := some 47, op := Op.fieldAddr 67 (Operand.tmp 9) 0, type := 0, pos := "law.go:110", after := #[{ on := 7, ground := Ground.guard }], guard := some (7, false) }) (v := (.pointer (some ⟨ob, 0, none⟩))) rfl (by kernel_rfl) (by kernel_rfl) (by kernel_rfl) (fun _ _ _ h => h) (Or.inl ⟨by rfl, by intro u hSu; (try dsimp only at hSu); go_simp⟩) (by assumption) ?_
                (try simp only [Act.put, List.setIfInBounds_toArray, List.set_cons_zero, List.set_cons_succ])
                refine wpAnyH_take (i := 9) (oi := { dst := some 48, op := Op.load 3 (Operand.tmp 47), type := 3, pos := "law.go:110", after := #[{ on := 8, ground := Ground.data }, { on := 7, ground := Ground.guard }], guard := some (7, false) }) (v := (.int .i64 dv)) rfl (by kernel_rfl) (by kernel_rfl) (by kernel_rfl) (fun _ _ _ h => h) (Or.inl ⟨by rfl, by intro u hSu; (try dsimp only at hSu); go_simp⟩) (by assumption) ?_
                (try simp only [Act.put, List.setIfInBounds_toArray, List.set_cons_zero, List.set_cons_succ])
                as_aux_lemma =>
                  refine wpAnyH_take (i := 10) (oi := { dst := some 49, op := Op.binOp BinOp.eql 3 (Operand.tmp 48) (Operand.const (Value.int IntKind.i64 7)) 3, type := 4, pos := "law.go:110", after := #[{ on := 9, ground := Ground.data }, { on := 7, ground := Ground.guard }], guard := some (7, false) }) (v := (.bool false)) rfl (by kernel_rfl) (by kernel_rfl) (by kernel_rfl) (fun _ _ _ h => h) (Or.inl ⟨by rfl, by intro u hSu; (try dsimp only at hSu); go_simp⟩) (by assumption) ?_
                  (try simp only [Act.put, List.setIfInBounds_toArray, List.set_cons_zero, List.set_cons_succ])
                  refine wpAnyH_take (i := 11) (oi := { dst := some 50, op := Op.move (Operand.tmp 49), type := 4, pos := "law.go:110", after := #[{ on := 10, ground := Ground.data }, { on := 7, ground := Ground.chain }, { on := 7, ground := Ground.guard }], guard := some (7, false) }) (v := (.bool false)) rfl (by kernel_rfl) (by kernel_rfl) (by kernel_rfl) (fun _ _ _ h => h) (Or.inl ⟨by rfl, by intro u hSu; (try dsimp only at hSu); go_simp⟩) (by assumption) ?_
                  (try simp only [Act.put, List.setIfInBounds_toArray, List.set_cons_zero, List.set_cons_succ])
                  refine wpAnyH_take (i := 12) (oi := { dst := some 51, op := Op.move (Operand.tmp 10), type := 3, pos := "law.go:110", after := #[{ on := 11, ground := Ground.guard }], guard := some (11, true) }) (v := undef) rfl (by kernel_rfl) (by kernel_rfl) (by kernel_rfl) (fun _ _ _ h => h) (Or.inr ⟨by rfl, rfl⟩) (by assumption) ?_
                  (try simp only [Act.put, List.setIfInBounds_toArray, List.set_cons_zero, List.set_cons_succ])
                  refine wpAnyH_take (i := 13) (oi := { dst := some 52, op := Op.indexAddr 27 (Operand.tmp 3) (Operand.tmp 51), type := 0, pos := "law.go:110", after := #[{ on := 12, ground := Ground.data }, { on := 11, ground := Ground.guard }], guard := some (11, true) }) (v := undef) rfl (by kernel_rfl) (by kernel_rfl) (by kernel_rfl) (fun _ _ _ h => h) (Or.inr ⟨by rfl, rfl⟩) (by assumption) ?_
                  (try simp only [Act.put, List.setIfInBounds_toArray, List.set_cons_zero, List.set_cons_succ])
                  refine wpAnyH_take (i := 14) (oi := { dst := some 53, op := Op.move (Operand.tmp 10), type := 3, pos := "law.go:110", after := #[{ on := 11, ground := Ground.guard }], guard := some (11, true) }) (v := undef) rfl (by kernel_rfl) (by kernel_rfl) (by kernel_rfl) (fun _ _ _ h => h) (Or.inr ⟨by rfl, rfl⟩) (by assumption) ?_
                  (try simp only [Act.put, List.setIfInBounds_toArray, List.set_cons_zero, List.set_cons_succ])
                  refine wpAnyH_take (i := 15) (oi := { dst := some 54, op := Op.indexAddr 31 (Operand.tmp 4) (Operand.tmp 53), type := 0, pos := "law.go:110", after := #[{ on := 14, ground := Ground.data }, { on := 11, ground := Ground.guard }], guard := some (11, true) }) (v := undef) rfl (by kernel_rfl) (by kernel_rfl) (by kernel_rfl) (fun _ _ _ h => h) (Or.inr ⟨by rfl, rfl⟩) (by assumption) ?_
                  (try simp only [Act.put, List.setIfInBounds_toArray, List.set_cons_zero, List.set_cons_succ])
                  refine wpAnyH_take (i := 16) (oi := { dst := some 55, op := Op.move (Operand.tmp 6), type := 60, pos := "law.go:110", after := #[{ on := 11, ground := Ground.guard }], guard := some (11, true) }) (v := undef) rfl (by kernel_rfl) (by kernel_rfl) (by kernel_rfl) (fun _ _ _ h => h) (Or.inr ⟨by rfl, rfl⟩) (by assumption) ?_
                  (try simp only [Act.put, List.setIfInBounds_toArray, List.set_cons_zero, List.set_cons_succ])
                  refine wpAnyH_take (i := 17) (oi := { dst := some 56, op := Op.call { callee := Callee.value (Operand.func 7), args := #[Operand.tmp 52, Operand.tmp 54, Operand.tmp 55], argTypes := #[69, 70, 60] }, type := 4, pos := "law.go:110", after := #[{ on := 13, ground := Ground.data }, { on := 15, ground := Ground.data }, { on := 16, ground := Ground.data }, { on := 11, ground := Ground.chain }, { on := 11, ground := Ground.guard }], guard := some (11, true) }) (v := undef) rfl (by kernel_rfl) (by kernel_rfl) (by kernel_rfl) (fun _ _ _ h => h) (Or.inr ⟨by rfl, rfl⟩) (by assumption) ?_
                  (try simp only [Act.put, List.setIfInBounds_toArray, List.set_cons_zero, List.set_cons_succ])
                  refine wpAnyH_take (i := 18) (oi := { dst := some 57, op := Op.unOp UnOp.not 4 (Operand.tmp 56), type := 4, pos := "law.go:110", after := #[{ on := 17, ground := Ground.data }, { on := 11, ground := Ground.guard }], guard := some (11, true) }) (v := undef) rfl (by kernel_rfl) (by kernel_rfl) (by kernel_rfl) (fun _ _ _ h => h) (Or.inr ⟨by rfl, rfl⟩) (by assumption) ?_
                  (try simp only [Act.put, List.setIfInBounds_toArray, List.set_cons_zero, List.set_cons_succ])
                  refine wpAnyH_take (i := 19) (oi := { dst := some 58, op := Op.pick (Operand.tmp 50) (Operand.tmp 57) (Operand.const (Value.bool false)), type := 4, pos := "law.go:110", after := #[{ on := 11, ground := Ground.data }, { on := 18, ground := Ground.data }, { on := 7, ground := Ground.guard }], guard := some (7, false) }) (v := (.bool false)) rfl (by kernel_rfl) (by kernel_rfl) (by kernel_rfl) (fun _ _ _ h => h) (Or.inl ⟨by rfl, by intro u hSu; (try dsimp only at hSu); go_simp⟩) (by assumption) ?_
                  (try simp only [Act.put, List.setIfInBounds_toArray, List.set_cons_zero, List.set_cons_succ])
                  refine wpAnyH_take (i := 20) (oi := { dst := some 59, op := Op.pick (Operand.tmp 46) (Operand.const (Value.bool true)) (Operand.tmp 58), type := 4, pos := "law.go:110", after := #[{ on := 7, ground := Ground.data }, { on := 19, ground := Ground.data }], guard := none }) (v := (.bool false)) rfl (by kernel_rfl) (by kernel_rfl) (by kernel_rfl) (fun _ _ _ h => h) (Or.inl ⟨by rfl, by intro u hSu; (try dsimp only at hSu); go_simp⟩) (by assumption) ?_
                  (try simp only [Act.put, List.setIfInBounds_toArray, List.set_cons_zero, List.set_cons_succ])
                  refine wpAnyH_take (i := 21) (oi := { dst := some 60, op := Op.move (Operand.tmp 59), type := 4, pos := "law.go:110", after := #[{ on := 20, ground := Ground.data }, { on := 17, ground := Ground.chain }], guard := none }) (v := (.bool false)) rfl (by kernel_rfl) (by kernel_rfl) (by kernel_rfl) (fun _ _ _ h => h) (Or.inl ⟨by rfl, by intro u hSu; (try dsimp only at hSu); go_simp⟩) (by assumption) ?_
                  (try simp only [Act.put, List.setIfInBounds_toArray, List.set_cons_zero, List.set_cons_succ])
                  refine wpAnyH_take (i := 22) (oi := { dst := some 61, op := Op.move (Operand.tmp 6), type := 60, pos := "law.go:110", after := #[{ on := 21, ground := Ground.guard }], guard := some (21, false) }) (v := (.pointer (some ⟨lt, 0, none⟩))) rfl (by kernel_rfl) (by kernel_rfl) (by kernel_rfl) (fun _ _ _ h => h) (Or.inl ⟨by rfl, by intro u hSu; (try dsimp only at hSu); go_simp⟩) (by assumption) ?_
                  (try simp only [Act.put, List.setIfInBounds_toArray, List.set_cons_zero, List.set_cons_succ])
                  refine wpAnyH_take (i := 23) (oi := { dst := some 62, op := Op.move (Operand.tmp 5), type := 32, pos := "law.go:110", after := #[{ on := 21, ground := Ground.guard }], guard := some (21, false) }) (v := (.pointer (some ⟨bk, 0, none⟩))) rfl (by kernel_rfl) (by kernel_rfl) (by kernel_rfl) (fun _ _ _ h => h) (Or.inl ⟨by rfl, by intro u hSu; (try dsimp only at hSu); go_simp⟩) (by assumption) ?_
                  (try simp only [Act.put, List.setIfInBounds_toArray, List.set_cons_zero, List.set_cons_succ])
                  as_aux_lemma =>
                    refine wpAnyH_ready (rs := [24]) (by kernel_rfl) (by simp) ?_
                    refine AllReadyH.cons (o := { dst := some 63, op := Op.call { callee := Callee.value (Operand.func 8), args := #[Operand.tmp 61, Operand.tmp 62, Operand.const (Value.int IntKind.i64 6)], argTypes := #[60, 32, 3] }, type := 4, pos := "law.go:110", after := #[{ on := 22, ground := Ground.data }, { on := 23, ground := Ground.data }, { on := 21, ground := Ground.chain }, { on := 21, ground := Ground.guard }], guard := some (21, false) }) rfl (fun K hK => ?_) AllReadyH.nil
                    go_simp
                    go_wp2_with (go_at_call 8; refine (H8.out _ HF6.out).mono ?_; rintro e w8 ⟨rfl, hm⟩; have HF8 := hid hm; clear hm)
                    refine hK.out _ _ ?_ (fun hHeld => ?_)
                    · exact HSK.out _ _ _ HF8.out
                    clear hK K
                    (try simp only [Act.put, List.setIfInBounds_toArray, List.set_cons_zero, List.set_cons_succ])
                    refine wpAnyH_take (i := 25) (oi := { dst := some 64, op := Op.unOp UnOp.not 4 (Operand.tmp 63), type := 4, pos := "law.go:110", after := #[{ on := 24, ground := Ground.data }, { on := 21, ground := Ground.guard }], guard := some (21, false) }) (v := (.bool false)) rfl (by kernel_rfl) (by kernel_rfl) (by kernel_rfl) (fun _ _ _ h => h) (Or.inl ⟨by rfl, by intro u hSu; (try dsimp only at hSu); go_simp⟩) (by assumption) ?_
                    (try simp only [Act.put, List.setIfInBounds_toArray, List.set_cons_zero, List.set_cons_succ])
                    refine wpAnyH_take (i := 26) (oi := { dst := some 65, op := Op.pick (Operand.tmp 60) (Operand.const (Value.bool true)) (Operand.tmp 64), type := 4, pos := "law.go:110", after := #[{ on := 21, ground := Ground.data }, { on := 25, ground := Ground.data }], guard := none }) (v := (.bool false)) rfl (by kernel_rfl) (by kernel_rfl) (by kernel_rfl) (fun _ _ _ h => h) (Or.inl ⟨by rfl, by intro u hSu; (try dsimp only at hSu); go_simp⟩) (by assumption) ?_
                    (try simp only [Act.put, List.setIfInBounds_toArray, List.set_cons_zero, List.set_cons_succ])
                    refine wpAnyH_done (by kernel_rfl) ?_ _
                    as_aux_lemma =>
                      go_wp2_with fail
                      go_roundw
                      case rel => exact ⟨i + 1, al + bl, by go_num, by go_num, by omega, by omega, by omega, hid ⟨ob, cs, HF8.out.up (by omega) (by omega)⟩⟩
                      case measure => simp [intOf]; omega
      · have hi3' : ¬ (i : Int) < 300 := by omega
        as_aux_lemma =>
        obtain ⟨xb, xc, hfi⟩ := HI.out
        have HFe := hid hfi
        clear hfi
        have HEa := hid trivial
        have HE1 := hid (fun u hu => FI.done (k := 0) (u := u) hu (by decide) HNb.out (by omega) : ∀ u, FI w pb vb bk lt xb xc (al + 20 * i) (2 * i) u → Calls Tryz.prog 7 #[.pointer (some ⟨pb, 0, none⟩), .pointer (some ⟨vb, 0, none⟩), .pointer (some ⟨lt, 0, none⟩)] u fun e u' => e = .returned (.bool true) ∧ FI w pb vb bk lt xb xc (al + 20 * i) (2 * i + 2) u')
        have HE2 := hid (fun u hu => FI.done (k := 1) (u := u) hu (by decide) HNb.out (by omega) : ∀ u, FI w pb vb bk lt xb xc (al + 20 * i) (2 * i + 2) u → Calls Tryz.prog 7 #[.pointer (some ⟨pb, 3, none⟩), .pointer (some ⟨vb, 2, none⟩), .pointer (some ⟨lt, 0, none⟩)] u fun e u' => e = .returned (.bool true) ∧ FI w pb vb bk lt xb xc (al + 20 * i) (2 * i + 2 + 2) u')
        have HE3 := hid (fun u hu => FI.settle (u := u) hu (by omega) 0 : ∀ u, FI w pb vb bk lt xb xc (al + 20 * i) (2 * i + 2 + 2) u → Calls Tryz.prog 8 #[.pointer (some ⟨lt, 0, none⟩), .pointer (some ⟨bk, 0, none⟩), .int .i64 0] u fun e u' => e = .returned (.bool true) ∧ FI w pb vb bk lt xb xc (al + 20 * i) (2 * i + 2 + 2) u')
        have HE4 := hid (fun u hu => FI.look (u := u) hu : ∀ u, FI w pb vb bk lt xb xc (al + 20 * i) (2 * i + 2 + 2) u → Calls Tryz.prog 9 #[.pointer (some ⟨bk, 0, none⟩)] u fun e u' => e = .returned (.bool true) ∧ w.grownBy u' none)
        go_wp2_with (first
          | (go_at_call 7; have := HEa; clear this HEa; (with_reducible refine (HE1.out _ HFe.out).mono ?_); rintro e y1 ⟨rfl, hm⟩; replace HFe := hid hm; clear hm)
          | (go_at_call 7; (with_reducible refine (HE2.out _ HFe.out).mono ?_); rintro e y2 ⟨rfl, hm⟩; replace HFe := hid hm; clear hm)
          | (go_at_call 8; (with_reducible refine (HE3.out _ HFe.out).mono ?_); rintro e y3 ⟨rfl, hm⟩; replace HFe := hid hm; clear hm)
          | (go_at_call 9; (with_reducible refine (HE4.out _ HFe.out).mono ?_); rintro e y4 ⟨rfl, hm⟩; have HG9 := hid hm; clear hm)
          | (go_at_call 10; (with_reducible refine (HWk.out _ HG9.out).mono ?_); rintro e y5 ⟨rfl, hm⟩; have HG10 := hid hm; clear hm))
        go_ret
        exact ⟨rfl, gtrans HG9.out HG10.out⟩
    · have hin' : ¬ (i : Int) < (n : Int) := by omega
      as_aux_lemma =>
      obtain ⟨xb, xc, hfi⟩ := HI.out
      have HFe := hid hfi
      clear hfi
      have HEa := hid trivial
      have HE1 := hid (fun u hu => FI.done (k := 0) (u := u) hu (by decide) HNb.out (by omega) : ∀ u, FI w pb vb bk lt xb xc (al + 20 * i) (2 * i) u → Calls Tryz.prog 7 #[.pointer (some ⟨pb, 0, none⟩), .pointer (some ⟨vb, 0, none⟩), .pointer (some ⟨lt, 0, none⟩)] u fun e u' => e = .returned (.bool true) ∧ FI w pb vb bk lt xb xc (al + 20 * i) (2 * i + 2) u')
      have HE2 := hid (fun u hu => FI.done (k := 1) (u := u) hu (by decide) HNb.out (by omega) : ∀ u, FI w pb vb bk lt xb xc (al + 20 * i) (2 * i + 2) u → Calls Tryz.prog 7 #[.pointer (some ⟨pb, 3, none⟩), .pointer (some ⟨vb, 2, none⟩), .pointer (some ⟨lt, 0, none⟩)] u fun e u' => e = .returned (.bool true) ∧ FI w pb vb bk lt xb xc (al + 20 * i) (2 * i + 2 + 2) u')
      have HE3 := hid (fun u hu => FI.settle (u := u) hu (by omega) 0 : ∀ u, FI w pb vb bk lt xb xc (al + 20 * i) (2 * i + 2 + 2) u → Calls Tryz.prog 8 #[.pointer (some ⟨lt, 0, none⟩), .pointer (some ⟨bk, 0, none⟩), .int .i64 0] u fun e u' => e = .returned (.bool true) ∧ FI w pb vb bk lt xb xc (al + 20 * i) (2 * i + 2 + 2) u')
      have HE4 := hid (fun u hu => FI.look (u := u) hu : ∀ u, FI w pb vb bk lt xb xc (al + 20 * i) (2 * i + 2 + 2) u → Calls Tryz.prog 9 #[.pointer (some ⟨bk, 0, none⟩)] u fun e u' => e = .returned (.bool true) ∧ w.grownBy u' none)
      go_wp2_with (first
        | (go_at_call 7; have := HEa; clear this HEa; (with_reducible refine (HE1.out _ HFe.out).mono ?_); rintro e y1 ⟨rfl, hm⟩; replace HFe := hid hm; clear hm)
        | (go_at_call 7; (with_reducible refine (HE2.out _ HFe.out).mono ?_); rintro e y2 ⟨rfl, hm⟩; replace HFe := hid hm; clear hm)
        | (go_at_call 8; (with_reducible refine (HE3.out _ HFe.out).mono ?_); rintro e y3 ⟨rfl, hm⟩; replace HFe := hid hm; clear hm)
        | (go_at_call 9; (with_reducible refine (HE4.out _ HFe.out).mono ?_); rintro e y4 ⟨rfl, hm⟩; have HG9 := hid hm; clear hm)
        | (go_at_call 10; (with_reducible refine (HWk.out _ HG9.out).mono ?_); rintro e y5 ⟨rfl, hm⟩; have HG10 := hid hm; clear hm))
      go_ret
      exact ⟨rfl, gtrans HG9.out HG10.out⟩
end Go.Proofs.YtfalgjdhdgkbfaaGreatDoor
