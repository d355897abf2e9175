/- RecordBack's walk. -/
import Derived.Test.YtfalgjdhdgkbfaaDoorRecB
import Derived.Deep.Cut
import Derived.Deep.CutBlock
namespace Go.Proofs.YtfalgjdhdgkbfaaDoor
open Go Go.RowKit
open Go.RowKit (wrap32 wrap64)

theorem ArgO.on {w u : World} {a : Option Addr} {b o n : Nat} {fs : Nat → Fv} (h : ArgO w a b o n fs) (hu : w.grownBy u none) : ArgO u a b o n fs :=
  ⟨fun hn => ⟨(h.1 hn).1, Nat.lt_of_lt_of_le (h.1 hn).2 hu.size⟩, fun i hi => ⟨fun j v hj => by rw [cell_at hu (h.1 (by omega)).2 (by simp)]; exact (h.2 i hi).1 j v hj, by
    obtain ⟨h1, h2, h3, h4, h5, h6⟩ := (h.2 i hi).2
    exact ⟨h1, h2, h3, h4, h5.keep hu, h6⟩⟩⟩
theorem Rs.nil (w : World) : Rs w (w.alloc (.cells #[.pointer none, .int .i64 0, .int .i64 0] 27)) (.slice none 0 0) [] := by
  obtain ⟨f, h⟩ := Wr.new w (fun g => w.heap.size + 1 ≤ g) (by omega)
  exact ⟨⟨rfl, .inl ⟨rfl, rfl⟩⟩, fun q hq => by simp at hq, ⟨f, _, h, fun g hg => hg, fun k hk => by simp [Value.ownBlock] at hk⟩, galloc _ _ _⟩
theorem Rs.lt {w0 wr : World} {kv : Value} {ks : List Fv} (h : Rs w0 wr kv ks) : w0.heap.size < wr.heap.size := by
  obtain ⟨f, F, ⟨h1, _⟩, _⟩ := h.wrt
  exact h1.lt
/-- What stands ready for the readers. -/
structure Rk (u : World) (ka : Option Addr) (kg kc : Nat) (ks : List Fv) : Prop where
  at_ : 0 < ks.length → ka = some ⟨kg, 0, none⟩ ∧ kg < u.heap.size
  row : ∀ (i : Nat) (q : Fv), ks[i]? = some q → u.rangeAt kg (i * 23) q.cells ∧ q.Ok ∧ q.may = true ∧ Rd u (fun g => g < u.heap.size) q.s q.B
theorem Rs.ready {w0 u : World} {kv : Value} {ks : List Fv} (h : Rs w0 u kv ks) : ∃ ka kg kc, kv = .slice ka ks.length kc ∧ ks.length ≤ kc ∧ Rk u ka kg kc ks := by
  obtain ⟨ka, kc, g, e, hle, hat, hr⟩ := keptO_open (fun q hq => (h.ok q hq).1.D) h.kp
  refine ⟨ka, g, kc, e, hle, fun h0 => ⟨(hat h0).1, (hat h0).2.2⟩, fun i q hq => ?_⟩
  have hm := List.mem_of_getElem? hq
  exact ⟨hr i q hq, (h.ok q hm).1, (h.ok q hm).2.1, (h.ok q hm).2.2.rd.mono (fun k hk _ => hk)⟩
theorem Rk.to {u u' : World} {ka : Option Addr} {kg kc : Nat} {ks : List Fv} (h : Rk u ka kg kc ks) (hg : u.grownBy u' none) {i : Nat} {q : Fv} (hq : ks[i]? = some q) : u'.rangeAt kg (i * 23) q.cells ∧ q.Ok ∧ q.may = true ∧ Rd u' (fun g => g < u.heap.size) q.s q.B := by
  obtain ⟨h1, h2, h3, h4⟩ := h.row i q hq
  have h0 : 0 < ks.length := by have := (List.getElem?_eq_some_iff.1 hq).1; omega
  exact ⟨fun j v hj => by rw [cell_at hg (h.at_ h0).2 (by simp)]; exact h1 j v hj, h2, h3, h4.keep hg⟩
theorem idx22 (b n c i : Nat) (h : i < n) (u : World) : (Instr.indexAt 22 (.slice (some ⟨b, 0, none⟩) n c) (.int .i64 (i : Nat))).run Tryd.prog u = .ok (.pointer (some ⟨b, i * 23, none⟩)) u := by
  have h' : (i : Int) < (n : Int) := by omega
  go_simp
section
variable {P : Program} {ops : Array Oper} {rest : List Oper} {o : Oper} {a : Act} {w : World} {Q : Exit → Act → World → Prop}
theorem wpList_want (hw : Region.wanted o (yielded ops a.tmps) = true) (h : ∀ K : Act → World → Prop, (∀ a w, wpList P ops Q rest a w → K a w) → o.wp P a w K Q) : wpList P ops Q (o :: rest) a w :=
  wpList_step fun K hK => by rw [if_pos hw]; exact h K hK
theorem wpList_load_partW (hw : Region.wanted o (yielded ops a.tmps) = true) (ty : TypeId) (x : Operand) (ho : o.op = .load ty x) (b off : Nat) (vs : List Value) (d : TypeDesc) (hx : a.eval x = .pointer (some ⟨b, off, none⟩)) (hc : w.rangeAt b off vs)
    (hu : P.underlying ty = some d) (hd : d.isRow = true) (hi : (P.info? ty).map (·.size) = some vs.length)
    (h : wpList P ops Q rest (a.put o.dst (.agg vs.toArray)) w) : wpList P ops Q (o :: rest) a w :=
  wpList_want hw fun _ hK => wp_load_mid ty x ho b off hx vs d hc hu hd hi (hK _ _ h)
end
theorem Rd.pre2 {w : World} {F : Nat → Prop} {q : Addr} {n c : Nat} {l : List UInt8} (h : Rd w F (.slice (some q) n c) l) (k : Nat) (hk : k ≤ l.length) : Rd w F (.slice (some q) k c) (l.take k) := by
  obtain ⟨a, b, off, c', e, hc, hn, ha, hcell⟩ := h
  injection e with e1 e2 e3
  subst e1 e3
  have hl : (l.take k).length = k := by rw [List.length_take]; omega
  refine ⟨_, b, off, c, by rw [hl], by omega, (fun h => by cases h), fun h0 => ha (by omega), fun i hi => ?_⟩
  rw [hl] at hi
  rw [hcell i (by omega), List.getElem_take]
theorem flag30 (w : World) (b : Nat) (F : Nat → Prop) (l : List UInt8) (h : Rr w b F l 30) : Calls Tryd.prog 15 #[.pointer (some ⟨b, 0, none⟩)] w fun r w' => r = .returned (.bool false) ∧ Rr w' b F l 30 ∧ w.grownBy w' (some b) := by
  have h1 := rflag_any w b F l 30 h
  have e1 : rt l 30 1 = [] := rt_30 (rb_30 l 1)
  have e2 : fb l 30 = 30 := by unfold fb; rw [e1, if_neg (by decide)]; exact rb_30 l 1
  rw [e2, e1, rl_30 (rb_30 l 1), rb_30] at h1
  exact h1
set_option maxRecDepth 100000 in
set_option maxHeartbeats 8000000 in
theorem rec_walk (w : World) (a : Option Addr) (b o n c : Nat) (fs : Nat → Fv) (ht : Tab w) (hn : n ≤ 140737488355328) (hA : ArgO w a b o n fs) :
    Calls Tryd.prog 3 #[.slice a n c] w fun e w' => e = .returned (.bool true) ∧ w.grownBy w' none := by
  have HWk : Hid (∀ u, w.grownBy u none → Calls Tryd.prog 10 #[] u fun e w' => e = .returned (.bool true) ∧ u.grownBy w' none) := fun u hu => works_any u (ht.keep hu)
  have HA : Hid (∀ u, w.grownBy u none → ArgO u a b o n fs) := fun u hu => hA.on hu
  have HR0 := hid (Rs.nil w)
  obtain ⟨W1, hW1⟩ : ∃ W1, w.alloc (.cells #[.pointer none, .int .i64 0, .int .i64 0] 27) = W1 := ⟨_, rfl⟩
  rw [hW1] at HR0
  clear hA ht
  go_enter Tryd.func3, Tryd.ntmps3
  go_upto_block 0 with fail
  go_cut [4, 5, 6, 7] from 18 to 55 (fun kv s5 s6 s7 wc => ∃ ks : List Fv, Hid (Rs w wc kv ks) ∧ ks.length ≤ 300 ∧ Hid ((encs ks).length ≤ 4200000))
  case first =>
    go_wp2_with fail
    clear hW1
    go_loopw [4, 5, 6] (fun kv sv iv wr => ∃ (i s : Nat) (ks : List Fv), iv = .int .i64 i ∧ sv = .int .i64 s ∧ i ≤ 300 ∧ s ≤ 4194304 ∧ Hid (ks.length ≤ i) ∧ Hid ((encs ks).length ≤ s + 16 * i) ∧ Hid (Rs w wr kv ks)) (fun _ _ iv _ => 300 - (intOf iv).toNat)
    case atStart => exact ⟨0, 0, [], rfl, rfl, by omega, by omega, hid (Nat.le_refl _), hid (Nat.zero_le _), HR0⟩
    case round =>
      clear HR0
      obtain ⟨i, s, ks, rfl, rfl, hi3, hs, HKi, HEn, HR⟩ := hrel
      obtain ⟨kv, hkv⟩ : ∃ x, u4 = x := ⟨_, rfl⟩
      rw [hkv] at HR ⊢
      clear hkv
      have HM : Hid (∃ ks : List Fv, Hid (Rs w wr kv ks) ∧ ks.length ≤ 300 ∧ Hid ((encs ks).length ≤ 4200000)) := hid ⟨ks, HR, by have := HKi.out; omega, hid (by have := HEn.out; omega)⟩
      by_cases h1 : i < n
      · by_cases h2 : i < 300
        · have i1 : (i : Int) < (n : Int) := by omega
          have i2 : (i : Int) < 300 := by omega
          obtain ⟨rfl, hbb⟩ := (HA.out wr HR.out.gr).1 (by omega)
          clear hbb
          obtain ⟨q, Hq⟩ : ∃ x, Hid (fs i = x) := ⟨_, hid rfl⟩
          have HQ : Hid (∀ u, w.grownBy u none → u.rangeAt b (o + i * 23) q.cells ∧ q.In u (fun _ => True)) := hid (fun u hu => by have := (HA.out u hu).2 i h1; rw [Hq.out] at this; exact this)
          have HOk : Hid q.Ok := hid (by obtain ⟨h1, h2, h3, h4, h5, h6⟩ := (HQ.out wr HR.out.gr).2; exact ⟨h1, h2, h3, h4, h6⟩)
          obtain ⟨ab, cb, hsv⟩ := (HQ.out wr HR.out.gr).2.2.2.2.2.1.shape
          have hLb := HOk.out.B
          obtain ⟨LB, hLB⟩ : ∃ x, q.B.length = x := ⟨_, rfl⟩
          rw [hLB] at hsv hLb
          have HS := hid hsv
          have HLB := hid hLB
          clear hsv hLB
          have H6 : Hid (∀ u, w.grownBy u none → u.cell? ⟨b, o + i * 23 + 6, none⟩ = some (.slice ab LB cb)) := hid (fun u hu => by have := (HQ.out u hu).1 6 _ q.c6; rw [HS.out] at this; exact this)
          have HRd : Hid (∀ u, w.grownBy u none → Rd u (fun _ => True) (.slice ab LB cb) q.B) := hid (fun u hu => by have := (HQ.out u hu).2.2.2.2.2.1; rw [HS.out] at this; exact this)
          have y0 := H6.out wr HR.out.gr
          by_cases h3 : s + LB ≤ 4194304
          · have d3 : decide (4194304 < (s : Int) + (LB : Int)) = false := decide_eq_false (by omega)
            have HQl : Hid (q.cells.length = 23) := hid (Fv.len HOk.out.D)
            have HQ1 : Hid (∀ v ∈ q.cells, v.oneCell' = true) := hid (Fv.one (by rw [HS.out]; rfl))
            have HQr := hid (HQ.out wr HR.out.gr).1
            go_upto_region 11 with (first
              | (with_reducible refine wpList_load_part (by with_unfolding_all rfl) 33 _ (by with_unfolding_all rfl) b (o + i * 23) q.cells _ (by with_unfolding_all rfl) HQr.out Tryd.underlying33 (by with_unfolding_all rfl) (by rw [HQl.out]; exact Tryd.size33) ?_)
              | ((with_reducible refine wpList_alloc_row (by with_unfolding_all rfl) 33 (by with_unfolding_all rfl) zopL Tryd.zero33 ?_); intro w1 B1 s1 g1; have HB1 := hid B1; have HG1 := hid g1; clear B1 s1 g1)
              | ((with_reducible refine wpList_store_all (by with_unfolding_all rfl) 33 _ _ (by with_unfolding_all rfl) _ zopL q.cells 33 (by with_unfolding_all rfl) (by with_unfolding_all rfl) HB1.out (by rw [HQl.out]; with_unfolding_all rfl) (by rw [HQl.out]; exact Tryd.size33) HQ1.out ?_); intro w2 B2 g2 s2; have HB2 := hid B2; have HG2 := hid (HG1.out.andThen g2 (fun j hj => .inl (by injection hj with hj; omega))); have y1 := H6.out w2 (gtrans HR.out.gr HG2.out); clear B2 g2 s2)
              | (go_at_call 6; (with_reducible refine (copy_any q.B (fun _ => True) _ _ (by rw [HLB.out]; omega) (HRd.out _ (gtrans HR.out.gr HG2.out))).mono ?_); rintro e w3 ⟨v3, rfl, hO3, hg3⟩; obtain ⟨a3, c3, hv3⟩ := hO3.rd.shape; rw [HLB.out] at hv3; subst hv3; have HO3 := hid hO3; have HB3 := hid (HB2.out.keep hg3); have HG3 := hid hg3; have y2 := HB3.out.cell 6; rw [q.c6, HS.out] at y2; have z2 := HB3.out.frozen 6; clear hO3 hg3))
            obtain ⟨q2, Hq2⟩ : ∃ x : Fv, Hid (x = ⟨q.dd, q.on, q.N, q.wd, q.ii, q.fl, .slice a3 LB c3, q.B, q.D⟩) := ⟨_, hid rfl⟩
            obtain ⟨w4, hw4⟩ : ∃ x, w3.setCell ⟨wr.heap.size, 6, none⟩ (.slice a3 LB c3) = x := ⟨_, rfl⟩
            rw [hw4]
            have HG4 : Hid (wr.grownBy w4 none) := hid (by rw [← hw4]; exact (gtrans HG2.out HG3.out).andThen (gset _ _ _) (fun j hj => .inl (by injection hj with hj; exact Nat.le_of_eq hj)))
            have HB4 : Hid (Blk w4 wr.heap.size q2.cells 33) := hid (by rw [← hw4, Hq2.out]; exact HB3.out.set 6 _)
            have HOk2 : Hid q2.Ok := hid (by rw [Hq2.out]; exact ⟨HOk.out.D, HOk.out.N, HOk.out.lo, HOk.out.hi, HOk.out.B⟩)
            have HS2 : Hid (q2.s = .slice a3 LB c3) := hid (by rw [Hq2.out])
            have HLB2 : Hid (q2.B.length = LB) := hid (by rw [Hq2.out]; exact HLB.out)
            have HO4 : Hid (Out (w.heap.size + 1) w4 q2.s q2.B) := hid (by
              have hz := HR.out.gr.size
              have hz2 := HB2.out.lt
              have hz1 := HR.out.lt
              rw [Hq2.out, ← hw4]
              refine (HO3.out.below (by omega)).on (gset _ _ _) (fun k hk hv => ?_)
              injection hk with hk
              have hk' : wr.heap.size = k := hk
              have := (own_ge HO3.out hv).1
              omega)
            have HR4 := hid (HR.out.keep HG4.out)
            have HQl2 : Hid (q2.cells.length = 23) := hid (Fv.len HOk2.out.D)
            clear hw4 HB3 HO3 HB2 HG2 HG3 HB1 HG1 y0 y1 y2 z2 HQ HQl HQ1 HQr HRd H6 HOk HS HLB
            obtain ⟨f4, F4, hW4, hF4⟩ := HR4.out.writer HR4.out.lt
            have HF4 := hid hF4
            have HPu := hid (puts_q w4 w.heap.size 27 3 0 f4 F4 (fun g => w.heap.size + 1 ≤ g) (encs ks) q2 HOk2.out hW4 hF4.1 HO4.out.rd (by omega) (by have := HEn.out; omega))
            clear hW4 hF4
            obtain ⟨m2, hm2⟩ : ∃ x, q2.may = x := ⟨_, rfl⟩
            rw [hm2] at HPu
            have HM2 := hid hm2
            clear hm2 HM
            cases m2 with
            | true =>
              go_wp2_with (first
                | ((with_reducible refine wpList_load_part (by with_unfolding_all rfl) 33 _ (by with_unfolding_all rfl) wr.heap.size 0 q2.cells _ (by with_unfolding_all rfl) HB5.out.whole Tryd.underlying33 (by with_unfolding_all rfl) (by rw [HQl2.out]; exact Tryd.size33) ?_))
                | ((with_reducible refine wpList_load_part (by with_unfolding_all rfl) 33 _ (by with_unfolding_all rfl) wr.heap.size 0 q2.cells _ (by with_unfolding_all rfl) HB4.out.whole Tryd.underlying33 (by with_unfolding_all rfl) (by rw [HQl2.out]; exact Tryd.size33) ?_))
                | (go_at_call 7; (with_reducible refine HPu.out.mono ?_); rintro e w5 ⟨rfl, ⟨f5, hW5, _⟩, hg5⟩; rw [if_pos rfl] at hW5; have HW5 := hid hW5; have HG5 := hid hg5; have HB5 := hid (HB4.out.on hg5 (by have := HR.out.lt; simp; omega)); clear hW5 hg5)
                | ((with_reducible refine wpList_slice_op (by with_unfolding_all rfl) _ (by with_unfolding_all rfl) q2 HOk2.out.D (by with_unfolding_all rfl) ?_); intro w6 B6 s6 g6; have HB6 := hid B6; have HG6 := hid g6; have HK6 := hid (row_on (row_on HR4.out.kp HG5.out (fun k hk hv => by injection hk with hk; have := (own_ge HR4.out.kp hv).1; omega)) g6 (fun k hk => by cases hk)); clear B6 s6 g6)
                | (at_builtin; refine wpList_append_opAt rfl _ _ rfl (w.heap.size + 1) w5.heap.size ks q2 HK6.out rfl HB6.out HOk2.out.D (by rw [HS2.out]; rfl) (by have := HKi.out; omega) (by have := HR4.out.lt; have := HG5.out.size; have := HG6.out.size; omega) ?_; intro v7 w7 hk7 hg7 hat7; have HR7 := hid (HR4.out.yes HW5.out HF4.out HG5.out HG6.out HOk2.out HM2.out HO4.out HK6.out hk7 hg7 hat7); clear hk7 hg7 hat7))
              go_roundw
              case rel => exact ⟨i + 1, s + LB, ks ++ [q2], by go_num, by go_num, by omega, h3, hid (by have := HKi.out; simp; omega), hid (by rw [encs_snoc, List.length_append]; have := (enc_len HOk2.out HM2.out).2; have := HLB2.out; have := HEn.out; omega), HR7⟩
              case measure => simp [intOf]; omega
            | false =>
              go_wp2_with (first
                | ((with_reducible refine wpList_load_part (by with_unfolding_all rfl) 33 _ (by with_unfolding_all rfl) wr.heap.size 0 q2.cells _ (by with_unfolding_all rfl) HB4.out.whole Tryd.underlying33 (by with_unfolding_all rfl) (by rw [HQl2.out]; exact Tryd.size33) ?_))
                | (go_at_call 7; (with_reducible refine HPu.out.mono ?_); rintro e w5 ⟨rfl, ⟨f5, hW5, _⟩, hg5⟩; rw [if_neg (by decide)] at hW5; have HR5 := hid (HR4.out.no hW5 HF4.out hg5); clear hW5 hg5))
              go_roundw
              case rel => exact ⟨i + 1, s + LB, ks, by go_num, by go_num, by omega, h3, hid (by have := HKi.out; omega), hid (by have := HEn.out; omega), HR5⟩
              case measure => simp [intOf]; omega
          · have d3 : decide (4194304 < (s : Int) + (LB : Int)) = true := decide_eq_true (by omega)
            go_wp2_with fail
            go_meet
            exact HM.out
        · have i1 : (i : Int) < (n : Int) := by omega
          have i2 : ¬ (i : Int) < 300 := by omega
          go_wp2_with fail
          go_meet
          exact HM.out
      · have i1 : ¬ (i : Int) < (n : Int) := by omega
        go_wp2_with fail
        go_meet
        exact HM.out
  case rest =>
    clear hW1 HR0 HA
    obtain ⟨ks, HR, hk3, HEn⟩ := hcut
    obtain ⟨kv, hkv⟩ : ∃ x, u4 = x := ⟨_, rfl⟩
    rw [hkv] at HR ⊢
    clear hkv
    obtain ⟨L, HL⟩ : ∃ x, Hid (encs ks = x) := ⟨_, hid rfl⟩
    have HDn : Hid (Calls Tryd.prog 8 #[.pointer (some ⟨w.heap.size, 0, none⟩)] wc fun e w' => ∃ v', e = .returned (.tuple #[v', .int .i64 0]) ∧ Out wc.heap.size w' v' L ∧ wc.grownBy w' none) := hid (by
      obtain ⟨f, F, h1, _⟩ := HR.out.wrt
      rw [HL.out] at h1
      exact wdone_ok wc w.heap.size 27 3 0 f F L h1 (by rw [← HL.out]; have := HEn.out; omega))
    obtain ⟨LN, HLN⟩ : ∃ x, Hid (L.length = x) := ⟨_, hid rfl⟩
    have hLN : LN ≤ 4200000 := by rw [← HLN.out, ← HL.out]; exact HEn.out
    have HNu : Hid (∀ (x : Int) (u : World), Calls Tryd.prog 9 #[.int .i64 x] u fun e w' => e = .returned (.int .i64 x) ∧ w' = u) := fun x u => num_any x u
    have HLf : Hid (∀ (u : World) (b : Nat) (F : Nat → Prop) (l : List UInt8) (k bad : Nat), l.length = k → Rr u b F l bad → Calls Tryd.prog 12 #[.pointer (some ⟨b, 0, none⟩)] u fun r w' => r = .returned (.int .i64 (k : Int)) ∧ w' = u) := fun u b F l k bad hk h => by rw [← hk]; exact left_any u b F l bad h
    obtain ⟨K, HK⟩ : ∃ x, Hid (ks.length = x) := ⟨_, hid rfl⟩
    have hK : K ≤ 300 := by rw [← HK.out]; exact hk3
    obtain ⟨ka, kg, kc, hkv, hkc, _⟩ := HR.out.ready
    rw [HK.out] at hkv hkc
    have HKV := hid hkv
    clear hkv hk3 hkc
    rw [HKV.out] at HR ⊢
    have HGC := hid HR.out.gr
    go_upto_region 16 with (first
      | (go_at_call 8; (with_reducible refine HDn.out.mono ?_); rintro e w13 ⟨v13, rfl, hO13, hg13⟩; obtain ⟨aB, cB, hv13⟩ := hO13.rd.shape; rw [HLN.out] at hv13; subst hv13; have HO13 := hid hO13; have HR13 := hid (HR.out.keep hg13); have HG13 := hid (gtrans HGC.out hg13); clear hO13 hg13)
      | (go_at_call 9; (with_reducible refine (HNu.out _ _).mono ?_); rintro e w' ⟨rfl, hw⟩; have hw' := hw.symm; clear hw; subst hw')
      | (go_at_call 10; (with_reducible refine (HWk.out _ HG13.out).mono ?_); rintro e w14 ⟨rfl, hg14⟩; have HR14 := hid (HR13.out.keep hg14); have HO14 := hid (HO13.out.keep hg14); have HG14 := hid (gtrans HG13.out hg14); clear hg14))
    obtain ⟨ka', kg', kc', hkv', hkc', hRk⟩ := HR14.out.ready
    obtain ⟨rfl, rfl⟩ : ka' = ka ∧ kc' = kc := by injection hkv' with e1 e2 e3; exact ⟨e1.symm, e3.symm⟩
    have HRk := hid hRk
    have HRd : Hid (Rd w14 (fun g => g < w14.heap.size) (.slice aB LN cB) L) := hid (HO14.out.rd.mono (fun k hk _ => hk))
    have HcB : Hid (LN ≤ cB ∧ (0 < LN → ∃ g, aB = some ⟨g, 0, none⟩)) := hid (by
      rcases HO14.out.2 with ⟨e, h0⟩ | ⟨g, cap, cur, e, _, _, h2, _⟩
      · injection e with e1 e2 e3
        exact ⟨by omega, fun h => by omega⟩
      · injection e with e1 e2 e3
        rw [HLN.out] at h2
        exact ⟨by omega, fun _ => ⟨g, e1⟩⟩)
    clear hkv' hkc' hRk HR14 HR13 HO14 HO13 HG13 HDn HR HWk HGC HKV
    have HFr : Hid (∀ (u : World) (F : Nat → Prop) (v : Value) (l : List UInt8), l.length ≤ 4200001 → Rd u F v l → Calls Tryd.prog 11 #[v] u fun r w' => ∃ b, r = .returned (.pointer (some ⟨b, 0, none⟩)) ∧ u.heap.size ≤ b ∧ Rr w' b (fun g => u.heap.size ≤ g ∧ g ≠ b ∧ g < w'.heap.size) l 0 ∧ u.grownBy w' none) := fun u F v l hl hv => by
      refine (from_any u F v l hv (by omega)).mono ?_
      rintro r w' ⟨b, h1, h2, h3, h4⟩
      exact ⟨b, h1, h2, h3.mono (fun k hk hf => ⟨hf.1, hf.2, hk⟩) (fun h => h.2.1 rfl), h4⟩
    have HLb : Hid (L.length ≤ 4200000) := hid (by rw [HLN.out]; exact hLN)
    go_upto_region 20 with (first
      | (go_at_call 11; have := HO17; clear this; (with_reducible refine (HFr.out _ _ _ _ (by rw [List.length_append]; have := HLb.out; simp; omega) HO17.out.rd).mono ?_); rintro e w18 ⟨b2, rfl, hb2, hR2, hg2⟩; have HR2 := hid hR2; have HB2 := hid hb2; have HG18 := hid (gtrans HG17.out hg2); have HR1' := hid (HR1.out.keep (gtrans HG17b.out hg2)); have HZ2 := hid (show w18.heap.size ≤ w18.heap.size from Nat.le_refl _); clear hR2 hb2 hg2)
      | (go_at_call 11; (with_reducible refine (HFr.out _ _ _ _ (by have := HLb.out; omega) HRd.out).mono ?_); rintro e w15 ⟨b1, rfl, hb1, hR1, hg1⟩; have HR1 := hid hR1; have HB1 := hid hb1; have HG15 := hid hg1; clear hR1 hb1 hg1)
      | (go_at_call 6; (with_reducible refine (copy_any L _ _ _ (by have := HLb.out; omega) (HRd.out.keep HG15.out)).mono ?_); rintro e w16 ⟨v16, rfl, hO16, hg16⟩; have HO16 := hid hO16; have HG16 := hid hg16; clear hO16 hg16)
      | (at_builtin; refine wpList_append_byte rfl _ _ rfl w15.heap.size w16.heap.size L 0 (HO16.out.keep (galloc w16 _ none)) rfl (litL w16 _) (by have := HLb.out; omega) (by have := HG16.out.size; simp; omega) ?_; intro v17 w17 hO17 hg17; have HO17 := hid hO17; have HG17b := hid ((gtrans HG16.out (galloc w16 _ none)).andThen hg17 (fun j hj => .inl (HO16.out.block j hj))); have HG17 := hid (gtrans HG15.out HG17b.out); clear hO17 hg17)
      | (go_at_call 12; (with_reducible refine (HLf.out _ _ _ _ _ _ HLN.out HR1'.out).mono ?_); rintro e w' ⟨rfl, hw⟩; have hw' := hw.symm; clear hw; subst hw'))
    obtain ⟨F1, hF1⟩ : ∃ F : Nat → Prop, F = (fun g => w14.heap.size ≤ g ∧ g ≠ b1 ∧ g < w15.heap.size) := ⟨_, rfl⟩
    obtain ⟨F2, hF2⟩ : ∃ F : Nat → Prop, F = (fun g => w17.heap.size ≤ g ∧ g ≠ b2 ∧ g < w18.heap.size) := ⟨_, rfl⟩
    have HN12 : Hid (¬ F1 b2 ∧ ¬ F2 b1 ∧ b1 ≠ b2 ∧ w14.heap.size ≤ b1 ∧ w14.heap.size ≤ b2) := hid (by
      have h1 := HR1.out.lt
      have h2 := HG17b.out.size
      have h3 := HB2.out
      have h4 := HB1.out
      have h5 := HG17.out.size
      refine ⟨?_, ?_, by omega, h4, by omega⟩
      · rw [hF1]; rintro ⟨_, _, h⟩; omega
      · rw [hF2]; rintro ⟨h, _, _⟩; omega)
    rw [← hF1] at HR1'
    rw [← hF2] at HR2
    clear hF1 hF2 HR1 HB1 HB2 HG15 HG16 HG17 HG17b HO16 HO17 HZ2
    have HS1 : Hid (Rr w18 b1 F1 (encs (ks.drop 0)) 0) := hid (by rw [List.drop_zero, HL.out]; exact HR1'.out)
    have HS2 : Hid (Rr w18 b2 F2 (encs (ks.drop 0) ++ [0]) 0) := hid (by rw [List.drop_zero, HL.out]; exact HR2.out)
    clear HR1' HR2
    go_wp2_with fail
    go_loopw [12] (fun iv wr => ∃ i : Nat, iv = .int .i64 i ∧ i ≤ K ∧ Hid (Rr wr b1 F1 (encs (ks.drop i)) 0) ∧ Hid (Rr wr b2 F2 (encs (ks.drop i) ++ [0]) 0) ∧ Hid (w14.grownBy wr none)) (fun iv _ => K - (intOf iv).toNat)
    case atStart => exact ⟨0, rfl, Nat.zero_le _, HS1, HS2, HG18⟩
    case round =>
      clear HS1 HS2 HG18
      obtain ⟨i, rfl, hik, HR1, HR2, HG⟩ := hrel
      by_cases hlt : i < K
      · as_aux_lemma =>
        have i1 : (i : Int) < (K : Int) := by omega
        obtain ⟨q, hq⟩ : ∃ q, ks[i]? = some q := ⟨_, List.getElem?_eq_getElem (by rw [HK.out]; exact hlt)⟩
        obtain ⟨rfl, hkg⟩ := HRk.out.at_ (by rw [HK.out]; omega)
        have HTo : Hid (∀ u, w14.grownBy u none → u.rangeAt kg' (i * 23) q.cells ∧ q.Ok ∧ q.may = true ∧ Rd u (fun g => g < w14.heap.size) q.s q.B) := hid (fun u hu => HRk.out.to hu hq)
        have HQl : Hid (q.cells.length = 23) := hid (Fv.len (HTo.out _ HG.out).2.1.D)
        rw [encs_drop hq] at HR1 HR2
        rw [List.append_assoc] at HR2
        have HGt : Hid (∀ (u : World) (b : Nat) (F : Nat → Prop) (r : List UInt8), w14.grownBy u none → w14.heap.size ≤ b → Rr u b F (q.enc ++ r) 0 → Calls Tryd.prog 13 #[.pointer (some ⟨b, 0, none⟩), .agg q.cells.toArray] u fun e w' => e = .returned (.bool true) ∧ Rr w' b F r 0 ∧ u.grownBy w' (some b)) := fun u b F r hu hb h => gets_q u b F (fun g => g < w14.heap.size) r q (HTo.out u hu).2.1 h (HTo.out u hu).2.2.1 (HTo.out u hu).2.2.2 (by omega)
        have hrA := hid (HTo.out _ HG.out).1
        clear hq hkg
        go_wp2_with (first
          | (with_reducible refine wpList_load_partW (by with_unfolding_all rfl) 33 _ (by with_unfolding_all rfl) kg' (i * 23) q.cells _ (by with_unfolding_all rfl) hrB.out Tryd.underlying33 (by with_unfolding_all rfl) (by rw [HQl.out]; exact Tryd.size33) ?_)
          | (with_reducible refine wpList_load_part (by with_unfolding_all rfl) 33 _ (by with_unfolding_all rfl) kg' (i * 23) q.cells _ (by with_unfolding_all rfl) hrA.out Tryd.underlying33 (by with_unfolding_all rfl) (by rw [HQl.out]; exact Tryd.size33) ?_)
          | (go_at_call 13; have := hrB; clear this; (with_reducible refine (HGt.out _ _ _ _ HGA.out HN12.out.2.2.2.2 HR2A.out).mono ?_); rintro e wB ⟨rfl, hRB, hgB⟩; have HR2B := hid hRB; have HR1B := hid (HR1A.out.on hgB (fun e => HN12.out.2.2.1 (Option.some.inj e).symm) (fun k hk => by injection hk with hk; rw [← hk]; exact HN12.out.1)); have HGB := hid (HGA.out.andThen hgB (fun j hj => .inl (by injection hj with hj; have := HN12.out; omega))); clear hRB hgB)
          | (go_at_call 13; (with_reducible refine (HGt.out _ _ _ _ HG.out HN12.out.2.2.2.1 HR1.out).mono ?_); rintro e wA ⟨rfl, hRA, hgA⟩; have HR1A := hid hRA; have HR2A := hid (HR2.out.on hgA (fun e => HN12.out.2.2.1 (Option.some.inj e)) (fun k hk => by injection hk with hk; rw [← hk]; exact HN12.out.2.1)); have HGA := hid (HG.out.andThen hgA (fun j hj => .inl (by injection hj with hj; have := HN12.out; omega))); have hrB := hid (HTo.out _ HGA.out).1; clear hRA hgA))
        go_roundw
        case rel => exact ⟨i + 1, by go_num, by omega, HR1B, HR2B, HGB⟩
        case measure => simp [intOf]; omega
      · as_aux_lemma =>
        obtain rfl : i = K := by omega
        have hd0 : encs (ks.drop i) = [] := by rw [List.drop_of_length_le (by rw [HK.out]; exact Nat.le_refl _)]; rfl
        rw [hd0] at HR1 HR2
        clear hd0
        have HE1 : Hid (∀ u, Rr u b1 F1 [] 0 → Calls Tryd.prog 14 #[.pointer (some ⟨b1, 0, none⟩)] u fun r w' => r = .returned (.int .i64 0) ∧ w' = u) := fun u h => end_any u b1 F1 [] 0 h
        have HE2 : Hid (∀ u, Rr u b2 F2 ([] ++ [0]) 0 → Calls Tryd.prog 14 #[.pointer (some ⟨b2, 0, none⟩)] u fun r w' => r = .returned (.int .i64 33) ∧ w' = u) := fun u h => end_any u b2 F2 ([] ++ [0]) 0 h
        have HL1 : Hid (∀ u, Rr u b1 F1 [] 0 → Calls Tryd.prog 12 #[.pointer (some ⟨b1, 0, none⟩)] u fun r w' => r = .returned (.int .i64 0) ∧ w' = u) := fun u h => left_any u b1 F1 [] 0 h
        have HL2 : Hid (∀ u, Rr u b2 F2 ([] ++ [0]) 0 → Calls Tryd.prog 12 #[.pointer (some ⟨b2, 0, none⟩)] u fun r w' => r = .returned (.int .i64 1) ∧ w' = u) := fun u h => left_any u b2 F2 ([] ++ [0]) 0 h
        rcases Nat.eq_zero_or_pos i with h0 | h0
        · subst h0
          have hks : ks = [] := List.length_eq_zero_iff.1 HK.out
          obtain rfl : LN = 0 := by rw [← HLN.out, ← HL.out, hks]; rfl
          go_wp2_with (first
            | (go_at_call 14; (with_reducible refine (HE1.out _ HR1.out).mono ?_); rintro e w' ⟨rfl, hw⟩; have hw' := hw.symm; clear hw; subst hw')
            | (go_at_call 14; (with_reducible refine (HE2.out _ HR2.out).mono ?_); rintro e w' ⟨rfl, hw⟩; have hw' := hw.symm; clear hw; subst hw')
            | (go_at_call 12; (with_reducible refine (HL1.out _ HR1.out).mono ?_); rintro e w' ⟨rfl, hw⟩; have hw' := hw.symm; clear hw; subst hw')
            | (go_at_call 12; (with_reducible refine (HL2.out _ HR2.out).mono ?_); rintro e w' ⟨rfl, hw⟩; have hw' := hw.symm; clear hw; subst hw')
            | (go_at_call 9; (with_reducible refine (HNu.out _ _).mono ?_); rintro e w' ⟨rfl, hw⟩; have hw' := hw.symm; clear hw; subst hw'))
          go_ret
          exact ⟨rfl, gtrans HG14.out HG.out⟩
        · obtain ⟨K, rfl⟩ : ∃ K, i = K + 1 := ⟨i - 1, by omega⟩
          obtain ⟨ks', ql, hkk⟩ : ∃ ks' ql, ks = ks' ++ [ql] := by
            have hne : ks ≠ [] := fun h => by have := HK.out; rw [h] at this; simp at this
            exact ⟨ks.dropLast, ks.getLast hne, (List.dropLast_concat_getLast hne).symm⟩
          subst hkk
          have hk' : ks'.length = K := by have := HK.out; simp at this; exact this
          have HKl := hid hk'
          obtain ⟨rfl, hkg⟩ := HRk.out.at_ (by simp)
          have hql : (ks' ++ [ql])[K]? = some ql := by rw [← hk', List.getElem?_append_right (Nat.le_refl _)]; simp
          have HTo : Hid (∀ u, w14.grownBy u none → u.rangeAt kg' (K * 23) ql.cells ∧ ql.Ok ∧ ql.may = true ∧ Rd u (fun g => g < w14.heap.size) ql.s ql.B) := hid (fun u hu => HRk.out.to hu hql)
          have hpos := (enc_len (HTo.out _ HG.out).2.1 (HTo.out _ HG.out).2.2.1).1
          have hLe : L = encs ks' ++ ql.enc := by rw [← HL.out, encs_snoc]
          obtain ⟨LM, rfl⟩ : ∃ LM, LN = LM + 1 := ⟨LN - 1, by have := HLN.out; rw [hLe, List.length_append] at this; omega⟩
          obtain ⟨gB, rfl⟩ := HcB.out.2 (by omega)
          have hcB : LM + 1 ≤ cB := HcB.out.1
          have HRt : Hid (∀ u, w14.grownBy u none → Rd u (fun g => g < w14.heap.size) (.slice (some ⟨gB, 0, none⟩) LM cB) (encs ks' ++ ql.enc.dropLast)) := hid (fun u hu => by
            have h := (HRd.out.keep hu).pre2 LM (by rw [HLN.out]; omega)
            have e : L.take LM = encs ks' ++ ql.enc.dropLast := by
              have h1 : L.take LM = L.dropLast := by rw [List.dropLast_eq_take, HLN.out]; rfl
              rw [h1, hLe, List.dropLast_append_of_ne_nil (fun h => by rw [h] at hpos; simp at hpos)]
            rw [e] at h
            exact h)
          have HLt : Hid ((encs ks' ++ ql.enc.dropLast).length ≤ 4200001) := hid (by rw [List.length_append, List.length_dropLast]; have := HLb.out; rw [hLe, List.length_append] at this; omega)
          clear hk' hql hpos hLe HcB hkg HLb
          go_upto_region 32 with (first
            | (go_at_call 14; (with_reducible refine (HE1.out _ HR1.out).mono ?_); rintro e w' ⟨rfl, hw⟩; have hw' := hw.symm; clear hw; subst hw')
            | (go_at_call 14; (with_reducible refine (HE2.out _ HR2.out).mono ?_); rintro e w' ⟨rfl, hw⟩; have hw' := hw.symm; clear hw; subst hw')
            | (go_at_call 12; (with_reducible refine (HL1.out _ HR1.out).mono ?_); rintro e w' ⟨rfl, hw⟩; have hw' := hw.symm; clear hw; subst hw')
            | (go_at_call 12; (with_reducible refine (HL2.out _ HR2.out).mono ?_); rintro e w' ⟨rfl, hw⟩; have hw' := hw.symm; clear hw; subst hw')
            | (go_at_call 11; (with_reducible refine (HFr.out _ _ _ _ HLt.out (HRt.out _ HG.out)).mono ?_); rintro e w29 ⟨b3, rfl, hb3, hR3, hg3⟩; have HB3 := hid (Nat.le_trans HG.out.size hb3); have HG29 := hid (gtrans HG.out hg3); obtain ⟨F3, hF3⟩ : ∃ F, F = (fun g => wr.heap.size ≤ g ∧ g ≠ b3 ∧ g < w29.heap.size) := ⟨_, rfl⟩; rw [← hF3] at hR3; have HR3 := hid hR3; clear hb3 hR3 hg3 hF3)
            | (go_at_call 9; (with_reducible refine (HNu.out _ _).mono ?_); rintro e w' ⟨rfl, hw⟩; have hw' := hw.symm; clear hw; subst hw'))
          have HS3 : Hid (Rr w29 b3 F3 (encs (ks'.drop 0) ++ ql.enc.dropLast) 0) := hid (by rw [List.drop_zero]; exact HR3.out)
          clear HR3 HE1 HE2 HL1 HL2 HR1 HR2 HRt HLt HRd
          go_wp2_with fail
          obtain ⟨wo, hwo⟩ : ∃ x : World, x = wr := ⟨_, rfl⟩
          clear hwo
          go_loopw [14] (fun iv wr => ∃ i : Nat, iv = .int .i64 i ∧ i ≤ K ∧ Hid (Rr wr b3 F3 (encs (ks'.drop i) ++ ql.enc.dropLast) 0) ∧ Hid (w14.grownBy wr none)) (fun iv _ => K - (intOf iv).toNat)
          case atStart => exact ⟨0, rfl, Nat.zero_le _, HS3, HG29⟩
          case round =>
            clear HS3 HG29 HG
            obtain ⟨i, rfl, hiK, HR3, HG⟩ := hrel
            by_cases hlt : i < K
            · as_aux_lemma =>
              have i1 : (i : Int) < (K : Int) := by omega
              have i2 : (i : Int) < (K : Int) + 1 := by omega
              obtain ⟨q, hq⟩ : ∃ q, ks'[i]? = some q := ⟨_, List.getElem?_eq_getElem (by rw [HKl.out]; exact hlt)⟩
              have hq2 : (ks' ++ [ql])[i]? = some q := by rw [List.getElem?_append_left (by rw [HKl.out]; exact hlt)]; exact hq
              obtain ⟨h1, h2, h3, h4⟩ := HRk.out.to HG.out hq2
              have HQl : Hid (q.cells.length = 23) := hid (Fv.len h2.D)
              rw [encs_drop hq, List.append_assoc] at HR3
              have HGt := hid (gets_q wr b3 F3 (fun g => g < w14.heap.size) _ q h2 HR3.out h3 h4 (by have := HB3.out; omega))
              have hrA := hid h1
              clear hq hq2 h1 h2 h3 h4
              go_wp2_with (first
                | (with_reducible refine wpList_load_part (by with_unfolding_all rfl) 33 _ (by with_unfolding_all rfl) kg' (i * 23) q.cells _ (by with_unfolding_all rfl) hrA.out Tryd.underlying33 (by with_unfolding_all rfl) (by rw [HQl.out]; exact Tryd.size33) ?_)
                | (go_at_call 13; (with_reducible refine HGt.out.mono ?_); rintro e wA ⟨rfl, hRA, hgA⟩; have HR1A := hid hRA; have HGA := hid (HG.out.andThen hgA (fun j hj => .inl (by injection hj with hj; have := HB3.out; omega))); clear hRA hgA))
              go_roundw
              case rel => exact ⟨i + 1, by go_num, by omega, HR1A, HGA⟩
              case measure => simp [intOf]; omega
            · as_aux_lemma =>
              obtain rfl : i = K := by omega
              have hd0 : encs (ks'.drop i) = [] := by rw [List.drop_of_length_le (by rw [HKl.out]; exact Nat.le_refl _)]; rfl
              rw [hd0, List.nil_append] at HR3
              clear hd0
              obtain ⟨h1, h2, h3, h4⟩ := HTo.out _ HG.out
              have HQl : Hid (ql.cells.length = 23) := hid (Fv.len h2.D)
              have hrA := hid h1
              have HGt := hid (getsh_q wr b3 F3 (fun g => g < w14.heap.size) ql h2 HR3.out h3 h4 (by have := HB3.out; omega))
              obtain ⟨D, hD⟩ : ∃ x, ql.enc.dropLast = x := ⟨_, rfl⟩
              rw [hD] at HGt HR3
              obtain ⟨DL, HDL⟩ : ∃ x, Hid (D.length = x) := ⟨_, hid rfl⟩
              have HLf2 : Hid (∀ (u : World) (bad : Nat), Rr u b3 F3 D bad → Calls Tryd.prog 12 #[.pointer (some ⟨b3, 0, none⟩)] u fun r w' => r = .returned (.int .i64 (DL : Int)) ∧ w' = u) := fun u bad h => by rw [← HDL.out]; exact left_any u b3 F3 D bad h
              have HEd : Hid (∀ u, Rr u b3 F3 D 30 → Calls Tryd.prog 14 #[.pointer (some ⟨b3, 0, none⟩)] u fun r w' => r = .returned (.int .i64 30) ∧ w' = u) := fun u h => end_any u b3 F3 D 30 h
              have HFl : Hid (∀ u, Rr u b3 F3 D 30 → Calls Tryd.prog 15 #[.pointer (some ⟨b3, 0, none⟩)] u fun r w' => r = .returned (.bool false) ∧ Rr w' b3 F3 D 30 ∧ u.grownBy w' (some b3)) := fun u h => flag30 u b3 F3 D h
              clear h1 h2 h3 h4 hD
              go_wp2_with (first
                | (with_reducible refine wpList_load_part (by with_unfolding_all rfl) 33 _ (by with_unfolding_all rfl) kg' (i * 23) ql.cells _ (by with_unfolding_all rfl) hrA.out Tryd.underlying33 (by with_unfolding_all rfl) (by rw [HQl.out]; exact Tryd.size33) ?_)
                | (go_at_call 13; (with_reducible refine HGt.out.mono ?_); rintro e wA ⟨⟨cc, rfl⟩, hRA, hgA⟩; have HRA := hid hRA; have HGA := hid (HG.out.andThen hgA (fun j hj => .inl (by injection hj with hj; have := HB3.out; omega))); clear hRA hgA)
                | (go_at_call 14; (with_reducible refine (HEd.out _ HRA.out).mono ?_); rintro e w' ⟨rfl, hw⟩; have hw' := hw.symm; clear hw; subst hw')
                | (go_at_call 15; (with_reducible refine (HFl.out _ HRA.out).mono ?_); rintro e wF ⟨rfl, hRF, hgF⟩; have HRF := hid hRF; have HGF := hid (HGA.out.andThen hgF (fun j hj => .inl (by injection hj with hj; have := HB3.out; omega))); clear hRF hgF)
                | (go_at_call 12; have := HRF; clear this; (with_reducible refine (HLf2.out _ _ HRF.out).mono ?_); rintro e w' ⟨rfl, hw⟩; have hw' := hw.symm; clear hw; subst hw')
                | (go_at_call 12; have := HRA; clear this; (with_reducible refine (HLf2.out _ _ HRA.out).mono ?_); rintro e w' ⟨rfl, hw⟩; have hw' := hw.symm; clear hw; subst hw')
                | (go_at_call 12; (with_reducible refine (HLf2.out _ _ HR3.out).mono ?_); rintro e w' ⟨rfl, hw⟩; have hw' := hw.symm; clear hw; subst hw')
                | (go_at_call 9; (with_reducible refine (HNu.out _ _).mono ?_); rintro e w' ⟨rfl, hw⟩; have hw' := hw.symm; clear hw; subst hw'))
              go_ret
              exact ⟨rfl, gtrans HG14.out HGF.out⟩
end Go.Proofs.YtfalgjdhdgkbfaaDoor
