/- The seat's Values, walked. -/
import Derived.Test.YtdmnhkgiojkphaaGreatDoorX43
namespace Go.Proofs.YtdmnhkgiojkphaaGreatDoor
open Go Go.RowKit
open Go.RowKit (wrap32 wrap64)

theorem own_blk {w : World} {B n cap g : Nat} {ys : List Value} (h : w.ownsRow B 26 6 (.slice (some ⟨g, 0, none⟩) n cap) n ys) : ∃ cs, Hid (Blk w g cs 26 ∧ B ≤ g ∧ cs.take (n * 6) = ys ∧ n ≤ cap ∧ cap ≤ maxLen ∧ cs.length = cap * 6) := by
  rcases h.2 with ⟨h1, _⟩ | ⟨g', cap', cur, hv, hB, hg, hle, hm, hs, ht⟩
  · cases h1
  · injection hv with hv _ hc
    injection hv with hv
    injection hv with hv
    subst hv
    subst hc
    exact ⟨cur.toList, hid ⟨hg, hB, ht, hle, hm, by simpa using hs⟩⟩
theorem own_splice {w w' : World} {B i cap g : Nat} {cs xs : List Value} {a0 a1 a2 a3 a4 a5 : Value} (h : Blk w g cs 26 ∧ B ≤ g ∧ cs.take ((i + 1) * 6) = xs ++ Z6 ∧ i + 1 ≤ cap ∧ cap ≤ maxLen ∧ cs.length = cap * 6) (hb : Blk w' g (splice cs (i * 6) [a0, a1, a2, a3, a4, a5]) 26) (hl : xs.length = i * 6) :
    w'.ownsRow B 26 6 (.slice (some ⟨g, 0, none⟩) (i + 1) cap) (i + 1) (xs ++ [a0, a1, a2, a3, a4, a5]) := by
  obtain ⟨_, hB, ht, hle, hm, hs⟩ := h
  have e1 : cs.take (i * 6) = xs := by
    have := congrArg (List.take (i * 6)) ht
    rw [List.take_take, Nat.min_eq_left (by omega), ← hl, List.take_left'] at this
    · rw [← hl]; exact this
    · rfl
  have e2 : splice cs (i * 6) [a0, a1, a2, a3, a4, a5] = (xs ++ [a0, a1, a2, a3, a4, a5]) ++ cs.drop (i * 6 + 6) := by
    unfold splice
    rw [e1]
    simp
  refine ⟨by simp; omega, .inr ⟨g, cap, _, rfl, hB, hb, hle, hm, ?_, ?_⟩⟩
  · rw [List.size_toArray, e2]
    simp
    omega
  · show (splice cs (i * 6) [a0, a1, a2, a3, a4, a5]).take ((i + 1) * 6) = _
    rw [e2]
    exact List.take_left' (by simp; omega)
theorem step_store_partV {P : Program} {w : World} {ops : Array Oper} {o : Oper} {a : Act} {K : Act → World → Prop} {Q : Exit → Act → World → Prop} {E : Prop} (hgd : o.guard = none) (ty : TypeId) (x y : Operand) (ho : o.op = .store ty x y) (b off : Nat) (cs vs : List Value) (t : TypeId) (hx : a.eval x = .pointer (some ⟨b, off, none⟩)) (hy : a.eval y = .agg vs.toArray)
    (hb : Blk w b cs t) (hfit : off + vs.length ≤ cs.length) (hi : (P.info? ty).map (·.size) = some vs.length) (h1 : ∀ v ∈ vs, v.oneCell' = true)
    (h : ∀ w', Blk w' b (splice cs off vs) t → w.grownBy w' (some b) → w'.heap.size = w.heap.size → K (a.put o.dst undef) w') : if Region.wanted o (yielded ops a.tmps) = true then Oper.wp P o a w K Q else E := by
  have hw : Region.wanted o (yielded ops a.tmps) = true := by simp [Region.wanted, hgd]
  rw [if_pos hw]
  exact wp_store_part ty x y ho b off cs vs t hx hy hb hfit hi h1 h
/-- What the seat's Value promises of trees that hold no more than m. -/
def SeatOk (m : Nat) : Prop := ∀ (t : Tree), cntT t ≤ m → ∀ (w : World) (B : Nat) (G : Nat → Prop) (sb : Nat) (v : Value), RdT w (fun g => g < B) t v → SeatAt w B G sb →
  Calls Tryz.prog 32 #[.pointer (some ⟨sb, 0, none⟩), v] w fun e w' => ∃ G' v', e = .returned v' ∧ SeatAt w' B G' sb ∧ RdT w' G' t v' ∧ (∀ g, G' g → G g ∨ w.heap.size ≤ g) ∧ Moved G w w'
set_option maxRecDepth 100000 in
set_option linter.unusedSimpArgs false in
set_option maxHeartbeats 8000000 in
theorem seatValues_any (m : Nat) (hok : SeatOk m) (w : World) (B sb : Nat) (tv vv uv : Value) (subs : List Nat) (Gs : Nat → Nat → Prop) (L : List Tree) (v : Value) (hS : SP w B sb tv vv uv subs Gs) (hs : ∀ i (hi : i < subs.length), SeatAt w B (Gs i) subs[i])
    (hL : ∀ t ∈ L, cntT t ≤ m) (hl : L.length ≤ 1099511627776) (hv : RdS w (fun g => g < B) L v) :
    Calls Tryz.prog 65 #[.pointer (some ⟨sb, 0, none⟩), v] w fun e w' => ∃ vv' uv' subs' Gs', e = .returned vv' ∧ VS w w' B sb tv (fun g => SG sb tv vv uv subs.length Gs g ∧ tv.ownBlock ≠ some g) L L.length vv' uv' subs' Gs' := by
  obtain ⟨i26, hi26, hz26, hs26, hb26⟩ := info_parts Tryz.info26
  obtain ⟨z26, hzz, hzs⟩ : ∃ z, i26.zero = some z ∧ z.cells.size = 6 := ⟨_, hz26, rfl⟩
  clear hz26
  obtain ⟨ia, ic, rfl, hic, hir⟩ := hv
  have HBw : Hid (B ≤ w.heap.size) := hid (by have := hS.lo; have := hS.blk.lt; omega)
  have HIat : Hid (∀ i (hi : i < L.length), ∃ (b o : Nat) (V6 : List Value), ia = some ⟨b, o, none⟩ ∧ V6.length = 6 ∧ b < B ∧ b < w.heap.size ∧ w.rangeAt b (o + i * 6) V6 ∧ RdT w (fun g => g < B) L[i] (.agg V6.toArray)) := hid (fun i hi => by
    obtain ⟨b, o, e, hb, hFb, hrv⟩ := hir (by omega)
    obtain ⟨ds, h4, h5, h6⟩ := RdIs.row L hrv i hi
    exact ⟨b, o, ds, e, h4, hFb, hb, h5, h6⟩)
  have HOk := hid hok
  have HL := hid hL
  obtain ⟨M, HM⟩ : ∃ z, Hid ((fun g => SG sb tv vv uv subs.length Gs g ∧ tv.ownBlock ≠ some g) = z) := ⟨_, hid rfl⟩
  rw [HM.out]
  obtain ⟨vn, vxs, hv0⟩ := hS.v
  obtain ⟨va0, vc0, rfl⟩ := own_slice hv0
  have q8 : w.cell? ⟨sb, 8, none⟩ = some (.slice va0 vn vc0) := hS.blk.cell 8
  have qf := hS.blk.frozen 8
  have HVS0 : Hid (VS w (w.setCell ⟨sb, 8, none⟩ (.slice va0 0 vc0)) B sb tv M L 0 (.slice va0 0 vc0) uv subs Gs) := hid (by
    have gs := gset w ⟨sb, 8, none⟩ (.slice va0 0 vc0)
    have hMs : Moved (fun g => g = sb) w (w.setCell ⟨sb, 8, none⟩ (.slice va0 0 vc0)) := Moved.grown gs (fun g hg _ => by injection hg with hg; exact hg.symm)
    have e0 : (Value.slice va0 0 vc0).ownBlock = (Value.slice va0 vn vc0).ownBlock := by cases va0 <;> rfl
    have hkeep : ∀ g, g < w.heap.size → g ≠ sb → (w.setCell ⟨sb, 8, none⟩ (.slice va0 0 vc0)).heap[g]? = w.heap[g]? := fun g hg e => hMs.block g hg e
    have hv1 := own_same (own_cut hv0) (fun g hg hl => hkeep g hl (fun e => hS.vv_sb (by rw [← e0, hg, e])))
    refine ⟨⟨hS.lo, hS.blk.set 8 (.slice va0 0 vc0), ?_, ⟨_, _, hv1⟩, own_same hS.u (fun g hg hl => hkeep g hl (fun e => hS.uv_sb (by rw [hg, e]))), ?_, hS.dis⟩, ?_, Nat.zero_le _, ⟨[], hv1, by rw [List.take_zero]; rfl⟩, ?_, ?_⟩
    · obtain ⟨n, xs, ht⟩ := hS.t; exact ⟨n, xs, own_same ht (fun g hg hl => hkeep g hl (fun e => hS.tv_sb (by rw [hg, e])))⟩
    · intro j hj g hg
      obtain ⟨p1, p2, p3, p4, p5, p6⟩ := hS.sub j hj g hg
      exact ⟨p1, Nat.lt_of_lt_of_le p2 hMs.size, p3, p4, by rw [e0]; exact p5, p6⟩
    · intro j hj
      exact (hs j hj).stay (hMs.stays (fun g _ hg e => (hS.sub j hj g hg).2.2.1 e))
    · refine hMs.mono (fun g _ hg => ?_)
      rw [← HM.out, hg]
      exact ⟨.inl rfl, hS.tv_sb⟩
    · intro g hg ht
      refine .inl ?_
      rw [← HM.out]
      refine ⟨?_, ht⟩
      rcases hg with h | h | h | h | h
      · exact .inl h
      · exact .inr (.inl h)
      · exact .inr (.inr (.inl (by rw [← e0]; exact h)))
      · exact .inr (.inr (.inr (.inl h)))
      · exact .inr (.inr (.inr (.inr h))))
  have HSP0 := hid hS
  obtain ⟨n, Hn⟩ : ∃ z, Hid (L.length = z) := ⟨_, hid rfl⟩
  rw [Hn.out] at hl ⊢
  clear hS hs hv0 hok hL hic hir
  go_enter Tryz.func65, Tryz.ntmps65
  go_wp2_with fail
  go_loopw [5] (fun iv wr => ∃ (i : Nat) (vv' uv' : Value) (subs' : List Nat) (Gs' : Nat → Nat → Prop), iv = .int .i64 i ∧ i ≤ n ∧ Hid (VS w wr B sb tv M L i vv' uv' subs' Gs')) (fun iv _ => n - (intOf iv).toNat)
  case atStart => exact ⟨0, _, _, _, _, rfl, Nat.zero_le _, HVS0⟩
  case round =>
    clear HVS0 q8 qf
    obtain ⟨i, vv1, uv1, subs1, Gs1, rfl, hi, HV⟩ := hrel
    obtain ⟨u0, hu0⟩ : ∃ x : World, x = wr := ⟨_, rfl⟩
    rw [← hu0] at HV ⊢
    clear hu0
    by_cases hlt : i < n
    · have hlt' : (i : Int) < (n : Int) := by omega
      have hiL : i < L.length := by rw [Hn.out]; exact hlt
      obtain ⟨gi, oi, IT, rfl, hI6, hgB, hgw, hrg, hrt⟩ := HIat.out i hiL
      obtain ⟨tt, Htt⟩ : ∃ z, Hid (L[i] = z) := ⟨_, hid rfl⟩
      rw [Htt.out] at hrt
      have HLi : Hid (L[i]? = some tt) := hid (by rw [List.getElem?_eq_getElem hiL, Htt.out])
      have HTm : Hid (cntT tt ≤ m) := hid (HL.out tt (by rw [← Htt.out]; exact List.getElem_mem hiL))
      have HMo := hid HM.out
      have HArg : Hid (∀ u : World, (∀ g, g < B → g < w.heap.size → u.heap[g]? = w.heap[g]?) → w.heap.size ≤ u.heap.size → u.rangeAt gi (oi + i * 6) IT ∧ RdT u (fun g => g < B) tt (.agg IT.toArray)) := hid (fun u hu hsz =>
        have hst : Stays (fun g => g < B) w u := ⟨hsz, hu⟩
        ⟨hst.range hgB hgw hrg, hrt.on hst⟩)
      have HI6 := hid hI6
      clear hI6 hgw hrg hrt hiL Htt
      have HC127 := hid (seatMore_any u0 B sb tv vv1 uv1 subs1 Gs1 HV.out.sp HV.out.st i HV.out.le (by omega))
      go_upto_region 6 with (go_at_call 127; (with_reducible refine HC127.out.mono ?_); rintro e u1 ⟨uvq, subsq, Gsq, q, rfl, hq, h1, h2, h3, h4, h5, h6, h7⟩; have HQ := hid hq; have HV1 : Hid (VS w u1 B sb tv M L i vv1 uvq subsq Gsq) := hid (HV.out.more h1 h2 h3 h4 h5 h6 h7); clear hq h1 h2 h3 h4 h5 h6 h7)
      obtain ⟨vxs1, hvr⟩ : ∃ xs, u1.ownsRow B 26 6 vv1 i xs := by obtain ⟨xs, h, _⟩ := HV1.out.row; exact ⟨xs, h⟩
      obtain ⟨va, vc, rfl⟩ := own_slice hvr
      have hiq := (List.getElem?_eq_some_iff.1 HQ.out).1
      have HSub := hid (HV1.out.sp.sub i hiq)
      have HZ8 : Hid (∀ u, Moved (Gsq i) u1 u → u.cell? ⟨sb, 8, none⟩ = some (.slice va i vc)) := hid (fun u hu => by
        have hb : Blk u sb (SRow tv (.slice va i vc) uvq) 96 := (hu.block sb HV1.out.sp.blk.lt (fun h => (HSub.out sb h).2.2.1 rfl)).trans HV1.out.sp.blk
        exact hb.cell 8)
      have HArg1 : Hid (∀ u, Moved (Gsq i) u1 u → u.rangeAt gi (oi + i * 6) IT ∧ RdT u (fun g => g < B) tt (.agg IT.toArray)) := hid (fun u hu => HArg.out u (fun g hg hgw => by
        have h1 : u1.heap[g]? = w.heap[g]? := HV1.out.m.block g hgw (fun hm => by
          rw [← HMo.out] at hm
          have := (HSP0.out.lt hm.1).1
          omega)
        rw [← h1]
        exact hu.block g (Nat.lt_of_lt_of_le hgw HV1.out.m.size) (fun h => by have := (HSub.out g h).1; omega)) (Nat.le_trans HV1.out.m.size hu.size))
      have HLd : Hid (∀ u, Moved (Gsq i) u1 u → (Instr.loadAt 26 (.pointer (some ⟨gi, oi + i * 6, none⟩))).run Tryz.prog u = .ok (.agg IT.toArray) u) := hid (fun u hu => ld25 _ _ _ u (HArg1.out u hu).1 HI6.out)
      have HC33 : Hid (∀ u, u1.grownBy u none → Calls Tryz.prog 32 #[.pointer (some ⟨q, 0, none⟩), .agg IT.toArray] u fun e w' => ∃ G2 v2, e = .returned v2 ∧ SeatAt w' B G2 q ∧ RdT w' G2 tt v2 ∧ (∀ g, G2 g → Gsq i g ∨ u1.heap.size ≤ g) ∧ Moved (Gsq i) u w') := hid (fun u hu => by
        have hsq : SeatAt u B (Gsq i) q := by
          have := HV1.out.st i hiq
          rw [(List.getElem?_eq_some_iff.1 HQ.out).2] at this
          exact this.stay (Stays.none hu)
        refine (HOk.out tt HTm.out u B (Gsq i) q _ (HArg1.out u (moved_none hu)).2 hsq).mono ?_
        rintro e w' ⟨G2, v2, rfl, h1, h2, h3, h4⟩
        exact ⟨G2, v2, rfl, h1, h2, fun g hg => (h3 g hg).imp id (fun h => Nat.le_trans hu.size h), h4⟩)
      clear hvr hiq HArg
      refine wp_region_listT (by kernel_rfl) [fun v _ => v = (Value.pointer (some ⟨sb, 0, none⟩)), fun v _ => v = (Value.pointer (some ⟨sb, 0, none⟩)), fun v _ => v = (Value.pointer (some ⟨sb, 8, none⟩)), fun v _ => v = (Value.slice va i vc), fun v _ => v = (Value.pointer (some ⟨q, 0, none⟩)), fun v _ => v = (Value.slice (some ⟨gi, oi, none⟩) n ic), fun v _ => v = (Value.int .i64 i), fun v _ => v = (Value.pointer (some ⟨gi, oi + i * 6, none⟩)), fun v _ => v = (Value.agg IT.toArray), fun v u => ∃ G2, SeatAt u B G2 q ∧ RdT u G2 tt v ∧ ∀ g, G2 g → Gsq i g ∨ u1.heap.size ≤ g, fun v _ => v = (Value.int .i64 (i : Nat)), fun v u => ∃ bb, v = Value.slice (some ⟨bb, 0, none⟩) 1 1 ∧ Blk u bb Z6 26 ∧ ¬ Gsq i bb] (Gsq i) 9 12 (by kernel_rfl) (by kernel_rfl) (by kernel_rfl) (by kernel_rfl) (by decide) ⟨fun v u u' h hg => h, fun v u u' h hg => h, fun v u u' h hg => h, fun v u u' h hg => h, fun v u u' h hg => h, fun v u u' h hg => h, fun v u u' h hg => h, fun v u u' h hg => h, fun v u u' h hg => h, fun v u u' h hg => (by obtain ⟨G2, h1, h2, h3⟩ := h; exact ⟨G2, h1.stay (Stays.none hg), h2.on (Stays.none hg), h3⟩), fun v u u' h hg => h, fun v u u' h hg => (by obtain ⟨bb, e, hb, hn⟩ := h; exact ⟨bb, e, hb.keep hg, hn⟩), trivial⟩ ⟨fun _ v u u' h hg => h, fun _ v u u' h hg => h, fun _ v u u' h hg => h, fun _ v u u' h hg => h, fun _ v u u' h hg => h, fun _ v u u' h hg => h, fun _ v u u' h hg => h, fun _ v u u' h hg => h, fun _ v u u' h hg => h, fun hk => absurd rfl hk, fun _ v u u' h hg => h, fun _ v u u' h hg => (by obtain ⟨bb, e, hb, hn⟩ := h; exact ⟨bb, e, (hg.block bb hb.lt hn).trans hb, hn⟩), trivial⟩ ⟨?_, ?_, ?_, ?_, ?_, ?_, ?_, ?_, ?_, ?_, ?_, ?_, trivial⟩ ?_ ?_
      · intro hks A u hu hsz hout hdeps
        clear hks
        have e0 : A.eval (.tmp 0) = (.pointer (some ⟨sb, 0, none⟩)) := (hout 0 (by kernel_rfl)).trans rfl
        refine ifw_none rfl ?_
        with_reducible refine shown_q (Value.pointer (some ⟨sb, 0, none⟩)) ?qq_1_0 (fun _ _ => ?qr_1_0)
        case qr_1_0 => exact (rfl : (Value.pointer (some ⟨sb, 0, none⟩)) = (Value.pointer (some ⟨sb, 0, none⟩)))
        with_reducible refine quietAt_mv (.tmp 0) (Value.pointer (some ⟨sb, 0, none⟩)) ?h0_1_0 ?h1_1_0
        case h0_1_0 => rfl
        case h1_1_0 => exact e0
      · intro hks A u hu hsz hout hdeps
        clear hks
        have e24 : A.eval (.tmp 24) = (.pointer (some ⟨sb, 0, none⟩)) := by have h := depL hdeps 0 (by kernel_rfl) 24 (by kernel_rfl); exact h
        refine ifw_none rfl ?_
        with_reducible refine shown_q (Value.pointer (some ⟨sb, 0, none⟩)) ?qq_1_1 (fun _ _ => ?qr_1_1)
        case qr_1_1 => exact (rfl : (Value.pointer (some ⟨sb, 0, none⟩)) = (Value.pointer (some ⟨sb, 0, none⟩)))
        with_reducible refine quietAt_nil (.tmp 24) ?h0_1_1 ⟨sb, 0, none⟩ ?h1_1_1
        case h0_1_1 => rfl
        case h1_1_1 => exact e24
      · intro hks A u hu hsz hout hdeps
        clear hks
        have e25 : A.eval (.tmp 25) = (.pointer (some ⟨sb, 0, none⟩)) := by have h := depL hdeps 1 (by kernel_rfl) 25 (by kernel_rfl); exact h
        refine ifw_none rfl ?_
        with_reducible refine shown_q (Value.pointer (some ⟨sb, 8, none⟩)) ?qq_1_2 (fun _ _ => ?qr_1_2)
        case qr_1_2 => exact (rfl : (Value.pointer (some ⟨sb, 8, none⟩)) = (Value.pointer (some ⟨sb, 8, none⟩)))
        with_reducible refine quietAt_field 96 (.tmp 25) 8 ?h0_1_2 ⟨sb, 0, none⟩ ⟨sb, 8, none⟩ ?h1_1_2 ?h2_1_2
        case h0_1_2 => rfl
        case h1_1_2 => exact e25
        case h2_1_2 => kernel_rfl
      · intro hks A u hu hsz hout hdeps
        clear hks
        have e26 : A.eval (.tmp 26) = (.pointer (some ⟨sb, 8, none⟩)) := by have h := depL hdeps 2 (by kernel_rfl) 26 (by kernel_rfl); exact h
        refine ifw_none rfl ?_
        with_reducible refine shown_q (Value.slice va i vc) ?qq_1_3 (fun _ _ => ?qr_1_3)
        case qr_1_3 => exact (rfl : (Value.slice va i vc) = (Value.slice va i vc))
        with_reducible refine quietAt_ld 22 (.tmp 26) (Value.pointer (some ⟨sb, 8, none⟩)) (Value.slice va i vc) ?h0_1_3 ?h1_1_3 ?h2_1_3
        case h0_1_3 => rfl
        case h1_1_3 => exact e26
        case h2_1_3 => exact ld23 sb 8 i vc va u (HZ8.out u hu)
      · intro hks A u hu hsz hout hdeps
        clear hks
        have e6 : A.eval (.tmp 6) = (.pointer (some ⟨q, 0, none⟩)) := (hout 6 (by kernel_rfl)).trans rfl
        refine ifw_none rfl ?_
        with_reducible refine shown_q (Value.pointer (some ⟨q, 0, none⟩)) ?qq_1_4 (fun _ _ => ?qr_1_4)
        case qr_1_4 => exact (rfl : (Value.pointer (some ⟨q, 0, none⟩)) = (Value.pointer (some ⟨q, 0, none⟩)))
        with_reducible refine quietAt_mv (.tmp 6) (Value.pointer (some ⟨q, 0, none⟩)) ?h0_1_4 ?h1_1_4
        case h0_1_4 => rfl
        case h1_1_4 => exact e6
      · intro hks A u hu hsz hout hdeps
        clear hks
        have e1 : A.eval (.tmp 1) = (.slice (some ⟨gi, oi, none⟩) n ic) := (hout 1 (by kernel_rfl)).trans rfl
        refine ifw_none rfl ?_
        with_reducible refine shown_q (Value.slice (some ⟨gi, oi, none⟩) n ic) ?qq_1_5 (fun _ _ => ?qr_1_5)
        case qr_1_5 => exact (rfl : (Value.slice (some ⟨gi, oi, none⟩) n ic) = (Value.slice (some ⟨gi, oi, none⟩) n ic))
        with_reducible refine quietAt_mv (.tmp 1) (Value.slice (some ⟨gi, oi, none⟩) n ic) ?h0_1_5 ?h1_1_5
        case h0_1_5 => rfl
        case h1_1_5 => exact e1
      · intro hks A u hu hsz hout hdeps
        clear hks
        have e5 : A.eval (.tmp 5) = (.int .i64 i) := (hout 5 (by kernel_rfl)).trans rfl
        refine ifw_none rfl ?_
        with_reducible refine shown_q (Value.int .i64 i) ?qq_1_6 (fun _ _ => ?qr_1_6)
        case qr_1_6 => exact (rfl : (Value.int .i64 i) = (Value.int .i64 i))
        with_reducible refine quietAt_mv (.tmp 5) (Value.int .i64 i) ?h0_1_6 ?h1_1_6
        case h0_1_6 => rfl
        case h1_1_6 => exact e5
      · intro hks A u hu hsz hout hdeps
        clear hks
        have e29 : A.eval (.tmp 29) = (.slice (some ⟨gi, oi, none⟩) n ic) := by have h := depL hdeps 5 (by kernel_rfl) 29 (by kernel_rfl); exact h
        have e30 : A.eval (.tmp 30) = (.int .i64 i) := by have h := depL hdeps 6 (by kernel_rfl) 30 (by kernel_rfl); exact h
        refine ifw_none rfl ?_
        with_reducible refine shown_q (Value.pointer (some ⟨gi, oi + i * 6, none⟩)) ?qq_1_7 (fun _ _ => ?qr_1_7)
        case qr_1_7 => exact (rfl : (Value.pointer (some ⟨gi, oi + i * 6, none⟩)) = (Value.pointer (some ⟨gi, oi + i * 6, none⟩)))
        with_reducible refine quietAt_idx 22 (.tmp 29) (.tmp 30) (Value.slice (some ⟨gi, oi, none⟩) n ic) (Value.int .i64 i) (Value.pointer (some ⟨gi, oi + i * 6, none⟩)) ?h0_1_7 ?h1_1_7 ?h2_1_7 ?h3_1_7
        case h0_1_7 => rfl
        case h1_1_7 => exact e29
        case h2_1_7 => exact e30
        case h3_1_7 => exact idx23 gi oi n ic i hlt u
      · intro hks A u hu hsz hout hdeps
        clear hks
        have e31 : A.eval (.tmp 31) = (.pointer (some ⟨gi, oi + i * 6, none⟩)) := by have h := depL hdeps 7 (by kernel_rfl) 31 (by kernel_rfl); exact h
        refine ifw_none rfl ?_
        with_reducible refine shown_q (Value.agg IT.toArray) ?qq_1_8 (fun _ _ => ?qr_1_8)
        case qr_1_8 => exact (rfl : (Value.agg IT.toArray) = (Value.agg IT.toArray))
        with_reducible refine quietAt_ld 26 (.tmp 31) (Value.pointer (some ⟨gi, oi + i * 6, none⟩)) (Value.agg IT.toArray) ?h0_1_8 ?h1_1_8 ?h2_1_8
        case h0_1_8 => rfl
        case h1_1_8 => exact e31
        case h2_1_8 => exact HLd.out u hu
      · exact fun hk => absurd rfl hk
      · intro hks A u hu hsz hout hdeps
        clear hks
        have e27 : A.eval (.tmp 27) = (.slice va i vc) := by have h := depL hdeps 3 (by kernel_rfl) 27 (by kernel_rfl); exact h
        refine ifw_none rfl ?_
        with_reducible refine shown_q (Value.int .i64 (i : Nat)) ?qq_1_10 (fun _ _ => ?qr_1_10)
        case qr_1_10 => exact (rfl : (Value.int .i64 (i : Nat)) = (Value.int .i64 (i : Nat)))
        with_reducible refine quietAt_len (.tmp 27) 22 ?h0_1_10 va i vc ?h1_1_10 ?h2_1_10
        case h0_1_10 => rfl
        case h1_1_10 => exact e27
        case h2_1_10 => kernel_rfl
      · intro hks A u hu hsz hout hdeps
        clear hks
        refine ifw_none rfl ?_
        exact shown_slice6 (.const (.agg #[.int .i64 0, .bool false, .int .i64 0, .string ⟨#[]⟩, .slice none 0 0, .slice none 0 0])) rfl _ _ _ _ _ _ rfl (fun w' h hg => ⟨u.heap.size, rfl, h, fun hg' => by have := (HSub.out _ hg').2.1; have := hu.size; omega⟩)
      · intro o ho
        obtain rfl : _ = o := Option.some.inj ho
        intro A u hu hsz hout hdeps
        have e28 : A.eval (.tmp 28) = (.pointer (some ⟨q, 0, none⟩)) := by have h := depL hdeps 4 (by kernel_rfl) 28 (by kernel_rfl); exact h
        have e32 : A.eval (.tmp 32) = (.agg IT.toArray) := by have h := depL hdeps 8 (by kernel_rfl) 32 (by kernel_rfl); exact h
        refine ifw_none rfl ?_
        with_reducible refine shown_callM 32 Tryz.f32 ?h0_1_9 ?h1_1_9 ?h2_1_9 #[.tmp 28, .tmp 32] #[83, 26] ?h3_1_9 #[(Value.pointer (some ⟨q, 0, none⟩)), (Value.agg IT.toArray)] ?h4_1_9 ?h5_1_9
        case h0_1_9 => exact Tryz.func32
        case h1_1_9 => kernel_rfl
        case h2_1_9 => kernel_rfl
        case h3_1_9 => rfl
        case h4_1_9 => exact map2 _ _ _ _ _ e28 e32
        case h5_1_9 => exact (HC33.out u hu).mono (by rintro e w2 ⟨G2, v2, rfl, h1, h2, h3, h4⟩; exact ⟨v2, rfl, h4, G2, h1, h2, h3⟩)
      · intro A u8 listed hh hall hlisted fuel hfuel
        have hA := hh.whole
        have HU := hid hh.moved
        obtain ⟨x24, hx24⟩ : ∃ x, A.eval (.tmp 24) = x := ⟨_, rfl⟩
        have f24 : (fun v _ => v = (Value.pointer (some ⟨sb, 0, none⟩))) x24 u8 := by rw [← hx24]; exact hh.got 0 _ 24 rfl rfl (hall 0 (by decide))
        obtain ⟨x25, hx25⟩ : ∃ x, A.eval (.tmp 25) = x := ⟨_, rfl⟩
        have f25 : (fun v _ => v = (Value.pointer (some ⟨sb, 0, none⟩))) x25 u8 := by rw [← hx25]; exact hh.got 1 _ 25 rfl rfl (hall 1 (by decide))
        obtain ⟨x26, hx26⟩ : ∃ x, A.eval (.tmp 26) = x := ⟨_, rfl⟩
        have f26 : (fun v _ => v = (Value.pointer (some ⟨sb, 8, none⟩))) x26 u8 := by rw [← hx26]; exact hh.got 2 _ 26 rfl rfl (hall 2 (by decide))
        obtain ⟨x27, hx27⟩ : ∃ x, A.eval (.tmp 27) = x := ⟨_, rfl⟩
        have f27 : (fun v _ => v = (Value.slice va i vc)) x27 u8 := by rw [← hx27]; exact hh.got 3 _ 27 rfl rfl (hall 3 (by decide))
        obtain ⟨x28, hx28⟩ : ∃ x, A.eval (.tmp 28) = x := ⟨_, rfl⟩
        have f28 : (fun v _ => v = (Value.pointer (some ⟨q, 0, none⟩))) x28 u8 := by rw [← hx28]; exact hh.got 4 _ 28 rfl rfl (hall 4 (by decide))
        obtain ⟨x29, hx29⟩ : ∃ x, A.eval (.tmp 29) = x := ⟨_, rfl⟩
        have f29 : (fun v _ => v = (Value.slice (some ⟨gi, oi, none⟩) n ic)) x29 u8 := by rw [← hx29]; exact hh.got 5 _ 29 rfl rfl (hall 5 (by decide))
        obtain ⟨x30, hx30⟩ : ∃ x, A.eval (.tmp 30) = x := ⟨_, rfl⟩
        have f30 : (fun v _ => v = (Value.int .i64 i)) x30 u8 := by rw [← hx30]; exact hh.got 6 _ 30 rfl rfl (hall 6 (by decide))
        obtain ⟨x31, hx31⟩ : ∃ x, A.eval (.tmp 31) = x := ⟨_, rfl⟩
        have f31 : (fun v _ => v = (Value.pointer (some ⟨gi, oi + i * 6, none⟩))) x31 u8 := by rw [← hx31]; exact hh.got 7 _ 31 rfl rfl (hall 7 (by decide))
        obtain ⟨x32, hx32⟩ : ∃ x, A.eval (.tmp 32) = x := ⟨_, rfl⟩
        have f32 : (fun v _ => v = (Value.agg IT.toArray)) x32 u8 := by rw [← hx32]; exact hh.got 8 _ 32 rfl rfl (hall 8 (by decide))
        obtain ⟨x33, hx33⟩ : ∃ x, A.eval (.tmp 33) = x := ⟨_, rfl⟩
        have f33 : (fun v u => ∃ G2, SeatAt u B G2 q ∧ RdT u G2 tt v ∧ ∀ g, G2 g → Gsq i g ∨ u1.heap.size ≤ g) x33 u8 := by rw [← hx33]; exact hh.got 9 _ 33 rfl rfl (hall 9 (by decide))
        obtain ⟨x34, hx34⟩ : ∃ x, A.eval (.tmp 34) = x := ⟨_, rfl⟩
        have f34 : (fun v _ => v = (Value.int .i64 (i : Nat))) x34 u8 := by rw [← hx34]; exact hh.got 10 _ 34 rfl rfl (hall 10 (by decide))
        obtain ⟨x35, hx35⟩ : ∃ x, A.eval (.tmp 35) = x := ⟨_, rfl⟩
        have f35 : (fun v u => ∃ bb, v = Value.slice (some ⟨bb, 0, none⟩) 1 1 ∧ Blk u bb Z6 26 ∧ ¬ Gsq i bb) x35 u8 := by rw [← hx35]; exact hh.got 11 _ 35 rfl rfl (hall 11 (by decide))
        obtain ⟨x36, hx36⟩ : ∃ x, A.eval (.tmp 36) = x := ⟨_, rfl⟩
        obtain ⟨x37, hx37⟩ : ∃ x, A.eval (.tmp 37) = x := ⟨_, rfl⟩
        obtain ⟨x38, hx38⟩ : ∃ x, A.eval (.tmp 38) = x := ⟨_, rfl⟩
        obtain ⟨x39, hx39⟩ : ∃ x, A.eval (.tmp 39) = x := ⟨_, rfl⟩
        dsimp only [wrote, List.foldl] at hA
        rw [hx24, hx25, hx26, hx27, hx28, hx29, hx30, hx31, hx32, hx33, hx34, hx35, hx36, hx37, hx38, hx39] at hA
        clear hh hall hx24 hx25 hx26 hx27 hx28 hx29 hx30 hx31 hx32 hx33 hx34 hx35 hx36 hx37 hx38 hx39
        replace f24 := (f24 : x24 = (.pointer (some ⟨sb, 0, none⟩)))
        subst f24
        replace f25 := (f25 : x25 = (.pointer (some ⟨sb, 0, none⟩)))
        subst f25
        replace f26 := (f26 : x26 = (.pointer (some ⟨sb, 8, none⟩)))
        subst f26
        replace f27 := (f27 : x27 = (.slice va i vc))
        subst f27
        replace f28 := (f28 : x28 = (.pointer (some ⟨q, 0, none⟩)))
        subst f28
        replace f29 := (f29 : x29 = (.slice (some ⟨gi, oi, none⟩) n ic))
        subst f29
        replace f30 := (f30 : x30 = (.int .i64 i))
        subst f30
        replace f31 := (f31 : x31 = (.pointer (some ⟨gi, oi + i * 6, none⟩)))
        subst f31
        replace f32 := (f32 : x32 = (.agg IT.toArray))
        subst f32
        obtain ⟨G2, hG2, hT2, hI2⟩ := f33; obtain ⟨ya, yn, yc, za, zn, zc, e33⟩ := RdT_six hT2
        subst e33
        replace f34 := (f34 : x34 = (.int .i64 (i : Nat)))
        subst f34
        obtain ⟨b9, e35, hb9, hn9⟩ := f35
        subst e35
        subst hA
        simp only [Act.put, List.setIfInBounds_toArray, List.set_cons_succ, List.set_cons_zero]
        subst hlisted
        obtain ⟨k, rfl⟩ : ∃ k, fuel = k + 6 := ⟨fuel - 6, by have h6 : 6 ≤ fuel := hfuel; omega⟩
        clear hfuel
        have HT2 := hid hT2
        have HV2 : Hid (VS w u8 B sb tv M L i (.slice va i vc) uvq subsq (upd Gsq i G2)) := hid (HV1.out.under HQ.out hG2 HU.out hI2)
        have HB9 := hid hb9
        obtain ⟨xs, HXs⟩ : ∃ xs, Hid (u8.ownsRow B 26 6 (.slice va i vc) i xs ∧ Elems u8 (fun g => ∃ j, j < i ∧ upd Gsq i G2 j g) (L.take i) xs) := ⟨HV2.out.row.choose, hid HV2.out.row.choose_spec⟩
        have HXl : Hid (xs.length = i * 6) := hid HXs.out.1.1
        have HBu : Hid (B ≤ u8.heap.size) := hid (by have := HV2.out.sp.lo; have := HV2.out.sp.blk.lt; omega)
        have HSB := hid HV2.out.sp.blk
        have HVb : Hid ((Value.slice va i vc).ownBlock ≠ some sb) := hid HV2.out.sp.vv_sb
        clear hT2 hG2 hI2 hb9 hn9 HV1 HC33 HLd HZ8 HSub
        refine wpAny_of_held (S := fun _ => True) _ _ _ _ ?_
        refine wpAnyH_ready (rs := [12]) (by kernel_rfl) (by simp) ?_
        refine AllReadyH.cons rfl (fun K hK => ?_) AllReadyH.nil
        refine step_append_lies _ (by rfl) _ _ 22 (by rfl) B 26 i26 z26 6 88 Tryz.underlying22 hi26 hzz hs26 hb26 hzs (by decide) (.slice va i vc) i xs rfl HXs.out.1 ⟨b9, 0, none⟩ 1 1 Z6 rfl rfl HB9.out.news one_Z6 (by decide) (by unfold maxLen; omega) (by omega) HBu.out u8.heap.size rfl ?_
        intro g3 cap3 w3 ho3 hg3 hat3 hlt3
        have HG3 := hid hg3
        have HA3 := hid hat3
        have HSb3 : Hid (Blk w3 sb (SRow tv (.slice va i vc) uvq) 96) := hid (HSB.out.on hg3 HVb.out)
        obtain ⟨cs3, HCs⟩ : ∃ cs3, Hid (Blk w3 g3 cs3 26 ∧ B ≤ g3 ∧ cs3.take ((i + 1) * 6) = xs ++ Z6 ∧ i + 1 ≤ cap3 ∧ cap3 ≤ maxLen ∧ cs3.length = cap3 * 6) := own_blk ho3
        have HNe : Hid (g3 ≠ sb) := hid (fun e => own_ne_blk ho3 HSb3.out (by decide) (by rw [← e]; rfl))
        clear ho3 hg3 hat3 hlt3 HB9
        refine hK.out _ _ trivial (fun hHeld => ?_)
        clear hK K
        (try simp only [Act.put, List.setIfInBounds_toArray, List.set_cons_zero, List.set_cons_succ])
        have hlt4 : (i : Int) < (i : Int) + 1 := by omega
        refine wpAnyH_take (i := 13) (oi := { dst := some 37, op := Op.indexAddr 22 (Operand.tmp 36) (Operand.tmp 34), type := 0, pos := "seat.go:115", after := #[{ on := 12, ground := Ground.data }, { on := 10, ground := Ground.data }, { on := 0, ground := Ground.phase }, { on := 1, ground := Ground.phase }, { on := 2, ground := Ground.phase }, { on := 3, ground := Ground.phase }, { on := 4, ground := Ground.phase }, { on := 5, ground := Ground.phase }, { on := 6, ground := Ground.phase }, { on := 7, ground := Ground.phase }, { on := 8, ground := Ground.phase }, { on := 9, ground := Ground.phase }, { on := 10, ground := Ground.phase }, { on := 11, ground := Ground.phase }, { on := 12, ground := Ground.phase }, { on := 17, ground := Ground.gcOnly Departure.appendInPlace }], guard := none }) (v := (.pointer (some ⟨g3, i * 6, none⟩))) rfl (by kernel_rfl) (by kernel_rfl) (by kernel_rfl) (fun _ _ _ h => h) (Or.inl ⟨by rfl, by intro u hSu; go_simp⟩) trivial ?_
        (try simp only [Act.put, List.setIfInBounds_toArray, List.set_cons_zero, List.set_cons_succ])
        refine wpAnyH_take (i := 15) (oi := { dst := some 38, op := Op.nilCheck (Operand.tmp 24), type := 0, pos := "seat.go:115", after := #[{ on := 0, ground := Ground.data }, { on := 0, ground := Ground.phase }, { on := 1, ground := Ground.phase }, { on := 2, ground := Ground.phase }, { on := 3, ground := Ground.phase }, { on := 4, ground := Ground.phase }, { on := 5, ground := Ground.phase }, { on := 6, ground := Ground.phase }, { on := 7, ground := Ground.phase }, { on := 8, ground := Ground.phase }, { on := 9, ground := Ground.phase }, { on := 10, ground := Ground.phase }, { on := 11, ground := Ground.phase }, { on := 12, ground := Ground.phase }, { on := 13, ground := Ground.textOnly Departure.appendInPlace }, { on := 14, ground := Ground.textOnly Departure.appendInPlace }], guard := none }) (v := (.pointer (some ⟨sb, 0, none⟩))) rfl (by kernel_rfl) (by kernel_rfl) (by kernel_rfl) (fun _ _ _ h => h) (Or.inl ⟨by rfl, by intro u hSu; go_simp⟩) trivial ?_
        (try simp only [Act.put, List.setIfInBounds_toArray, List.set_cons_zero, List.set_cons_succ])
        refine wpAnyH_take (i := 16) (oi := { dst := some 39, op := Op.fieldAddr 96 (Operand.tmp 38) 8, type := 0, pos := "seat.go:115", after := #[{ on := 15, ground := Ground.data }, { on := 0, ground := Ground.phase }, { on := 1, ground := Ground.phase }, { on := 2, ground := Ground.phase }, { on := 3, ground := Ground.phase }, { on := 4, ground := Ground.phase }, { on := 5, ground := Ground.phase }, { on := 6, ground := Ground.phase }, { on := 7, ground := Ground.phase }, { on := 8, ground := Ground.phase }, { on := 9, ground := Ground.phase }, { on := 10, ground := Ground.phase }, { on := 11, ground := Ground.phase }, { on := 12, ground := Ground.phase }, { on := 13, ground := Ground.textOnly Departure.appendInPlace }, { on := 14, ground := Ground.textOnly Departure.appendInPlace }], guard := none }) (v := (.pointer (some ⟨sb, 8, none⟩))) rfl (by kernel_rfl) (by kernel_rfl) (by kernel_rfl) (fun _ _ _ h => h) (Or.inl ⟨by rfl, by intro u hSu; go_simp⟩) trivial ?_
        (try simp only [Act.put, List.setIfInBounds_toArray, List.set_cons_zero, List.set_cons_succ])
        refine wpAnyH_ready (rs := [14, 17]) (by kernel_rfl) (by simp) ?_
        refine AllReadyH.cons rfl (fun K hK => ?_) (AllReadyH.cons rfl (fun K hK => ?_) AllReadyH.nil)
        · refine step_store_partV (by rfl) 26 _ _ (by rfl) g3 (i * 6) cs3 [.int .i64 tt.kind, .bool tt.flag, .int .i64 tt.n, .string tt.text, .slice ya yn yc, .slice za zn zc] 26 (by with_unfolding_all rfl) (by with_unfolding_all rfl) HCs.out.1 (by have := HCs.out; show i * 6 + 6 ≤ cs3.length; omega) (by with_unfolding_all exact Tryz.size26) (one6 _ _ _ _ _ _ _ _ _ _) ?_
          intro w4 B4 g4 s4
          have HB4 := hid B4
          have HG4 := hid g4
          have HSb4 : Hid (Blk w4 sb (SRow tv (.slice va i vc) uvq) 96) := hid (HSb3.out.on g4 (fun e => HNe.out (by injection e)))
          clear B4 g4 s4
          refine hK.out _ _ trivial (fun hHeld => ?_)
          clear hK K
          (try simp only [Act.put, List.setIfInBounds_toArray, List.set_cons_zero, List.set_cons_succ])
          have q8 : w4.cell? ⟨sb, 8, none⟩ = some (.slice va i vc) := HSb4.out.cell 8
          have qf := HSb4.out.frozen 8
          refine wpAnyH_ready (rs := [17]) (by kernel_rfl) (by simp) ?_
          refine AllReadyH.cons rfl (fun K hK => ?_) AllReadyH.nil
          go_simp
          refine hK.out _ _ trivial (fun hHeld => ?_)
          clear hK K q8 qf
          (try simp only [Act.put, List.setIfInBounds_toArray, List.set_cons_zero, List.set_cons_succ])
          refine wpAnyH_done (by kernel_rfl) ?_ _
          go_wp2_with fail
          have HVN : Hid (VS w (w4.setCell ⟨sb, 8, none⟩ (.slice (some ⟨g3, 0, none⟩) (i + 1) cap3)) B sb tv M L (i + 1) (.slice (some ⟨g3, 0, none⟩) (i + 1) cap3) uvq subsq (upd Gsq i G2)) := hid (VS.laid HV2.out (List.getElem?_eq_some_iff.1 HQ.out).1 HXs.out.2 (by rw [upd_at]; exact HT2.out) HLi.out HG3.out HA3.out ((Moved.grown (G := fun g => g = sb ∨ g = g3) HG4.out (fun g hg _ => .inr (by injection hg with hg; exact hg.symm))).trans (Moved.grown (G := fun g => g = sb ∨ g = g3) (gset w4 ⟨sb, 8, none⟩ _) (fun g hg _ => .inl (by injection hg with hg; exact hg.symm))) (fun _ _ h => h) (fun _ _ h => h)) (HSb4.out.set 8 (.slice (some ⟨g3, 0, none⟩) (i + 1) cap3)) (own_splice HCs.out (HB4.out.on (gset w4 ⟨sb, 8, none⟩ _) (fun e => HNe.out (by injection e with e; exact e.symm))) HXl.out))
          clear HV2 HT2 HXs HG3 HA3
          go_roundw
          case rel => exact ⟨i + 1, _, _, _, _, by go_num, by omega, HVN⟩
          case measure => simp [intOf]; omega
        · have q8 : w3.cell? ⟨sb, 8, none⟩ = some (.slice va i vc) := HSb3.out.cell 8
          have qf := HSb3.out.frozen 8
          go_simp
          refine hK.out _ _ trivial (fun hHeld => ?_)
          clear hK K q8 qf
          (try simp only [Act.put, List.setIfInBounds_toArray, List.set_cons_zero, List.set_cons_succ])
          have HB5 : Hid (Blk (w3.setCell ⟨sb, 8, none⟩ (.slice (some ⟨g3, 0, none⟩) (i + 1) cap3)) g3 cs3 26) := hid (HCs.out.1.on (gset w3 ⟨sb, 8, none⟩ _) (fun e => HNe.out (by injection e with e; exact e.symm)))
          refine wpAnyH_ready (rs := [14]) (by kernel_rfl) (by simp) ?_
          refine AllReadyH.cons rfl (fun K hK => ?_) AllReadyH.nil
          refine step_store_partV (by rfl) 26 _ _ (by rfl) g3 (i * 6) cs3 [.int .i64 tt.kind, .bool tt.flag, .int .i64 tt.n, .string tt.text, .slice ya yn yc, .slice za zn zc] 26 (by with_unfolding_all rfl) (by with_unfolding_all rfl) HB5.out (by have := HCs.out; show i * 6 + 6 ≤ cs3.length; omega) (by with_unfolding_all exact Tryz.size26) (one6 _ _ _ _ _ _ _ _ _ _) ?_
          intro w5 B5 g5 s5
          have HB6 := hid B5
          have HG5 := hid g5
          clear B5 g5 s5
          refine hK.out _ _ trivial (fun hHeld => ?_)
          clear hK K
          (try simp only [Act.put, List.setIfInBounds_toArray, List.set_cons_zero, List.set_cons_succ])
          refine wpAnyH_done (by kernel_rfl) ?_ _
          go_wp2_with fail
          have HVN : Hid (VS w w5 B sb tv M L (i + 1) (.slice (some ⟨g3, 0, none⟩) (i + 1) cap3) uvq subsq (upd Gsq i G2)) := hid (VS.laid HV2.out (List.getElem?_eq_some_iff.1 HQ.out).1 HXs.out.2 (by rw [upd_at]; exact HT2.out) HLi.out HG3.out HA3.out ((Moved.grown (G := fun g => g = sb ∨ g = g3) (gset w3 ⟨sb, 8, none⟩ _) (fun g hg _ => .inl (by injection hg with hg; exact hg.symm))).trans (Moved.grown (G := fun g => g = sb ∨ g = g3) HG5.out (fun g hg _ => .inr (by injection hg with hg; exact hg.symm))) (fun _ _ h => h) (fun _ _ h => h)) ((HSb3.out.set 8 (.slice (some ⟨g3, 0, none⟩) (i + 1) cap3)).on HG5.out (fun e => HNe.out (by injection e))) (own_splice HCs.out HB6.out HXl.out))
          clear HV2 HT2 HXs HG3 HA3
          go_roundw
          case rel => exact ⟨i + 1, _, _, _, _, by go_num, by omega, HVN⟩
          case measure => simp [intOf]; omega
    · have hlt' : ¬ (i : Int) < (n : Int) := by omega
      obtain rfl : i = n := by omega
      obtain ⟨vxs1, hvr⟩ : ∃ xs, u0.ownsRow B 26 6 vv1 i xs := by obtain ⟨xs, h, _⟩ := HV.out.row; exact ⟨xs, h⟩
      obtain ⟨va, vc, rfl⟩ := own_slice hvr
      have q8 : u0.cell? ⟨sb, 8, none⟩ = some (.slice va i vc) := HV.out.sp.blk.cell 8
      clear hvr
      go_wp2_with fail
      go_ret
      exact ⟨_, rfl, _, _, _, HV.out⟩
end Go.Proofs.YtdmnhkgiojkphaaGreatDoor
