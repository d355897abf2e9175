/- CopyFile, CopyFiles; rows of files that are appended to; plain facts of Load. -/
import Derived.Test.YtlgjmdianmijeaaGreatX13
namespace Go.Proofs.YtlgjmdianmijeaaGreat
open Go Go.RowKit Go.MapKept Go.MuLone
open Go.RowKit (wrap32 wrap64)

set_option maxRecDepth 100000 in
set_option maxHeartbeats 1600000 in
theorem copyFile_any (w : World) (s : ByteArray) (a : Option Addr) (n c : Nat) (F : Nat → Prop) (l : List UInt8) (hv : Rd w F (.slice a n c) l) (hl : l.length ≤ 140737488355328) :
    Calls Tryz.prog 121 #[.agg #[.string s, .slice a n c]] w fun e w' => ∃ a' c', e = .returned (.agg #[.string s, .slice a' n c']) ∧ Out w.heap.size w' (.slice a' n c') l ∧ w.grownBy w' none := by
  have HN : Hid (l.length = n) := hid (by obtain ⟨_, _, _, _, e, _⟩ := hv; injection e with _ e _; exact e.symm)
  have HCk : Hid (∀ u, w.grownBy u none → Calls Tryz.prog 61 #[.slice a n c] u fun e w' => ∃ a' c', e = .returned (.slice a' n c') ∧ Out u.heap.size w' (.slice a' n c') l ∧ u.grownBy w' none) := hid (fun u hu => (copyR_any u _ F l (hv.keep hu) hl).mono fun e w' ⟨v', h1, h2, h3⟩ => by
    obtain ⟨a', c', rfl⟩ := h2.len
    rw [HN.out] at h1 h2
    exact ⟨a', c', h1, h2, h3⟩)
  clear hv hl HN
  go_enter Tryz.func121, Tryz.ntmps121
  go_wp2_with (first
    | ((with_reducible refine wpList_box_row (by with_unfolding_all rfl) 130 _ (by with_unfolding_all rfl) [.string s, .slice a n c] (by with_unfolding_all rfl) ?_); intro w1 B1 s1 g1; have HB1 := hid B1; have HG1 := hid g1; have HS1 := hid s1; obtain ⟨b1, hb1⟩ : ∃ x, w.heap.size = x := ⟨_, rfl⟩; rw [hb1] at HB1 ⊢; have HL1 := hid hb1; clear B1 g1 s1 hb1)
    | (have := HB2; clear this; (with_reducible refine wpList_alloc_row (by with_unfolding_all rfl) 130 (by with_unfolding_all rfl) [.string ⟨#[]⟩, .slice none 0 0] Tryz.zero130 ?_); intro w3 B3 s3 g3; have HB3 := hid B3; have HG3 := hid g3; have HS3 := hid s3; clear B3 g3 s3)
    | ((with_reducible refine wpList_alloc_row (by with_unfolding_all rfl) 130 (by with_unfolding_all rfl) [.string ⟨#[]⟩, .slice none 0 0] Tryz.zero130 ?_); intro w2 B2 s2 g2; have HB2 := hid B2; have HG2 := hid g2; have HS2 := hid s2; clear B2 g2 s2)
    | (have := HR6; clear this; (with_reducible refine wpList_load_part (by with_unfolding_all rfl) 130 _ (by with_unfolding_all rfl) w2.heap.size 0 [.string s, .slice a5 n c5] _ (by with_unfolding_all rfl) HB6.out.whole Tryz.underlying130 (by with_unfolding_all rfl) (by with_unfolding_all exact Tryz.size130) ?_))
    | (with_reducible refine wpList_load_part (by with_unfolding_all rfl) 130 _ (by with_unfolding_all rfl) b1 0 [.string s, .slice a n c] _ (by with_unfolding_all rfl) (HB1.out.keep HG2.out).whole Tryz.underlying130 (by with_unfolding_all rfl) (by with_unfolding_all exact Tryz.size130) ?_)
    | (have := HR6; clear this; (with_reducible refine wpList_store_all (by with_unfolding_all rfl) 130 _ _ (by with_unfolding_all rfl) _ [.string ⟨#[]⟩, .slice none 0 0] [.string s, .slice a5 n c5] 130 (by with_unfolding_all rfl) (by with_unfolding_all rfl) HR6.out (by with_unfolding_all rfl) (by with_unfolding_all exact Tryz.size130) (file_one _ _ _ _) ?_); intro w7 B7 g7 s7; have HB7 := hid B7; have HG7 := hid g7; clear B7 g7 s7)
    | ((with_reducible refine wpList_store_all (by with_unfolding_all rfl) 130 _ _ (by with_unfolding_all rfl) _ [.string ⟨#[]⟩, .slice none 0 0] [.string s, .slice a n c] 130 (by with_unfolding_all rfl) (by with_unfolding_all rfl) HB3.out (by with_unfolding_all rfl) (by with_unfolding_all exact Tryz.size130) (file_one _ _ _ _) ?_); intro w4 B4 g4 s4; have HB4 := hid B4; have HG4 := hid g4; clear B4 g4 s4; have HR4 := hid ((HB2.out.keep HG3.out).on HG4.out (by simp; have := HS2.out; omega)); have HGx := hid ((gtrans (gtrans HG1.out HG2.out) HG3.out).andThen HG4.out (fun j hj => .inl (by injection hj with hj; have := HG1.out.size; have := HG2.out.size; omega))); have HQ4 := hid (((HB1.out.keep HG2.out).keep HG3.out).on HG4.out (by simp; have := HB1.out.lt; have := HG2.out.size; omega)); have y1 := HQ4.out.cell 1)
    | (go_at_call 61; (with_reducible refine (HCk.out _ HGx.out).mono ?_); rintro e w5 ⟨a5, c5, rfl, hO5, hg5⟩; have HO5 := hid hO5; have HG5 := hid hg5; clear hO5 hg5; have HB5 := hid (HB4.out.keep HG5.out); have HR5 := hid (HR4.out.keep HG5.out); have x0 := HB5.out.cell 1; have x0f := HB5.out.frozen 1; obtain ⟨W6, hW6⟩ : ∃ x, w5.setCell ⟨w2.heap.size, 1, none⟩ (.slice a5 n c5) = x := ⟨_, rfl⟩; have HB6 : Hid (Blk W6 w2.heap.size [.string s, .slice a5 n c5] 130) := hid (by rw [← hW6]; exact HB5.out.set 1 (.slice a5 n c5)); have HG6 := hid (gset w5 ⟨w2.heap.size, 1, none⟩ (.slice a5 n c5)); rw [hW6] at HG6; have HR6 := hid (HR5.out.on HG6.out (by simp; have := HS2.out; omega)); have HO6 := hid (HO5.out.on HG6.out (fun j hj e => by injection hj with hj; exact out_ne HO5.out HB5.out (by decide) (e.trans (congrArg some hj.symm))))))
  refine bodyPost_ret (results_blk rfl _ w1.heap.size 130 [.string s, .slice a5 n c5] _ rfl HB7.out Tryz.underlying130 rfl Tryz.size130) rfl ?_
  have q1 := HL1.out
  have q2 := HGx.out.size
  refine ⟨a5, c5, rfl, (HO6.out.on HG7.out (fun j hj e => ?_)).below (by omega), ((gtrans HGx.out HG5.out).andThen HG6.out (fun j hj => .inl (by injection hj with hj; have := HG1.out.size; have := HG2.out.size; omega))).andThen HG7.out (fun j hj => .inl (by injection hj with hj; have := HG1.out.size; omega))⟩
  injection hj with hj
  exact out_ne HO6.out HR6.out (by decide) (e.trans (congrArg some hj.symm))
theorem OutF.on {B : Nat} {w w' : World} {v : Value} {E : List Fl} {row : Option Nat} (h : OutF B w v E) (hg : w.grownBy w' row) (hr : ∀ k, row = some k → v.ownBlock ≠ some k ∧ ∀ f ∈ E, f.v.ownBlock ≠ some k) : OutF B w' v E :=
  ⟨World.ownsRow.kept h.row hg (by
    cases hv : v.ownBlock with
    | none => exact .inl rfl
    | some k => exact .inr (fun e => (hr k e.symm).1 hv)), fun f hf => (h.own f hf).on hg (fun k hk => (hr k hk).2 f hf)⟩
theorem OutF.low {B : Nat} {w : World} {v : Value} {E : List Fl} (h : OutF B w v E) : ∀ k, v.ownBlock = some k → B ≤ k := fun k hk => by
  rcases h.row.2 with ⟨h1, _⟩ | ⟨g, cap, cur, h1, hB, _⟩
  · rw [h1] at hk; cases hk
  · rw [h1] at hk
    injection hk with hk
    have hk' : g = k := hk
    omega
theorem OutF.ne {B C : Nat} {w : World} {v v' : Value} {E E' : List Fl} (h : OutF B w v E) (h' : OutF C w v' E') : ∀ k, v'.ownBlock = some k → ∀ f ∈ E, f.v.ownBlock ≠ some k := fun k hk f hf => own_ne h'.row (h.own f hf) (by decide) k hk
set_option maxRecDepth 100000 in
/-- append of one file; where the row lies then. -/
theorem app_file2 {w : World} {B g : Nat} {vs : Value} {E : List Fl} {s : ByteArray} {bv : Value} {bs : List UInt8} (h : OutF B w vs E) (hb : Blk w g [.string s, bv] 130) (ho : Out B w bv bs) (hE : E.length ≤ 1000000) (hB : B ≤ w.heap.size) (ty : TypeId) :
    ∃ v' w', (Builtin.append_ #[66, 66] ty #[vs, .slice (some ⟨g, 0, none⟩) 1 1]).run Tryz.prog w = .ok v' w' ∧ OutF B w' v' (E ++ [⟨s, bv, bs⟩]) ∧ w.grownBy w' vs.ownBlock ∧ (v'.ownBlock = vs.ownBlock ∨ v'.ownBlock = some w.heap.size) := by
  obtain ⟨inf, hi, hz0, hz1, hz2⟩ := info_parts Tryz.info130
  obtain ⟨ba, bc, hbv⟩ := ho.len
  obtain ⟨v', w', h1, h2, h3, _, h4⟩ := run_append_own_at (P := Tryz.prog) w B 66 ty 130 inf (.agg [Value.string ⟨#[]⟩, .slice none 0 0].toArray) 2 40 Tryz.underlying66 hi hz0 hz1 hz2 rfl (by decide) vs _ _ h.row ⟨g, 0, none⟩ 1 1 [.string s, bv] rfl (by
    intro j u hu
    rw [Addr.add_lit, Nat.zero_add]
    rcases (show j = 0 ∨ j = 1 ∨ 2 ≤ j by omega) with rfl | rfl | h2
    · injection hu with hu; subst hu; exact hb.cell 0
    · injection hu with hu; subst hu; exact hb.cell 1
    · have : ([Value.string s, bv] : List Value)[j]? = none := by simp; omega
      rw [this] at hu; cases hu) (by rw [hbv]; exact file_one s ba bs.length bc) (by unfold maxLen; omega) (by omega) hB
  refine ⟨v', w', h1, ⟨by rw [fcs_app, List.length_append]; exact h2, fun f hf => ?_⟩, h3, h4⟩
  have hx : ∀ f : Fl, Out B w f.v f.bs → Out B w' f.v f.bs := fun f hf => hf.on h3 (fun k hk => own_ne h.row hf (by decide) k hk)
  rcases List.mem_append.1 hf with hf | hf
  · exact hx f (h.own f hf)
  · rw [List.mem_singleton.1 hf]
    exact hx ⟨s, bv, bs⟩ ho
theorem wpList_append_file {w : World} {ops : Array Oper} {rest : List Oper} {o : Oper} {a : Act} {Q : Exit → Act → World → Prop} (hgd : o.guard = none) (s x : Operand)
    (ho : o.op = .call { callee := .builtin .append, args := #[s, x], argTypes := #[66, 66] }) (B g : Nat) (E : List Fl) (nm : ByteArray) (bv : Value) (bs : List UInt8) (h : OutF B w (a.eval s) E) (hx : a.eval x = .slice (some ⟨g, 0, none⟩) 1 1) (hb : Blk w g [.string nm, bv] 130) (hO : Out B w bv bs) (hE : E.length ≤ 1000000) (hB : B ≤ w.heap.size)
    (k : ∀ v' w', OutF B w' v' (E ++ [⟨nm, bv, bs⟩]) → w.grownBy w' (a.eval s).ownBlock → (v'.ownBlock = (a.eval s).ownBlock ∨ v'.ownBlock = some w.heap.size) → wpList Tryz.prog ops Q rest (a.put o.dst v') w') : wpList Tryz.prog ops Q (o :: rest) a w := by
  obtain ⟨v', w', h1, h2, h3, h4⟩ := app_file2 h hb hO hE hB o.type
  refine wpList_plain hgd fun K hK => ?_
  unfold Oper.wp
  simp [execOp, ho, resolve, invoke, builtin, hx, h1, Result.andThen]
  exact hK _ _ (k v' w' h2 h3 h4)
theorem ApF.snoc {E : List Fl} {f : Fl} (h : ApF E) (hf : ∀ g ∈ E, g.v.ownBlock = none ∨ g.v.ownBlock ≠ f.v.ownBlock) : ApF (E ++ [f]) := by
  unfold ApF
  rw [List.pairwise_append]
  exact ⟨h, List.pairwise_singleton .., fun a ha b hb => by rw [List.mem_singleton.1 hb]; exact hf a ha⟩
set_option maxRecDepth 100000 in
set_option maxHeartbeats 1600000 in
theorem copyFiles_any (w : World) (F : Nat → Prop) (a : Option Addr) (g off c : Nat) (L : Cn) (hA : ArF w F a g off L) (hL : L.length ≤ 1000000) (hb : ∀ p ∈ L, p.2.length ≤ 140737488355328) :
    Calls Tryz.prog 79 #[.slice a L.length c] w fun e w' => ∃ v E, e = .returned v ∧ OutF w.heap.size w' v E ∧ cont E = L ∧ ApF E ∧ w.grownBy w' none := by
  have HA : Hid (∀ u, w.grownBy u none → ArF u F a g off L) := hid (fun u hu => hA.keep hu)
  have HBl := hid hb
  obtain ⟨n, HN⟩ : ∃ n, Hid (L.length = n) := ⟨_, hid rfl⟩
  have hn : n ≤ 1000000 := by rw [← HN.out]; exact hL
  rw [HN.out]
  clear hA hL hb
  go_enter Tryz.func79, Tryz.ntmps79
  go_upto_region 3 with fail
  go_loopw [4, 3] (fun iv v wr => ∃ (i : Nat) (xa : Option Addr) (xc : Nat), iv = .int .i64 i ∧ v = .slice xa i xc ∧ i ≤ n ∧ Hid (∃ E, OutF w.heap.size wr (.slice xa i xc) E ∧ cont E = L.take i ∧ ApF E ∧ w.grownBy wr none)) (fun iv _ _ => n - (intOf iv).toNat)
  case atStart => exact ⟨0, none, 0, rfl, rfl, Nat.zero_le _, hid ⟨[], OutF.nil (World.ownsRow_nil _ _ _ _), rfl, List.Pairwise.nil, grefl _ _⟩⟩
  case round =>
    obtain ⟨i, xa, xc, rfl, rfl, hi, HC⟩ := hrel
    obtain ⟨w0, hw0⟩ : ∃ x : World, x = wr := ⟨_, rfl⟩
    rw [← hw0] at HC ⊢
    clear hw0
    obtain ⟨E, HE⟩ : ∃ E, Hid (OutF w.heap.size w0 (.slice xa i xc) E ∧ cont E = L.take i ∧ ApF E ∧ w.grownBy w0 none) := ⟨HC.out.choose, hid HC.out.choose_spec⟩
    clear HC
    by_cases hlt : i < n
    · have hlt' : (i : Int) < (n : Int) := by omega
      have hiL : i < L.length := by rw [HN.out]; exact hlt
      obtain ⟨rfl, hgl, -⟩ := (HA.out w0 HE.out.2.2.2).at_ (by omega)
      obtain ⟨q, Hq⟩ : ∃ x, Hid (L[i] = x) := ⟨_, hid rfl⟩
      obtain ⟨s, l⟩ := q
      have HC : Hid (w0.cell? ⟨g, off + i * 2, none⟩ = some (.string s) ∧ ∃ v, w0.cell? ⟨g, off + i * 2 + 1, none⟩ = some v ∧ Rd w0 F v l) := hid (by have := (HA.out w0 HE.out.2.2.2).each i hiL; rw [Hq.out] at this; exact this)
      obtain ⟨v, hv1, hv2⟩ := HC.out.2
      have HV := hid hv2
      have HLl : Hid (l.length ≤ 140737488355328) := hid (HBl.out (s, l) (by rw [← Hq.out]; exact List.getElem_mem _))
      obtain ⟨ba, -, -, bc, rfl, -⟩ := hv2
      obtain ⟨bn, HBn⟩ : ∃ x, Hid (l.length = x) := ⟨_, hid rfl⟩
      rw [HBn.out] at HV hv1
      have HR : Hid (w0.rangeAt g (off + i * 2) [.string s, .slice ba bn bc]) := hid (two_range HC.out.1 hv1)
      have HCf := hid (copyFile_any w0 s ba bn bc F l HV.out HLl.out)
      have HEl : Hid (E.length ≤ 1000000) := hid (by have := congrArg List.length HE.out.2.1; rw [len_cont, List.length_take] at this; omega)
      clear HC hv1 HV
      go_wp2_with (first
        | (with_reducible refine wpList_load_part (by with_unfolding_all rfl) 130 _ (by with_unfolding_all rfl) g (off + i * 2) [.string s, .slice ba bn bc] _ (by with_unfolding_all rfl) HR.out Tryz.underlying130 (by with_unfolding_all rfl) (by with_unfolding_all exact Tryz.size130) ?_)
        | (go_at_call 121; (with_reducible refine HCf.out.mono ?_); rintro e w1 ⟨a1, c1, rfl, hO, hg⟩; have HO1 := hid hO; have HG1 := hid hg; clear hO hg)
        | (at_builtin; (refine wpList_append_file rfl _ _ rfl w.heap.size w1.heap.size E s (.slice a1 bn c1) l ((HE.out.1.keep HG1.out).keep (galloc w1 _ none)) rfl (Blk.new w1 [.string s, .slice a1 bn c1] 130) ((HO1.out.below HE.out.2.2.2.size).keep (galloc w1 _ none)) HEl.out (by have := (gtrans HE.out.2.2.2 (gtrans HG1.out (galloc w1 (.cells #[.string s, .slice a1 bn c1] 130) none))).size; exact this) ?_); intro v2 w2 hF2 hg2 hb2; have HF2 := hid hF2; have HG2 := hid hg2; clear hF2 hg2 hb2))
      have HRl : Hid (∃ (i' : Nat) (xa' : Option Addr) (xc' : Nat), Value.int .i64 ((i : Int) + 1) = .int .i64 i' ∧ v2 = .slice xa' i' xc' ∧ i' ≤ n ∧ Hid (∃ E, OutF w.heap.size w2 (.slice xa' i' xc') E ∧ cont E = L.take i' ∧ ApF E ∧ w.grownBy w2 none)) := hid (by
        have hl : (E ++ [(⟨s, .slice a1 bn c1, l⟩ : Fl)]).length = i + 1 := by
          have := congrArg List.length HE.out.2.1
          rw [len_cont, List.length_take] at this
          rw [List.length_append, List.length_singleton]
          omega
        obtain ⟨xa', xc', hv2⟩ := HF2.out.len
        rw [hl] at hv2
        subst hv2
        refine ⟨i + 1, xa', xc', by go_num, rfl, by omega, hid ⟨_, HF2.out, ?_, ?_, ?_⟩⟩
        · unfold cont
          rw [List.map_append]
          show cont E ++ [(s, l)] = _
          rw [HE.out.2.1, List.take_succ_eq_append_getElem hiL, Hq.out]
        · refine HE.out.2.2.1.snoc (fun f hf => ?_)
          cases hk : f.v.ownBlock with
          | none => exact .inl rfl
          | some k =>
            refine .inr (fun e => ?_)
            have h1 := ((HE.out.1.own f hf).lt k hk).2
            have h2 := HO1.out.block k e.symm
            omega
        · exact (gtrans HE.out.2.2.2 (gtrans HG1.out (galloc w1 _ none))).andThen HG2.out (fun j hj => .inl (HE.out.1.low j hj)))
      go_roundw
      case rel => exact HRl.out
      case measure => simp [intOf]; omega
    · have hlt' : ¬ (i : Int) < (n : Int) := by omega
      go_wp2_with fail
      go_ret
      have e : i = n := by omega
      have q : cont E = L := by rw [HE.out.2.1, e, ← HN.out, List.take_length]
      first
        | exact ⟨_, E, rfl, HE.out.1, q, HE.out.2.2.1, HE.out.2.2.2⟩
        | exact ⟨_, rfl, E, HE.out.1, q, HE.out.2.2.1, HE.out.2.2.2⟩
end Go.Proofs.YtlgjmdianmijeaaGreat

namespace Go.Proofs.YtlgjmdianmijeaaGreat
open Go Go.RowKit Go.MapKept Go.MuLone
open Go.RowKit (wrap32 wrap64)

theorem nd_list {C : Cn} (h : NdC C) : C.Nodup := List.Pairwise.of_map (·.1) (fun a b hab e => hab (by rw [e])) h
theorem srt_perm {C : Cn} (h : NdC C) : (srtC C).Perm C := by
  refine (List.perm_ext_iff_of_nodup (nd_list (srt_nd h)) (nd_list h)).2 (fun p => ⟨fun hp => ?_, fun hp => ?_⟩)
  · exact mem_get (srt_mem h hp)
  · have h1 := get_mem h hp
    rw [← get_srt h] at h1
    exact mem_get h1
theorem used_srt {C : Cn} (h : NdC C) : usedC (srtC C) = usedC C := by
  unfold usedC
  exact ((srt_perm h).map _).sum_nat
theorem load_all {room : Int} : ∀ (L D : Cn), NdC (D ++ L) → (∀ p ∈ L, goodN p.1 = true) → (D ++ L).length ≤ 64 → (usedC (D ++ L) : Int) ≤ room → loadC room D L = some (D ++ L)
  | [], D, _, _, _, _ => by unfold loadC; rw [List.append_nil]
  | p :: L, D, hn, hg, hl, hu => by
    have hnone : getC D p.1 = none := by
      refine get_none (fun hm => ?_)
      have := hn
      unfold NdC at this
      rw [List.map_append, List.nodup_append] at this
      exact this.2.2 _ hm _ (by simp) rfl
    have hlen : D.length + L.length + 1 ≤ 64 := by simpa [Nat.add_assoc] using hl
    have hus : usedC (D ++ p :: L) = usedC D + (p.2.length + usedC L) := by
      unfold usedC
      simp
    rw [hus] at hu
    unfold loadC
    rw [if_pos ⟨hg p (List.mem_cons_self ..), by rw [hnone]; rfl, by omega, by omega⟩, set_new _ _ _ hnone]
    have e : D ++ [(p.1, p.2)] ++ L = D ++ p :: L := by rw [List.append_assoc]; rfl
    rw [load_all L (D ++ [(p.1, p.2)]) (by rw [e]; exact hn) (fun q hq => hg q (List.mem_cons_of_mem _ hq)) (by rw [e]; exact hl) (by rw [e, hus]; exact hu), e]
variable {C D : Cn}
theorem none_get : ∀ {C : Cn} {s : ByteArray}, getC C s = none → s ∉ C.map (·.1)
  | [], s, _ => by simp
  | p :: C, s, h => by
    unfold getC at h
    by_cases e : p.1 = s
    · rw [if_pos e] at h; cases h
    · rw [if_neg e] at h
      simp only [List.map_cons, List.mem_cons, not_or]
      exact ⟨fun q => e q.symm, none_get h⟩
theorem set_names : ∀ (C : Cn) (s : ByteArray) (l : List UInt8), (getC C s).isSome = true → (setC C s l).map (·.1) = C.map (·.1)
  | [], s, l, h => by cases h
  | p :: C, s, l, h => by
    unfold setC
    unfold getC at h
    by_cases e : p.1 = s
    · rw [if_pos e, List.map_cons, List.map_cons, e]
    · rw [if_neg e] at h ⊢
      rw [List.map_cons, List.map_cons, set_names C s l h]
theorem set_nd (h : NdC C) (s : ByteArray) (l : List UInt8) : NdC (setC C s l) := by
  unfold NdC
  cases hg : getC C s with
  | some q => rw [set_names C s l (by rw [hg]; rfl)]; exact h
  | none =>
    rw [set_new C s l hg, List.map_append, List.nodup_append]
    refine ⟨h, by simp, fun a ha b hb e => ?_⟩
    have hb' : b = s := by simpa using hb
    exact none_get hg (by rw [← hb', ← e]; exact ha)
theorem del_none : ∀ {C : Cn} {s : ByteArray}, getC C s = none → delC C s = C
  | [], s, _ => rfl
  | p :: C, s, h => by
    unfold getC at h
    by_cases e : p.1 = s
    · rw [if_pos e] at h; cases h
    · rw [if_neg e] at h
      unfold delC
      rw [if_neg e, del_none h]
theorem del_nd (h : NdC C) (s : ByteArray) : NdC (delC C s) := by
  cases hg : getC C s with
  | none => rw [del_none hg]; exact h
  | some q =>
    have := (del_names C s (by rw [hg]; rfl)).nodup_iff.1 h
    exact (List.nodup_cons.1 this).2
/-- The same files, in whatever order. -/
structure Lk (C D : Cn) : Prop where
  nc : NdC C
  nd : NdC D
  nm : (C.map (·.1)).Perm (D.map (·.1))
  get : ∀ s, getC C s = getC D s
theorem Lk.perm (h : Lk C D) : C.Perm D := by
  refine (List.perm_ext_iff_of_nodup (nd_list h.nc) (nd_list h.nd)).2 (fun p => ⟨fun hp => ?_, fun hp => ?_⟩)
  · have := get_mem h.nc hp
    rw [h.get] at this
    exact mem_get this
  · have := get_mem h.nd hp
    rw [← h.get] at this
    exact mem_get this
theorem Lk.len (h : Lk C D) : C.length = D.length := h.perm.length_eq
theorem Lk.srt (h : Lk C D) : srtC C = srtC D := srt_ext h.nm h.get
theorem load_inv {room : Int} : ∀ (L D C : Cn), NdC D → loadC room D L = some C → C = D ++ L ∧ NdC C
  | [], D, C, hn, h => by
    injection h with h
    subst h
    exact ⟨(List.append_nil _).symm, hn⟩
  | p :: L, D, C, hn, h => by
    unfold loadC at h
    by_cases hc : goodN p.1 = true ∧ (getC D p.1).isSome = false ∧ D.length < 64 ∧ (p.2.length : Int) ≤ room - (usedC D : Nat)
    · rw [if_pos hc] at h
      have hg : getC D p.1 = none := by
        cases hg : getC D p.1 with
        | none => rfl
        | some x => rw [hg] at hc; simp at hc
      have q := load_inv L _ C (set_nd hn p.1 p.2) h
      rw [set_new D p.1 p.2 hg] at q
      refine ⟨?_, q.2⟩
      rw [q.1, List.append_assoc]
      rfl
    · rw [if_neg hc] at h; cases h
theorem used_perm {L M : Cn} (h : L.Perm M) : usedC L = usedC M := by
  unfold usedC
  exact (h.map _).sum_nat
/-- One order is refused as another one. -/
theorem load_perm {room : Int} {L M : Cn} (hr : 0 ≤ room) (h : L.Perm M) (C : Cn) (hl : loadC room [] L = some C) : C = L ∧ loadC room [] M = some M ∧ Lk L M := by
  obtain ⟨q1, q2⟩ := load_inv L [] C List.nodup_nil hl
  rw [List.nil_append] at q1
  subst q1
  have q3 := loadC_ok hl (by show ((0 : Nat) : Int) ≤ room; omega) (by decide) (fun p hp => by cases hp)
  have hm : NdC M := (h.map (fun p : ByteArray × List UInt8 => p.1)).nodup_iff.1 q2
  have q4 := load_all (room := room) M [] hm (fun p hp => q3.2.2 p (h.mem_iff.2 hp)) (by rw [List.nil_append, ← h.length_eq]; exact q3.2.1) (by rw [List.nil_append, ← used_perm h]; exact q3.1)
  rw [List.nil_append] at q4
  refine ⟨rfl, q4, q2, hm, h.map _, fun s => ?_⟩
  cases hg : getC C s with
  | some x =>
    have := h.mem_iff.1 (mem_get hg)
    exact (get_mem hm this).symm
  | none =>
    have h1 := none_get hg
    exact (get_none (fun q => h1 ((h.map (fun p : ByteArray × List UInt8 => p.1)).mem_iff.2 q))).symm
theorem load_none {room : Int} {L M : Cn} (hr : 0 ≤ room) (h : L.Perm M) (hl : loadC room [] L = none) : loadC room [] M = none := by
  cases hm : loadC room [] M with
  | none => rfl
  | some C =>
    have := load_perm hr h.symm C hm
    rw [hl] at this
    cases this.2.1
variable {w w' : World} {B b : Nat} {A : Ab} {P : Nat → Prop}
theorem files_p (h : DkP w B b A P) : Calls Tryz.prog 39 #[.pointer (some ⟨b, 0, none⟩)] w fun e w' => (∃ a g c, e = .returned (.slice a (srtC A.C).length c) ∧ ArF w' (fun k => w.heap.size ≤ k ∧ k < w'.heap.size) a g 0 (srtC A.C)) ∧ w.grownBy w' none := by
  have nd := h.nd
  obtain ⟨h1, m, F, h2, h3, h4⟩ := h
  have hmem : ∀ f ∈ F, (f.nm, f.bs) ∈ A.C := fun f hf => by rw [← h3]; exact List.mem_map.2 ⟨f, hf, rfl⟩
  refine (files_dk h2 (by rw [← len_cont, h3]; exact h1.len) (fun f hf => ?_) (fun f hf => ?_)).mono fun e w' ⟨v, E, he, ho, hE, hg⟩ => ⟨?_, hg⟩
  · have hgd : goodN f.nm = true := h1.nms _ (hmem f hf)
    unfold goodN at hgd
    simp only [Bool.and_eq_true, decide_eq_true_eq] at hgd
    exact hgd.2.1
  · have q1 := h1.used
    have q2 := h1.room
    have q3 : f.bs.length ≤ usedC A.C := by
      have q := get_used A.C f.nm
      rw [get_mem nd (hmem f hf)] at q
      exact q
    omega
  · obtain ⟨a, g, c, hv, hA⟩ := ho.ar
    rw [hE, h3] at hv hA
    exact ⟨a, g, c, by rw [he, hv], hA⟩
theorem room_p (h : DkP w B b A P) : Calls Tryz.prog 42 #[.pointer (some ⟨b, 0, none⟩)] w fun e w' => e = .returned (.int .i64 A.room) ∧ w.grownBy w' none := by
  obtain ⟨h1, m, F, h2, h3, h4⟩ := h
  exact room_any h2
theorem cont_perm {E E' : List Fl} (h : E.Perm E') : (cont E).Perm (cont E') := h.map _
/-- A row that begins at another place. -/
theorem rot_at {E : List Fl} {t i : Nat} (ht : t < E.length) (hi : i < E.length) : (E.drop t ++ E.take t)[i]'(by simp; omega) = E[(i + t) % E.length]'(Nat.mod_lt _ (by omega)) := by
  rw [List.getElem_append]
  by_cases h : i < E.length - t
  · have e : (i + t) % E.length = t + i := by rw [Nat.mod_eq_of_lt (by omega)]; omega
    rw [dif_pos (by rw [List.length_drop]; exact h), List.getElem_drop]
    simp only [e]
  · have e : (i + t) % E.length = i - (E.length - t) := by
      rw [Nat.mod_eq_sub_mod (by omega), Nat.mod_eq_of_lt (by omega)]; omega
    rw [dif_neg (by rw [List.length_drop]; exact h), List.getElem_take]
    simp only [e, List.length_drop]
theorem rot_perm (E : List Fl) (t : Nat) : (E.drop t ++ E.take t).Perm E := by
  have := List.perm_append_comm (l₁ := E.drop t) (l₂ := E.take t)
  rw [List.take_append_drop] at this
  exact this
/-- The row as a block. -/
theorem OutF.blk {g n c : Nat} {E : List Fl} (h : OutF B w (.slice (some ⟨g, 0, none⟩) n c) E) : n = E.length ∧ ∃ cs : List Value, Blk w g cs 130 ∧ cs.take (n * 2) = fcs E ∧ n * 2 ≤ cs.length ∧ ∀ (w' : World) (cs' : List Value) (E' : List Fl), Blk w' g cs' 130 → cs'.length = cs.length → cs'.take (n * 2) = fcs E' → E'.length = n → (∀ f ∈ E', Out B w' f.v f.bs) → OutF B w' (.slice (some ⟨g, 0, none⟩) n c) E' := by
  rcases h.row.2 with ⟨h1, _⟩ | ⟨g', cap, cur, h1, hB, hg, hle, hm, hs, ht⟩
  · cases h1
  · injection h1 with e1 e2 e3
    injection e1 with e1
    injection e1 with e1 _ _
    subst e1
    subst e3
    subst e2
    refine ⟨rfl, cur.toList, by unfold Blk; rw [hg], ht, by simp; omega, fun w' cs' E' hb hl ht' hE ho => ⟨⟨by rw [fcs_len], .inr ⟨g, c, cs'.toArray, by rw [hE], hB, hb, by rw [hE]; exact hle, hm, by simp at hl ⊢; omega, by rw [hE]; exact ht'⟩⟩, ho⟩⟩
end Go.Proofs.YtlgjmdianmijeaaGreat

namespace Go.Proofs.YtlgjmdianmijeaaGreat
open Go Go.RowKit Go.MapKept Go.MuLone
open Go.RowKit (wrap32 wrap64)

/-- Is a name ahead of another one? -/
def lessN (s t : ByteArray) : Bool := Op.bytesLess s.toList t.toList
theorem lessN_iff (s t : ByteArray) : lessN s t = true ↔ s.toList < t.toList := by unfold lessN; rw [bytesLess_eq, decide_eq_true_eq]
theorem lessN_irr (s : ByteArray) : lessN s s = false := by
  cases h : lessN s s with
  | false => rfl
  | true => exact absurd ((lessN_iff s s).1 h) (List.lt_irrefl _)
theorem lessN_tr {s t r : ByteArray} (h1 : lessN s t = true) (h2 : lessN t r = true) : lessN s r = true := (lessN_iff s r).2 (List.lt_trans ((lessN_iff s t).1 h1) ((lessN_iff t r).1 h2))
theorem toList_inj {s t : ByteArray} (h : s.toList = t.toList) : s = t := by
  rw [Lib.toList_data, Lib.toList_data] at h
  cases s; cases t
  simpa using h
theorem lessN_three {s t : ByteArray} (h1 : lessN s t = false) (h2 : lessN t s = false) : s = t := by
  refine toList_inj ?_
  have h3 : ¬ s.toList < t.toList := fun h => by rw [(lessN_iff s t).2 h] at h1; cases h1
  have h4 : ¬ t.toList < s.toList := fun h => by rw [(lessN_iff t s).2 h] at h2; cases h2
  exact List.le_antisymm (List.not_lt.1 h4) (List.not_lt.1 h3)
theorem lessN_ne {s t : ByteArray} (h : lessN s t = true) : s ≠ t := fun e => by rw [e, lessN_irr] at h; cases h
def SrtS (S : Cn) : Prop := S.Pairwise (fun p q => lessN p.1 q.1 = true)
theorem SrtS.nd {S : Cn} (h : SrtS S) : NdC S := by
  unfold NdC
  exact List.Pairwise.map _ (fun a b hab => lessN_ne hab) h
/-- What stands ahead of a name, and the rest. -/
def hd (S : Cn) (s : ByteArray) : Cn := S.takeWhile (fun p => lessN p.1 s)
def tl (S : Cn) (s : ByteArray) : Cn := S.dropWhile (fun p => lessN p.1 s)
def plc (S : Cn) (s : ByteArray) : Nat := (hd S s).length
theorem hd_tl (S : Cn) (s : ByteArray) : hd S s ++ tl S s = S := List.takeWhile_append_dropWhile
theorem plc_le (S : Cn) (s : ByteArray) : plc S s ≤ S.length := by
  have := congrArg List.length (hd_tl S s)
  rw [List.length_append] at this
  unfold plc
  omega
theorem take_plc (S : Cn) (s : ByteArray) : S.take (plc S s) = hd S s := by
  have h : ∀ T R : Cn, (T ++ R).take T.length = T := fun T R => List.take_left
  have q := h (hd S s) (tl S s)
  rw [hd_tl] at q
  exact q
theorem drop_plc (S : Cn) (s : ByteArray) : S.drop (plc S s) = tl S s := by
  have h : ∀ T R : Cn, (T ++ R).drop T.length = R := fun T R => List.drop_left
  have q := h (hd S s) (tl S s)
  rw [hd_tl] at q
  exact q
theorem hd_less {S : Cn} {s : ByteArray} {p : ByteArray × List UInt8} (h : p ∈ hd S s) : lessN p.1 s = true := by
  have := List.all_takeWhile (l := S) (p := fun p => lessN p.1 s)
  exact List.all_eq_true.1 this p h
theorem tl_head {S : Cn} {s : ByteArray} {p : ByteArray × List UInt8} {R : Cn} (h : tl S s = p :: R) : lessN p.1 s = false := by
  have := List.head?_dropWhile_not (p := fun p : ByteArray × List UInt8 => lessN p.1 s) (l := S)
  unfold tl at h
  rw [h] at this
  simpa using this
theorem get_app : ∀ (T R : Cn) (s : ByteArray), (∀ p ∈ T, p.1 ≠ s) → getC (T ++ R) s = getC R s
  | [], R, s, _ => rfl
  | p :: T, R, s, h => by
    show getC (p :: (T ++ R)) s = _
    conv => lhs; unfold getC
    rw [if_neg (h p (List.mem_cons_self ..))]
    exact get_app T R s (fun q hq => h q (List.mem_cons_of_mem _ hq))
theorem get_hd {S : Cn} {s : ByteArray} : getC S s = getC (tl S s) s := by
  conv => lhs; rw [← hd_tl S s]
  exact get_app _ _ _ (fun p hp => lessN_ne (hd_less hp))
/-- What stands at the place. -/
theorem tl_get {S : Cn} (h : SrtS S) {s : ByteArray} : (∀ p R, tl S s = p :: R → p.1 = s → getC S s = some p.2) ∧ ((∀ p R, tl S s = p :: R → p.1 ≠ s) → getC S s = none) := by
  refine ⟨fun p R hp he => ?_, fun hn => ?_⟩
  · rw [get_hd, hp]
    unfold getC
    rw [if_pos he]
  · rw [get_hd]
    cases hR : tl S s with
    | nil => rfl
    | cons p R =>
      have h1 := hn p R hR
      have h2 := tl_head hR
      have h3 : lessN s p.1 = true := by
        cases h4 : lessN s p.1 with
        | true => rfl
        | false => exact absurd (lessN_three h2 h4) h1
      have hs : (hd S s ++ p :: R).Pairwise (fun p q => lessN p.1 q.1 = true) := by rw [← hR, hd_tl]; exact h
      have h5 := (List.pairwise_append.1 hs).2.1
      refine get_none (fun hm => ?_)
      obtain ⟨q, hq, he⟩ := List.mem_map.1 hm
      rcases List.mem_cons.1 hq with rfl | hq
      · exact h1 he
      · have h6 := lessN_tr h3 ((List.pairwise_cons.1 h5).1 q hq)
        exact lessN_ne h6 he.symm
/-- Is there such a file? -/
def isAt (S : Cn) (s : ByteArray) : Bool := match tl S s with | [] => false | p :: _ => decide (p.1 = s)
theorem isAt_get {S : Cn} (h : SrtS S) (s : ByteArray) : isAt S s = (getC S s).isSome := by
  unfold isAt
  cases hR : tl S s with
  | nil => rw [(tl_get h).2 (fun p R e => by rw [hR] at e; cases e)]; rfl
  | cons p R =>
    by_cases he : p.1 = s
    · rw [(tl_get h).1 p R hR he]; simp [he]
    · rw [(tl_get h).2 (fun q T e => by rw [hR] at e; injection e with e _; rw [← e]; exact he)]; simp [he]
theorem del_app : ∀ (T R : Cn) (s : ByteArray), (∀ p ∈ T, p.1 ≠ s) → delC (T ++ R) s = T ++ delC R s
  | [], R, s, _ => rfl
  | p :: T, R, s, h => by
    show delC (p :: (T ++ R)) s = _
    conv => lhs; unfold delC
    rw [if_neg (h p (List.mem_cons_self ..)), del_app T R s (fun q hq => h q (List.mem_cons_of_mem _ hq))]
    rfl
theorem del_plc {S : Cn} (h : SrtS S) (s : ByteArray) : delC S s = if isAt S s = true then S.take (plc S s) ++ S.drop (plc S s + 1) else S := by
  by_cases hi : isAt S s = true
  · rw [if_pos hi, take_plc, ← List.drop_drop, drop_plc]
    conv => lhs; rw [← hd_tl S s]
    rw [del_app _ _ _ (fun p hp => lessN_ne (hd_less hp))]
    unfold isAt at hi
    cases hR : tl S s with
    | nil => rw [hR] at hi; cases hi
    | cons p R =>
      rw [hR] at hi
      have he : p.1 = s := by simpa using hi
      unfold delC
      rw [if_pos he]
      rfl
  · rw [if_neg hi]
    refine del_none ?_
    rw [isAt_get h] at hi
    cases hg : getC S s with
    | none => rfl
    | some x => rw [hg] at hi; exact absurd rfl hi
theorem SrtS.sub {S T : Cn} (h : SrtS S) (ht : T.Sublist S) : SrtS T := List.Pairwise.sublist ht h
theorem del_sub : ∀ (S : Cn) (s : ByteArray), (delC S s).Sublist S
  | [], _ => List.Sublist.refl _
  | p :: S, s => by
    unfold delC
    split
    · exact List.sublist_cons_self ..
    · exact (del_sub S s).cons_cons p
/-- A file goes to its place. -/
def insC (S : Cn) (s : ByteArray) (l : List UInt8) : Cn := hd S s ++ (s, l) :: tl S s
theorem ins_srt {S : Cn} (h : SrtS S) {s : ByteArray} (l : List UInt8) (hn : getC S s = none) : SrtS (insC S s l) := by
  unfold insC SrtS
  have hs : (hd S s ++ tl S s).Pairwise (fun p q => lessN p.1 q.1 = true) := by rw [hd_tl]; exact h
  obtain ⟨h1, h2, h3⟩ := List.pairwise_append.1 hs
  have hg : ∀ q ∈ tl S s, lessN s q.1 = true := by
    intro q hq
    cases hR : tl S s with
    | nil => rw [hR] at hq; cases hq
    | cons p R =>
      have hp : lessN s p.1 = true := by
        cases h4 : lessN s p.1 with
        | true => rfl
        | false =>
          have e := lessN_three (tl_head hR) h4
          rw [(tl_get h).1 p R hR e] at hn
          cases hn
      rw [hR] at hq h2
      rcases List.mem_cons.1 hq with rfl | hq
      · exact hp
      · exact lessN_tr hp ((List.pairwise_cons.1 h2).1 q hq)
  refine List.pairwise_append.2 ⟨h1, List.pairwise_cons.2 ⟨hg, h2⟩, fun a ha b hb => ?_⟩
  rcases List.mem_cons.1 hb with rfl | hb
  · exact hd_less ha
  · exact h3 a ha b hb
theorem ins_names (S : Cn) (s : ByteArray) (l : List UInt8) : ((insC S s l).map (·.1)).Perm (s :: S.map (·.1)) := by
  unfold insC
  rw [List.map_append, List.map_cons]
  refine List.perm_middle.trans (List.Perm.cons _ ?_)
  rw [← List.map_append, hd_tl]
theorem ins_get {S : Cn} {s : ByteArray} (l : List UInt8) (t : ByteArray) : getC (insC S s l) t = if t = s then some l else getC S t := by
  unfold insC
  by_cases e : t = s
  · rw [if_pos e, e, get_app _ _ _ (fun p hp => lessN_ne (hd_less hp))]
    unfold getC
    rw [if_pos rfl]
  · rw [if_neg e]
    conv => rhs; rw [← hd_tl S s]
    have : ∀ T : Cn, getC (T ++ (s, l) :: tl S s) t = getC (T ++ tl S s) t := fun T => by
      induction T with
      | nil =>
        show getC ((s, l) :: tl S s) t = getC (tl S s) t
        conv => lhs; unfold getC
        rw [if_neg (fun q => e q.symm)]
      | cons p T ih =>
        show getC (p :: (T ++ (s, l) :: tl S s)) t = getC (p :: (T ++ tl S s)) t
        unfold getC
        rw [ih]
    exact this _
/-- Sorted files are themselves. -/
theorem srt_srtS {C : Cn} (h : NdC C) : SrtS (srtC C) := by
  unfold SrtS
  have h1 : (srtC C).Pairwise (fun p q => p.1.toList ≤ q.1.toList) := by
    unfold srtC
    refine List.Pairwise.map _ (fun a b hab => ?_) (leB_sorted (C.map (fun p => p.1.data.toList)))
    rw [Lib.toList_data, Lib.toList_data]
    exact hab
  have h2 : (srtC C).Pairwise (fun p q => p.1 ≠ q.1) := List.Pairwise.of_map (·.1) (fun _ _ q => q) (srt_nd h)
  refine (h1.and h2).imp (fun {p q} hpq => ?_)
  refine (lessN_iff _ _).2 ?_
  rcases List.le_iff_lt_or_eq.1 hpq.1 with q | q
  · exact q
  · exact absurd (toList_inj q) hpq.2
theorem srt_self {S : Cn} (h : SrtS S) : srtC S = S := by
  have h1 := srt_srtS h.nd
  have h2 := srt_perm h.nd
  exact List.Perm.eq_of_pairwise (le := fun p q : ByteArray × List UInt8 => lessN p.1 q.1 = true) (fun a b _ _ hab hba => by
    have := lessN_tr hab hba
    rw [lessN_irr] at this
    cases this) h1 h h2
/-- What lay makes of sorted files. -/
theorem lay_srt {C : Cn} (h : NdC C) (s : ByteArray) (l : List UInt8) : insC (delC (srtC C) s) s l = srtC (setC C s l) := by
  have hS := srt_srtS h
  have hD : SrtS (delC (srtC C) s) := hS.sub (del_sub _ _)
  have hn : getC (delC (srtC C) s) s = none := by rw [get_del _ _ _ hS.nd, if_pos rfl]
  have hI := ins_srt hD l hn
  rw [← srt_self hI]
  refine srt_ext ?_ (fun t => ?_)
  · refine (ins_names _ _ _).trans ?_
    cases hg : getC C s with
    | some x =>
      rw [set_names C s l (by rw [hg]; rfl)]
      have h1 := del_names (srtC C) s (by rw [get_srt h, hg]; rfl)
      exact h1.symm.trans (srt_names C)
    | none =>
      rw [del_none (by rw [get_srt h]; exact hg), set_new C s l hg, List.map_append]
      exact ((srt_names C).cons s).trans (List.perm_append_singleton s _).symm
  · rw [ins_get, get_set, get_del _ _ _ hS.nd, get_srt h]
    by_cases e : t = s
    · rw [if_pos e, if_pos e]
    · rw [if_neg e, if_neg e, if_neg e]
theorem drop_srt {C : Cn} (h : NdC C) (s : ByteArray) : delC (srtC C) s = srtC (delC C s) := by
  have hS := srt_srtS h
  have hD : SrtS (delC (srtC C) s) := hS.sub (del_sub _ _)
  rw [← srt_self hD]
  refine srt_ext ?_ (fun t => ?_)
  · cases hg : getC C s with
    | some x =>
      have h1 := del_names (srtC C) s (by rw [get_srt h, hg]; rfl)
      have h2 := del_names C s (by rw [hg]; rfl)
      exact List.Perm.cons_inv ((h1.symm.trans (srt_names C)).trans h2)
    | none => rw [del_none (by rw [get_srt h]; exact hg), del_none hg]; exact srt_names C
  · rw [get_del _ _ _ hS.nd, get_del _ _ _ h, get_srt h]
end Go.Proofs.YtlgjmdianmijeaaGreat
