/- CopyFile, CopyFiles; rows of files that are appended to; plain facts of Load. -/
import Derived.Test.YtlgjmdianmijeabOa
namespace Go.Proofs.Ytlgjmdianmijeab
open Go Go.RowKit Go.MapKept Go.MuLone
open Go.RowKit (wrap32 wrap64)

set_option maxRecDepth 100000 in
set_option maxHeartbeats 1600000 in
theorem copyFile_any (w : World) (s : ByteArray) (a : Option Addr) (n c : Nat) (F : Nat → Prop) (l : List UInt8) (hv : Rd w F (.slice a n c) l) (hl : l.length ≤ 140737488355328) :
    Calls Try.prog 22 #[.agg #[.string s, .slice a n c]] w fun e w' => ∃ a' c', e = .returned (.agg #[.string s, .slice a' n c']) ∧ Out w.heap.size w' (.slice a' n c') l ∧ w.grownBy w' none := by
  have HN : Hid (l.length = n) := hid (by obtain ⟨_, _, _, _, e, _⟩ := hv; injection e with _ e _; exact e.symm)
  have HCk : Hid (∀ u, w.grownBy u none → Calls Try.prog 36 #[.slice a n c] u fun e w' => ∃ a' c', e = .returned (.slice a' n c') ∧ Out u.heap.size w' (.slice a' n c') l ∧ u.grownBy w' none) := hid (fun u hu => (copyR_any u _ F l (hv.keep hu) hl).mono fun e w' ⟨v', h1, h2, h3⟩ => by
    obtain ⟨a', c', rfl⟩ := h2.len
    rw [HN.out] at h1 h2
    exact ⟨a', c', h1, h2, h3⟩)
  clear hv hl HN
  go_enter Try.func22, Try.ntmps22
  go_wp2_with (first
    | ((with_reducible refine wpList_box_row (by with_unfolding_all rfl) 32 _ (by with_unfolding_all rfl) [.string s, .slice a n c] (by with_unfolding_all rfl) ?_); intro w1 B1 s1 g1; have HB1 := hid B1; have HG1 := hid g1; have HS1 := hid s1; obtain ⟨b1, hb1⟩ : ∃ x, w.heap.size = x := ⟨_, rfl⟩; rw [hb1] at HB1 ⊢; have HL1 := hid hb1; clear B1 g1 s1 hb1)
    | (have := HB2; clear this; (with_reducible refine wpList_alloc_row (by with_unfolding_all rfl) 32 (by with_unfolding_all rfl) [.string ⟨#[]⟩, .slice none 0 0] Try.zero32 ?_); intro w3 B3 s3 g3; have HB3 := hid B3; have HG3 := hid g3; have HS3 := hid s3; clear B3 g3 s3)
    | ((with_reducible refine wpList_alloc_row (by with_unfolding_all rfl) 32 (by with_unfolding_all rfl) [.string ⟨#[]⟩, .slice none 0 0] Try.zero32 ?_); intro w2 B2 s2 g2; have HB2 := hid B2; have HG2 := hid g2; have HS2 := hid s2; clear B2 g2 s2)
    | (have := HR6; clear this; (with_reducible refine wpList_load_part (by with_unfolding_all rfl) 32 _ (by with_unfolding_all rfl) w2.heap.size 0 [.string s, .slice a5 n c5] _ (by with_unfolding_all rfl) HB6.out.whole Try.underlying32 (by with_unfolding_all rfl) (by with_unfolding_all exact Try.size32) ?_))
    | (with_reducible refine wpList_load_part (by with_unfolding_all rfl) 32 _ (by with_unfolding_all rfl) b1 0 [.string s, .slice a n c] _ (by with_unfolding_all rfl) (HB1.out.keep HG2.out).whole Try.underlying32 (by with_unfolding_all rfl) (by with_unfolding_all exact Try.size32) ?_)
    | (have := HR6; clear this; (with_reducible refine wpList_store_all (by with_unfolding_all rfl) 32 _ _ (by with_unfolding_all rfl) _ [.string ⟨#[]⟩, .slice none 0 0] [.string s, .slice a5 n c5] 32 (by with_unfolding_all rfl) (by with_unfolding_all rfl) HR6.out (by with_unfolding_all rfl) (by with_unfolding_all exact Try.size32) (file_one _ _ _ _) ?_); intro w7 B7 g7 s7; have HB7 := hid B7; have HG7 := hid g7; clear B7 g7 s7)
    | ((with_reducible refine wpList_store_all (by with_unfolding_all rfl) 32 _ _ (by with_unfolding_all rfl) _ [.string ⟨#[]⟩, .slice none 0 0] [.string s, .slice a n c] 32 (by with_unfolding_all rfl) (by with_unfolding_all rfl) HB3.out (by with_unfolding_all rfl) (by with_unfolding_all exact Try.size32) (file_one _ _ _ _) ?_); intro w4 B4 g4 s4; have HB4 := hid B4; have HG4 := hid g4; clear B4 g4 s4; have HR4 := hid ((HB2.out.keep HG3.out).on HG4.out (by simp; have := HS2.out; omega)); have HGx := hid ((gtrans (gtrans HG1.out HG2.out) HG3.out).andThen HG4.out (fun j hj => .inl (by injection hj with hj; have := HG1.out.size; have := HG2.out.size; omega))); have HQ4 := hid (((HB1.out.keep HG2.out).keep HG3.out).on HG4.out (by simp; have := HB1.out.lt; have := HG2.out.size; omega)); have y1 := HQ4.out.cell 1)
    | (go_at_call 36; (with_reducible refine (HCk.out _ HGx.out).mono ?_); rintro e w5 ⟨a5, c5, rfl, hO5, hg5⟩; have HO5 := hid hO5; have HG5 := hid hg5; clear hO5 hg5; have HB5 := hid (HB4.out.keep HG5.out); have HR5 := hid (HR4.out.keep HG5.out); have x0 := HB5.out.cell 1; have x0f := HB5.out.frozen 1; obtain ⟨W6, hW6⟩ : ∃ x, w5.setCell ⟨w2.heap.size, 1, none⟩ (.slice a5 n c5) = x := ⟨_, rfl⟩; have HB6 : Hid (Blk W6 w2.heap.size [.string s, .slice a5 n c5] 32) := hid (by rw [← hW6]; exact HB5.out.set 1 (.slice a5 n c5)); have HG6 := hid (gset w5 ⟨w2.heap.size, 1, none⟩ (.slice a5 n c5)); rw [hW6] at HG6; have HR6 := hid (HR5.out.on HG6.out (by simp; have := HS2.out; omega)); have HO6 := hid (HO5.out.on HG6.out (fun j hj e => by injection hj with hj; exact out_ne HO5.out HB5.out (by decide) (e.trans (congrArg some hj.symm))))))
  refine bodyPost_ret (results_blk rfl _ w1.heap.size 32 [.string s, .slice a5 n c5] _ rfl HB7.out Try.underlying32 rfl Try.size32) rfl ?_
  have q1 := HL1.out
  have q2 := HGx.out.size
  refine ⟨a5, c5, rfl, (HO6.out.on HG7.out (fun j hj e => ?_)).below (by omega), ((gtrans HGx.out HG5.out).andThen HG6.out (fun j hj => .inl (by injection hj with hj; have := HG1.out.size; have := HG2.out.size; omega))).andThen HG7.out (fun j hj => .inl (by injection hj with hj; have := HG1.out.size; omega))⟩
  injection hj with hj
  exact out_ne HO6.out HR6.out (by decide) (e.trans (congrArg some hj.symm))
theorem OutF.on {B : Nat} {w w' : World} {v : Value} {E : List Fl} {row : Option Nat} (h : OutF B w v E) (hg : w.grownBy w' row) (hr : ∀ k, row = some k → v.ownBlock ≠ some k ∧ ∀ f ∈ E, f.v.ownBlock ≠ some k) : OutF B w' v E :=
  ⟨World.ownsRow.kept h.row hg (by
    cases hv : v.ownBlock with
    | none => exact .inl rfl
    | some k => exact .inr (fun e => (hr k e.symm).1 hv)), fun f hf => (h.own f hf).on hg (fun k hk => (hr k hk).2 f hf)⟩
theorem OutF.low {B : Nat} {w : World} {v : Value} {E : List Fl} (h : OutF B w v E) : ∀ k, v.ownBlock = some k → B ≤ k := fun k hk => by
  rcases h.row.2 with ⟨h1, _⟩ | ⟨g, cap, cur, h1, hB, _⟩
  · rw [h1] at hk; cases hk
  · rw [h1] at hk
    injection hk with hk
    have hk' : g = k := hk
    omega
theorem OutF.ne {B C : Nat} {w : World} {v v' : Value} {E E' : List Fl} (h : OutF B w v E) (h' : OutF C w v' E') : ∀ k, v'.ownBlock = some k → ∀ f ∈ E, f.v.ownBlock ≠ some k := fun k hk f hf => own_ne h'.row (h.own f hf) (by decide) k hk
set_option maxRecDepth 100000 in
/-- append of one file; where the row lies then. -/
theorem app_file2 {w : World} {B g : Nat} {vs : Value} {E : List Fl} {s : ByteArray} {bv : Value} {bs : List UInt8} (h : OutF B w vs E) (hb : Blk w g [.string s, bv] 32) (ho : Out B w bv bs) (hE : E.length ≤ 1000000) (hB : B ≤ w.heap.size) (ty : TypeId) :
    ∃ v' w', (Builtin.append_ #[22, 22] ty #[vs, .slice (some ⟨g, 0, none⟩) 1 1]).run Try.prog w = .ok v' w' ∧ OutF B w' v' (E ++ [⟨s, bv, bs⟩]) ∧ w.grownBy w' vs.ownBlock ∧ (v'.ownBlock = vs.ownBlock ∨ v'.ownBlock = some w.heap.size) := by
  obtain ⟨inf, hi, hz0, hz1, hz2⟩ := info_parts Try.info32
  obtain ⟨ba, bc, hbv⟩ := ho.len
  obtain ⟨v', w', h1, h2, h3, _, h4⟩ := run_append_own_at (P := Try.prog) w B 22 ty 32 inf (.agg [Value.string ⟨#[]⟩, .slice none 0 0].toArray) 2 40 Try.underlying22 hi hz0 hz1 hz2 rfl (by decide) vs _ _ h.row ⟨g, 0, none⟩ 1 1 [.string s, bv] rfl (by
    intro j u hu
    rw [Addr.add_lit, Nat.zero_add]
    rcases (show j = 0 ∨ j = 1 ∨ 2 ≤ j by omega) with rfl | rfl | h2
    · injection hu with hu; subst hu; exact hb.cell 0
    · injection hu with hu; subst hu; exact hb.cell 1
    · have : ([Value.string s, bv] : List Value)[j]? = none := by simp; omega
      rw [this] at hu; cases hu) (by rw [hbv]; exact file_one s ba bs.length bc) (by unfold maxLen; omega) (by omega) hB
  refine ⟨v', w', h1, ⟨by rw [fcs_app, List.length_append]; exact h2, fun f hf => ?_⟩, h3, h4⟩
  have hx : ∀ f : Fl, Out B w f.v f.bs → Out B w' f.v f.bs := fun f hf => hf.on h3 (fun k hk => own_ne h.row hf (by decide) k hk)
  rcases List.mem_append.1 hf with hf | hf
  · exact hx f (h.own f hf)
  · rw [List.mem_singleton.1 hf]
    exact hx ⟨s, bv, bs⟩ ho
theorem wpList_append_file {w : World} {ops : Array Oper} {rest : List Oper} {o : Oper} {a : Act} {Q : Exit → Act → World → Prop} (hgd : o.guard = none) (s x : Operand)
    (ho : o.op = .call { callee := .builtin .append, args := #[s, x], argTypes := #[22, 22] }) (B g : Nat) (E : List Fl) (nm : ByteArray) (bv : Value) (bs : List UInt8) (h : OutF B w (a.eval s) E) (hx : a.eval x = .slice (some ⟨g, 0, none⟩) 1 1) (hb : Blk w g [.string nm, bv] 32) (hO : Out B w bv bs) (hE : E.length ≤ 1000000) (hB : B ≤ w.heap.size)
    (k : ∀ v' w', OutF B w' v' (E ++ [⟨nm, bv, bs⟩]) → w.grownBy w' (a.eval s).ownBlock → (v'.ownBlock = (a.eval s).ownBlock ∨ v'.ownBlock = some w.heap.size) → wpList Try.prog ops Q rest (a.put o.dst v') w') : wpList Try.prog ops Q (o :: rest) a w := by
  obtain ⟨v', w', h1, h2, h3, h4⟩ := app_file2 h hb hO hE hB o.type
  refine wpList_plain hgd fun K hK => ?_
  unfold Oper.wp
  simp [execOp, ho, resolve, invoke, builtin, hx, h1, Result.andThen]
  exact hK _ _ (k v' w' h2 h3 h4)
theorem ApF.snoc {E : List Fl} {f : Fl} (h : ApF E) (hf : ∀ g ∈ E, g.v.ownBlock = none ∨ g.v.ownBlock ≠ f.v.ownBlock) : ApF (E ++ [f]) := by
  unfold ApF
  rw [List.pairwise_append]
  exact ⟨h, List.pairwise_singleton .., fun a ha b hb => by rw [List.mem_singleton.1 hb]; exact hf a ha⟩
set_option maxRecDepth 100000 in
set_option maxHeartbeats 1600000 in
theorem copyFiles_any (w : World) (F : Nat → Prop) (a : Option Addr) (g off c : Nat) (L : Cn) (hA : ArF w F a g off L) (hL : L.length ≤ 1000000) (hb : ∀ p ∈ L, p.2.length ≤ 140737488355328) :
    Calls Try.prog 6 #[.slice a L.length c] w fun e w' => ∃ v E, e = .returned v ∧ OutF w.heap.size w' v E ∧ cont E = L ∧ ApF E ∧ w.grownBy w' none := by
  have HA : Hid (∀ u, w.grownBy u none → ArF u F a g off L) := hid (fun u hu => hA.keep hu)
  have HBl := hid hb
  obtain ⟨n, HN⟩ : ∃ n, Hid (L.length = n) := ⟨_, hid rfl⟩
  have hn : n ≤ 1000000 := by rw [← HN.out]; exact hL
  rw [HN.out]
  clear hA hL hb
  go_enter Try.func6, Try.ntmps6
  go_upto_region 3 with fail
  go_loopw [4, 3] (fun iv v wr => ∃ (i : Nat) (xa : Option Addr) (xc : Nat), iv = .int .i64 i ∧ v = .slice xa i xc ∧ i ≤ n ∧ Hid (∃ E, OutF w.heap.size wr (.slice xa i xc) E ∧ cont E = L.take i ∧ ApF E ∧ w.grownBy wr none)) (fun iv _ _ => n - (intOf iv).toNat)
  case atStart => exact ⟨0, none, 0, rfl, rfl, Nat.zero_le _, hid ⟨[], OutF.nil (World.ownsRow_nil _ _ _ _), rfl, List.Pairwise.nil, grefl _ _⟩⟩
  case round =>
    obtain ⟨i, xa, xc, rfl, rfl, hi, HC⟩ := hrel
    obtain ⟨w0, hw0⟩ : ∃ x : World, x = wr := ⟨_, rfl⟩
    rw [← hw0] at HC ⊢
    clear hw0
    obtain ⟨E, HE⟩ : ∃ E, Hid (OutF w.heap.size w0 (.slice xa i xc) E ∧ cont E = L.take i ∧ ApF E ∧ w.grownBy w0 none) := ⟨HC.out.choose, hid HC.out.choose_spec⟩
    clear HC
    by_cases hlt : i < n
    · have hlt' : (i : Int) < (n : Int) := by omega
      have hiL : i < L.length := by rw [HN.out]; exact hlt
      obtain ⟨rfl, hgl, -⟩ := (HA.out w0 HE.out.2.2.2).at_ (by omega)
      obtain ⟨q, Hq⟩ : ∃ x, Hid (L[i] = x) := ⟨_, hid rfl⟩
      obtain ⟨s, l⟩ := q
      have HC : Hid (w0.cell? ⟨g, off + i * 2, none⟩ = some (.string s) ∧ ∃ v, w0.cell? ⟨g, off + i * 2 + 1, none⟩ = some v ∧ Rd w0 F v l) := hid (by have := (HA.out w0 HE.out.2.2.2).each i hiL; rw [Hq.out] at this; exact this)
      obtain ⟨v, hv1, hv2⟩ := HC.out.2
      have HV := hid hv2
      have HLl : Hid (l.length ≤ 140737488355328) := hid (HBl.out (s, l) (by rw [← Hq.out]; exact List.getElem_mem _))
      obtain ⟨ba, -, -, bc, rfl, -⟩ := hv2
      obtain ⟨bn, HBn⟩ : ∃ x, Hid (l.length = x) := ⟨_, hid rfl⟩
      rw [HBn.out] at HV hv1
      have HR : Hid (w0.rangeAt g (off + i * 2) [.string s, .slice ba bn bc]) := hid (two_range HC.out.1 hv1)
      have HCf := hid (copyFile_any w0 s ba bn bc F l HV.out HLl.out)
      have HEl : Hid (E.length ≤ 1000000) := hid (by have := congrArg List.length HE.out.2.1; rw [len_cont, List.length_take] at this; omega)
      clear HC hv1 HV
      go_wp2_with (first
        | (with_reducible refine wpList_load_part (by with_unfolding_all rfl) 32 _ (by with_unfolding_all rfl) g (off + i * 2) [.string s, .slice ba bn bc] _ (by with_unfolding_all rfl) HR.out Try.underlying32 (by with_unfolding_all rfl) (by with_unfolding_all exact Try.size32) ?_)
        | (go_at_call 22; (with_reducible refine HCf.out.mono ?_); rintro e w1 ⟨a1, c1, rfl, hO, hg⟩; have HO1 := hid hO; have HG1 := hid hg; clear hO hg)
        | (at_builtin; (refine wpList_append_file rfl _ _ rfl w.heap.size w1.heap.size E s (.slice a1 bn c1) l ((HE.out.1.keep HG1.out).keep (galloc w1 _ none)) rfl (Blk.new w1 [.string s, .slice a1 bn c1] 32) ((HO1.out.below HE.out.2.2.2.size).keep (galloc w1 _ none)) HEl.out (by have := (gtrans HE.out.2.2.2 (gtrans HG1.out (galloc w1 (.cells #[.string s, .slice a1 bn c1] 32) none))).size; exact this) ?_); intro v2 w2 hF2 hg2 hb2; have HF2 := hid hF2; have HG2 := hid hg2; clear hF2 hg2 hb2))
      have HRl : Hid (∃ (i' : Nat) (xa' : Option Addr) (xc' : Nat), Value.int .i64 ((i : Int) + 1) = .int .i64 i' ∧ v2 = .slice xa' i' xc' ∧ i' ≤ n ∧ Hid (∃ E, OutF w.heap.size w2 (.slice xa' i' xc') E ∧ cont E = L.take i' ∧ ApF E ∧ w.grownBy w2 none)) := hid (by
        have hl : (E ++ [(⟨s, .slice a1 bn c1, l⟩ : Fl)]).length = i + 1 := by
          have := congrArg List.length HE.out.2.1
          rw [len_cont, List.length_take] at this
          rw [List.length_append, List.length_singleton]
          omega
        obtain ⟨xa', xc', hv2⟩ := HF2.out.len
        rw [hl] at hv2
        subst hv2
        refine ⟨i + 1, xa', xc', by go_num, rfl, by omega, hid ⟨_, HF2.out, ?_, ?_, ?_⟩⟩
        · unfold cont
          rw [List.map_append]
          show cont E ++ [(s, l)] = _
          rw [HE.out.2.1, List.take_succ_eq_append_getElem hiL, Hq.out]
        · refine HE.out.2.2.1.snoc (fun f hf => ?_)
          cases hk : f.v.ownBlock with
          | none => exact .inl rfl
          | some k =>
            refine .inr (fun e => ?_)
            have h1 := ((HE.out.1.own f hf).lt k hk).2
            have h2 := HO1.out.block k e.symm
            omega
        · exact (gtrans HE.out.2.2.2 (gtrans HG1.out (galloc w1 _ none))).andThen HG2.out (fun j hj => .inl (HE.out.1.low j hj)))
      go_roundw
      case rel => exact HRl.out
      case measure => simp [intOf]; omega
    · have hlt' : ¬ (i : Int) < (n : Int) := by omega
      go_wp2_with fail
      go_ret
      have e : i = n := by omega
      have q : cont E = L := by rw [HE.out.2.1, e, ← HN.out, List.take_length]
      first
        | exact ⟨_, E, rfl, HE.out.1, q, HE.out.2.2.1, HE.out.2.2.2⟩
        | exact ⟨_, rfl, E, HE.out.1, q, HE.out.2.2.1, HE.out.2.2.2⟩
end Go.Proofs.Ytlgjmdianmijeab
