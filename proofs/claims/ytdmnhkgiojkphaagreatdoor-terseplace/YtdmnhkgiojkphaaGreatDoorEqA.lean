/- Equal: its plain form; places with its look-ups; slices.EqualFunc. -/
import Derived.Test.YtdmnhkgiojkphaaGreatDoorX21
namespace Go.Proofs.YtdmnhkgiojkphaaGreatDoor
open Go Go.RowKit Go.Maps
open Go.RowKit (wrap32 wrap64)

/-! ### plain -/
/-- Where a key stands. -/
def posK : List ByteArray → ByteArray → Option Nat
  | [], _ => none
  | a :: r, k => if a.data.toList = k.data.toList then some 0 else (posK r k).map (· + 1)
theorem data_inj {a b : ByteArray} (h : a.data.toList = b.data.toList) : a = b := by rw [← list_str a, h, list_str]
theorem posK_none : ∀ {ks : List ByteArray} {k : ByteArray}, hasK ks k = false → posK ks k = none
  | [], _, _ => rfl
  | a :: r, k, h => by
    unfold hasK at h
    rw [List.any_cons, Bool.or_eq_false_iff] at h
    rw [posK, if_neg (of_decide_eq_false h.1), posK_none (ks := r) h.2]
    rfl
theorem posK_at : ∀ {ks : List ByteArray} {k : ByteArray} {j : Nat}, nodup ks = true → ks[j]? = some k → posK ks k = some j
  | [], _, _, _, h => by simp at h
  | a :: r, k, 0, _, h => by
    simp only [List.getElem?_cons_zero, Option.some.injEq] at h
    rw [posK, h, if_pos rfl]
  | a :: r, k, j + 1, hn, h => by
    rw [List.getElem?_cons_succ] at h
    unfold nodup at hn
    rw [Bool.and_eq_true] at hn
    have hm : k ∈ r := List.mem_of_getElem? h
    have hne : ¬ a.data.toList = k.data.toList := fun e => by
      have : a = k := data_inj e
      subst this
      have h1 := hasK_iff.2 hm
      rw [h1] at hn
      simp at hn
    rw [posK, if_neg hne, posK_at hn.2 h]
    rfl
mutual
def eqT : Tree → Tree → Bool
  | .mk k f n t ks is, u => (k == u.kind && is.length == u.items.length) && (if k = 5 then eqL is u.items else if k = 6 then eqM is ks u.keys u.items else (f == u.flag && n == u.n) && t.toList == u.text.toList)
def eqL : List Tree → List Tree → Bool
  | [], _ => true
  | a :: r, us => eqT a (us.getD 0 zeroT) && eqL r us.tail
def eqM : List Tree → List ByteArray → List ByteArray → List Tree → Bool
  | [], _, _, _ => true
  | a :: r, ks, bk, bi => (match posK bk (ks.getD 0 ⟨#[]⟩) with | none => false | some j => eqT a (bi.getD j zeroT)) && eqM r ks.tail bk bi
end
theorem eqT_eq (t u : Tree) : eqT t u = ((t.kind == u.kind && t.items.length == u.items.length) && (if t.kind = 5 then eqL t.items u.items else if t.kind = 6 then eqM t.items t.keys u.keys u.items else (t.flag == u.flag && t.n == u.n) && t.text.toList == u.text.toList)) := by
  cases t with | mk k f n t ks is => rw [eqT]; rfl
theorem eqL_at {l m : List Tree} (i : Nat) (hi : i < l.length) (hm : i < m.length) : eqL (l.drop i) (m.drop i) = (eqT l[i] m[i] && eqL (l.drop (i + 1)) (m.drop (i + 1))) := by
  rw [List.drop_eq_getElem_cons hi, List.drop_eq_getElem_cons hm, eqL]
  rfl
theorem eqM_at {l : List Tree} {ks bk : List ByteArray} {bi : List Tree} (i : Nat) (hi : i < l.length) (hk : i < ks.length) : eqM (l.drop i) (ks.drop i) bk bi = ((match posK bk ks[i] with | none => false | some j => eqT l[i] (bi.getD j zeroT)) && eqM (l.drop (i + 1)) (ks.drop (i + 1)) bk bi) := by
  rw [List.drop_eq_getElem_cons hi, List.drop_eq_getElem_cons hk, eqM]
  rfl
/-- A tree that may be. -/
def GoodP (t : Tree) : Prop := ∃ about, checkT t about = 0
theorem GoodP.item {t x : Tree} (h : GoodP t) (hx : x ∈ t.items) : GoodP x := by
  obtain ⟨about, h⟩ := h
  exact ⟨_, (check_one h).2 x hx⟩
theorem GoodP.keys {t : Tree} (h : GoodP t) (hk : t.kind = 6) : t.keys.length = t.items.length ∧ nodup t.keys = true := by
  obtain ⟨about, h⟩ := h
  exact (one_kind (check_one h).1).2.2.2.2.2.1 hk

/-! ### places, with its look-ups -/
set_option maxRecDepth 100000 in
set_option maxHeartbeats 1000000 in
theorem places_look (ks : List ByteArray) (w : World) (F : Nat → Prop) (v : Value) (hv : RdK w F ks v) (hn : keyN ks ≤ 1099511627776) :
    Calls Tryz.prog 174 #[v] w fun e w' => ∃ (mb n : Nat) (D : DataW Unit), e = .returned (.map (some mb)) ∧ w.grownBy w' none ∧ w'.ownsMap Tryz.prog 9 (plainElem Tryz.prog 3) mb n D ∧
      (∀ k : ByteArray, Maps.has D (.string k.data.toList) = hasK ks k) ∧ (∀ k : ByteArray, hasK ks k = true → ∃ j : Nat, ks[j]? = some k ∧ D.atKey (.string k.data.toList) (.lit (.int .i64 0)) = .lit (.int .i64 (j : Int))) := by
  have hkl := keyN_length ks
  have hkm : ∀ k ∈ ks, k.size ≤ 1099511627776 := fun k hk => by have := keyN_mem hk; omega
  have HKM := hid hkm
  obtain ⟨pa, ca, rfl, hca, hka⟩ := hv
  obtain ⟨A, HA⟩ : ∃ A, Hid (ks.length = A) := ⟨_, hid rfl⟩
  rw [HA.out] at hca hkl ⊢
  have hA : A ≤ 1099511627776 := by omega
  have HKA := hid hka
  have hmk := mk_mapN w A
  clear hka hkm hkl hn
  go_enter Tryz.func174, Tryz.ntmps174
  go_wp2_with fail
  go_loopw [11] (fun iv wr => ∃ (i : Nat) (D : DataW Unit), iv = .int .i64 i ∧ i ≤ A ∧ Hid (w.grownBy wr none) ∧ Hid (wr.ownsMap Tryz.prog 9 (plainElem Tryz.prog 3) w.heap.size i D) ∧ Hid (∀ k : ByteArray, Maps.has D (.string k.data.toList) = hasK (ks.take i) k) ∧ Hid (∀ k : ByteArray, hasK (ks.take i) k = true → ∃ j : Nat, ks[j]? = some k ∧ D.atKey (.string k.data.toList) (.lit (.int .i64 0)) = .lit (.int .i64 (j : Int)))) (fun iv _ => A - (intOf iv).toNat)
  case atStart => exact ⟨0, _, rfl, Nat.zero_le _, galloc _ _ none, World.ownsMap_made w Tryz.prog 9 _, fun _ => rfl, hid (fun k hk => by simp [hasK] at hk)⟩
  case round =>
    obtain ⟨i, D, rfl, hi, HG, HM, HH, HD⟩ := hrel
    by_cases hlt : i < A
    · have hd : decide ((i : Int) < (A : Int)) = true := decide_eq_true (by omega)
      have hit : i < ks.length := by have := HA.out; omega
      obtain ⟨g, o, rfl, hg, _, hc⟩ := HKA.out (by omega)
      have z := hc i _ (List.getElem?_eq_getElem hit)
      rw [← World.cell?_of_block (w := w) (a := ⟨g, o + i, none⟩) (HG.out.block g hg (by simp))] at z
      obtain ⟨K, HK⟩ : ∃ K, Hid (ks[i] = K) := ⟨_, hid rfl⟩
      rw [HK.out] at z
      have hKs : K.size ≤ 1099511627776 := by rw [← HK.out]; exact HKM.out _ (List.getElem_mem hit)
      have hkey : keyOf Tryz.prog 9 (.string K) = some (.string K.data.toList) := WideMaps.keyOf_string_mk Tryz.underlying9 (by unfold maxLen; omega)
      have hmn : i < maxLen := by unfold maxLen; omega
      have hwz : (Lit.int IntKind.i64 (i : Int)).wf = true := by
        simp [Lit.wf, IntKind.min, IntKind.max, IntKind.bits, IntKind.signed]
        omega
      have hown := HM.out
      clear hc
      go_wp2_with (at_mapUpdate; refine wpList_mapUpdate_own _ rfl _ _ _ 159 rfl 9 3 law9 Tryz.underlying159 _ w.heap.size i D rfl hown hmn _ _ _ rfl rfl hkey _ _ (plainElem_int Tryz.underlying3 hwz) ?_; intro w4 hown4 hg4)
      refine ⟨⟨i + 1, _, rfl, by omega, HG.out.andThen hg4 (fun j hj => .inl (by injection hj with hj; omega)), hown4, ?_, ?_⟩, by simp only [intOf]; omega⟩
      · rw [List.take_succ_eq_append_getElem hit, HK.out]
        obtain ⟨es, he⟩ := hown.isMap
        exact has_snoc he HH.out
      · refine hid ?_
        intro k hk
        by_cases hkk : k.data.toList = K.data.toList
        · refine ⟨i, by rw [List.getElem?_eq_getElem hit, HK.out, data_inj hkk], ?_⟩
          rw [hkk]
          exact Maps.atKey_put_same hown.isMap (by first | exact trivial | exact rfl | simp [WideAt.IsKeyLit]) _ _
        · rw [List.take_succ_eq_append_getElem hit, HK.out] at hk
          have hk2 : hasK (ks.take i) k = true := by
            unfold hasK at hk ⊢
            rw [List.any_append, Bool.or_eq_true] at hk
            rcases hk with h | h
            · exact h
            · simp only [List.any_cons, List.any_nil, Bool.or_false, decide_eq_true_eq] at h
              exact absurd h.symm hkk
          obtain ⟨j, hj, e⟩ := HD.out k hk2
          refine ⟨j, hj, ?_⟩
          rw [Maps.atKey_put_other (fun h => hkk (by injection h)), e]
    · have hd : decide ((i : Int) < (A : Int)) = false := decide_eq_false (by omega)
      have hks : ks.take i = ks := List.take_of_length_le (by have := HA.out; omega)
      have HKS := hid hks
      clear hks
      go_wp2_with fail
      go_ret
      refine ⟨w.heap.size, i, D, rfl, HG.out, HM.out, ?_, ?_⟩
      · rw [← HKS.out]; exact HH.out
      · have := HD.out
        rw [HKS.out] at this
        exact this

/-- An item in memory, its fields' shapes written out. -/
theorem RdIs.shaped {w wr : World} {F : Nat → Prop} {g o : Nat} {l : List Tree} (h : RdIs w F g o l) (hs : Stays F w wr) (hF : F g) (hg : g < w.heap.size) (i : Nat) (hi : i < l.length) :
    ∃ (k : Int) (f : Bool) (n : Int) (x : ByteArray) (ka : Option Addr) (kn kc : Nat) (ia : Option Addr) (il ic : Nat), wr.cell? ⟨g, o + i * 6, none⟩ = some (.int .i64 k) ∧ wr.cell? ⟨g, o + i * 6 + 1, none⟩ = some (.bool f) ∧ wr.cell? ⟨g, o + i * 6 + 2, none⟩ = some (.int .i64 n) ∧ wr.cell? ⟨g, o + i * 6 + 3, none⟩ = some (.string x) ∧ wr.cell? ⟨g, o + i * 6 + 4, none⟩ = some (.slice ka kn kc) ∧ wr.cell? ⟨g, o + i * 6 + 5, none⟩ = some (.slice ia il ic) ∧ RdT wr F l[i] (.agg #[.int .i64 k, .bool f, .int .i64 n, .string x, .slice ka kn kc, .slice ia il ic]) := by
  obtain ⟨a, b, c, d, e, f, h0, h1, h2, h3, h4, h5, hT⟩ := h.at hs hF hg i hi
  have hT' := hT
  obtain ⟨kv, iv, ev, ⟨pk, ck, rfl, _, _⟩, ⟨pi, ci, rfl, _, _⟩⟩ := RdT_split hT
  simp only [Value.agg.injEq, Array.mk.injEq, List.cons.injEq, and_true] at ev
  obtain ⟨rfl, rfl, rfl, rfl, rfl, rfl⟩ := ev
  exact ⟨_, _, _, _, _, _, _, _, _, _, h0, h1, h2, h3, h4, h5, hT'⟩

/-! ### slices.EqualFunc -/
/-- What equal promises of trees that hold no more than n. -/
def EqOk (n : Nat) : Prop := ∀ (t u : Tree), cntT t ≤ n → cntT u ≤ 1099511627776 → GoodP t → GoodP u → ∀ (w : World) (F G : Nat → Prop) (a b : Value), RdT w F t a → RdT w G u b →
  Calls Tryz.prog 60 #[a, b] w fun e w' => e = .returned (.bool (eqT t u)) ∧ w.grownBy w' none
set_option maxRecDepth 100000 in
set_option maxHeartbeats 1000000 in
theorem equalFunc_any (n : Nat) (hE : EqOk n) (l m : List Tree) (hl : cntL l ≤ n) (hn : n ≤ 1099511627776) (hm : cntL m ≤ 1099511627776) (hlm : l.length = m.length) (hgl : ∀ x ∈ l, GoodP x) (hgm : ∀ x ∈ m, GoodP x)
    (w : World) (F G : Nat → Prop) (a b : Value) (ha : RdS w F l a) (hb : RdS w G m b) (fv : Value) (hfv : fv = .func (.func 60) #[] #[]) :
    Calls Tryz.prog 122 #[a, b, fv] w fun e w' => e = .returned (.bool (eqL l m)) ∧ w.grownBy w' none := by
  obtain ⟨pa, ca, rfl, hca, hka⟩ := ha
  obtain ⟨pb, cb, rfl, hcb, hkb⟩ := hb
  rw [← hlm] at hcb hkb ⊢
  have hA : l.length ≤ 1099511627776 := by have := cntL_length l; omega
  obtain ⟨A, HA⟩ : ∃ A, Hid (l.length = A) := ⟨_, hid rfl⟩
  have HLM := hid hlm
  rw [HA.out] at hA hca hcb hkb ⊢
  have HKA := hid hka
  have HKB := hid hkb
  have HE := hid hE
  have HLn := hid hl
  have HMn := hid hm
  have HGl := hid hgl
  have HGm := hid hgm
  obtain ⟨R, HR⟩ : ∃ R, Hid (eqL l m = R) := ⟨_, hid rfl⟩
  rw [HR.out]
  clear hka hkb hE hl hn hm hlm hgl hgm
  subst hfv
  go_enter Tryz.func122, Tryz.ntmps122
  go_wp2_with fail
  go_loopw [17] (fun iv wr => ∃ (i : Nat), iv = .int .i64 i ∧ i ≤ A ∧ Hid (w.grownBy wr none) ∧ Hid (R = eqL (l.drop i) (m.drop i))) (fun iv _ => A - (intOf iv).toNat)
  case atStart => exact ⟨0, rfl, Nat.zero_le _, grefl _ _, hid (by rw [← HR.out]; rfl)⟩
  case round =>
    obtain ⟨i, rfl, hi, HG, HI⟩ := hrel
    by_cases hlt : i < A
    · have hd : decide ((i : Int) < (A : Int)) = true := decide_eq_true (by omega)
      have hit : i < l.length := by have := HA.out; omega
      have hit' : i < m.length := by have := HLM.out; omega
      obtain ⟨g, o, rfl, hg, hF, hr⟩ := HKA.out (by omega)
      obtain ⟨g', o', rfl, hg', hF', hr'⟩ := HKB.out (by omega)
      obtain ⟨k1, f1, n1, x1, ka1, kn1, kc1, ia1, il1, ic1, z0, z1, z2, z3, z4, z5, hT⟩ := hr.shaped (Stays.none HG.out) hF hg i hit
      obtain ⟨k2, f2, n2, x2, ka2, kn2, kc2, ia2, il2, ic2, y0, y1, y2, y3, y4, y5, hU⟩ := hr'.shaped (Stays.none HG.out) hF' hg' i hit'
      have ht1 : cntT l[i] ≤ n := by have h1 := cntL_mem (List.getElem_mem hit); have h2 := HLn.out; omega
      have hu1 : cntT m[i] ≤ 1099511627776 := by have h1 := cntL_mem (List.getElem_mem hit'); have h2 := HMn.out; omega
      have hq1 := HGl.out _ (List.getElem_mem hit)
      have hq2 := HGm.out _ (List.getElem_mem hit')
      have HST := hid (eqL_at (l := l) (m := m) i hit hit')
      obtain ⟨q, HQ⟩ : ∃ q, Hid (eqT l[i] m[i] = q) := ⟨_, hid rfl⟩
      rw [HQ.out] at HST
      have HC : Hid (∀ u : World, wr.grownBy u none → Calls Tryz.prog 60 #[.agg #[.int .i64 k1, .bool f1, .int .i64 n1, .string x1, .slice ka1 kn1 kc1, .slice ia1 il1 ic1], .agg #[.int .i64 k2, .bool f2, .int .i64 n2, .string x2, .slice ka2 kn2 kc2, .slice ia2 il2 ic2]] u fun e w' => e = .returned (.bool q) ∧ wr.grownBy w' none) := fun u hu => by
        refine (HE.out l[i] m[i] ht1 hu1 hq1 hq2 u F G _ _ (hT.on (Stays.none hu)) (hU.on (Stays.none hu))).mono ?_
        rintro e w' ⟨h1, h2⟩
        rw [HQ.out] at h1
        exact ⟨h1, gtrans hu h2⟩
      have hgr : g' < wr.heap.size := Nat.lt_of_lt_of_le hg' HG.out.size
      have Y0 := fun x : Obj => (World.cell?_alloc_lt wr x ⟨g', o' + i * 6, none⟩ hgr).trans y0
      have Y1 := fun x : Obj => (World.cell?_alloc_lt wr x ⟨g', o' + i * 6 + 1, none⟩ hgr).trans y1
      have Y2 := fun x : Obj => (World.cell?_alloc_lt wr x ⟨g', o' + i * 6 + 2, none⟩ hgr).trans y2
      have Y3 := fun x : Obj => (World.cell?_alloc_lt wr x ⟨g', o' + i * 6 + 3, none⟩ hgr).trans y3
      have Y4 := fun x : Obj => (World.cell?_alloc_lt wr x ⟨g', o' + i * 6 + 4, none⟩ hgr).trans y4
      have Y5 := fun x : Obj => (World.cell?_alloc_lt wr x ⟨g', o' + i * 6 + 5, none⟩ hgr).trans y5
      clear hr hr' hT hU ht1 hu1 hq1 hq2 y0 y1 y2 y3 y4 y5
      cases q with
      | true =>
        go_wp2_with (go_at_call 60; refine (HC.out _ (by first | exact galloc2 rfl rfl rfl rfl | exact gtrans (galloc _ _ none) (galloc _ _ none))).mono ?_; rintro e w2 ⟨rfl, hg2⟩)
        exact ⟨⟨i + 1, rfl, by omega, hid (gtrans HG.out hg2), hid (by rw [HI.out, HST.out, Bool.true_and])⟩, by simp only [intOf]; omega⟩
      | false =>
        go_wp2_with (go_at_call 60; refine (HC.out _ (by first | exact galloc2 rfl rfl rfl rfl | exact gtrans (galloc _ _ none) (galloc _ _ none))).mono ?_; rintro e w2 ⟨rfl, hg2⟩)
        go_ret
        exact ⟨by rw [HI.out, HST.out, Bool.false_and]; rfl, gtrans HG.out hg2⟩
    · have hd : decide ((i : Int) < (A : Int)) = false := decide_eq_false (by omega)
      have HRT : Hid (R = true) := by rw [HI.out, List.drop_eq_nil_of_le (by have := HA.out; omega), eqL]; exact rfl
      go_wp2_with fail
      go_ret
      exact ⟨by rw [HRT.out]; rfl, HG.out⟩
end Go.Proofs.YtdmnhkgiojkphaaGreatDoor
