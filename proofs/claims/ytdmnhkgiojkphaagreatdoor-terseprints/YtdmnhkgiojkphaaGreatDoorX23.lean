/- The walks of Check's pieces: hasItems, Good, allGood, places, keysFit. -/
import Derived.Test.YtdmnhkgiojkphaaGreatDoorWalkT
namespace Go.Proofs.YtdmnhkgiojkphaaGreatDoor
open Go Go.RowKit Go.Maps
open Go.RowKit (wrap32 wrap64)

set_option maxRecDepth 100000 in
theorem hasItems_any (w : World) (k : Int) : Calls Tryz.prog 134 #[.int .i64 k] w fun e w' => e = .returned (.bool (hasItems k)) ∧ w' = w := by
  by_cases h5 : k = 5
  · subst h5
    go_enter Tryz.func134, Tryz.ntmps134
    go_wp2_with fail
    go_ret
    exact ⟨rfl, rfl⟩
  · have e5 : (k == 5) = false := beq_eq_false_iff_ne.2 h5
    by_cases h6 : k = 6
    · subst h6
      go_enter Tryz.func134, Tryz.ntmps134
      go_wp2_with fail
      go_ret
      exact ⟨rfl, rfl⟩
    · have e6 : (k == 6) = false := beq_eq_false_iff_ne.2 h6
      have HE : Hid (hasItems k = false) := by unfold hasItems; rw [e5, e6]; exact rfl
      go_enter Tryz.func134, Tryz.ntmps134
      go_wp2_with fail
      go_ret
      exact ⟨by rw [HE.out]; rfl, rfl⟩
set_option maxRecDepth 100000 in
theorem good_any (w : World) (s : ByteArray) (hG : Glob w) (hs : s.size ≤ 1099511627776) : Calls Tryz.prog 23 #[.string s] w fun e w' => e = .returned (.bool (good s)) ∧ w.grownBy w' none := by
  have HC := hid (Tryz.utf8_ValidString s w (by omega) hG.here.1)
  go_enter Tryz.func23, Tryz.ntmps23
  go_wp2_with fail
  refine HC.out.mono ?_
  rintro e w' ⟨rfl, hb⟩
  have HB := hid hb
  clear hb
  go_wp2_with fail
  go_ret
  exact ⟨rfl, gof HB.out none⟩
set_option maxRecDepth 100000 in
set_option maxHeartbeats 1000000 in
theorem allGood_any (ks : List ByteArray) (w : World) (F : Nat → Prop) (v : Value) (hv : RdK w F ks v) (hG : Glob w) (hn : keyN ks ≤ 1099511627776) :
    Calls Tryz.prog 136 #[v] w fun e w' => e = .returned (.bool (ks.all good)) ∧ w.grownBy w' none := by
  have hkl := keyN_length ks
  have hkm : ∀ k ∈ ks, k.size ≤ 1099511627776 := fun k hk => by have := keyN_mem hk; omega
  have HKM := hid hkm
  obtain ⟨pa, ca, rfl, hca, hka⟩ := hv
  obtain ⟨A, HA⟩ : ∃ A, Hid (ks.length = A) := ⟨_, hid rfl⟩
  rw [HA.out] at hca hkl ⊢
  have hA : A ≤ 1099511627776 := by omega
  have HKA := hid hka
  clear hka hkm hkl hn
  go_enter Tryz.func136, Tryz.ntmps136
  go_wp2_with fail
  go_loopw [7] (fun iv wr => ∃ (i : Nat), iv = .int .i64 i ∧ i ≤ A ∧ Hid (w.grownBy wr none) ∧ Hid (ks.all good = (ks.drop i).all good)) (fun iv _ => A - (intOf iv).toNat)
  case atStart => exact ⟨0, rfl, Nat.zero_le _, grefl _ _, rfl⟩
  case round =>
    obtain ⟨i, rfl, hi, HG, HD⟩ := hrel
    by_cases hlt : i < A
    · have hd : decide ((i : Int) < (A : Int)) = true := decide_eq_true (by omega)
      have hit : i < ks.length := by have := HA.out; omega
      obtain ⟨g, o, rfl, hg, _, hc⟩ := HKA.out (by omega)
      have z := hc i _ (List.getElem?_eq_getElem hit)
      rw [← World.cell?_of_block (w := w) (a := ⟨g, o + i, none⟩) (HG.out.block g hg (by simp))] at z
      have hGr : Glob wr := hG.grown HG.out (fun k hk => by cases hk)
      have HC := hid (good_any wr ks[i] hGr (HKM.out _ (List.getElem_mem hit)))
      have hdr : (ks.drop i).all good = (good ks[i] && (ks.drop (i + 1)).all good) := by rw [List.drop_eq_getElem_cons hit, List.all_cons]
      have HDR := hid hdr
      clear hc hGr hdr
      go_wp2_with fail
      refine HC.out.mono ?_
      rintro e w' ⟨rfl, hg'⟩
      have HG' := hid (gtrans HG.out hg')
      clear hg'
      cases hgd : good ks[i] with
      | true =>
        have HGD := hid hgd
        clear hgd
        go_wp2_with fail
        exact ⟨⟨i + 1, rfl, by omega, HG', hid (by rw [HD.out, HDR.out, HGD.out]; rfl)⟩, by simp only [intOf]; omega⟩
      | false =>
        have HGD := hid hgd
        clear hgd
        go_wp2_with fail
        go_ret
        exact ⟨by rw [HD.out, HDR.out, HGD.out]; rfl, HG'.out⟩
    · have hd : decide ((i : Int) < (A : Int)) = false := decide_eq_false (by omega)
      go_wp2_with fail
      go_ret
      refine ⟨?_, HG.out⟩
      rw [HD.out, List.drop_eq_nil_of_le (by have := HA.out; omega)]
      rfl

/-! ### places -/
/-- How many unlike ones. -/
def distG (seen : List ByteArray) : List ByteArray → Nat
  | [] => 0
  | k :: r => (if hasK seen k = true then 0 else 1) + distG (seen ++ [k]) r
theorem distG_le (l : List ByteArray) : ∀ seen, distG seen l ≤ l.length := by
  induction l with
  | nil => intro seen; simp [distG]
  | cons k r ih =>
    intro seen
    rw [distG, List.length_cons]
    have := ih (seen ++ [k])
    split <;> omega
theorem distG_iff (l : List ByteArray) : ∀ seen, distG seen l = l.length ↔ (∀ x ∈ l, x ∉ seen) ∧ nodup l = true := by
  induction l with
  | nil => intro seen; simp [distG, nodup]
  | cons k r ih =>
    intro seen
    rw [distG, List.length_cons]
    have hle := distG_le r (seen ++ [k])
    have ih' := ih (seen ++ [k])
    simp only [nodup, Bool.and_eq_true, Bool.not_eq_true', hasK_false]
    by_cases hk : hasK seen k = true
    · rw [if_pos hk]
      constructor
      · intro h; omega
      · intro h; exact absurd (hasK_iff.1 hk) (h.1 k (by simp))
    · rw [if_neg hk]
      have hk' : k ∉ seen := fun h => hk (hasK_iff.2 h)
      constructor
      · intro h
        have h2 := ih'.1 (by omega)
        refine ⟨fun x hx => ?_, fun hm => ?_, h2.2⟩
        · rcases List.mem_cons.1 hx with rfl | hx
          · exact hk'
          · exact fun hs => h2.1 x hx (by simp [hs])
        · exact h2.1 k hm (by simp)
      · rintro ⟨h1, h2, h3⟩
        have := ih'.2 ⟨fun x hx hs => by
          rcases List.mem_append.1 hs with hs | hs
          · exact h1 x (by simp [hx]) hs
          · rw [List.mem_singleton.1 hs] at hx; exact h2 hx, h3⟩
        omega
theorem distG_nodup (l : List ByteArray) : ((l.length : Int) == (distG [] l : Int)) = nodup l := by
  have := distG_iff l []
  cases h : nodup l with
  | true =>
    have h2 := this.2 ⟨fun x _ => by simp, h⟩
    rw [h2]; simp
  | false =>
    have h2 : distG [] l ≠ l.length := fun e => by have := (this.1 e).2; rw [h] at this; cases this
    simp only [beq_eq_false_iff_ne, ne_eq]
    omega
theorem mk_mapN (w : World) (n : Nat) : (Instr.makeMap 159 (some (.int .i64 (n : Int)))).run Tryz.prog w = .ok (.map (some w.heap.size)) (w.alloc (.map #[] 0)) := by
  simp [Instr.makeMap, go_sem]

set_option maxRecDepth 100000 in
set_option maxHeartbeats 1000000 in
theorem places_any (ks : List ByteArray) (w : World) (F : Nat → Prop) (v : Value) (hv : RdK w F ks v) (hn : keyN ks ≤ 1099511627776) :
    Calls Tryz.prog 174 #[v] w fun e w' => ∃ (mb n : Nat) (D : DataW Unit), e = .returned (.map (some mb)) ∧ w.grownBy w' none ∧ w'.ownsMap Tryz.prog 9 (plainElem Tryz.prog 3) mb n D ∧ Maps.size D = distG [] ks := by
  have hkl := keyN_length ks
  have hkm : ∀ k ∈ ks, k.size ≤ 1099511627776 := fun k hk => by have := keyN_mem hk; omega
  have HKM := hid hkm
  obtain ⟨pa, ca, rfl, hca, hka⟩ := hv
  obtain ⟨A, HA⟩ : ∃ A, Hid (ks.length = A) := ⟨_, hid rfl⟩
  rw [HA.out] at hca hkl ⊢
  have hA : A ≤ 1099511627776 := by omega
  have HKA := hid hka
  have hmk := mk_mapN w A
  clear hka hkm hkl hn
  go_enter Tryz.func174, Tryz.ntmps174
  go_wp2_with fail
  go_loopw [11] (fun iv wr => ∃ (i : Nat) (D : DataW Unit), iv = .int .i64 i ∧ i ≤ A ∧ Hid (w.grownBy wr none) ∧ Hid (wr.ownsMap Tryz.prog 9 (plainElem Tryz.prog 3) w.heap.size i D) ∧ Hid (∀ k : ByteArray, Maps.has D (.string k.data.toList) = hasK (ks.take i) k) ∧ Hid (distG [] ks = Maps.size D + distG (ks.take i) (ks.drop i))) (fun iv _ => A - (intOf iv).toNat)
  case atStart => exact ⟨0, _, rfl, Nat.zero_le _, galloc _ _ none, World.ownsMap_made w Tryz.prog 9 _, fun _ => rfl, hid (by simp [Maps.size])⟩
  case round =>
    obtain ⟨i, D, rfl, hi, HG, HM, HH, HD⟩ := hrel
    by_cases hlt : i < A
    · have hd : decide ((i : Int) < (A : Int)) = true := decide_eq_true (by omega)
      have hit : i < ks.length := by have := HA.out; omega
      obtain ⟨g, o, rfl, hg, _, hc⟩ := HKA.out (by omega)
      have z := hc i _ (List.getElem?_eq_getElem hit)
      rw [← World.cell?_of_block (w := w) (a := ⟨g, o + i, none⟩) (HG.out.block g hg (by simp))] at z
      obtain ⟨K, HK⟩ : ∃ K, Hid (ks[i] = K) := ⟨_, hid rfl⟩
      rw [HK.out] at z
      have hKs : K.size ≤ 1099511627776 := by rw [← HK.out]; exact HKM.out _ (List.getElem_mem hit)
      have hkey : keyOf Tryz.prog 9 (.string K) = some (.string K.data.toList) := WideMaps.keyOf_string_mk Tryz.underlying9 (by unfold maxLen; omega)
      have hmn : i < maxLen := by unfold maxLen; omega
      have hwz : (Lit.int IntKind.i64 (i : Int)).wf = true := by
        simp [Lit.wf, IntKind.min, IntKind.max, IntKind.bits, IntKind.signed]
        omega
      have hown := HM.out
      clear hc
      go_wp2_with (at_mapUpdate; refine wpList_mapUpdate_own _ rfl _ _ _ 159 rfl 9 3 law9 Tryz.underlying159 _ w.heap.size i D rfl hown hmn _ _ _ rfl rfl hkey _ _ (plainElem_int Tryz.underlying3 hwz) ?_; intro w4 hown4 hg4)
      refine ⟨⟨i + 1, _, rfl, by omega, HG.out.andThen hg4 (fun j hj => .inl (by injection hj with hj; omega)), hown4, ?_, ?_⟩, by simp only [intOf]; omega⟩
      · rw [List.take_succ_eq_append_getElem hit, HK.out]
        obtain ⟨es, he⟩ := hown.isMap
        exact has_snoc he HH.out
      · refine hid ?_
        rw [HD.out, List.drop_eq_getElem_cons hit, distG, HK.out, Maps.size_put (hown.tidy law9), HH.out K, List.take_succ_eq_append_getElem hit, HK.out]
        cases hasK (ks.take i) K with
        | true => simp
        | false => simp; omega
    · have hd : decide ((i : Int) < (A : Int)) = false := decide_eq_false (by omega)
      go_wp2_with fail
      go_ret
      refine ⟨w.heap.size, i, D, rfl, HG.out, HM.out, ?_⟩
      have := HD.out
      rw [List.drop_eq_nil_of_le (by have := HA.out; omega)] at this
      simp [distG] at this
      exact this.symm
end Go.Proofs.YtdmnhkgiojkphaaGreatDoor

namespace Go.Proofs.YtdmnhkgiojkphaaGreatDoor
open Go Go.RowKit Go.Maps
open Go.RowKit (wrap32 wrap64)

set_option maxRecDepth 100000 in
set_option maxHeartbeats 1000000 in
theorem keysFit_any (t : Tree) (w : World) (F : Nat → Prop) (v : Value) (hv : RdT w F t v) (hn : cntT t ≤ 1099511627776) :
    Calls Tryz.prog 137 #[v] w fun e w' => e = .returned (.bool (keysFit t)) ∧ w.grownBy w' none := by
  have hkn : keyN t.keys ≤ 1099511627776 := by rw [cntT_eq] at hn; omega
  rw [RdT_eq] at hv
  obtain ⟨kv, ia, ic, rfl, hkv, _, _⟩ := hv
  have hkv0 := hkv
  obtain ⟨ka, kc, rfl, _⟩ := hkv
  have hPl : ∀ u : World, w.grownBy u none → Calls Tryz.prog 174 #[.slice ka t.keys.length kc] u fun e w' => ∃ (mb : Nat), e = .returned (.map (some mb)) ∧ u.grownBy w' none ∧ ∀ ty, (Builtin.len_ #[159] ty #[.map (some mb)]).run Tryz.prog w' = .ok (.int .i64 (distG [] t.keys : Nat)) w' := fun u hu => by
    refine (places_any t.keys u F _ (hkv0.kept (Stays.none hu) (fun _ h _ => h)) hkn).mono ?_
    rintro e w' ⟨mb, n, D, rfl, h1, h2, h3⟩
    exact ⟨mb, rfl, h1, fun ty => by rw [h2.len Tryz.underlying159 ty, h3]⟩
  have hkf : keysFit t = (((t.keys.length : Int) == (t.items.length : Int)) && ((t.keys.length : Int) == (distG [] t.keys : Int))) := by
    unfold keysFit
    rw [distG_nodup]
    congr 1
    by_cases h : t.keys.length = t.items.length
    · rw [h]; simp
    · rw [beq_eq_false_iff_ne.2 h, beq_eq_false_iff_ne.2 (by omega)]
  have HKF := hid hkf
  obtain ⟨A, HA⟩ : ∃ A, Hid (t.items.length = A) := ⟨_, hid rfl⟩
  obtain ⟨KN, HKN⟩ : ∃ A, Hid (t.keys.length = A) := ⟨_, hid rfl⟩
  obtain ⟨DN, HDN⟩ : ∃ A, Hid (distG [] t.keys = A) := ⟨_, hid rfl⟩
  rw [HA.out, HKN.out, HDN.out] at HKF
  rw [HKN.out, HDN.out] at hPl
  have HPl := hid hPl
  rw [HA.out, HKN.out]
  have g0 : w.grownBy (w.alloc (.cells #[.int .i64 t.kind, .bool t.flag, .int .i64 t.n, .string t.text, .slice ka KN kc, .slice ia A ic] 26)) none := galloc _ _ none
  obtain ⟨W0, hW0⟩ : ∃ W0, w.alloc (.cells #[.int .i64 t.kind, .bool t.flag, .int .i64 t.n, .string t.text, .slice ka KN kc, .slice ia A ic] 26) = W0 := ⟨_, rfl⟩
  have c0 := boxed w (.int .i64 t.kind) (.bool t.flag) (.int .i64 t.n) (.string t.text) (.slice ka KN kc) (.slice ia A ic)
  rw [hW0] at c0 g0
  have HG0 := hid g0
  have HC0 := hid c0
  obtain ⟨⟨x0, x1, x2, x3, x4, x5⟩, xf⟩ := cells6 c0
  have SO : Hid (∀ u : World, u.heap[w.heap.size]? = some (.cells #[.int .i64 t.kind, .bool t.flag, .int .i64 t.n, .string t.text, .slice ka KN kc, .slice ia A ic] 26 (0, 0)) → u.cell? ⟨w.heap.size, 4, none⟩ = some (.slice ka KN kc) ∧ u.cell? ⟨w.heap.size, 5, none⟩ = some (.slice ia A ic)) := fun u hu => ⟨(cells6 hu).1.2.2.2.2.1, (cells6 hu).1.2.2.2.2.2⟩
  clear c0 g0 hPl hkf hkv0 hn hkn
  by_cases hlen : KN = A
  · subst hlen
    have hbb : ((KN : Int) == (KN : Int)) = true := by simp
    have HBB := hid hbb
    clear hbb
    go_enter Tryz.func137, Tryz.ntmps137
    go_wp2_with fail
    go_region_held (fun u => u.cell? ⟨w.heap.size, 4, none⟩ = some (.slice ka KN kc) ∧ u.cell? ⟨w.heap.size, 5, none⟩ = some (.slice ia KN ic))
      (exact SO.out _ (by first | exact HC0.out | assumption))
      (first | (go_at_call 174; refine (HPl.out _ (gtrans HG0.out (gdrew1 W0 none))).mono ?_; rintro e w2 ⟨mb, rfl, hg2, hm2⟩; have hb2 : w2.heap[w.heap.size]? = some (.cells #[.int .i64 t.kind, .bool t.flag, .int .i64 t.n, .string t.text, .slice ka KN kc, .slice ia KN ic] 26 (0, 0)) := (hg2.block _ (Array.getElem?_eq_some_iff.1 HC0.out).1 (by simp)).trans HC0.out))
    all_goals
      have HG2 := hid (gtrans (gtrans HG0.out (gdrew1 W0 none)) hg2)
      clear hg2 hb2
      go_wp2_with fail
      go_ret
      refine ⟨?_, HG2.out⟩
      rw [HKF.out, HBB.out, Bool.true_and]
      rfl
  · have hbb : ((KN : Int) == (A : Int)) = false := beq_eq_false_iff_ne.2 (by omega)
    have hbn : (KN == A) = false := beq_eq_false_iff_ne.2 hlen
    go_enter Tryz.func137, Tryz.ntmps137
    go_wp2_with fail
    go_quiet (fail)
    go_wp2_with fail
    go_ret
    refine ⟨?_, gtrans HG0.out (gdrew W0 _ none)⟩
    rw [HKF.out, hbb, Bool.false_and]
    rfl
end Go.Proofs.YtdmnhkgiojkphaaGreatDoor
