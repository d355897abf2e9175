/- Values that are lent: LendValues, walked. -/
import Derived.Test.YtdmnhkgiojkphaaGreatDoorX33
namespace Go.Proofs.YtdmnhkgiojkphaaGreatDoor
open Go Go.RowKit
open Go.RowKit (wrap32 wrap64)

/-- What LendValue promises of trees that hold no more than m. -/
def LendOk (m : Nat) : Prop := ∀ (t : Tree), cntT t ≤ m → ∀ (w : World) (F : Nat → Prop) (v : Value), RdT w F t v →
  Calls Tryz.prog 10 #[v] w fun e w' => ∃ v', e = .returned v' ∧ Hid (LentT w' (fun g => w.heap.size ≤ g) t v') ∧ w.grownBy w' none
theorem lentT_six {w : World} {F : Nat → Prop} {t : Tree} {v : Value} (h : LentT w F t v) : ∃ ka kn kc ia il ic, v = .agg #[.int .i64 t.kind, .bool t.flag, .int .i64 t.n, .string t.text, .slice ka kn kc, .slice ia il ic] := by
  obtain ⟨kv, iv, rfl, ⟨g, c, rfl, -⟩, ⟨g', c', rfl, -⟩⟩ := (LentT_eq _ _ _ _).1 h
  exact ⟨_, _, _, _, _, _, rfl⟩
theorem flat_mk (j : Nat) (hj : j < 9) (k : Nat) (v : Value) (hk : mk6[k]? = some v) : ((List.replicate 9 mk6).flatten)[j * 6 + k]? = some v := by
  have hk6 : k < 6 := (List.getElem?_eq_some_iff.1 hk).1
  match k, hk6 with
  | 0, _ | 1, _ | 2, _ | 3, _ | 4, _ | 5, _ => match j, hj with
    | 0, _ | 1, _ | 2, _ | 3, _ | 4, _ | 5, _ | 6, _ | 7, _ | 8, _ => exact hk
set_option maxRecDepth 100000 in
set_option maxHeartbeats 4000000 in
theorem lendValues_any (m : Nat) (hm : m ≤ 1099511627776) (hC : LendOk m) (l : List Tree) (hl : cntL l ≤ m) (w : World) (F : Nat → Prop) (v : Value) (h : RdS w F l v) :
    Calls Tryz.prog 38 #[v] w fun e w' => ∃ v', e = .returned v' ∧ Hid (LentR w' (fun g => w.heap.size ≤ g) l v') ∧ w.grownBy w' none := by
  obtain ⟨i26, hi26, hz26, hs26, hb26⟩ := info_parts Tryz.info26
  obtain ⟨z26, hzz, hzs⟩ : ∃ z, i26.zero = some z ∧ z.cells.size = 6 := ⟨_, hz26, rfl⟩
  clear hz26
  obtain ⟨a, c, rfl, hc, hk⟩ := h
  have hll := cntL_length l
  have HK := hid hk
  obtain ⟨n, hn'⟩ : ∃ n, l.length = n := ⟨_, rfl⟩
  have HN := hid hn'
  have hnb : n ≤ 1099511627776 := by omega
  have hnc : n ≤ c := by omega
  have HCp : Hid (∀ (i : Nat) (hi : i < l.length), ∀ (u : World) (v : Value), RdT u F l[i] v → Calls Tryz.prog 10 #[v] u fun e w' => ∃ v', e = .returned v' ∧ Hid (LentT w' (fun g => u.heap.size ≤ g) l[i] v') ∧ u.grownBy w' none) := hid (fun i hi u v hv => hC l[i] (by have := cntL_mem (List.getElem_mem hi); omega) u F v hv)
  rw [hn']
  clear hk hc hl hC hll hn' hm
  go_enter Tryz.func38, Tryz.ntmps38
  go_wp2_with (at_make; refine wpList_make_own _ rfl _ _ 22 rfl w.heap.size 26 i26 z26 6 Tryz.underlying22 hi26 hzz hs26 _ _ _ (n + 9) rfl rfl (by omega) (by rw [hb26]; omega) (by unfold maxLen; omega) (Nat.le_refl _) ?_)
  intro w1 hown1 hg1
  have HG1 := hid hg1
  have HO1 : Hid (LOwn w1 w.heap.size [] 0 (.slice (some ⟨w.heap.size, 0, none⟩) 0 (n + 9))) := hid ⟨[], hown1, rfl⟩
  clear hg1 hown1
  go_wp2_with fail
  go_loopw [3, 4] (fun sv iv wr => ∃ i : Nat, iv = .int .i64 i ∧ i ≤ n ∧ Hid (LOwn wr w.heap.size (l.take i) 0 sv) ∧ Hid (w.grownBy wr none)) (fun _ iv _ => n - (intOf iv).toNat)
  case atStart => exact ⟨0, rfl, Nat.zero_le _, hid (by rw [List.take_zero]; exact HO1.out), HG1⟩
  case round =>
    clear HO1 HG1
    obtain ⟨i, rfl, hi, HO, HG⟩ := hrel
    obtain ⟨u5, hu5⟩ : ∃ x : World, x = wr := ⟨_, rfl⟩
    rw [← hu5] at HO HG ⊢
    clear hu5
    have htl : (l.take i).length = i := by rw [List.length_take, HN.out]; omega
    obtain ⟨sa, sc, hsv⟩ := HO.out.len
    rw [htl, Nat.add_zero] at hsv
    subst hsv
    by_cases hlt : i < n
    · have hlt' : (i : Int) < (n : Int) := by omega
      have hil : i < l.length := by rw [HN.out]; exact hlt
      obtain ⟨g, o, ea, hg, hFg, hr⟩ := HK.out (by omega)
      subst ea
      obtain ⟨k, f, z, x, ka, kn, kc, ia, il, ic, c0, c1, c2, c3, c4, c5, hT⟩ := hr.shaped (Stays.none HG.out) hFg hg i hil
      have HC := hid (HCp.out i hil u5 _ hT)
      have hgw : g < u5.heap.size := by have := HG.out.size; omega
      clear hT hr hFg hg
      go_wp2_with fail
      with_reducible refine HC.out.mono ?_
      rintro e w2 ⟨v2, rfl, hv2, hg2⟩
      obtain ⟨ka', kn', kc', ia', il', ic', e2⟩ := lentT_six hv2.out
      subst e2
      have HV2 := hv2
      clear hv2
      have HG2 := hid hg2
      obtain ⟨xs, q1, q2⟩ := HO.out
      rw [htl, Nat.add_zero, List.replicate_zero, List.flatten_nil, List.append_nil] at q1
      have HX2 : Hid (LElems u5 (fun g => w.heap.size ≤ g ∧ some g ≠ (Value.slice sa i sc).ownBlock) (l.take i) xs ∧ u5.ownsRow w.heap.size 26 6 (.slice sa i sc) i xs) := hid ⟨q2, q1⟩
      have HQ2 : Hid ((w2.alloc (.cells #[.int .i64 l[i].kind, .bool l[i].flag, .int .i64 l[i].n, .string l[i].text, .slice ka' kn' kc', .slice ia' il' ic'] 26)).ownsRow w.heap.size 26 6 (.slice sa i sc) i xs) := hid (own_on (own_on q1 hg2) (galloc _ _ _))
      have hsz : w.heap.size ≤ w2.heap.size + 1 := by have := HG.out.size; have := hg2.size; omega
      clear hg2 q1 q2
      obtain ⟨c0', c1', c2', c3', hc0, hc1, hc2, hc3⟩ : ∃ a b c d, l[i].kind = a ∧ l[i].flag = b ∧ l[i].n = c ∧ l[i].text = d := ⟨_, _, _, _, rfl, rfl, rfl, rfl⟩
      rw [hc0, hc1, hc2, hc3] at HV2 HQ2 ⊢
      have HE := hid (And.intro hc0 (And.intro hc1 (And.intro hc2 hc3)))
      clear hc0 hc1 hc2 hc3
      go_wp2_with (at_builtin; refine wpList_append_lies _ rfl _ _ 22 rfl w.heap.size 26 i26 z26 6 88 Tryz.underlying22 hi26 hzz hs26 hb26 hzs (by decide) (.slice sa i sc) i xs rfl HQ2.out ⟨w2.heap.size, 0, none⟩ 1 1 [.int .i64 c0', .bool c1', .int .i64 c2', .string c3', .slice ka' kn' kc', .slice ia' il' ic'] rfl rfl (news_new w2 _ _) (one6 _ _ _ _ _ _ _ _ _ _) (by decide) (by unfold maxLen; omega) (by omega) (by simp; exact hsz) (w2.heap.size + 1) (by simp) ?_; intro g3 cap3 w3 hown3 hg3 hat3 hlt3; have HW3 := hid hown3; have HG3 := hid hg3; have HA3 := hid hat3; clear hown3 hg3 hat3 hlt3)
      have HN3 : Hid (LOwn w3 w.heap.size (l.take (i + 1)) 0 (.slice (some ⟨g3, 0, none⟩) (i + 1) cap3)) := hid ⟨_, by
        have e : (l.take (i + 1)).length = i + 1 := by rw [List.length_take]; omega
        rw [e, Nat.add_zero, List.replicate_zero, List.flatten_nil, List.append_nil]; exact HW3.out, by
        have e : l.take (i + 1) = l.take i ++ [l[i]] := by rw [List.take_add_one, List.getElem?_eq_getElem hil]; rfl
        rw [e]
        exact lelems_snoc HG.out.size HX2.out.2 HX2.out.1 HG2.out HV2.out HG3.out HA3.out⟩
      have HGN : Hid (w.grownBy w3 none) := hid (by
        have q := gtrans (gtrans HG.out HG2.out) (galloc w2 (.cells #[.int .i64 c0', .bool c1', .int .i64 c2', .string c3', .slice ka' kn' kc', .slice ia' il' ic'] 26) none)
        exact q.andThen HG3.out (fun j hj => .inl (HX2.out.2.lt j hj).1))
      go_roundw
      case rel => exact ⟨i + 1, by go_num, by omega, HN3, HGN⟩
      case measure => simp [intOf]; omega
    · have hlt' : ¬ (i : Int) < (n : Int) := by omega
      have hin : i = n := by omega
      have HO2 : Hid (LOwn u5 w.heap.size l 0 (.slice sa n sc)) := hid (by
        have := HO.out
        rw [hin, List.take_of_length_le (by rw [HN.out]; omega)] at this
        exact this)
      subst hin
      clear HO
      go_wp2_with fail
      go_loopw [3, 5] (fun sv jv wr => ∃ j : Nat, jv = .int .i64 j ∧ j ≤ 9 ∧ Hid (LOwn wr w.heap.size l j sv) ∧ Hid (w.grownBy wr none)) (fun _ jv _ => 9 - (intOf jv).toNat)
      case atStart => exact ⟨0, rfl, Nat.zero_le _, HO2, HG⟩
      case round =>
        clear HO2 HG
        obtain ⟨j, rfl, hj, HO, HG⟩ := hrel
        obtain ⟨u6, hu6⟩ : ∃ x : World, x = wr := ⟨_, rfl⟩
        rw [← hu6] at HO HG ⊢
        clear hu6
        obtain ⟨sa2, sc2, hsv⟩ := HO.out.len
        rw [HN.out] at hsv
        subst hsv
        by_cases hlj : j < 9
        · have hlj' : (j : Int) < 9 := by omega
          obtain ⟨xs, q1, q2⟩ := HO.out
          rw [HN.out] at q1
          have HX2 : Hid (LElems u6 (fun g => w.heap.size ≤ g ∧ some g ≠ (Value.slice sa2 (i + j) sc2).ownBlock) l xs ∧ u6.ownsRow w.heap.size 26 6 (.slice sa2 (i + j) sc2) (i + j) (xs ++ (List.replicate j mk6).flatten)) := hid ⟨q2, q1⟩
          have HQ2 : Hid ((u6.alloc (.cells mk6.toArray 26)).ownsRow w.heap.size 26 6 (.slice sa2 (i + j) sc2) (i + j) (xs ++ (List.replicate j mk6).flatten)) := hid (own_on q1 (galloc _ _ _))
          have hsz : w.heap.size ≤ u6.heap.size + 1 := by have := HG.out.size; omega
          have HSZ := hid hsz
          clear q1 q2 hsz
          go_wp2_with (at_builtin; refine wpList_append_lies _ rfl _ _ 22 rfl w.heap.size 26 i26 z26 6 88 Tryz.underlying22 hi26 hzz hs26 hb26 hzs (by decide) (.slice sa2 (i + j) sc2) (i + j) (xs ++ (List.replicate j mk6).flatten) rfl HQ2.out ⟨u6.heap.size, 0, none⟩ 1 1 mk6 rfl rfl (news_new u6 mk6.toArray _) (one6 _ _ _ _ _ _ _ _ _ _) (by decide) (by unfold maxLen; omega) (by omega) (by have := HSZ.out; simp; exact this) (u6.heap.size + 1) (by simp) ?_; intro g3 cap3 w3 hown3 hg3 hat3 hlt3; have HW3 := hid hown3; have HG3 := hid hg3; have HA3 := hid hat3; clear hown3 hg3 hat3 hlt3)
          have HN3 : Hid (LOwn w3 w.heap.size l (j + 1) (.slice (some ⟨g3, 0, none⟩) (i + j + 1) cap3)) := hid ⟨xs, by
            have e : (List.replicate (j + 1) mk6).flatten = (List.replicate j mk6).flatten ++ mk6 := by rw [List.replicate_succ', List.flatten_append]; simp
            rw [e, ← List.append_assoc, HN.out, ← Nat.add_assoc]
            exact HW3.out, lelems_more HX2.out.2 HX2.out.1 HG3.out HA3.out⟩
          have HGN : Hid (w.grownBy w3 none) := hid ((gtrans HG.out (galloc u6 (.cells mk6.toArray 26) none)).andThen HG3.out (fun j hj => .inl (HX2.out.2.lt j hj).1))
          go_roundw
          case rel => exact ⟨j + 1, by go_num, by omega, HN3, HGN⟩
          case measure => simp [intOf]; omega
        · have hlj' : ¬ (j : Int) < 9 := by omega
          obtain rfl : j = 9 := by omega
          obtain ⟨xs, q1, q2⟩ := HO.out
          rw [HN.out] at q1
          obtain ⟨g, hve, hgC, hgl, hcap⟩ : ∃ g, sa2 = some ⟨g, 0, none⟩ ∧ w.heap.size ≤ g ∧ g < u6.heap.size ∧ i + 9 ≤ sc2 := by
            rcases q1.2 with ⟨_, h0⟩ | ⟨g, cap, cur, e, hb, hg, h2, _⟩
            · omega
            · injection e with e1 e2 e3
              exact ⟨g, e1, hb, (Array.getElem?_eq_some_iff.1 hg).1, by omega⟩
          subst hve
          have hxl := q2.length
          have HR : Hid (LentR u6 (fun g => w.heap.size ≤ g) l (.slice (some ⟨g, 0, none⟩) i sc2)) := hid (by
            refine ⟨g, sc2, by rw [HN.out], by rw [HN.out]; exact hcap, hgl, hgC, ?_, fun j hj => ?_⟩
            · refine LElems.lies (LElems.kept (F := fun x => w.heap.size ≤ x ∧ some x ≠ (Value.slice (some ⟨g, 0, none⟩) (i + 9) sc2).ownBlock) (Stays.refl _ _) (fun x hx _ => hx.1) q2) (fun j v hj => ?_)
              have := q1.cells (g := g) rfl j v (by rw [List.getElem?_append_left (List.getElem?_eq_some_iff.1 hj).1]; exact hj)
              rw [Addr.add_lit] at this
              exact this
            · intro k v hk
              have hk6 : k < 6 := (List.getElem?_eq_some_iff.1 hk).1
              have := q1.cells (g := g) rfl ((l.length + j) * 6 + k) v (by
                rw [List.getElem?_append_right (by rw [hxl]; omega), hxl, show (l.length + j) * 6 + k - l.length * 6 = j * 6 + k by omega]
                exact flat_mk j hj k v hk)
              rw [Addr.add_lit, Nat.zero_add] at this
              exact this)
          have hic : (i : Int) ≤ (sc2 : Int) := by omega
          have hi0 : ¬ (i : Int) < 0 := by omega
          clear q1 q2 hxl hgC hgl hcap
          go_wp2_with fail
          go_ret
          exact ⟨_, rfl, HR, HG.out⟩
end Go.Proofs.YtdmnhkgiojkphaaGreatDoor

namespace Go.Proofs.YtdmnhkgiojkphaaGreatDoor
open Go Go.RowKit
open Go.RowKit (wrap32 wrap64)

def Z6 : List Value := [.int .i64 0, .bool false, .int .i64 0, .string ⟨#[]⟩, .slice none 0 0, .slice none 0 0]
theorem Tryz.zero26 : (Tryz.prog.info? 26).map (fun i => i.zero) = some (some (.agg Z6.toArray)) := by kernel_rfl
theorem Tryz.size26 : (Tryz.prog.info? 26).map (·.size) = some 6 := by kernel_rfl
theorem LentS.on {w w' : World} {B b : Nat} {ks : List ByteArray} {v : Value} (h : LentS w (fun g => B ≤ g) ks v) (hg : w.grownBy w' (some b)) (hb : b < B) : LentS w' (fun g => B ≤ g) ks v := h.kept (Stays.grown hg (fun g hg' e => by injection e with e; omega)) (fun _ h _ => h)
theorem LentS.keep {w w' : World} {B : Nat} {ks : List ByteArray} {v : Value} (h : LentS w (fun g => B ≤ g) ks v) (hg : w.grownBy w' none) : LentS w' (fun g => B ≤ g) ks v := h.kept (Stays.none hg) (fun _ h _ => h)
theorem LentR.on {w w' : World} {B b : Nat} {l : List Tree} {v : Value} (h : LentR w (fun g => B ≤ g) l v) (hg : w.grownBy w' (some b)) (hb : b < B) : LentR w' (fun g => B ≤ g) l v := h.kept (Stays.grown hg (fun g hg' e => by injection e with e; omega)) (fun _ h _ => h)
set_option maxRecDepth 100000 in
set_option maxHeartbeats 4000000 in
theorem lendValue_any : ∀ m, m ≤ 1099511627776 → LendOk m
  | 0, _, t, ht, w, F, v, hv => by rw [cntT_eq] at ht; omega
  | m + 1, hm, t, ht, w, F, v, hv => by
    obtain ⟨kv, iv, rfl, hk, hi⟩ := RdT_split hv
    have HSt : Hid (∀ u, w.grownBy u none → Calls Tryz.prog 37 #[kv] u fun e w' => ∃ v', e = .returned v' ∧ LentS w' (fun g => u.heap.size ≤ g) t.keys v' ∧ u.grownBy w' none) := hid (fun u hu => lendTexts_any t.keys u F kv (hk.kept (Stays.none hu) (fun _ h _ => h)) (by have := keyN_length t.keys; rw [cntT_eq] at ht; omega))
    have HVs : Hid (∀ u, w.grownBy u none → Calls Tryz.prog 38 #[iv] u fun e w' => ∃ v', e = .returned v' ∧ Hid (LentR w' (fun g => u.heap.size ≤ g) t.items v') ∧ u.grownBy w' none) := hid (fun u hu => lendValues_any m (by omega) (lendValue_any m (by omega)) t.items (by rw [cntT_eq] at ht; omega) u F iv (hi.on (Stays.none hu)))
    obtain ⟨ka, kc, rfl, -, -⟩ := hk
    obtain ⟨ia, ic, rfl, -, -⟩ := hi
    obtain ⟨K, HK⟩ : ∃ z, Hid (t.kind = z) := ⟨_, hid rfl⟩
    obtain ⟨f, Hf⟩ : ∃ z, Hid (t.flag = z) := ⟨_, hid rfl⟩
    obtain ⟨N, HN⟩ : ∃ z, Hid (t.n = z) := ⟨_, hid rfl⟩
    obtain ⟨X, HX⟩ : ∃ z, Hid (t.text = z) := ⟨_, hid rfl⟩
    obtain ⟨kn, Hkn⟩ : ∃ z, Hid (t.keys.length = z) := ⟨_, hid rfl⟩
    obtain ⟨il, Hil⟩ : ∃ z, Hid (t.items.length = z) := ⟨_, hid rfl⟩
    rw [HK.out, Hf.out, HN.out, HX.out, Hkn.out, Hil.out]
    rw [Hkn.out] at HSt
    rw [Hil.out] at HVs
    clear hv ht hm
    go_enter Tryz.func10, Tryz.ntmps10
    go_upto_region 1 with (first
      | ((with_reducible refine wpList_box_row (by with_unfolding_all rfl) 26 _ (by with_unfolding_all rfl) [.int .i64 K, .bool f, .int .i64 N, .string X, .slice ka kn kc, .slice ia il ic] (by with_unfolding_all rfl) ?_); intro w1 B1 s1 g1; have HB1 := hid B1; have HG1 := hid g1; clear B1 s1 g1)
      | ((with_reducible refine wpList_alloc_row (by with_unfolding_all rfl) 26 (by with_unfolding_all rfl) Z6 Tryz.zero26 ?_); intro w2 B2 s2 g2; have HB2 := hid B2; have HG2 := hid (gtrans HG1.out g2); have HL2 : Hid (w.heap.size < w1.heap.size) := hid HB1.out.lt; replace HB1 := hid (HB1.out.keep g2); clear B2 s2 g2))
    obtain ⟨b1, hb1⟩ : ∃ z, w.heap.size = z := ⟨_, rfl⟩
    have HW := hid hb1
    rw [hb1] at HB1 HL2 ⊢
    clear hb1
    obtain ⟨b2, hb2⟩ : ∃ z, w1.heap.size = z := ⟨_, rfl⟩
    rw [hb2] at HB2 HL2 ⊢
    clear hb2 HG1
    go_upto_region 2 with (first
      | ((with_reducible refine wpList_store_all (by with_unfolding_all rfl) 26 _ _ (by with_unfolding_all rfl) w2.heap.size Z6 [.int .i64 K, .bool f, .int .i64 N, .string X, .slice ka kn kc, .slice ia il ic] 26 (by with_unfolding_all rfl) (by with_unfolding_all rfl) HB3.out (by with_unfolding_all rfl) (by with_unfolding_all exact Tryz.size26) (one6 _ _ _ _ _ _ _ _ _ _) ?_); intro w4 B4 g4 s4; have HB4 := hid B4; have HG4 : Hid (w3.grownBy w4 (some w2.heap.size)) := hid g4; clear B4 g4 s4)
      | ((with_reducible refine wpList_alloc_row (by with_unfolding_all rfl) 26 (by with_unfolding_all rfl) Z6 Tryz.zero26 ?_); intro w3 B3 s3 g3; have HB3 := hid B3; have HG3 := hid g3; clear B3 s3 g3)
      | (with_reducible refine wpList_load_part (by with_unfolding_all rfl) 26 _ (by with_unfolding_all rfl) b1 0 [.int .i64 K, .bool f, .int .i64 N, .string X, .slice ka kn kc, .slice ia il ic] _ (by with_unfolding_all rfl) HB1.out.whole Tryz.underlying26 (by with_unfolding_all rfl) (by with_unfolding_all exact Tryz.size26) ?_))
    obtain ⟨b3, hb3⟩ : ∃ z, w2.heap.size = z := ⟨_, rfl⟩
    have HL3 : Hid (b2 < b3) := hid (by rw [← hb3]; exact HB2.out.lt)
    rw [hb3] at HB4 HG4 ⊢
    have HS2 := hid hb3
    clear hb3 HB3
    have HLL : Hid (b1 < b2 ∧ b2 < b3) := hid ⟨HL2.out, HL3.out⟩
    clear HL2 HL3
    have HG04 : Hid (w.grownBy w4 none) := hid ((gtrans HG2.out HG3.out).andThen HG4.out (fun j hj => .inl (by injection hj with hj; have := HLL.out; have := HW.out; omega)))
    have HC1 : Hid (Blk w4 b1 [.int .i64 K, .bool f, .int .i64 N, .string X, .slice ka kn kc, .slice ia il ic] 26) := hid ((HB1.out.keep HG3.out).on HG4.out (by intro e; injection e with e; have := HLL.out; omega))
    have HC2 : Hid (Blk w4 b2 Z6 26) := hid ((HB2.out.keep HG3.out).on HG4.out (by intro e; injection e with e; have := HLL.out; omega))
    clear HB1 HB2 HG2 HG3 HG4 HS2
    have HL4 : Hid (b3 < w4.heap.size) := hid HB4.out.lt
    have c4 : w4.cell? ⟨b1, 4, none⟩ = some (.slice ka kn kc) := HC1.out.cell 4
    have HSt4 := hid (HSt.out w4 HG04.out)
    clear HSt
    go_upto_region 3 with (go_at_call 37; (with_reducible refine HSt4.out.mono ?_); rintro e w5 ⟨v5, rfl, ho5, hg5⟩; have HO5 := hid ho5; have HG5 := hid hg5; obtain ⟨kg', kc', e5, -⟩ := id ho5; rw [Hkn.out] at e5; subst e5; have k4 : w5.cell? ⟨b3, 4, none⟩ = some (.slice ka kn kc) := (HB4.out.keep hg5).cell 4; have f4 := (HB4.out.keep hg5).frozen 4; clear ho5 hg5)
    have HB5 : Hid (Blk (w5.setCell ⟨b3, 4, none⟩ (.slice (some ⟨kg', 0, none⟩) kn kc')) b3 [.int .i64 K, .bool f, .int .i64 N, .string X, .slice (some ⟨kg', 0, none⟩) kn kc', .slice ia il ic] 26) := hid ((HB4.out.keep HG5.out).set 4 (.slice (some ⟨kg', 0, none⟩) kn kc'))
    have HG6 : Hid (w5.grownBy (w5.setCell ⟨b3, 4, none⟩ (.slice (some ⟨kg', 0, none⟩) kn kc')) (some b3)) := hid (gset w5 ⟨b3, 4, none⟩ (.slice (some ⟨kg', 0, none⟩) kn kc'))
    obtain ⟨w6, hw6⟩ : ∃ z, w5.setCell ⟨b3, 4, none⟩ (.slice (some ⟨kg', 0, none⟩) kn kc') = z := ⟨_, rfl⟩
    rw [hw6] at HB5 HG6 ⊢
    clear hw6 k4 f4 c4 HB4 HSt4
    have HG06 : Hid (w.grownBy w6 none) := hid ((gtrans HG04.out HG5.out).andThen HG6.out (fun j hj => .inl (by injection hj with hj; have := HLL.out; have := HW.out; omega)))
    have HD1 : Hid (Blk w6 b1 [.int .i64 K, .bool f, .int .i64 N, .string X, .slice ka kn kc, .slice ia il ic] 26) := hid ((HC1.out.keep HG5.out).on HG6.out (by intro e; injection e with e; have := HLL.out; omega))
    have HD2 : Hid (Blk w6 b2 Z6 26) := hid ((HC2.out.keep HG5.out).on HG6.out (by intro e; injection e with e; have := HLL.out; omega))
    have HP6 : Hid (LentS w6 (fun g => w4.heap.size ≤ g) t.keys (.slice (some ⟨kg', 0, none⟩) kn kc')) := hid (HO5.out.on HG6.out HL4.out)
    have HL5 : Hid (w.heap.size ≤ w4.heap.size) := hid HG04.out.size
    clear HC1 HC2 HO5 HG6 HG5 HG04
    have c5 : w6.cell? ⟨b1, 5, none⟩ = some (.slice ia il ic) := HD1.out.cell 5
    have HV6 := hid (HVs.out w6 HG06.out)
    have HL7 : Hid (b3 < w6.heap.size) := hid HB5.out.lt
    clear HVs
    go_upto_region 4 with (go_at_call 38; (with_reducible refine HV6.out.mono ?_); rintro e w7 ⟨v7, rfl, ho7, hg7⟩; have HO7 := ho7; have HG7 := hid hg7; obtain ⟨ig', ic', e7, -⟩ := id ho7.out; rw [Hil.out] at e7; subst e7; have k5 : w7.cell? ⟨b3, 5, none⟩ = some (.slice ia il ic) := (HB5.out.keep hg7).cell 5; have f5 := (HB5.out.keep hg7).frozen 5; clear ho7 hg7)
    have HB8 : Hid (Blk (w7.setCell ⟨b3, 5, none⟩ (.slice (some ⟨ig', 0, none⟩) il ic')) b3 [.int .i64 K, .bool f, .int .i64 N, .string X, .slice (some ⟨kg', 0, none⟩) kn kc', .slice (some ⟨ig', 0, none⟩) il ic'] 26) := hid ((HB5.out.keep HG7.out).set 5 (.slice (some ⟨ig', 0, none⟩) il ic'))
    have HG8 : Hid (w7.grownBy (w7.setCell ⟨b3, 5, none⟩ (.slice (some ⟨ig', 0, none⟩) il ic')) (some b3)) := hid (gset w7 ⟨b3, 5, none⟩ (.slice (some ⟨ig', 0, none⟩) il ic'))
    obtain ⟨w8, hw8⟩ : ∃ z, w7.setCell ⟨b3, 5, none⟩ (.slice (some ⟨ig', 0, none⟩) il ic') = z := ⟨_, rfl⟩
    rw [hw8] at HB8 HG8 ⊢
    clear hw8 k5 f5 c5 HB5 HV6
    have HE2 : Hid (Blk w8 b2 Z6 26) := hid ((HD2.out.keep HG7.out).on HG8.out (by intro e; injection e with e; have := HLL.out; omega))
    have HG08 : Hid (w.grownBy w8 none) := hid ((gtrans HG06.out HG7.out).andThen HG8.out (fun j hj => .inl (by injection hj with hj; have := HLL.out; have := HW.out; omega)))
    have HP8 : Hid (LentS w8 (fun g => w4.heap.size ≤ g) t.keys (.slice (some ⟨kg', 0, none⟩) kn kc')) := hid ((HP6.out.keep HG7.out).on HG8.out HL4.out)
    have HI8 : Hid (LentR w8 (fun g => w6.heap.size ≤ g) t.items (.slice (some ⟨ig', 0, none⟩) il ic')) := hid (HO7.out.on HG8.out HL7.out)
    have HL6 : Hid (w.heap.size ≤ w6.heap.size) := hid HG06.out.size
    clear HP6 HO7 HG7 HG8 HG06 HD1 HD2
    go_wp2_with (first
      | ((with_reducible refine wpList_store_all (by with_unfolding_all rfl) 26 _ _ (by with_unfolding_all rfl) b2 Z6 [.int .i64 K, .bool f, .int .i64 N, .string X, .slice (some ⟨kg', 0, none⟩) kn kc', .slice (some ⟨ig', 0, none⟩) il ic'] 26 (by with_unfolding_all rfl) (by with_unfolding_all rfl) HE2.out (by with_unfolding_all rfl) (by with_unfolding_all exact Tryz.size26) (one6 _ _ _ _ _ _ _ _ _ _) ?_); intro w9 B9 g9 s9; have HB9 := hid B9; have HG9 := hid g9; clear B9 g9 s9)
      | (with_reducible refine wpList_load_part (by with_unfolding_all rfl) 26 _ (by with_unfolding_all rfl) b3 0 [.int .i64 K, .bool f, .int .i64 N, .string X, .slice (some ⟨kg', 0, none⟩) kn kc', .slice (some ⟨ig', 0, none⟩) il ic'] _ (by with_unfolding_all rfl) HB8.out.whole Tryz.underlying26 (by with_unfolding_all rfl) (by with_unfolding_all exact Tryz.size26) ?_))
    refine bodyPost_ret (results_blk rfl _ b2 26 [.int .i64 K, .bool f, .int .i64 N, .string X, .slice (some ⟨kg', 0, none⟩) kn kc', .slice (some ⟨ig', 0, none⟩) il ic'] _ rfl HB9.out Tryz.underlying26 rfl Tryz.size26) rfl ?_
    have hb2 : b2 < w4.heap.size ∧ b2 < w6.heap.size := by have := HLL.out; have := HL4.out; have := HL7.out; omega
    refine ⟨_, rfl, ?_, HG08.out.andThen HG9.out (fun j hj => .inl (by injection hj with hj; have := HLL.out; have := HW.out; omega))⟩
    refine hid ((LentT_eq _ _ _ _).2 ⟨.slice (some ⟨kg', 0, none⟩) kn kc', .slice (some ⟨ig', 0, none⟩) il ic', ?_, (HP8.out.on HG9.out hb2.1).kept (Stays.refl _ _) (fun g hg _ => Nat.le_trans HL5.out hg), (HI8.out.on HG9.out hb2.2).kept (Stays.refl _ _) (fun g hg _ => Nat.le_trans HL6.out hg)⟩)
    rw [HK.out, Hf.out, HN.out, HX.out]
end Go.Proofs.YtdmnhkgiojkphaaGreatDoor
