/- Find, walked, of any tree. -/
import Derived.Test.YtdmnhkgiojkphaaGreatDoorClE
import Derived.Test.YtdmnhkgiojkphaaGreatDoorX26
namespace Go.Proofs.YtdmnhkgiojkphaaGreatDoor
open Go Go.RowKit
open Go.RowKit (wrap32 wrap64)

theorem results_blk_tmp {P : Program} {w : World} {fn : Func} {p q : Tmp} {ty : TypeId} (h : fn.results = #[.cell p ty, .tmp q]) (tmps : Array Value) (b : Nat) (t : TypeId) (cs : List Value) (d : TypeDesc) (v : Value)
    (hp : tmps.getD p undef = .pointer (some ⟨b, 0, none⟩)) (hq : tmps.getD q undef = v) (hb : Blk w b cs t) (hu : P.underlying ty = some d) (hd : d.isRow = true) (hi : (P.info? ty).map (·.size) = some cs.length) :
    (results fn tmps).run P w = .ok (.tuple #[.agg cs.toArray, v]) w := by
  rw [results_cell_tmp h, hp, hq]
  have ha : (asAddr (.pointer (some ⟨b, 0, none⟩))).run P w = .ok ⟨b, 0, none⟩ w := rfl
  rw [ha, Result.andThen_ok, run_loadVar_mid w b 0 ty cs d hb.whole hu hd hi]
  rfl
theorem built26 : Tryz.prog.built 26 [] = some Z6.toArray := by kernel_rfl
theorem one_Z6 : ∀ u ∈ Z6, u.oneCell' = true := one6 _ _ _ _ _ _ _ _ _ _
theorem idxFrom_lt (x : ByteArray) : ∀ (zs : List ByteArray) (i : Nat), 0 ≤ Lib.idxFromS zs x i → ∃ k, Lib.idxFromS zs x i = ((i + k : Nat) : Int) ∧ k < zs.length
  | [], i, h => by simp [Lib.idxFromS] at h
  | z :: zs, i, h => by
    unfold Lib.idxFromS at h ⊢
    by_cases hz : z = x
    · rw [if_pos hz]; exact ⟨0, by omega, by simp⟩
    · rw [if_neg hz] at h ⊢
      obtain ⟨k, h1, h2⟩ := idxFrom_lt x zs (i + 1) h
      exact ⟨k + 1, by rw [h1]; omega, by simp; omega⟩
theorem idx_lt {zs : List ByteArray} {x : ByteArray} (h : ¬ Lib.idxOfS zs x < 0) : ∃ k : Nat, Lib.idxOfS zs x = (k : Int) ∧ k < zs.length := by
  obtain ⟨k, h1, h2⟩ := idxFrom_lt x zs 0 (Int.not_lt.1 h)
  exact ⟨k, by unfold Lib.idxOfS; rw [h1]; omega, h2⟩
/-- A whole value with keys has as many items. -/
theorem keys_items {t : Tree} (h : checkT t 0 = 0) (hk : t.keys.length ≠ 0) : t.keys.length = t.items.length := by
  have h1 := (check_one h).1
  unfold oneE at h1
  split at h1
  · exact absurd h1 (by decide)
  · split at h1
    · exact absurd h1 (by decide)
    · rename_i h2 h3
      split at h1
      · exact absurd h1 (by decide)
      · split at h1
        · exact absurd h1 (by decide)
        · rename_i h4 h5
          have hs : spareB t = true := by
            cases hsp : spareB t
            · exact absurd (by simp [hsp]) h3
            · rfl
          have h6 : t.kind = 6 := by
            unfold spareB at hs
            simp only [Bool.and_eq_true, Bool.or_eq_true, beq_iff_eq] at hs
            rcases hs.1.2 with e | e
            · exact absurd e hk
            · exact e
          have hf : keysFit t = true := by
            cases hsp : keysFit t
            · exact absurd (by simp [hsp, h6]) h5
            · rfl
          unfold keysFit at hf
          simp only [Bool.and_eq_true, beq_iff_eq] at hf
          exact hf.1
/-- What Find finds. -/
def findI (t : Tree) (x : ByteArray) : Option Tree := if Lib.idxOfS t.keys x < 0 ∨ checkT t 0 ≠ 0 then none else t.items[(Lib.idxOfS t.keys x).toNat]?
set_option maxRecDepth 100000 in
set_option maxHeartbeats 8000000 in
theorem find_any (t : Tree) (hn : cntT t ≤ 1099511627776) (key : ByteArray) (w : World) (F : Nat → Prop) (v : Value) (hv : RdT w F t v) (hG : Glob w) :
    Calls Tryz.prog 30 #[v, .string key] w fun e w' => w.grownBy w' none ∧ ((findI t key = none ∧ e = .returned (.tuple #[.agg Z6.toArray, .bool false])) ∨ ∃ x v', findI t key = some x ∧ e = .returned (.tuple #[v', .bool true]) ∧ RdT w' (fun g => w.heap.size ≤ g) x v') := by
  have HCk0 : Hid (∀ u, w.grownBy u none → Calls Tryz.prog 15 #[v] u fun e w' => e = .returned (.int .i64 (checkT t 0)) ∧ u.grownBy w' none) := hid (fun u hu => checkF_any t hn u F v (hv.on (Stays.none hu)) (hG.grown hu (fun k hk => by cases hk)))
  obtain ⟨kv0, iv0, rfl, hk, hi⟩ := RdT_split hv
  obtain ⟨ka, kc, rfl⟩ := hk.slice
  have hkb : t.keys.length ≤ 1099511627776 := by have := keyN_length t.keys; rw [cntT_eq] at hn; omega
  have hib : t.items.length ≤ 1099511627776 := by have := cntL_length t.items; rw [cntT_eq] at hn; omega
  have HIx : Hid (∀ u, w.grownBy u none → Calls Tryz.prog 61 #[.slice ka t.keys.length kc, .string key] u fun e w' => e = .returned (.int .i64 (Lib.idxOfS t.keys key)) ∧ w' = u) := hid (fun u hu => by
    by_cases h0 : t.keys.length = 0
    · have := List.length_eq_zero_iff.1 h0
      rw [this]
      exact Tryz.slices_Index_string_empty ka kc key u
    · obtain ⟨b, o, e, _, h⟩ := hk.atS 0 (by omega)
      subst e
      have := Tryz.slices_Index_string b o t.keys.length kc t.keys key u (Nat.le_refl _) (by omega) (fun j hj => by
        obtain ⟨b', o', e', _, h'⟩ := hk.atS j hj
        injection e' with e'
        injection e' with e1 e2
        rw [e1, e2, h' u hu]; simp [List.getD, List.getElem?_eq_getElem hj])
      rwa [List.take_length] at this)
  have HIat : Hid (∀ i (hi : i < t.items.length), ∃ (ia : Option Addr) (ic b o : Nat) (V6 : List Value), iv0 = .slice ia t.items.length ic ∧ ia = some ⟨b, o, none⟩ ∧ V6.length = 6 ∧ ∀ u : World, w.grownBy u none → u.rangeAt b (o + i * 6) V6 ∧ RdT u F t.items[i] (.agg V6.toArray)) := hid (fun i hi' => by
    obtain ⟨ia, ic, rfl, hic, hir⟩ := hi
    obtain ⟨b, o, e, hb, hFb, hrv⟩ := hir (by omega)
    obtain ⟨ds, h4, h5, h6⟩ := RdIs.row t.items hrv i hi'
    exact ⟨ia, ic, b, o, ds, rfl, e, h4, fun u hu => ⟨range_grown h5 hu hb, h6.on (Stays.none hu)⟩⟩)
  obtain ⟨ia, ic, rfl⟩ : ∃ ia ic, iv0 = .slice ia t.items.length ic := by obtain ⟨ia, ic, rfl, _⟩ := hi; exact ⟨ia, ic, rfl⟩
  have HLen : Hid (∀ m : Nat, checkT t 0 = 0 → m < t.keys.length → m < t.items.length) := hid (fun m h hm => by have := keys_items h (by omega); omega)
  have HClA : Hid (∀ i (hi : i < t.items.length) (u : World) (v : Value), RdT u F t.items[i] v → Calls Tryz.prog 62 #[v] u fun e w' => ∃ v', e = .returned v' ∧ RdT w' (fun g => u.heap.size ≤ g) t.items[i] v' ∧ u.grownBy w' none) := hid (fun i hi u v hr => cloneT_any _ (Nat.le_refl _) t.items[i] (by have := cntL_mem (List.getElem_mem hi); rw [cntT_eq] at hn; omega) u F v hr)
  obtain ⟨I, HI⟩ : ∃ z, Hid (Lib.idxOfS t.keys key = z) := ⟨_, hid rfl⟩
  obtain ⟨E, HE⟩ : ∃ z, Hid (checkT t 0 = z) := ⟨_, hid rfl⟩
  have HFd : Hid (findI t key = if I < 0 ∨ E ≠ 0 then none else t.items[I.toNat]?) := hid (by unfold findI; rw [HI.out, HE.out])
  have HIk : Hid (¬ I < 0 → ∃ k : Nat, I = (k : Int) ∧ k < t.keys.length) := hid (fun h => by have := idx_lt (zs := t.keys) (x := key) (by rw [HI.out]; exact h); rw [HI.out] at this; exact this)
  rw [HI.out] at HIx
  rw [HE.out] at HCk0 HLen
  obtain ⟨K, HK⟩ : ∃ z, Hid (t.kind = z) := ⟨_, hid rfl⟩
  obtain ⟨f, Hf⟩ : ∃ z, Hid (t.flag = z) := ⟨_, hid rfl⟩
  obtain ⟨N, HN⟩ : ∃ z, Hid (t.n = z) := ⟨_, hid rfl⟩
  obtain ⟨X, HX⟩ : ∃ z, Hid (t.text = z) := ⟨_, hid rfl⟩
  obtain ⟨L, HL⟩ : ∃ z, Hid (t.items = z) := ⟨_, hid rfl⟩
  obtain ⟨kn, Hkn⟩ : ∃ z, Hid (t.keys.length = z) := ⟨_, hid rfl⟩
  obtain ⟨FI, HFI⟩ : ∃ z, Hid (findI t key = z) := ⟨_, hid rfl⟩
  rw [HL.out] at HIat HLen HClA HFd hib HCk0 ⊢
  rw [Hkn.out] at HIx HIk HLen HCk0 hkb ⊢
  rw [HFI.out] at HFd ⊢
  rw [HK.out, Hf.out, HN.out, HX.out] at HCk0 ⊢
  obtain ⟨il, Hil⟩ : ∃ z, Hid (L.length = z) := ⟨_, hid rfl⟩
  have HCk := HCk0
  rw [Hil.out] at HCk hib ⊢
  clear hv hn hk hi HI HE HK Hf HN HX HL HFI HCk0 hG
  by_cases hI : I < 0
  · have HFi : Hid (FI = none) := hid (by rw [HFd.out, if_pos (.inl hI)])
    clear HFd HIat HClA HLen HIk
    go_enter Tryz.func30, Tryz.ntmps30
    go_wp2_with (first
      | ((with_reducible refine wpList_box_row (by with_unfolding_all rfl) 26 _ (by with_unfolding_all rfl) [.int .i64 K, .bool f, .int .i64 N, .string X, .slice ka kn kc, .slice ia il ic] (by with_unfolding_all rfl) ?_); intro w1 B1 s1 g1; have HB1 := hid B1; have HG1 := hid g1; clear B1 s1 g1)
      | ((with_reducible refine wpList_alloc_row (by with_unfolding_all rfl) 26 (by with_unfolding_all rfl) Z6 Tryz.zero26 ?_); intro w2 B2 s2 g2; have HB2 := hid B2; have HR2 := hid (HB1.out.keep g2); have HG2 := hid (gtrans HG1.out g2); have y0 := HR2.out.cell 0; have y1 := HR2.out.cell 1; have y2 := HR2.out.cell 2; have y3 := HR2.out.cell 3; have y4 := HR2.out.cell 4; have y5 := HR2.out.cell 5; clear B2 s2 g2)
      | (go_at_call 61; (with_reducible refine (HIx.out _ HG2.out).mono ?_); rintro e w61 ⟨rfl, rfl⟩)
      | (with_reducible refine wpList_build_row (by with_unfolding_all rfl) 26 (by with_unfolding_all rfl) Z6 built26 ?_)
      | ((with_reducible refine wpList_store_all (by with_unfolding_all rfl) 26 _ _ (by with_unfolding_all rfl) w1.heap.size Z6 Z6 26 (by with_unfolding_all rfl) (by with_unfolding_all rfl) HB2.out (by with_unfolding_all rfl) (by with_unfolding_all exact Tryz.size26) one_Z6 ?_); intro w4 B4 g4 s4; have HB4 := hid B4; have HG4 := hid (HG2.out.andThen g4 (fun j hj => .inl (by injection hj with hj; have := HG1.out.size; omega))); have HS4 := hid g4; clear B4 g4 s4))
    refine bodyPost_ret (v := .tuple #[.agg Z6.toArray, .bool false]) (results_blk_tmp rfl _ w1.heap.size 26 Z6 _ (.bool false) rfl rfl HB4.out Tryz.underlying26 rfl Tryz.size26) rfl ?_
    exact ⟨HG4.out, .inl ⟨HFi.out, rfl⟩⟩
  by_cases hE : E = 0
  · obtain ⟨m, rfl, hmk⟩ := HIk.out hI
    have hml : m < L.length := HLen.out m hE hmk
    obtain ⟨ia', ic', gi, oi, IT, e1, e2, hI6, hIc⟩ := HIat.out m hml
    rw [Hil.out] at e1
    injection e1 with e1 _ e3
    subst e2
    subst e1
    clear e3
    have HFi : Hid (FI = some L[m]) := hid (by rw [HFd.out, if_neg (by rintro (h | h); exact hI h; exact h hE), Int.toNat_natCast, List.getElem?_eq_getElem hml])
    have HI6 := hid hI6
    have HIc := hid hIc
    have HCl : Hid (∀ u, w.grownBy u none → Calls Tryz.prog 62 #[.agg IT.toArray] u fun e w' => ∃ p1 p2 p3 p4 ya yn yc za zn zc, e = .returned (.agg #[.int .i64 p1, .bool p2, .int .i64 p3, .string p4, .slice ya yn yc, .slice za zn zc]) ∧ RdT w' (fun g => u.heap.size ≤ g) L[m] (.agg #[.int .i64 p1, .bool p2, .int .i64 p3, .string p4, .slice ya yn yc, .slice za zn zc]) ∧ u.grownBy w' none) := hid (fun u hu => (HClA.out m hml u _ (hIc u hu).2).mono (by
      rintro e w' ⟨v', rfl, hr, hg⟩
      obtain ⟨ya, yn, yc, za, zn, zc, e⟩ := RdT_six hr
      subst e
      exact ⟨_, _, _, _, ya, yn, yc, za, zn, zc, rfl, hr, hg⟩))
    have hmi : m < il := by rw [← Hil.out]; exact hml
    obtain ⟨tm, Htm⟩ : ∃ z, Hid (L[m] = z) := ⟨_, hid rfl⟩
    rw [Htm.out] at HFi HCl HIc
    clear hI6 hIc HFd HIat HClA HLen HIk hml Htm
    subst hE
    go_enter Tryz.func30, Tryz.ntmps30
    go_wp2_with (first
      | ((with_reducible refine wpList_box_row (by with_unfolding_all rfl) 26 _ (by with_unfolding_all rfl) [.int .i64 K, .bool f, .int .i64 N, .string X, .slice ka kn kc, .slice (some ⟨gi, oi, none⟩) il ic] (by with_unfolding_all rfl) ?_); intro w1 B1 s1 g1; have HB1 := hid B1; have HG1 := hid g1; clear B1 s1 g1)
      | ((with_reducible refine wpList_alloc_row (by with_unfolding_all rfl) 26 (by with_unfolding_all rfl) Z6 Tryz.zero26 ?_); intro w2 B2 s2 g2; have HB2 := hid B2; have HR2 := hid (HB1.out.keep g2); have HG2 := hid (gtrans HG1.out g2); have y0 := HR2.out.cell 0; have y1 := HR2.out.cell 1; have y2 := HR2.out.cell 2; have y3 := HR2.out.cell 3; have y4 := HR2.out.cell 4; have y5 := HR2.out.cell 5; clear B2 s2 g2)
      | (go_at_call 61; (with_reducible refine (HIx.out _ HG2.out).mono ?_); rintro e w61 ⟨rfl, rfl⟩)
      | (go_at_call 15; (with_reducible refine (HCk.out _ HG2.out).mono ?_); rintro e w3 ⟨rfl, hg3⟩; have HB3 := hid (HB2.out.keep hg3); have HG3 := hid (gtrans HG2.out hg3); have HR3 := hid (HR2.out.keep hg3); have z5 := HR3.out.cell 5; clear hg3)
      | (with_reducible refine wpList_load_part (by with_unfolding_all rfl) 26 _ (by with_unfolding_all rfl) gi (oi + m * 6) IT _ (by with_unfolding_all rfl) (HIc.out _ HG3.out).1 Tryz.underlying26 (by with_unfolding_all rfl) (by rw [HI6.out]; exact Tryz.size26) ?_)
      | (go_at_call 62; (with_reducible refine (HCl.out _ HG3.out).mono ?_); rintro e w5 ⟨p1, p2, p3, p4, ya, yn, yc, za, zn, zc, rfl, hr5, hg5⟩; have HB5 := hid (HB3.out.keep hg5); have HG5 := hid (gtrans HG3.out hg5); have HR5 := hid hr5; clear hr5 hg5)
      | ((with_reducible refine wpList_store_all (by with_unfolding_all rfl) 26 _ _ (by with_unfolding_all rfl) w1.heap.size Z6 [.int .i64 p1, .bool p2, .int .i64 p3, .string p4, .slice ya yn yc, .slice za zn zc] 26 (by with_unfolding_all rfl) (by with_unfolding_all rfl) HB5.out (by with_unfolding_all rfl) (by with_unfolding_all exact Tryz.size26) (one6 _ _ _ _ _ _ _ _ _ _) ?_); intro w4 B4 g4 s4; have HB4 := hid B4; have HG4 := hid (HG5.out.andThen g4 (fun j hj => .inl (by injection hj with hj; have := HG1.out.size; omega))); have HS4 := hid g4; clear B4 g4 s4))
    refine bodyPost_ret (v := .tuple #[.agg ([.int .i64 p1, .bool p2, .int .i64 p3, .string p4, .slice ya yn yc, .slice za zn zc] : List Value).toArray, .bool true]) (results_blk_tmp rfl _ w1.heap.size 26 [.int .i64 p1, .bool p2, .int .i64 p3, .string p4, .slice ya yn yc, .slice za zn zc] _ (.bool true) rfl rfl HB4.out Tryz.underlying26 rfl Tryz.size26) rfl ?_
    refine ⟨HG4.out, .inr ⟨_, _, HFi.out, rfl, ?_⟩⟩
    refine RdT.kept (F := fun g => w3.heap.size ≤ g) (F' := fun g => w.heap.size ≤ g) (Stays.grown HS4.out (fun g hg e => by injection e with e; have := HB3.out.lt; omega)) (fun g hg _ => by have := HG3.out.size; omega) _ HR5.out
  · have HFi : Hid (FI = none) := hid (by rw [HFd.out, if_pos (.inr hE)])
    have heb : (E != 0) = true := by simpa using hE
    clear HFd HIat HClA HLen HIk
    go_enter Tryz.func30, Tryz.ntmps30
    go_wp2_with (first
      | ((with_reducible refine wpList_box_row (by with_unfolding_all rfl) 26 _ (by with_unfolding_all rfl) [.int .i64 K, .bool f, .int .i64 N, .string X, .slice ka kn kc, .slice ia il ic] (by with_unfolding_all rfl) ?_); intro w1 B1 s1 g1; have HB1 := hid B1; have HG1 := hid g1; clear B1 s1 g1)
      | ((with_reducible refine wpList_alloc_row (by with_unfolding_all rfl) 26 (by with_unfolding_all rfl) Z6 Tryz.zero26 ?_); intro w2 B2 s2 g2; have HB2 := hid B2; have HR2 := hid (HB1.out.keep g2); have HG2 := hid (gtrans HG1.out g2); have y0 := HR2.out.cell 0; have y1 := HR2.out.cell 1; have y2 := HR2.out.cell 2; have y3 := HR2.out.cell 3; have y4 := HR2.out.cell 4; have y5 := HR2.out.cell 5; clear B2 s2 g2)
      | (go_at_call 61; (with_reducible refine (HIx.out _ HG2.out).mono ?_); rintro e w61 ⟨rfl, rfl⟩)
      | (go_at_call 15; (with_reducible refine (HCk.out _ HG2.out).mono ?_); rintro e w3 ⟨rfl, hg3⟩; have HB3 := hid (HB2.out.keep hg3); have HG3 := hid (gtrans HG2.out hg3); have HR3 := hid (HR2.out.keep hg3); have z5 := HR3.out.cell 5; clear hg3)
      | (with_reducible refine wpList_build_row (by with_unfolding_all rfl) 26 (by with_unfolding_all rfl) Z6 built26 ?_)
      | ((with_reducible refine wpList_store_all (by with_unfolding_all rfl) 26 _ _ (by with_unfolding_all rfl) w1.heap.size Z6 Z6 26 (by with_unfolding_all rfl) (by with_unfolding_all rfl) HB3.out (by with_unfolding_all rfl) (by with_unfolding_all exact Tryz.size26) one_Z6 ?_); intro w4 B4 g4 s4; have HB4 := hid B4; have HG4 := hid (HG3.out.andThen g4 (fun j hj => .inl (by injection hj with hj; have := HG1.out.size; omega))); have HS4 := hid g4; clear B4 g4 s4))
    refine bodyPost_ret (v := .tuple #[.agg Z6.toArray, .bool false]) (results_blk_tmp rfl _ w1.heap.size 26 Z6 _ (.bool false) rfl rfl HB4.out Tryz.underlying26 rfl Tryz.size26) rfl ?_
    exact ⟨HG4.out, .inl ⟨HFi.out, rfl⟩⟩
end Go.Proofs.YtdmnhkgiojkphaaGreatDoor

namespace Go.Proofs.YtdmnhkgiojkphaaGreatDoor
open Go Go.RowKit
open Go.RowKit (wrap32 wrap64)

/-- From w to w' no block is written but those of G; new ones may stand behind. -/
structure Moved (G : Nat → Prop) (w w' : World) : Prop where
  os : w'.os = w.os
  tape : w'.tape = w.tape
  output : w'.output = w.output
  size : w.heap.size ≤ w'.heap.size
  block : ∀ k, k < w.heap.size → ¬ G k → w'.heap[k]? = w.heap[k]?
theorem Moved.refl (G : Nat → Prop) (w : World) : Moved G w w := ⟨rfl, rfl, rfl, Nat.le_refl _, fun _ _ _ => rfl⟩
theorem Moved.trans {G H K : Nat → Prop} {a b c : World} (h : Moved G a b) (k : Moved H b c) (e1 : ∀ g, g < a.heap.size → G g → K g) (e2 : ∀ g, g < a.heap.size → H g → K g) : Moved K a c :=
  ⟨k.os.trans h.os, k.tape.trans h.tape, k.output.trans h.output, Nat.le_trans h.size k.size, fun x hx hK =>
    (k.block x (Nat.lt_of_lt_of_le hx h.size) (fun e => hK (e2 x hx e))).trans (h.block x hx (fun e => hK (e1 x hx e)))⟩
theorem Moved.mono {G H : Nat → Prop} {a b : World} (h : Moved G a b) (e : ∀ g, g < a.heap.size → G g → H g) : Moved H a b := h.trans (Moved.refl (fun _ => False) b) e (fun _ _ h => h.elim)
theorem Moved.grown {G : Nat → Prop} {w w' : World} {row : Option Nat} (h : w.grownBy w' row) (hr : ∀ g, row = some g → g < w.heap.size → G g) : Moved G w w' :=
  ⟨h.os, h.tape, h.output, h.size, fun k hk hG => h.block k hk (fun e => hG (hr k e.symm hk))⟩
theorem Moved.stays {G F : Nat → Prop} {w w' : World} (h : Moved G w w') (hF : ∀ g, g < w.heap.size → F g → ¬ G g) : Stays F w w' := ⟨h.size, fun g hg hl => h.block g hl (hF g hl hg)⟩
theorem Moved.below {G : Nat → Prop} {w w' : World} {B : Nat} (h : Moved G w w') (hB : B ≤ w.heap.size) (hG : ∀ g, g < B → ¬ G g) : Below B w w' :=
  ⟨h.os, h.tape, h.output, h.size, fun k hk => h.block k (by omega) (hG k hk)⟩

theorem own_same {w w' : World} {B e z n : Nat} {v : Value} {xs : List Value} (h : w.ownsRow B e z v n xs) (hb : ∀ g, v.ownBlock = some g → g < w.heap.size → w'.heap[g]? = w.heap[g]?) : w'.ownsRow B e z v n xs := by
  refine ⟨h.1, ?_⟩
  rcases h.2 with hn | ⟨g, cap, cur, rfl, hB, hg, rest⟩
  · exact .inl hn
  · exact .inr ⟨g, cap, cur, rfl, hB, (hb g rfl (Array.getElem?_eq_some_iff.1 hg).1).trans hg, rest⟩
theorem own_cut {w : World} {B e z n m c : Nat} {a : Option Addr} {xs : List Value} (h : w.ownsRow B e z (.slice a n c) m xs) : w.ownsRow B e z (.slice a 0 c) 0 [] := by
  refine ⟨by simp, ?_⟩
  rcases h.2 with ⟨h1, _⟩ | ⟨g, cap, cur, hv, hB, hg, hle, hm, hs, ht⟩
  · simp only [Value.slice.injEq] at h1
    obtain ⟨rfl, _, rfl⟩ := h1
    exact .inl ⟨rfl, rfl⟩
  · simp only [Value.slice.injEq] at hv
    obtain ⟨rfl, _, rfl⟩ := hv
    exact .inr ⟨g, c, cur, rfl, hB, hg, Nat.zero_le _, hm, hs, by simp⟩
theorem own_typed {w : World} {B e z n : Nat} {v : Value} {xs : List Value} (h : w.ownsRow B e z v n xs) {g : Nat} (hg : v.ownBlock = some g) : ∃ cur, w.heap[g]? = some (.cells cur e (0, 0)) := by
  rcases h.2 with ⟨rfl, _⟩ | ⟨k, cap, cur, rfl, _, hk, _⟩
  · simp [Value.ownBlock] at hg
  · simp [Value.ownBlock] at hg
    subst hg
    exact ⟨cur, hk⟩
theorem own_ne_blk {w : World} {B e z n : Nat} {v : Value} {xs : List Value} (h : w.ownsRow B e z v n xs) {b : Nat} {cs : List Value} {t : TypeId} (hb : Blk w b cs t) (ht : t ≠ e) : v.ownBlock ≠ some b := by
  intro hg
  obtain ⟨cur, hk⟩ := own_typed h hg
  unfold Blk at hb
  rw [hb] at hk
  injection hk with hk
  injection hk with _ hk
  exact ht hk
theorem own_ne_own {w : World} {B e z n B' e' z' n' : Nat} {v v' : Value} {xs xs' : List Value} (h : w.ownsRow B e z v n xs) (h' : w.ownsRow B' e' z' v' n' xs') (ht : e ≠ e') {g : Nat} (hg : v.ownBlock = some g) : v'.ownBlock ≠ some g := by
  intro hg'
  obtain ⟨cur, hk⟩ := own_typed h hg
  obtain ⟨cur', hk'⟩ := own_typed h' hg'
  rw [hk] at hk'
  injection hk' with hk'
  injection hk' with _ hk'
  exact ht hk'

def nilV : Value := .slice none 0 0
/-- A seat's cells. -/
def SRow (tv vv uv : Value) : List Value := [.slice none 0 0, tv, .slice none 0 0, .slice none 0 0, .slice none 0 0, .slice none 0 0, .slice none 0 0, .slice none 0 0, vv, .slice none 0 0, .slice none 0 0, .slice none 0 0, .slice none 0 0, uv]
def ptrs (subs : List Nat) : List Value := subs.map fun b => .pointer (some ⟨b, 0, none⟩)
/-- A seat that is open: its own rows, and what lies in the seats beneath. -/
structure SP (w : World) (B sb : Nat) (tv vv uv : Value) (subs : List Nat) (Gs : Nat → Nat → Prop) : Prop where
  lo : B ≤ sb
  blk : Blk w sb (SRow tv vv uv) 96
  t : ∃ n xs, w.ownsRow B 9 1 tv n xs
  v : ∃ n xs, w.ownsRow B 26 6 vv n xs
  u : w.ownsRow B 83 1 uv subs.length (ptrs subs)
  sub : ∀ i, i < subs.length → ∀ g, Gs i g → B ≤ g ∧ g < w.heap.size ∧ g ≠ sb ∧ tv.ownBlock ≠ some g ∧ vv.ownBlock ≠ some g ∧ uv.ownBlock ≠ some g
  dis : ∀ i j, i < subs.length → j < subs.length → i ≠ j → ∀ g, Gs i g → ¬ Gs j g
/-- All blocks of an open seat. -/
def SG (sb : Nat) (tv vv uv : Value) (n : Nat) (Gs : Nat → Nat → Prop) (g : Nat) : Prop := g = sb ∨ tv.ownBlock = some g ∨ vv.ownBlock = some g ∨ uv.ownBlock = some g ∨ ∃ i, i < n ∧ Gs i g
theorem SP.lt {w : World} {B sb : Nat} {tv vv uv : Value} {subs : List Nat} {Gs : Nat → Nat → Prop} (h : SP w B sb tv vv uv subs Gs) {g : Nat} (hg : SG sb tv vv uv subs.length Gs g) : B ≤ g ∧ g < w.heap.size := by
  rcases hg with rfl | hg | hg | hg | ⟨i, hi, hg⟩
  · exact ⟨h.lo, h.blk.lt⟩
  · obtain ⟨n, xs, ht⟩ := h.t; exact ht.lt g hg
  · obtain ⟨n, xs, ht⟩ := h.v; exact ht.lt g hg
  · exact h.u.lt g hg
  · have := h.sub i hi g hg; exact ⟨this.1, this.2.1⟩
theorem SP.stay {w w' : World} {B sb : Nat} {tv vv uv : Value} {subs : List Nat} {Gs : Nat → Nat → Prop} (h : SP w B sb tv vv uv subs Gs) (hs : w.heap.size ≤ w'.heap.size) (hb : ∀ g, g = sb ∨ tv.ownBlock = some g ∨ vv.ownBlock = some g ∨ uv.ownBlock = some g → g < w.heap.size → w'.heap[g]? = w.heap[g]?) : SP w' B sb tv vv uv subs Gs := by
  refine ⟨h.lo, ?_, ?_, ?_, own_same h.u (fun g hg hl => hb g (.inr (.inr (.inr hg))) hl), fun i hi g hg => ?_, h.dis⟩
  · exact (hb sb (.inl rfl) h.blk.lt).trans h.blk
  · obtain ⟨n, xs, ht⟩ := h.t; exact ⟨n, xs, own_same ht (fun g hg hl => hb g (.inr (.inl hg)) hl)⟩
  · obtain ⟨n, xs, ht⟩ := h.v; exact ⟨n, xs, own_same ht (fun g hg hl => hb g (.inr (.inr (.inl hg))) hl)⟩
  · have := h.sub i hi g hg; exact ⟨this.1, by omega, this.2.2⟩
/-- A seat with all beneath it, in blocks of G. -/
inductive SeatAt (w : World) (B : Nat) : (Nat → Prop) → Nat → Prop
  | mk {G : Nat → Prop} {sb : Nat} {tv vv uv : Value} {subs : List Nat} {Gs : Nat → Nat → Prop} (hp : SP w B sb tv vv uv subs Gs) (hG : ∀ g, SG sb tv vv uv subs.length Gs g → G g) (hb : ∀ g, G g → B ≤ g ∧ g < w.heap.size)
      (hs : ∀ i (hi : i < subs.length), SeatAt w B (Gs i) subs[i]) : SeatAt w B G sb
theorem SeatAt.opened {w : World} {B sb : Nat} {G : Nat → Prop} (h : SeatAt w B G sb) : ∃ tv vv uv subs Gs, SP w B sb tv vv uv subs Gs ∧ (∀ g, SG sb tv vv uv subs.length Gs g → G g) ∧ (∀ g, G g → B ≤ g ∧ g < w.heap.size) ∧ ∀ i (hi : i < subs.length), SeatAt w B (Gs i) subs[i] := by
  cases h with
  | mk hp hG hb hs => exact ⟨_, _, _, _, _, hp, hG, hb, hs⟩
theorem SeatAt.stay {w w' : World} {B sb : Nat} {G : Nat → Prop} (h : SeatAt w B G sb) (hs : Stays G w w') : SeatAt w' B G sb := by
  induction h with
  | mk hp hG hb hss ih =>
    refine .mk (hp.stay hs.1 (fun g hg hl => hs.2 g (hG g (hg.elim .inl (fun h => .inr (h.elim .inl (fun h => .inr (h.elim .inl (fun h => .inr (.inl h)))))))) hl)) hG (fun g hg => ⟨(hb g hg).1, Nat.lt_of_lt_of_le (hb g hg).2 hs.1⟩) (fun i hi => ih i hi ?_)
    exact hs.mono (fun g hg => hG g (.inr (.inr (.inr (.inr ⟨i, hi, hg⟩)))))
theorem SeatAt.lt {w : World} {B sb : Nat} {G : Nat → Prop} (h : SeatAt w B G sb) {g : Nat} (hg : G g) : B ≤ g ∧ g < w.heap.size := by
  cases h with
  | mk hp hG hb hs => exact hb g hg
theorem SeatAt.here {w : World} {B sb : Nat} {G : Nat → Prop} (h : SeatAt w B G sb) : G sb := by
  cases h with
  | mk hp hG hb hs => exact hG _ (.inl rfl)
/-- A seat that is new. -/
theorem SeatAt.new {w : World} {B b : Nat} (hb : Blk w b (SRow nilV nilV nilV) 96) (hB : B ≤ b) : SeatAt w B (fun g => g = b) b := by
  refine .mk (tv := nilV) (vv := nilV) (uv := nilV) (subs := []) (Gs := fun _ _ => False) ⟨hB, hb, ⟨0, [], World.ownsRow_nil _ _ _ _⟩, ⟨0, [], World.ownsRow_nil _ _ _ _⟩, World.ownsRow_nil _ _ _ _, fun i hi => absurd hi (Nat.not_lt_zero _), fun i j hi => absurd hi (Nat.not_lt_zero _)⟩ ?_ (fun g hg => ⟨by omega, by rw [hg]; exact hb.lt⟩) (fun i hi => absurd hi (Nat.not_lt_zero _))
  rintro g (rfl | h | h | h | ⟨i, hi, h⟩)
  · rfl
  · cases h
  · cases h
  · cases h
  · exact h.elim
end Go.Proofs.YtdmnhkgiojkphaaGreatDoor

namespace Go.Proofs.YtdmnhkgiojkphaaGreatDoor
open Go Go.RowKit
open Go.RowKit (wrap32 wrap64)

set_option maxRecDepth 100000 in
/-- append of a row of texts. -/
theorem wpList_append_textsB {w : World} {ops : Array Oper} {rest : List Oper} {o : Oper} {a : Act} {Q : Exit → Act → World → Prop} (hgd : o.guard = none) (s x : Operand)
    (ho : o.op = .call { callee := .builtin .append, args := #[s, x], argTypes := #[24, 24] })
    (B : Nat) (F : Nat → Prop) (l ks : List ByteArray) (hown : w.ownsRow B 9 1 (a.eval s) l.length (l.map .string)) (hx : RdK w F ks (a.eval x)) (hn : l.length + ks.length ≤ 2199023255552) (hB : B ≤ w.heap.size)
    (h : ∀ v' w', w'.ownsRow B 9 1 v' (l ++ ks).length ((l ++ ks).map .string) → w.grownBy w' (a.eval s).ownBlock → (v'.ownBlock = (a.eval s).ownBlock ∨ v'.ownBlock = some w.heap.size) → wpList Tryz.prog ops Q rest (a.put o.dst v') w') : wpList Tryz.prog ops Q (o :: rest) a w := by
  obtain ⟨inf, hi, hz0, hz1, hz2⟩ := info_parts Tryz.info9s
  obtain ⟨p, c, e, hc, hk⟩ := hx
  by_cases hp : p = none ∧ ks = []
  · obtain ⟨rfl, rfl⟩ := hp
    refine wpList_plain hgd fun K hK => ?_
    have hrun : (Builtin.append_ #[24, 24] o.type #[a.eval s, .slice none 0 c]).run Tryz.prog w = .ok (a.eval s) w := by
      rcases hown.2 with ⟨e2, e3⟩ | ⟨g, cap, cur, e2, _, _, hnc, _⟩
      · rw [e2]; simp [Builtin.append_, run_underlying Tryz.underlying24, sizeOf, typeInfo, hi, Builtin.lenOf, Builtin.firstCells]
      · rw [e2]; simp [Builtin.append_, run_underlying Tryz.underlying24, sizeOf, typeInfo, hi, Builtin.lenOf, Builtin.firstCells, hnc, storeCells]
    have e' : a.eval x = .slice none 0 c := e
    unfold Oper.wp
    simp [execOp, ho, resolve, invoke, builtin, e', hrun, Result.andThen]
    exact hK _ _ (h _ _ (by rw [List.append_nil]; exact hown) (grefl _ _) (.inl rfl))
  · obtain ⟨ad, rfl⟩ : ∃ ad, p = some ad := by
      cases p with
      | some ad => exact ⟨ad, rfl⟩
      | none =>
        have h0 : 0 < ks.length := by
          rcases Nat.eq_zero_or_pos ks.length with h1 | h1
          · exact absurd ⟨rfl, List.eq_nil_of_length_eq_zero h1⟩ hp
          · exact h1
        obtain ⟨g, o', e2, _⟩ := hk h0
        cases e2
    obtain ⟨v', w', h1, h2, h3, _, h4⟩ := run_append_own_at (P := Tryz.prog) w B 24 o.type 9 inf (.string ⟨#[]⟩) 1 16 Tryz.underlying24 hi hz0 hz1 hz2 rfl (by decide) (a.eval s) _ _ hown ad ks.length c (ks.map .string) (by simp) (by
      intro j u hu
      rw [List.getElem?_map] at hu
      obtain ⟨k, hk1, rfl⟩ := Option.map_eq_some_iff.1 hu
      obtain ⟨g, o', e2, _, _, hcell⟩ := hk (by have := (List.getElem?_eq_some_iff.1 hk1).1; omega)
      injection e2 with e2
      rw [e2, Addr.add_lit]
      exact hcell j k hk1) (by
      intro u hu
      obtain ⟨k, _, rfl⟩ := List.mem_map.1 hu
      rfl) (by unfold maxLen; omega) (by omega) hB
    refine wpList_plain hgd fun K hK => ?_
    have e' : a.eval x = .slice (some ad) ks.length c := e
    unfold Oper.wp execOp
    simp only [ho, resolve, invoke, builtin, Sem.run_bind, Sem.run_pure, Result.andThen_ok, List.map_toArray, List.map_cons, List.map_nil, e', h1]
    exact hK _ _ (h v' w' (by rw [List.map_append, List.length_append]; exact h2) h3 h4)

set_option maxRecDepth 100000 in
set_option maxHeartbeats 1600000 in
theorem seatTexts_any (w : World) (B sb : Nat) (tv vv uv : Value) (subs : List Nat) (Gs : Nat → Nat → Prop) (F : Nat → Prop) (l : List ByteArray) (v : Value) (hS : SP w B sb tv vv uv subs Gs) (hr : RdK w F l v) (hl : l.length ≤ 1099511627776) :
    Calls Tryz.prog 64 #[.pointer (some ⟨sb, 0, none⟩), v] w fun e w' => ∃ tv', e = .returned tv' ∧ SP w' B sb tv' vv uv subs Gs ∧ w'.ownsRow B 9 1 tv' l.length (l.map .string) ∧ Moved (fun g => g = sb ∨ tv.ownBlock = some g) w w' ∧ (∀ g, tv'.ownBlock = some g → tv.ownBlock = some g ∨ w.heap.size ≤ g) := by
  obtain ⟨a, c, rfl⟩ := hr.slice
  obtain ⟨N, HN⟩ : ∃ z, Hid (l.length = z) := ⟨_, hid rfl⟩
  obtain ⟨tn, txs, ht⟩ := hS.t
  obtain ⟨ta, tc, rfl⟩ := own_slice ht
  have HS := hid hS
  have HR := hid hr
  have HO0 := hid (own_cut ht)
  have e0 : (Value.slice ta 0 tc).ownBlock = (Value.slice ta tn tc).ownBlock := by cases ta <;> rfl
  have HE0 := hid e0
  have HBb : Hid (B ≤ w.heap.size) := hid (by have := hS.lo; have := hS.blk.lt; omega)
  have HNs : Hid ((Value.slice ta 0 tc).ownBlock ≠ some sb) := hid (own_ne_blk HO0.out hS.blk (by decide))
  have q1 : w.cell? ⟨sb, 1, none⟩ = some (.slice ta tn tc) := hS.blk.cell 1
  rw [HN.out] at HR hl ⊢
  clear hS hr ht e0
  go_enter Tryz.func64, Tryz.ntmps64
  go_wp2_with (at_builtin; refine wpList_append_textsB rfl _ _ rfl B F [] l HO0.out (HN.out ▸ HR.out) (by simp only [List.length_nil]; rw [HN.out]; omega) HBb.out ?_; intro v4 w4 hO4 hg4 hat4; obtain ⟨na, nc, hv4⟩ := own_slice hO4; rw [List.nil_append, HN.out] at hv4; subst hv4; have HO4 := hid hO4; have HG4 := hid hg4; have HA4 := hid hat4; have HB4 : Hid (Blk w4 sb (SRow (.slice ta tn tc) vv uv) 96) := hid (HS.out.blk.on hg4 HNs.out); have q14 : w4.cell? ⟨sb, 1, none⟩ = some (.slice ta tn tc) := HB4.out.cell 1; have qf := HB4.out.frozen 1; clear hO4 hg4 hat4 q1)
  go_ret
  have hset : Blk (w4.setCell ⟨sb, 1, none⟩ (.slice na N nc)) sb (SRow (.slice na N nc) vv uv) 96 := HB4.out.set 1 (.slice na N nc)
  have gs := gset w4 ⟨sb, 1, none⟩ (.slice na N nc)
  have hO4 : w4.ownsRow B 9 1 (.slice na N nc) N (l.map .string) := by have := HO4.out; rw [List.nil_append, HN.out] at this; exact this
  have hnb : (Value.slice na N nc).ownBlock ≠ some sb := own_ne_blk hO4 HB4.out (by decide)
  have hO5 := own_same (w' := w4.setCell ⟨sb, 1, none⟩ (.slice na N nc)) hO4 (fun g hg hl => gs.block g hl (fun e => hnb (by rw [hg]; injection e with e; rw [e])))
  have hM : Moved (fun g => g = sb ∨ (Value.slice ta tn tc).ownBlock = some g) w (w4.setCell ⟨sb, 1, none⟩ (.slice na N nc)) :=
    (Moved.grown (G := fun g => (Value.slice ta tn tc).ownBlock = some g) HG4.out (fun g hg _ => by rw [← HE0.out]; exact hg)).trans (Moved.grown (G := fun g => g = sb) gs (fun g hg _ => by injection hg with hg; exact hg.symm)) (fun _ _ h => .inr h) (fun _ _ h => .inl h)
  have hfr : ∀ g, (Value.slice na N nc).ownBlock = some g → (Value.slice ta tn tc).ownBlock = some g ∨ w.heap.size ≤ g := fun g hg => by
    rcases HA4.out with h | h
    · exact .inl (by rw [← HE0.out, ← hg]; exact h.symm)
    · rw [hg] at h; injection h with h; exact .inr (by omega)
  refine ⟨_, rfl, ?_, hO5, hM, hfr⟩
  have hS := HS.out
  have h0 := hM.size
  obtain ⟨vn, vxs, hv⟩ := hS.v
  obtain ⟨tn', txs', ht'⟩ := hS.t
  refine ⟨hS.lo, hset, ⟨_, _, hO5⟩, ⟨vn, vxs, own_same hv (fun g hg hl => hM.block g hl ?_)⟩, own_same hS.u (fun g hg hl => hM.block g hl ?_), fun i hi g hg => ?_, hS.dis⟩
  · rintro (e | e)
    · exact own_ne_blk hv hS.blk (by decide) (by rw [hg, e])
    · exact own_ne_own hv ht' (by decide) hg e
  · rintro (e | e)
    · exact own_ne_blk hS.u hS.blk (by decide) (by rw [hg, e])
    · exact own_ne_own hS.u ht' (by decide) hg e
  · obtain ⟨h1, h2, h3, h4, h5, h6⟩ := hS.sub i hi g hg
    refine ⟨h1, by omega, h3, fun e => ?_, h5, h6⟩
    rcases hfr g e with h | h
    · exact h4 h
    · omega
end Go.Proofs.YtdmnhkgiojkphaaGreatDoor

namespace Go.Proofs.YtdmnhkgiojkphaaGreatDoor
open Go Go.RowKit
open Go.RowKit (wrap32 wrap64)

theorem Tryz.info83 : (Tryz.prog.info? 83).map (fun i => (i.zero, i.size, i.bytes)) = some (some (.pointer none), 1, 8) := by kernel_rfl
theorem built96 : Tryz.prog.built 96 [] = some (SRow nilV nilV nilV).toArray := by kernel_rfl
theorem ptrs_snoc (subs : List Nat) (b : Nat) : ptrs (subs ++ [b]) = ptrs subs ++ [.pointer (some ⟨b, 0, none⟩)] := by unfold ptrs; simp
theorem oneP (b : Nat) : ∀ u ∈ [Value.pointer (some ⟨b, 0, none⟩)], u.oneCell' = true := by
  intro u hu
  have : u = .pointer (some ⟨b, 0, none⟩) := by simpa using hu
  subst this
  rfl
/-- What a seat more leaves. -/
structure More (w wr : World) (B sb : Nat) (tv vv uv uv' : Value) (subs : List Nat) (nb : Nat) : Prop where
  u : wr.ownsRow B 83 1 uv' (subs ++ [nb]).length (ptrs (subs ++ [nb]))
  blk : Blk wr sb (SRow tv vv uv') 96
  nblk : Blk wr nb (SRow nilV nilV nilV) 96
  nw : w.heap.size ≤ nb
  m : Moved (fun g => g = sb ∨ uv.ownBlock = some g) w wr
  fr : ∀ g, uv'.ownBlock = some g → uv.ownBlock = some g ∨ w.heap.size ≤ g
theorem SP.more {w wr : World} {B sb : Nat} {tv vv uv uv' : Value} {subs : List Nat} {Gs : Nat → Nat → Prop} {nb : Nat} (hS : SP w B sb tv vv uv subs Gs) (hs : ∀ i (hi : i < subs.length), SeatAt w B (Gs i) subs[i]) (h : More w wr B sb tv vv uv uv' subs nb) :
    ∃ Gs', SP wr B sb tv vv uv' (subs ++ [nb]) Gs' ∧ (∀ i (hi : i < (subs ++ [nb]).length), SeatAt wr B (Gs' i) (subs ++ [nb])[i]) ∧ (∀ j, j < subs.length → Gs' j = Gs j) ∧ (∀ j g, j < (subs ++ [nb]).length → Gs' j g → (j < subs.length ∧ Gs j g) ∨ w.heap.size ≤ g) := by
  have hsz := h.m.size
  have hlo := hS.lo
  have hsb := hS.blk.lt
  have hex : ∀ i (hi : i < subs.length) g, Gs i g → ¬ (g = sb ∨ uv.ownBlock = some g) := fun i hi g hg => by
    obtain ⟨h1, h2, h3, h4, h5, h6⟩ := hS.sub i hi g hg
    rintro (e | e)
    · exact h3 e
    · exact h6 e
  refine ⟨fun j => if j < subs.length then Gs j else fun g => g = nb, ⟨hlo, h.blk, ?_, ?_, h.u, ?_, ?_⟩, ?_, fun j hj => by show (if _ then _ else _) = _; rw [if_pos hj], ?_⟩
  · obtain ⟨n, xs, ht⟩ := hS.t
    refine ⟨n, xs, own_same ht (fun g hg hl => h.m.block g hl ?_)⟩
    rintro (e | e)
    · exact own_ne_blk ht hS.blk (by decide) (by rw [hg, e])
    · exact own_ne_own ht hS.u (by decide) hg e
  · obtain ⟨n, xs, ht⟩ := hS.v
    refine ⟨n, xs, own_same ht (fun g hg hl => h.m.block g hl ?_)⟩
    rintro (e | e)
    · exact own_ne_blk ht hS.blk (by decide) (by rw [hg, e])
    · exact own_ne_own ht hS.u (by decide) hg e
  · intro i hi g hg
    by_cases hl : i < subs.length
    · rw [if_pos hl] at hg
      obtain ⟨h1, h2, h3, h4, h5, h6⟩ := hS.sub i hl g hg
      refine ⟨h1, by omega, h3, h4, h5, fun e => ?_⟩
      rcases h.fr g e with e | e
      · exact h6 e
      · omega
    · rw [if_neg hl] at hg
      subst hg
      have h1 := h.nw
      refine ⟨by omega, h.nblk.lt, by omega, fun e => ?_, fun e => ?_, own_ne_blk h.u h.nblk (by decide)⟩
      · obtain ⟨n, xs, ht⟩ := hS.t; have := (ht.lt _ e).2; omega
      · obtain ⟨n, xs, ht⟩ := hS.v; have := (ht.lt _ e).2; omega
  · intro i j hi hj hij g hg hg'
    rw [List.length_append, List.length_singleton] at hi hj
    by_cases hl : i < subs.length
    · rw [if_pos hl] at hg
      by_cases hl' : j < subs.length
      · rw [if_pos hl'] at hg'; exact hS.dis i j hl hl' hij g hg hg'
      · rw [if_neg hl'] at hg'; have := (hS.sub i hl g hg).2.1; have := h.nw; omega
    · rw [if_neg hl] at hg
      by_cases hl' : j < subs.length
      · rw [if_pos hl'] at hg'; have := (hS.sub j hl' g hg').2.1; have := h.nw; omega
      · omega
  · intro i hi
    show SeatAt wr B (if i < subs.length then Gs i else fun g => g = nb) _
    by_cases hl : i < subs.length
    · rw [if_pos hl, List.getElem_append_left hl]
      exact (hs i hl).stay (h.m.stays (fun g _ hg => hex i hl g hg))
    · rw [if_neg hl, List.getElem_append_right (by omega)]
      rw [List.length_append, List.length_singleton] at hi
      have e : i - subs.length = 0 := by omega
      have hnew := SeatAt.new h.nblk (B := B) (by have := h.nw; omega)
      simp only [e, List.getElem_cons_zero]
      exact hnew
  · intro j g hj hg
    by_cases hl : j < subs.length
    · rw [if_pos hl] at hg; exact .inl ⟨hl, hg⟩
    · rw [if_neg hl] at hg; exact .inr (by have := h.nw; omega)
set_option maxRecDepth 100000 in
set_option maxHeartbeats 1600000 in
theorem seatMore_any (w : World) (B sb : Nat) (tv vv uv : Value) (subs : List Nat) (Gs : Nat → Nat → Prop) (hS : SP w B sb tv vv uv subs Gs) (hs : ∀ i (hi : i < subs.length), SeatAt w B (Gs i) subs[i]) (i : Nat) (hi : i ≤ subs.length) (hi2 : i ≤ 1099511627776) :
    Calls Tryz.prog 127 #[.pointer (some ⟨sb, 0, none⟩), .int .i64 i] w fun e w' => ∃ uv' subs' Gs' q, e = .returned (.pointer (some ⟨q, 0, none⟩)) ∧ subs'[i]? = some q ∧ SP w' B sb tv vv uv' subs' Gs' ∧ (∀ j (hj : j < subs'.length), SeatAt w' B (Gs' j) subs'[j]) ∧ Moved (fun g => g = sb ∨ uv.ownBlock = some g) w w' ∧
      subs.length ≤ subs'.length ∧ (∀ j, j < subs.length → Gs' j = Gs j) ∧ (∀ j g, j < subs'.length → Gs' j g → (j < subs.length ∧ Gs j g) ∨ w.heap.size ≤ g) ∧ (∀ g, uv'.ownBlock = some g → uv.ownBlock = some g ∨ w.heap.size ≤ g) := by
  obtain ⟨ua, uc, rfl⟩ := own_slice hS.u
  have HS := hid hS
  have HSs := hid hs
  have HBb : Hid (B ≤ w.heap.size) := hid (by have := hS.lo; have := hS.blk.lt; omega)
  obtain ⟨n, Hn⟩ : ∃ z, Hid (subs.length = z) := ⟨_, hid rfl⟩
  have q0 : w.cell? ⟨sb, 13, none⟩ = some (.slice ua n uc) := by have := hS.blk.cell 13; rw [← Hn.out]; exact this
  rw [Hn.out] at hi ⊢
  by_cases hlt : i < n
  · have hlt' : ¬ ((n : Int) ≤ (i : Int)) := by omega
    have hq : i < subs.length := by rw [Hn.out]; exact hlt
    obtain ⟨q, Hq⟩ : ∃ z, Hid (subs[i] = z) := ⟨_, hid rfl⟩
    obtain ⟨g, cap, cur, e1, _⟩ : ∃ g cap cur, (Value.slice ua n uc) = .slice (some ⟨g, 0, none⟩) n cap ∧ w.heap[g]? = some (.cells cur 83 (0, 0)) := by
      rcases hS.u.2 with ⟨h1, h2⟩ | ⟨g, cap, cur, h1, h2, h3, _⟩
      · rw [Hn.out] at h2; omega
      · exact ⟨g, cap, cur, by rw [← Hn.out]; exact h1, h3⟩
    injection e1 with e1 _ e3
    subst e1
    subst e3
    have q1 : w.cell? ⟨g, i, none⟩ = some (.pointer (some ⟨q, 0, none⟩)) := by
      have := hS.u.cells (g := g) rfl i (.pointer (some ⟨q, 0, none⟩)) (by unfold ptrs; rw [List.getElem?_map, List.getElem?_eq_getElem hq, Hq.out]; rfl)
      simpa [Addr.add_lit] using this
    clear hS hs
    go_enter Tryz.func127, Tryz.ntmps127
    go_wp2_with fail
    go_loopw [] (fun wr => wr = w) (fun _ => 0)
    case atStart => exact rfl
    case round =>
      subst hrel
      go_wp2_with fail
      go_ret
      exact ⟨_, subs, Gs, q, rfl, by rw [List.getElem?_eq_getElem hq, Hq.out], Hn.out ▸ HS.out, HSs.out, Moved.refl _ _, Nat.le_of_eq Hn.out.symm, fun _ _ => rfl, fun j g hj hg => .inl ⟨by have := Hn.out; omega, hg⟩, fun g hg => .inl hg⟩
  · obtain rfl : i = n := by omega
    obtain ⟨i83, hi83, hz83, hs83, hb83⟩ := info_parts Tryz.info83
    have HU : Hid (w.ownsRow B 83 1 (.slice ua i uc) i (ptrs subs)) := hid (by have := hS.u; rw [Hn.out] at this; exact this)
    have HB : Hid (Blk w sb (SRow tv vv (.slice ua i uc)) 96) := hid (by have := hS.blk; rw [Hn.out] at this; exact this)
    have HNb : Hid ((Value.slice ua i uc).ownBlock ≠ some sb) := hid (own_ne_blk HU.out HB.out (by decide))
    clear hS hs
    go_enter Tryz.func127, Tryz.ntmps127
    go_wp2_with fail
    go_loopw [] (fun wr => wr = w ∨ ∃ (ua' : Option Addr) (uc' nb : Nat), Hid (More w wr B sb tv vv (.slice ua i uc) (.slice ua' (i + 1) uc') subs nb)) (fun wr => if wr.heap.size = w.heap.size then 1 else 0)
    case atStart => exact .inl rfl
    case round =>
      rcases hrel with rfl | ⟨ua', uc', nb, HM⟩
      · have hle : ((i : Nat) : Int) ≤ (i : Int) := Int.le_refl _
        go_wp2_with (first
          | (with_reducible refine wpList_build_row (by with_unfolding_all rfl) 96 (by with_unfolding_all rfl) (SRow nilV nilV nilV) built96 ?_)
          | ((with_reducible refine wpList_box_row (by with_unfolding_all rfl) 96 _ (by with_unfolding_all rfl) (SRow nilV nilV nilV) (by with_unfolding_all rfl) ?_); intro w1 B1 s1 g1; have HB1 := hid B1; have HG1 := hid g1; have HS1 := hid s1; clear B1 s1 g1)
          | (at_builtin; refine wpList_append_lies _ rfl _ _ 94 rfl B 83 i83 (.pointer none) 1 8 Tryz.underlying94 hi83 hz83 hs83 hb83 rfl (by decide) (.slice ua i uc) i _ rfl (own_keep HU.out (gtrans HG1.out (galloc _ _ _))) ⟨w1.heap.size, 0, none⟩ 1 1 [.pointer (some ⟨wr.heap.size, 0, none⟩)] rfl rfl (Blk.new w1 [.pointer (some ⟨wr.heap.size, 0, none⟩)] 83).news (oneP _) (by decide) (by unfold maxLen; omega) (by omega) (by have := HBb.out; have := HG1.out.size; simp; omega) _ rfl ?_; intro g3 cap3 w3 ho3 hg3 hat3 hlt3; have HO3 := hid ho3; have HG3 := hid hg3; have HA3 := hid hat3; have HB3 : Hid (Blk w3 sb (SRow tv vv (.slice ua i uc)) 96) := hid ((HB.out.keep (gtrans HG1.out (galloc _ _ _))).on hg3 HNb.out); have q3 : w3.cell? ⟨sb, 13, none⟩ = some (.slice ua i uc) := HB3.out.cell 13; have qf := HB3.out.frozen 13; clear ho3 hg3 hat3 hlt3))
        have hB4 := HB3.out.set 13 (.slice (some ⟨g3, 0, none⟩) (i + 1) cap3)
        have gs := gset w3 ⟨sb, 13, none⟩ (.slice (some ⟨g3, 0, none⟩) (i + 1) cap3)
        have ga := gtrans HG1.out (galloc w1 (.cells #[.pointer (some ⟨wr.heap.size, 0, none⟩)] 83) none)
        have hlt : ∀ g, (Value.slice ua i uc).ownBlock = some g → g < wr.heap.size := fun g hg => (HU.out.lt g hg).2
        have hgs : g3 ≠ sb := fun e => own_ne_blk HO3.out HB3.out (by decide) (by rw [← e]; rfl)
        have hsl := HB.out.lt
        have hs1 := HG1.out.size
        have HMo : Hid (More wr (w3.setCell ⟨sb, 13, none⟩ (.slice (some ⟨g3, 0, none⟩) (i + 1) cap3)) B sb tv vv (.slice ua i uc) (.slice (some ⟨g3, 0, none⟩) (i + 1) cap3) subs wr.heap.size) := hid (by
          refine ⟨?_, hB4, ?_, Nat.le_refl _, ?_, ?_⟩
          · rw [List.length_append, List.length_singleton, Hn.out, ptrs_snoc]
            exact own_same HO3.out (fun g hg hl => gs.block g hl (fun e => hgs (by have e : g = sb := (by injection e); have hg : g3 = g := (by simpa [Value.ownBlock] using hg); omega)))
          · exact ((HB1.out.keep (galloc w1 _ none)).on HG3.out (fun e => by have := hlt _ e; omega)).on gs (fun e => by have e : sb = wr.heap.size := (by injection e); omega)
          · refine ((Moved.grown (G := fun g => (Value.slice ua i uc).ownBlock = some g) ga (fun g hg _ => by cases hg)).trans (Moved.grown (G := fun g => (Value.slice ua i uc).ownBlock = some g) HG3.out (fun g hg _ => hg)) (fun _ _ h => h) (fun _ _ h => h)).trans (Moved.grown (G := fun g => g = sb) gs (fun g hg _ => by injection hg with hg; exact hg.symm)) (fun _ _ h => .inr h) (fun _ _ h => .inl h)
          · intro g hg
            have hg : g3 = g := by simpa [Value.ownBlock] using hg
            rcases HA3.out with h | h
            · exact .inl (by rw [← hg]; exact h)
            · refine .inr ?_
              have hs3 : (w1.alloc (.cells #[.pointer (some ⟨wr.heap.size, 0, none⟩)] 83)).heap.size = w1.heap.size + 1 := by simp
              omega)
        go_roundw
        case rel => exact .inr ⟨_, _, _, HMo⟩
        case measure =>
          rw [if_neg (by have := HMo.out.nblk.lt; omega)]
          exact Nat.zero_lt_one
      · have q1 : wr.cell? ⟨sb, 13, none⟩ = some (.slice ua' (i + 1) uc') := HM.out.blk.cell 13
        have hlt2 : ¬ ((i : Int) + 1 ≤ (i : Int)) := by omega
        have hlt3 : (i : Int) < (i : Int) + 1 := by omega
        have hU : wr.ownsRow B 83 1 (.slice ua' (i + 1) uc') (i + 1) (ptrs (subs ++ [nb])) := by have := HM.out.u; rwa [List.length_append, List.length_singleton, Hn.out] at this
        obtain ⟨g, cap, e1, _⟩ := hU.form (by omega)
        injection e1 with e1 _ e3
        subst e1
        subst e3
        have q2 : wr.cell? ⟨g, i, none⟩ = some (.pointer (some ⟨nb, 0, none⟩)) := by
          have := hU.cells (g := g) rfl i (.pointer (some ⟨nb, 0, none⟩)) (by rw [ptrs_snoc, List.getElem?_append_right (by unfold ptrs; rw [List.length_map, Hn.out]; exact Nat.le_refl _)]; unfold ptrs; rw [List.length_map, Hn.out]; simp)
          simpa [Addr.add_lit] using this
        clear q0 hU
        go_wp2_with fail
        go_ret
        obtain ⟨Gs', h1, h2, h3, h4⟩ := SP.more (Hn.out ▸ HS.out) HSs.out HM.out
        refine ⟨_, subs ++ [nb], Gs', nb, rfl, ?_, h1, h2, HM.out.m, by rw [List.length_append, Hn.out]; omega, fun j hj => h3 j (by rw [Hn.out]; exact hj), fun j g hj hg => ?_, HM.out.fr⟩
        · rw [List.getElem?_append_right (by rw [Hn.out]; exact Nat.le_refl _), Hn.out]; simp
        · rcases h4 j g hj hg with ⟨h, h'⟩ | h
          · exact .inl ⟨by have := Hn.out; omega, h'⟩
          · exact .inr h
end Go.Proofs.YtdmnhkgiojkphaaGreatDoor
