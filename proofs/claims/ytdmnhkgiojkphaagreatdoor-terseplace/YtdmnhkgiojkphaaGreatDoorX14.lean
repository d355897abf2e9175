/- The walk of item. -/
import Derived.Test.YtdmnhkgiojkphaaGreatDoorWalkK
import Derived.Defers
import Derived.Recover
import Derived.Test.YtdmnhkgiojkphaaGreatDoorMem
namespace Go.Proofs.YtdmnhkgiojkphaaGreatDoor
open Go Go.RowKit Go.Maps
open Go.RowKit (wrap32 wrap64)

/-- How deep items are read. -/
def deeper : Nat → Option (List UInt8 → Res Tree)
  | 0 => none
  | k + 1 => some (itemR k)
theorem itemR_eq (k : Nat) (l : List UInt8) : itemR k l = itemW (deeper k) l := by cases k <;> rfl
theorem itemW_list {d : Option (List UInt8 → Res Tree)} {l r : List UInt8} (h : skip l = 91 :: r) : itemW d l = match d with | none => .bad 21 (91 :: r) | some it => listR it r := by
  unfold itemW
  rw [h]
  rfl
theorem itemW_map {d : Option (List UInt8 → Res Tree)} {l r : List UInt8} (h : skip l = 123 :: r) : itemW d l = match d with | none => .bad 21 (123 :: r) | some it => mapR it r := by
  unfold itemW
  rw [h]
  rfl
theorem itemW_text {d : Option (List UInt8 → Res Tree)} {l r : List UInt8} (h : skip l = 34 :: r) : itemW d l = match unquote r with | none => .bad 22 (34 :: r) | some (t, q) => .ok (.mk 4 false 0 (str t) [] []) q := by
  unfold itemW
  rw [h]
  rfl
theorem itemW_word {d : Option (List UInt8 → Res Tree)} {l m : List UInt8} (h : skip l = m) (h1 : m.head? ≠ some 91) (h2 : m.head? ≠ some 123) (h3 : m.head? ≠ some 34) : itemW d l = match readWord (wordOf m) with
      | .error e => .bad e m
      | .ok t => .ok t (m.drop (wordOf m).length) := by
  unfold itemW
  rw [h]
  cases m with
  | nil => rfl
  | cons c r =>
    show (if c = 91 then _ else if c = 123 then _ else if c = 34 then _ else _) = _
    rw [if_neg (fun e => h1 (by rw [e]; rfl)), if_neg (fun e => h2 (by rw [e]; rfl)), if_neg (fun e => h3 (by rw [e]; rfl))]
    rfl
theorem readWord_leaf {m : List UInt8} {t : Tree} (h : readWord m = .ok t) : t.keys = [] ∧ t.items = [] := by
  unfold readWord at h
  repeat' split at h
  all_goals first | (cases h; done) | (injection h with h; subst h; exact ⟨rfl, rfl⟩)
theorem RdT.leafV {t : Tree} (h : t.keys = [] ∧ t.items = []) (w : World) (F : Nat → Prop) : RdT w F t (leafV t) := by
  obtain ⟨k, f, n, x, ks, is⟩ := t
  obtain ⟨h1, h2⟩ := h
  have h1 : ks = [] := h1
  have h2 : is = [] := h2
  subst h1 h2
  exact RdT.leaf w F k f n x
theorem RdT.up {w w' : World} {B B' k : Nat} {t : Tree} {v : Value} (h : RdT w (fun g => B' ≤ g) t v) (hg : w.grownBy w' (some k)) (hk : k < B') (hB : B ≤ B') : RdT w' (fun g => B ≤ g) t v :=
  RdT.kept (F := fun g => B' ≤ g) (Stays.grown hg fun x hx e => by injection e with e; omega) (fun x hx _ => by omega) t h

set_option maxRecDepth 100000 in
set_option maxHeartbeats 4000000 in
theorem item_step (k : Nat) (hk : ∀ j, k = j + 1 → ItemOk j) : ItemOk k := by
  intro w b s p d about h hG hb8 hp hs ha0 had hd
  have hlt := h.lt
  have HKK := hid hk
  have HAD := hid had
  obtain ⟨R, HRR⟩ : ∃ R, Hid (itemR k (from_ s p) = R) := ⟨_, hid rfl⟩
  rw [HRR.out]
  rw [itemR_eq] at HRR
  have hab : about ≤ 32 := by omega
  have hr0 : Rdr (w.alloc (.cells #[.int .i64 0, .bool false, .int .i64 0, .string ⟨#[]⟩, .slice none 0 0, .slice none 0 0] 26)) b s p d := h.kept (galloc _ _ none)
  have HR0 := hid hr0
  clear hr0 h hk had
  go_enter Tryz.func46, Tryz.ntmps46
  go_wp2_with fail
  refine (first_any _ b s p d HR0.out hp (by omega)).mono ?_
  rintro e w1 ⟨q, c, rfl, hsk, hq, hc, hr1, hg1⟩
  have HG01 : Hid (w.grownBy w1 (some b)) := (galloc w _ (some b)).andThen hg1 (fun j hj => .inr hj)
  have HC0 : Hid (w1.heap[w.heap.size]? = some (.cells #[.int .i64 0, .bool false, .int .i64 0, .string ⟨#[]⟩, .slice none 0 0, .slice none 0 0] 26 (0, 0))) := by
    rw [hg1.block _ (by simp) (by simp; omega)]
    exact heap_alloc_new w _
  have hz1 : w.heap.size < w1.heap.size := (Array.getElem?_eq_some_iff.1 HC0.out).1
  have HR1 := hid hr1
  have HGl : Hid (Glob w1) := hG.grown HG01.out (fun k hk => by injection hk with hk; omega)
  have hbd := u8_bd c
  clear hr1 hg1
  by_cases h91 : c = 91
  · subst h91
    rcases hc with ⟨hqs, hc⟩ | ⟨_, hc⟩
    · have hL := itemW_list (d := deeper k) (hsk.trans hc)
      rw [HRR.out] at hL
      have HL := hid hL
      have HC := hid hc
      clear hsk hc hL
      cases k with
      | zero =>
        have HD : Hid (d ≤ about) := hid (by have := HAD.out; omega)
        have HF : Hid (R = .bad 21 (91 :: from_ s (q + 1))) := by rw [HL.out]; exact rfl
        go_wp2_with fail
        refine (enter_no _ b s q d about HR1.out HD.out).mono ?_
        unfold faulted
        rintro e w2 ⟨rfl, _, hg2⟩
        go_wp2_with fail
        exact ⟨rfl, by rw [HF.out]; exact ⟨q, hq, HC.out.symm, rfl⟩, gtrans HG01.out hg2⟩
      | succ j =>
        have HF : Hid (R = listR (itemR j) (from_ s (q + 1))) := by rw [HL.out]; exact rfl
        have HD : Hid (about < d) := hid (by have := HAD.out; omega)
        have HOk := hid (HKK.out j rfl)
        clear HL
        go_wp2_with fail
        refine (enter_yes _ b s q d about HR1.out hqs (by omega) HD.out).mono ?_
        rintro e w2 ⟨rfl, hr2, hg2⟩
        have HG2 := hid (gtrans HG01.out hg2)
        have HR2 := hid hr2
        have HGl2 : Hid (Glob w2) := hG.grown HG2.out (fun k hk => by injection hk with hk; omega)
        have hz2 := hg2.size
        have HC2 : Hid (w2.heap[w.heap.size]? = some (.cells #[.int .i64 0, .bool false, .int .i64 0, .string ⟨#[]⟩, .slice none 0 0, .slice none 0 0] 26 (0, 0))) := by
          rw [hg2.block _ hz1 (by simp; omega)]
          exact HC0.out
        clear hg2 hr2
        go_wp2_with fail
        refine (list_any j HOk.out _ b s (q + 1) d (about + 1) HR2.out HGl2.out hb8 (by omega) hs (by omega) (by have := HAD.out; omega) hd).mono ?_
        rintro e w3 ⟨he, hg3⟩
        have HG3 := hid hg3
        have HC3 : Hid (w3.heap[w.heap.size]? = some (.cells #[.int .i64 0, .bool false, .int .i64 0, .string ⟨#[]⟩, .slice none 0 0, .slice none 0 0] 26 (0, 0))) := by
          rw [hg3.block _ (by omega) (by simp; omega)]
          exact HC2.out
        clear hg3
        cases hres : listR (itemR j) (from_ s (q + 1)) with
        | bad c r =>
          rw [hres] at he HF
          obtain ⟨p', h1, h2, he⟩ := he
          have he' : e = .panicked [{ v := faultV c p', recovered := false }] := he
          subst he'
          clear hres he
          have HH2 := hid h2
          clear h2
          go_wp2_with fail
          exact ⟨rfl, by rw [HF.out]; exact ⟨p', h1, HH2.out, rfl⟩, gtrans HG2.out HG3.out⟩
        | ok t r =>
          rw [hres] at he HF
          obtain ⟨v, he, h2, p', h3, h4, h5⟩ := he
          have h2' := h2
          rw [RdT_eq] at h2'
          obtain ⟨kv, ia, ic, rfl, hkv, _, _⟩ := h2'
          obtain ⟨ka, kc, rfl, _⟩ := hkv
          have HT := hid h2
          have HR3 := hid h5
          have HH4 := hid h4
          obtain ⟨A, HA⟩ : ∃ A, Hid (t.items.length = A) := ⟨_, hid rfl⟩
          obtain ⟨KN, HKN⟩ : ∃ A, Hid (t.keys.length = A) := ⟨_, hid rfl⟩
          rw [HA.out, HKN.out] at he HT
          subst he
          clear hres h2 h4 h5
          obtain ⟨⟨x0, x1, x2, x3, x4, x5⟩, xf⟩ := cells6 HC3.out
          go_wp2_with fail
          have HFin := put6_heap (k := w.heap.size) HC3.out (.int .i64 t.kind) (.bool t.flag) (.int .i64 t.n) (.string t.text) (.slice ka KN kc) (.slice ia A ic)
          have HPg := put6_grown w3 w.heap.size (.int .i64 t.kind) (.bool t.flag) (.int .i64 t.n) (.string t.text) (.slice ka KN kc) (.slice ia A ic)
          obtain ⟨⟨k0, k1, k2, k3, k4, k5⟩, _⟩ := cells6 HFin
          unfold put6 at k0 k1 k2 k3 k4 k5
          refine bodyPost_ret (v := .agg #[.int .i64 t.kind, .bool t.flag, .int .i64 t.n, .string t.text, .slice ka KN kc, .slice ia A ic]) ?_ rfl ⟨?_, ?_⟩
          · simp [results, Tryz.results46, go_sem, k0, k1, k2, k3, k4, k5]
          · rw [HF.out]
            exact ⟨_, rfl, HT.out.up HPg (by omega) (by omega), p', h3, HH4.out, HR3.out.far HPg (by omega)⟩
          · exact (gtrans HG2.out HG3.out).andThen HPg (fun j hj => .inl (by injection hj with hj; omega))
    · cases hc
  · by_cases h123 : c = 123
    · subst h123
      rcases hc with ⟨hqs, hc⟩ | ⟨_, hc⟩
      · have hL := itemW_map (d := deeper k) (hsk.trans hc)
        rw [HRR.out] at hL
        have HL := hid hL
        have HC := hid hc
        clear hsk hc hL
        clear h91
        cases k with
        | zero =>
          have HD : Hid (d ≤ about) := hid (by have := HAD.out; omega)
          have HF : Hid (R = .bad 21 (123 :: from_ s (q + 1))) := by rw [HL.out]; exact rfl
          go_wp2_with fail
          refine (enter_no _ b s q d about HR1.out HD.out).mono ?_
          unfold faulted
          rintro e w2 ⟨rfl, _, hg2⟩
          go_wp2_with fail
          exact ⟨rfl, by rw [HF.out]; exact ⟨q, hq, HC.out.symm, rfl⟩, gtrans HG01.out hg2⟩
        | succ j =>
          have HF : Hid (R = mapR (itemR j) (from_ s (q + 1))) := by rw [HL.out]; exact rfl
          have HD : Hid (about < d) := hid (by have := HAD.out; omega)
          have HOk := hid (HKK.out j rfl)
          clear HL
          go_wp2_with fail
          refine (enter_yes _ b s q d about HR1.out hqs (by omega) HD.out).mono ?_
          rintro e w2 ⟨rfl, hr2, hg2⟩
          have HG2 := hid (gtrans HG01.out hg2)
          have HR2 := hid hr2
          have HGl2 : Hid (Glob w2) := hG.grown HG2.out (fun k hk => by injection hk with hk; omega)
          have hz2 := hg2.size
          have HC2 : Hid (w2.heap[w.heap.size]? = some (.cells #[.int .i64 0, .bool false, .int .i64 0, .string ⟨#[]⟩, .slice none 0 0, .slice none 0 0] 26 (0, 0))) := by
            rw [hg2.block _ hz1 (by simp; omega)]
            exact HC0.out
          clear hg2 hr2
          go_wp2_with fail
          refine (pairs_any j HOk.out _ b s (q + 1) d (about + 1) HR2.out HGl2.out hb8 (by omega) hs (by omega) (by have := HAD.out; omega) hd).mono ?_
          rintro e w3 ⟨he, hg3⟩
          have HG3 := hid hg3
          have HC3 : Hid (w3.heap[w.heap.size]? = some (.cells #[.int .i64 0, .bool false, .int .i64 0, .string ⟨#[]⟩, .slice none 0 0, .slice none 0 0] 26 (0, 0))) := by
            rw [hg3.block _ (by omega) (by simp; omega)]
            exact HC2.out
          clear hg3
          cases hres : mapR (itemR j) (from_ s (q + 1)) with
          | bad c r =>
            rw [hres] at he HF
            obtain ⟨p', h1, h2, he⟩ := he
            have he' : e = .panicked [{ v := faultV c p', recovered := false }] := he
            subst he'
            clear hres he
            have HH2 := hid h2
            clear h2
            go_wp2_with fail
            exact ⟨rfl, by rw [HF.out]; exact ⟨p', h1, HH2.out, rfl⟩, gtrans HG2.out HG3.out⟩
          | ok t r =>
            rw [hres] at he HF
            obtain ⟨v, he, h2, p', h3, h4, h5⟩ := he
            have h2' := h2
            rw [RdT_eq] at h2'
            obtain ⟨kv, ia, ic, rfl, hkv, _, _⟩ := h2'
            obtain ⟨ka, kc, rfl, _⟩ := hkv
            have HT := hid h2
            have HR3 := hid h5
            have HH4 := hid h4
            obtain ⟨A, HA⟩ : ∃ A, Hid (t.items.length = A) := ⟨_, hid rfl⟩
            obtain ⟨KN, HKN⟩ : ∃ A, Hid (t.keys.length = A) := ⟨_, hid rfl⟩
            rw [HA.out, HKN.out] at he HT
            subst he
            clear hres h2 h4 h5
            obtain ⟨⟨x0, x1, x2, x3, x4, x5⟩, xf⟩ := cells6 HC3.out
            go_wp2_with fail
            have HFin := put6_heap (k := w.heap.size) HC3.out (.int .i64 t.kind) (.bool t.flag) (.int .i64 t.n) (.string t.text) (.slice ka KN kc) (.slice ia A ic)
            have HPg := put6_grown w3 w.heap.size (.int .i64 t.kind) (.bool t.flag) (.int .i64 t.n) (.string t.text) (.slice ka KN kc) (.slice ia A ic)
            obtain ⟨⟨k0, k1, k2, k3, k4, k5⟩, _⟩ := cells6 HFin
            unfold put6 at k0 k1 k2 k3 k4 k5
            refine bodyPost_ret (v := .agg #[.int .i64 t.kind, .bool t.flag, .int .i64 t.n, .string t.text, .slice ka KN kc, .slice ia A ic]) ?_ rfl ⟨?_, ?_⟩
            · simp [results, Tryz.results46, go_sem, k0, k1, k2, k3, k4, k5]
            · rw [HF.out]
              exact ⟨_, rfl, HT.out.up HPg (by omega) (by omega), p', h3, HH4.out, HR3.out.far HPg (by omega)⟩
            · exact (gtrans HG2.out HG3.out).andThen HPg (fun j hj => .inl (by injection hj with hj; omega))
      · cases hc
    · by_cases h34 : c = 34
      · subst h34
        rcases hc with ⟨hqs, hc⟩ | ⟨_, hc⟩
        · have hL := itemW_text (d := deeper k) (hsk.trans hc)
          rw [HRR.out] at hL
          have HL := hid hL
          have HC := hid hc
          clear hsk hc hL h91 h123
          go_wp2_with fail
          refine (quoted_any _ b s q d HR1.out HGl.out hqs hs).mono ?_
          rintro e w2 ⟨he, hg2⟩
          have HG2 := hid hg2
          have HC2 : Hid (w2.heap[w.heap.size]? = some (.cells #[.int .i64 0, .bool false, .int .i64 0, .string ⟨#[]⟩, .slice none 0 0, .slice none 0 0] 26 (0, 0))) := by
            rw [hg2.block _ hz1 (by simp; omega)]
            exact HC0.out
          clear hg2
          cases hu : unquote (from_ s (q + 1)) with
          | none =>
            rw [hu] at he
            have he' : e = .panicked [{ v := faultV 22 q, recovered := false }] := he.1
            subst he'
            have HF : Hid (R = .bad 22 (34 :: from_ s (q + 1))) := by rw [HL.out, hu]; exact rfl
            clear hu he
            go_wp2_with fail
            exact ⟨rfl, by rw [HF.out]; exact ⟨q, hq, HC.out.symm, rfl⟩, gtrans HG01.out HG2.out⟩
          | some tr =>
            obtain ⟨kt, rr⟩ := tr
            rw [hu] at he
            obtain ⟨he1, q3, hq3, hrr, hR3⟩ := he
            subst he1
            have HF : Hid (R = .ok (.mk 4 false 0 (str kt) [] []) rr) := by rw [HL.out, hu]; exact rfl
            have HR3 := hid hR3
            have HQ3 := hid hrr
            obtain ⟨K, HKt⟩ : ∃ K, Hid (str kt = K) := ⟨_, hid rfl⟩
            rw [HKt.out] at HF ⊢
            clear hu hR3 hrr
            obtain ⟨⟨x0, x1, x2, x3, x4, x5⟩, xf⟩ := cells6 HC2.out
            go_wp2_with fail
            have HFin := put6_heap (k := w.heap.size) HC2.out (.int .i64 4) (.bool false) (.int .i64 0) (.string K) (.slice none 0 0) (.slice none 0 0)
            have HPg := put6_grown w2 w.heap.size (.int .i64 4) (.bool false) (.int .i64 0) (.string K) (.slice none 0 0) (.slice none 0 0)
            obtain ⟨⟨k0, k1, k2, k3, k4, k5⟩, _⟩ := cells6 HFin
            unfold put6 at k0 k1 k2 k3 k4 k5
            refine bodyPost_ret (v := .agg #[.int .i64 4, .bool false, .int .i64 0, .string K, .slice none 0 0, .slice none 0 0]) ?_ rfl ⟨?_, ?_⟩
            · simp [results, Tryz.results46, go_sem, k0, k1, k2, k3, k4, k5]
            · rw [HF.out]
              exact ⟨_, rfl, RdT.leaf _ _ _ _ _ _, q3, hq3, HQ3.out, HR3.out.far HPg (by omega)⟩
            · exact (gtrans HG01.out HG2.out).andThen HPg (fun j hj => .inl (by injection hj with hj; omega))
        · cases hc
      · have hw := itemW_word (d := deeper k) hsk (by rcases hc with ⟨_, hc⟩ | ⟨hc, _⟩ <;> rw [hc] <;> simp <;> exact h91) (by rcases hc with ⟨_, hc⟩ | ⟨hc, _⟩ <;> rw [hc] <;> simp <;> exact h123) (by rcases hc with ⟨_, hc⟩ | ⟨hc, _⟩ <;> rw [hc] <;> simp <;> exact h34)
        rw [HRR.out] at hw
        have HW := hid hw
        have n1 : ((c.toNat : Int) == 91) = false := by have := u8_ne (m := 91) h91; simpa using this
        have n2 : ((c.toNat : Int) == 123) = false := by have := u8_ne (m := 123) h123; simpa using this
        have n3 : ((c.toNat : Int) == 34) = false := by have := u8_ne (m := 34) h34; simpa using this
        clear hw hc hsk h91 h123 h34
        go_wp2_with fail
        refine (word_any _ b s q d HR1.out HGl.out hq hs).mono ?_
        rintro e w2 ⟨he, hg2⟩
        have HG2 := hid hg2
        have HC2 : Hid (w2.heap[w.heap.size]? = some (.cells #[.int .i64 0, .bool false, .int .i64 0, .string ⟨#[]⟩, .slice none 0 0, .slice none 0 0] 26 (0, 0))) := by
          rw [hg2.block _ hz1 (by simp; omega)]
          exact HC0.out
        clear hg2
        cases hu : readWord (wordOf (from_ s q)) with
        | error c =>
          rw [hu] at he
          have he' : e = .panicked [{ v := faultV c q, recovered := false }] := he.1
          subst he'
          have HF : Hid (R = .bad c (from_ s q)) := by rw [HW.out, hu]; exact rfl
          clear hu he
          go_wp2_with fail
          exact ⟨rfl, by rw [HF.out]; exact ⟨q, hq, rfl, rfl⟩, gtrans HG01.out HG2.out⟩
        | ok t =>
          rw [hu] at he
          obtain ⟨he1, hR3⟩ := he
          have hle : q + (wordOf (from_ s q)).length ≤ s.size := by
            have := wordOf_le (from_ s q)
            rw [from_length] at this
            omega
          have HF : Hid (R = .ok t (from_ s (q + (wordOf (from_ s q)).length))) := by rw [HW.out, hu, ← from_drop]; exact rfl
          have HLf := hid (readWord_leaf hu)
          have he2 : e = .returned (.agg #[.int .i64 t.kind, .bool t.flag, .int .i64 t.n, .string t.text, .slice none 0 0, .slice none 0 0]) := he1
          subst he2
          obtain ⟨Q, HQ⟩ : ∃ Q, Hid (q + (wordOf (from_ s q)).length = Q) := ⟨_, hid rfl⟩
          rw [HQ.out] at HF hR3 hle
          have HR3 := hid hR3
          clear hu hR3 he1
          obtain ⟨⟨x0, x1, x2, x3, x4, x5⟩, xf⟩ := cells6 HC2.out
          go_wp2_with fail
          have HFin := put6_heap (k := w.heap.size) HC2.out (.int .i64 t.kind) (.bool t.flag) (.int .i64 t.n) (.string t.text) (.slice none 0 0) (.slice none 0 0)
          have HPg := put6_grown w2 w.heap.size (.int .i64 t.kind) (.bool t.flag) (.int .i64 t.n) (.string t.text) (.slice none 0 0) (.slice none 0 0)
          obtain ⟨⟨k0, k1, k2, k3, k4, k5⟩, _⟩ := cells6 HFin
          unfold put6 at k0 k1 k2 k3 k4 k5
          refine bodyPost_ret (v := .agg #[.int .i64 t.kind, .bool t.flag, .int .i64 t.n, .string t.text, .slice none 0 0, .slice none 0 0]) ?_ rfl ⟨?_, ?_⟩
          · simp [results, Tryz.results46, go_sem, k0, k1, k2, k3, k4, k5]
          · rw [HF.out]
            exact ⟨_, rfl, RdT.leafV HLf.out _ _, Q, hle, rfl, HR3.out.far HPg (by omega)⟩
          · exact (gtrans HG01.out HG2.out).andThen HPg (fun j hj => .inl (by injection hj with hj; omega))

/-- item reads as itemR does. -/
theorem item_any : ∀ k, ItemOk k
  | 0 => item_step 0 (fun j h => by cases h)
  | k + 1 => item_step (k + 1) (fun j h => by have e : k = j := by omega
                                              exact e ▸ item_any k)
end Go.Proofs.YtdmnhkgiojkphaaGreatDoor

namespace Go.Proofs.YtdmnhkgiojkphaaGreatDoor
open Go Go.RowKit Go.Maps
open Go.RowKit (wrap32 wrap64)

theorem catch_idle (p r : Addr) (w : World) :
    CallsD Tryz.prog 45 #[.pointer (some p), .pointer (some r)] .returning w fun e u' w' => e = .returned (.tuple #[]) ∧ u' = .returning ∧ w' = w := by
  refine callsD_of_wpS Tryz.func45 rfl fun c₀ cs hu => ?_
  apply wpS_seq
  apply wpS_region
  simp [wpOpsS, go_sem, recoverD, hu, Tryz.ntmps45, Exit.thenS]
  apply wpS_seq
  apply wpS_region
  simp [wpOpsS, go_sem, Exit.thenS, Array.replicate]
  refine wpS_cond (t := false) (by simp [Act.eval]) ?_
  simp only [Bool.false_eq_true, if_false]
  refine wpS_of_wp (wp_skip ?_)
  cases c₀
  simp_all [bodyPostS, results, Tryz.results45]

theorem laid69 {w : World} {p r : Nat} {a0 a1 a2 a3 a4 a5 b0 b1 : Value} (c q : Int) (hp : w.heap[p]? = some (.cells #[a0, a1, a2, a3, a4, a5] 26 (0, 0))) (hr : w.heap[r]? = some (.cells #[b0, b1] 69 (0, 0))) (hpr : p ≠ r) :
    ∃ W : World, ((((((((w.setCell ⟨p, 0, none⟩ (.int .i64 0)).setCell ⟨p, 1, none⟩ (.bool false)).setCell ⟨p, 2, none⟩ (.int .i64 0)).setCell ⟨p, 3, none⟩ (.string ⟨#[]⟩)).setCell ⟨p, 4, none⟩ (.slice none 0 0)).setCell ⟨p, 5, none⟩ (.slice none 0 0)).setCell ⟨r, 0, none⟩ (.int .i64 c)).setCell ⟨r, 1, none⟩ (.int .i64 q)).drew = W ∧ W.heap[p]? = some (.cells #[.int .i64 0, .bool false, .int .i64 0, .string ⟨#[]⟩, .slice none 0 0, .slice none 0 0] 26 (0, 0)) ∧ W.heap[r]? = some (.cells #[.int .i64 c, .int .i64 q] 69 (0, 0)) ∧ Two p r w W := by
  have g6 := put6_grown w p (.int .i64 0) (.bool false) (.int .i64 0) (.string ⟨#[]⟩) (.slice none 0 0) (.slice none 0 0)
  have h6 := put6_heap hp (.int .i64 0) (.bool false) (.int .i64 0) (.string ⟨#[]⟩) (.slice none 0 0) (.slice none 0 0)
  have r6 : (put6 w p (.int .i64 0) (.bool false) (.int .i64 0) (.string ⟨#[]⟩) (.slice none 0 0) (.slice none 0 0)).heap[r]? = some (.cells #[b0, b1] 69 (0, 0)) := (g6.block r (Array.getElem?_eq_some_iff.1 hr).1 (by simp; exact hpr.symm)).trans hr
  refine ⟨(((put6 w p (.int .i64 0) (.bool false) (.int .i64 0) (.string ⟨#[]⟩) (.slice none 0 0) (.slice none 0 0)).setCell ⟨r, 0, none⟩ (.int .i64 c)).setCell ⟨r, 1, none⟩ (.int .i64 q)).drew, rfl, ?_⟩
  generalize (put6 w p (.int .i64 0) (.bool false) (.int .i64 0) (.string ⟨#[]⟩) (.slice none 0 0) (.slice none 0 0)) = W6 at g6 h6 r6
  have g1 := gset W6 ⟨r, 0, none⟩ (.int .i64 c)
  have g2 := gset (W6.setCell ⟨r, 0, none⟩ (.int .i64 c)) ⟨r, 1, none⟩ (.int .i64 q)
  have g3 := gdrew ((W6.setCell ⟨r, 0, none⟩ (.int .i64 c)).setCell ⟨r, 1, none⟩ (.int .i64 q)) 1 none
  have hl := (Array.getElem?_eq_some_iff.1 h6).1
  refine ⟨?_, ?_, ((Two.of g6 (.inr (.inl rfl))).trans (Two.of g1 (.inr (.inr rfl)))).trans ((Two.of g2 (.inr (.inr rfl))).trans (Two.of g3 (.inl rfl)))⟩
  · show ((W6.setCell ⟨r, 0, none⟩ (.int .i64 c)).setCell ⟨r, 1, none⟩ (.int .i64 q)).heap[p]? = _
    rw [g2.block p (Nat.lt_of_lt_of_le hl g1.size) (by simp; exact hpr), g1.block p hl (by simp; exact hpr)]
    exact h6
  · show ((W6.setCell ⟨r, 0, none⟩ (.int .i64 c)).setCell ⟨r, 1, none⟩ (.int .i64 q)).heap[r]? = _
    simp [World.setCell, Array.getElem?_modify, r6]

set_option maxRecDepth 100000 in
theorem catch_panicking (p r : Nat) (c : Int) (q : Int) (older : List PanicEntry) (w : World) (a0 a1 a2 a3 a4 a5 b0 b1 : Value)
    (hp : w.heap[p]? = some (.cells #[a0, a1, a2, a3, a4, a5] 26 (0, 0))) (hr : w.heap[r]? = some (.cells #[b0, b1] 69 (0, 0))) (hpr : p ≠ r) :
    CallsD Tryz.prog 45 #[.pointer (some ⟨p, 0, none⟩), .pointer (some ⟨r, 0, none⟩)] (.panicking ({ v := faultV c q, recovered := false } :: older)) w fun e u' w' =>
      e = .returned (.tuple #[]) ∧ u' = .panicking ({ v := faultV c q, recovered := true } :: older) ∧ w'.heap[p]? = some (.cells #[.int .i64 0, .bool false, .int .i64 0, .string ⟨#[]⟩, .slice none 0 0, .slice none 0 0] 26 (0, 0)) ∧ w'.heap[r]? = some (.cells #[.int .i64 c, .int .i64 q] 69 (0, 0)) ∧ Two p r w w' := by
  unfold faultV
  refine callsD_of_wpS Tryz.func45 rfl fun c₀ cs hu => ?_
  apply wpS_seq
  apply wpS_region
  simp [wpOpsS, go_sem, recoverD, hu, Tryz.ntmps45, Exit.thenS]
  apply wpS_seq
  apply wpS_region
  simp [wpOpsS, go_sem, Exit.thenS, Array.replicate]
  refine wpS_cond (t := true) (by simp [Act.eval]) ?_
  simp only [if_true]
  refine wpS_of_wp ?_
  obtain ⟨⟨x0, x1, x2, x3, x4, x5⟩, xf⟩ := cells6 hp
  have z0 : w.cell? ⟨r, 0, none⟩ = some b0 := by simp [World.cell?, hr]
  have z1 : w.cell? ⟨r, 1, none⟩ = some b1 := by simp [World.cell?, hr]
  have zf : ∀ o, w.frozen? ⟨r, o, none⟩ = false := fun o => by simp [World.frozen?, hr]
  have HP := hid hp
  have HR := hid hr
  have HU := hid hu
  clear hp hr hu
  have hta : ∀ w' : World, (Instr.typeAssert (Value.iface 69 (Value.agg #[Value.int IntKind.i64 c, Value.int IntKind.i64 q])) 20 69 false).run Tryz.prog w' = .ok (Value.agg #[Value.int IntKind.i64 c, Value.int IntKind.i64 q]) w' := fun _ => by first | rfl | kernel_rfl | simp [go_sem]
  go_region
  obtain ⟨W, hW, L1, L2, L3⟩ := laid69 c q HP.out HR.out hpr
  rw [hW]
  simp [bodyPostS, results, Tryz.results45, L1, L2, L3]
end Go.Proofs.YtdmnhkgiojkphaaGreatDoor

namespace Go.Proofs.YtdmnhkgiojkphaaGreatDoor
open Go Go.RowKit Go.Maps
open Go.RowKit (wrap32 wrap64)

def zeroV6 : Value := .agg #[.int .i64 0, .bool false, .int .i64 0, .string ⟨#[]⟩, .slice none 0 0, .slice none 0 0]
/-- How Parse ends. -/
def ParseEnds (r : Res Tree) (B : Nat) (s : ByteArray) (e : Ending) (w' : World) : Prop :=
  match r with
  | .ok t _ => ∃ v, e = .returned (.tuple #[v, .agg #[.int .i64 0, .int .i64 0]]) ∧ RdT w' (fun g => B ≤ g) t v
  | .bad c q => ∃ p : Nat, p ≤ s.size ∧ q = from_ s p ∧ e = .returned (.tuple #[zeroV6, .agg #[.int .i64 c, .int .i64 p]])

theorem laidV {w : World} {p r : Nat} {a0 a1 a2 a3 a4 a5 b0 b1 : Value} (hp : w.heap[p]? = some (.cells #[a0, a1, a2, a3, a4, a5] 26 (0, 0))) (hr : w.heap[r]? = some (.cells #[b0, b1] 69 (0, 0))) (hpr : p ≠ r) (a b c d e f x y : Value) :
    ∃ W : World, (((((((w.setCell ⟨p, 0, none⟩ a).setCell ⟨p, 1, none⟩ b).setCell ⟨p, 2, none⟩ c).setCell ⟨p, 3, none⟩ d).setCell ⟨p, 4, none⟩ e).setCell ⟨p, 5, none⟩ f).setCell ⟨r, 0, none⟩ x).setCell ⟨r, 1, none⟩ y = W ∧ W.heap[p]? = some (.cells #[a, b, c, d, e, f] 26 (0, 0)) ∧ W.heap[r]? = some (.cells #[x, y] 69 (0, 0)) ∧ Two p r w W := by
  have g6 := put6_grown w p a b c d e f
  have h6 := put6_heap hp a b c d e f
  have r6 : (put6 w p a b c d e f).heap[r]? = some (.cells #[b0, b1] 69 (0, 0)) := (g6.block r (Array.getElem?_eq_some_iff.1 hr).1 (by simp; exact hpr.symm)).trans hr
  refine ⟨((put6 w p a b c d e f).setCell ⟨r, 0, none⟩ x).setCell ⟨r, 1, none⟩ y, rfl, ?_⟩
  generalize put6 w p a b c d e f = W6 at g6 h6 r6
  have g1 := gset W6 ⟨r, 0, none⟩ x
  have g2 := gset (W6.setCell ⟨r, 0, none⟩ x) ⟨r, 1, none⟩ y
  have hl := (Array.getElem?_eq_some_iff.1 h6).1
  refine ⟨?_, ?_, (Two.of g6 (.inr (.inl rfl))).trans ((Two.of g1 (.inr (.inr rfl))).trans (Two.of g2 (.inr (.inr rfl))))⟩
  · rw [g2.block p (Nat.lt_of_lt_of_le hl g1.size) (by simp; exact hpr), g1.block p hl (by simp; exact hpr)]
    exact h6
  · simp [World.setCell, Array.getElem?_modify, r6]

set_option maxRecDepth 100000 in
set_option maxHeartbeats 1000000 in
theorem parse_any (w : World) (s : ByteArray) (d : Nat) (hG : Glob w) (hw : 8 ≤ w.heap.size) (hs : s.size ≤ 4294967280) (hd : d ≤ 32) :
    Calls Tryz.prog 18 #[.string s, .int .i64 d] w fun e w' => ParseEnds (parseR d (from_ s 0)) w.heap.size s e w' ∧ w.grownBy w' none := by
  have hmf : ∀ (fn : Fn) (first cap : Array Value) (w : World), (Instr.makeFunc fn first cap).run Tryz.prog w = .ok (.func fn first cap) w := fun _ _ _ _ => rfl
  obtain ⟨R, HRR⟩ : ∃ R, Hid (parseR d (from_ s 0) = R) := ⟨_, hid rfl⟩
  rw [HRR.out]
  go_enter_defers Tryz.func18, Tryz.ntmps18
  go_wp2_with fail
  have HW2 : Hid (∀ a b c : Obj, w.grownBy (((w.alloc a).alloc b).alloc c) none) := fun a b c => gtrans (galloc w a none) (gtrans (galloc _ b none) (galloc _ c none))
  obtain ⟨W0, hW0⟩ : ∃ W0, ((w.alloc (.cells #[.int .i64 0, .bool false, .int .i64 0, .string ⟨#[]⟩, .slice none 0 0, .slice none 0 0] 26)).alloc (.cells #[.int .i64 0, .int .i64 0] 69)).alloc (.cells #[.string s, .int .i64 0, .int .i64 (d : Int)] 111) = W0 := ⟨_, rfl⟩
  have c0 : W0.heap[w.heap.size]? = some (.cells #[.int .i64 0, .bool false, .int .i64 0, .string ⟨#[]⟩, .slice none 0 0, .slice none 0 0] 26 (0, 0)) := by
    rw [← hW0]; exact alloc_keeps (alloc_keeps (heap_alloc_new w _) _) _
  have c1 : W0.heap[w.heap.size + 1]? = some (.cells #[.int .i64 0, .int .i64 0] 69 (0, 0)) := by
    rw [← hW0]
    refine alloc_keeps ?_ _
    have := heap_alloc_new (w.alloc (.cells #[.int .i64 0, .bool false, .int .i64 0, .string ⟨#[]⟩, .slice none 0 0, .slice none 0 0] 26)) (.cells #[.int .i64 0, .int .i64 0] 69)
    simpa using this
  have hr0 : Rdr W0 (w.heap.size + 1 + 1) s (0 : Nat) d := by
    unfold Rdr
    rw [← hW0]
    have := heap_alloc_new ((w.alloc (.cells #[.int .i64 0, .bool false, .int .i64 0, .string ⟨#[]⟩, .slice none 0 0, .slice none 0 0] 26)).alloc (.cells #[.int .i64 0, .int .i64 0] 69)) (.cells #[.string s, .int .i64 0, .int .i64 (d : Int)] 111)
    simpa using this
  have hg0 : w.grownBy W0 none := by rw [← hW0]; exact HW2.out _ _ _
  have hz0 : W0.heap.size = w.heap.size + 3 := by rw [← hW0]; simp
  rw [hW0]
  have hGl : Glob W0 := hG.grown hg0 (fun k hk => by cases hk)
  refine (item_any d W0 (w.heap.size + 1 + 1) s 0 d 0 hr0 hGl (by omega) (Nat.zero_le _) hs (by omega) (by omega) (by omega)).mono ?_
  rintro e w1 ⟨he, hg1⟩
  have HC0 : Hid (w1.heap[w.heap.size]? = some (.cells #[.int .i64 0, .bool false, .int .i64 0, .string ⟨#[]⟩, .slice none 0 0, .slice none 0 0] 26 (0, 0))) := by
    rw [hg1.block _ (by omega) (by simp; omega)]; exact c0
  have HC1 : Hid (w1.heap[w.heap.size + 1]? = some (.cells #[.int .i64 0, .int .i64 0] 69 (0, 0))) := by
    rw [hg1.block _ (by omega) (by simp)]; exact c1
  have HG1 : Hid (w.grownBy w1 none) := hg0.andThen hg1 (fun j hj => .inl (by injection hj with hj; omega))
  have hz1 : w.heap.size + 3 ≤ w1.heap.size := by have := hg1.size; omega
  clear hW0 c0 c1 hr0 hg0 hGl hg1 HW2
  cases hres : itemR d (from_ s 0) with
  | bad c r =>
    rw [hres] at he
    obtain ⟨p', h1, h2, he⟩ := he
    have he' : e = .panicked [{ v := faultV c p', recovered := false }] := he
    subst he'
    have HF : Hid (R = .bad c r) := by rw [← HRR.out]; unfold parseR; rw [hres]; exact rfl
    have HH2 := hid h2
    clear he hres h2
    go_wp2_with fail
    refine leaves_cons (f := 45) (args := #[.pointer (some ⟨w.heap.size, 0, none⟩), .pointer (some ⟨w.heap.size + 1, 0, none⟩)]) (by simp) (by simp [go_sem]) ?_
    refine (catch_panicking w.heap.size (w.heap.size + 1) c p' [] w1 _ _ _ _ _ _ _ _ HC0.out HC1.out (by omega)).mono ?_
    rintro e u' w2 ⟨rfl, rfl, hA, hB, hT⟩
    have hgT : w.grownBy w2 none := ⟨hT.os.trans HG1.out.os, hT.tape.trans HG1.out.tape, hT.output.trans HG1.out.output, Nat.le_trans HG1.out.size hT.size, fun k hk _ => (hT.block k (by omega) (by omega) (by omega)).trans (HG1.out.block k hk (by simp))⟩
    obtain ⟨⟨k0, k1, k2, k3, k4, k5⟩, _⟩ := cells6 hA
    have m0 : w2.cell? ⟨w.heap.size + 1, 0, none⟩ = some (.int .i64 c) := by simp [World.cell?, hB]
    have m1 : w2.cell? ⟨w.heap.size + 1, 1, none⟩ = some (.int .i64 p') := by simp [World.cell?, hB]
    simp [Leaves, settle, results, Tryz.results18, go_sem, k0, k1, k2, k3, k4, k5, m0, m1]
    refine ⟨?_, hgT⟩
    rw [HF.out]
    exact ⟨p', h1, HH2.out, rfl⟩
  | ok t r =>
    rw [hres] at he
    obtain ⟨v, he, h2, p', h3, h4, h5⟩ := he
    have h2' := h2
    rw [RdT_eq] at h2'
    obtain ⟨kv, ia, ic, rfl, hkv, _, _⟩ := h2'
    obtain ⟨ka, kc, rfl, _⟩ := hkv
    have HT := hid h2
    have HR3 := hid h5
    have HH4 := hid h4
    obtain ⟨A, HA⟩ : ∃ A, Hid (t.items.length = A) := ⟨_, hid rfl⟩
    obtain ⟨KN, HKN⟩ : ∃ A, Hid (t.keys.length = A) := ⟨_, hid rfl⟩
    rw [HA.out, HKN.out] at he HT
    subst he
    have HRES := hid hres
    have HZ0 := hid hz0
    clear hres h2 h4 h5 hz0
    obtain ⟨⟨x0, x1, x2, x3, x4, x5⟩, xf⟩ := cells6 HC0.out
    go_wp2_with fail
    have HFin := put6_heap (k := w.heap.size) HC0.out (.int .i64 t.kind) (.bool t.flag) (.int .i64 t.n) (.string t.text) (.slice ka KN kc) (.slice ia A ic)
    have HPg := put6_grown w1 w.heap.size (.int .i64 t.kind) (.bool t.flag) (.int .i64 t.n) (.string t.text) (.slice ka KN kc) (.slice ia A ic)
    have HR4 := HR3.out.far HPg (by omega)
    have HEnd := hid (end_any _ (w.heap.size + 1 + 1) s p' d HR4 h3 (by omega))
    obtain ⟨W6, HW6⟩ : ∃ W6, Hid (put6 w1 w.heap.size (.int .i64 t.kind) (.bool t.flag) (.int .i64 t.n) (.string t.text) (.slice ka KN kc) (.slice ia A ic) = W6) := ⟨_, hid rfl⟩
    refine HEnd.out.mono ?_
    clear HEnd
    unfold faulted
    rw [HW6.out] at HFin HPg ⊢
    clear HR4 HW6
    rintro e w3 ⟨q, hq, hr3, hg3', hsk, ht⟩
    have hp6 := HPg.size
    have hz3 := hg3'.size
    have HD : Hid (w3.heap[w.heap.size]? = some (.cells #[.int .i64 t.kind, .bool t.flag, .int .i64 t.n, .string t.text, .slice ka KN kc, .slice ia A ic] 26 (0, 0))) := (hg3'.block _ (by omega) (by simp; omega)).trans HFin
    have HE : Hid (w3.heap[w.heap.size + 1]? = some (.cells #[.int .i64 0, .int .i64 0] 69 (0, 0))) := (hg3'.block _ (by omega) (by simp)).trans ((HPg.block _ (by omega) (by simp)).trans HC1.out)
    have HG3 : Hid (w.grownBy w3 none) := (HG1.out.andThen HPg (fun j hj => .inl (by injection hj with hj; omega))).andThen hg3' (fun j hj => .inl (by injection hj with hj; omega))
    have HT3 : Hid (RdT w3 (fun g => w.heap.size + 3 ≤ g) t (.agg #[.int .i64 t.kind, .bool t.flag, .int .i64 t.n, .string t.text, .slice ka KN kc, .slice ia A ic])) :=
      (HT.out.up (B := w.heap.size + 3) HPg (by have := HZ0.out; omega) (by have := HZ0.out; omega)).up (B := w.heap.size + 3) hg3' (by omega) (Nat.le_refl _)
    have hz33 : w.heap.size + 3 ≤ w3.heap.size := by omega
    clear hg3' hr3 HPg HFin x0 x1 x2 x3 x4 x5 xf hp6 hz3
    rcases ht with ⟨rfl, hnil⟩ | ⟨rfl, hne⟩
    · have HF : Hid (R = .ok t []) := by
        rw [← HRR.out]; unfold parseR; rw [HRES.out]
        show (match skip r with | [] => _ | p => _) = _
        rw [HH4.out, hsk, hnil]
      clear hsk hnil
      obtain ⟨⟨x0, x1, x2, x3, x4, x5⟩, xf⟩ := cells6 HD.out
      have z0 : w3.cell? ⟨w.heap.size + 1, 0, none⟩ = some (.int .i64 0) := by simp [World.cell?, HE.out]
      have z1 : w3.cell? ⟨w.heap.size + 1, 1, none⟩ = some (.int .i64 0) := by simp [World.cell?, HE.out]
      have zf : ∀ o, w3.frozen? ⟨w.heap.size + 1, o, none⟩ = false := fun o => by simp [World.frozen?, HE.out]
      have HL := laidV HD.out HE.out (by omega) (.int .i64 t.kind) (.bool t.flag) (.int .i64 t.n) (.string t.text) (.slice ka KN kc) (.slice ia A ic) (.int .i64 0) (.int .i64 0)
      obtain ⟨W, hW, hWp, hWr, hTw⟩ := HL
      have HW := hid hW
      have HWp := hid hWp
      have HWr := hid hWr
      have HTw := hid hTw
      clear hW hWp hWr hTw
      go_wp2_with fail
      rw [HW.out]
      refine leaves_cons (f := 45) (args := #[.pointer (some ⟨w.heap.size, 0, none⟩), .pointer (some ⟨w.heap.size + 1, 0, none⟩)]) (by simp) (by simp [go_sem]) ?_
      refine (catch_idle ⟨w.heap.size, 0, none⟩ ⟨w.heap.size + 1, 0, none⟩ W).mono ?_
      rintro e u' w2 ⟨rfl, rfl, rfl⟩
      have hgT : w.grownBy w2 none := ⟨HTw.out.os.trans HG3.out.os, HTw.out.tape.trans HG3.out.tape, HTw.out.output.trans HG3.out.output, Nat.le_trans HG3.out.size HTw.out.size, fun k hk _ => (HTw.out.block k (by omega) (by omega) (by omega)).trans (HG3.out.block k hk (by simp))⟩
      obtain ⟨⟨k0, k1, k2, k3, k4, k5⟩, _⟩ := cells6 HWp.out
      have m0 : w2.cell? ⟨w.heap.size + 1, 0, none⟩ = some (.int .i64 0) := by simp [World.cell?, HWr.out]
      have m1 : w2.cell? ⟨w.heap.size + 1, 1, none⟩ = some (.int .i64 0) := by simp [World.cell?, HWr.out]
      simp [Leaves, settle, results, Tryz.results18, go_sem, k0, k1, k2, k3, k4, k5, m0, m1]
      refine ⟨?_, hgT⟩
      rw [HF.out]
      refine ⟨_, rfl, ?_⟩
      exact RdT.kept (F := fun g => w.heap.size + 3 ≤ g) ⟨HTw.out.size, fun g hg hl => HTw.out.block g hl (by omega) (by omega)⟩ (fun g hg _ => by omega) t HT3.out
    · have HF : Hid (R = .bad 25 (from_ s q)) := by
        rw [← HRR.out]; unfold parseR; rw [HRES.out]
        show (match skip r with | [] => _ | p => _) = _
        rw [HH4.out, hsk]
        split
        · rename_i h0; exact absurd h0 hne
        · rfl
      clear hsk hne
      go_wp2_with fail
      refine leaves_cons (f := 45) (args := #[.pointer (some ⟨w.heap.size, 0, none⟩), .pointer (some ⟨w.heap.size + 1, 0, none⟩)]) (by simp) (by simp [go_sem]) ?_
      refine (catch_panicking w.heap.size (w.heap.size + 1) 25 q [] w3 _ _ _ _ _ _ _ _ HD.out HE.out (by omega)).mono ?_
      rintro e u' w2 ⟨rfl, rfl, hA, hB, hT⟩
      have hgT : w.grownBy w2 none := ⟨hT.os.trans HG3.out.os, hT.tape.trans HG3.out.tape, hT.output.trans HG3.out.output, Nat.le_trans HG3.out.size hT.size, fun k hk _ => (hT.block k (by omega) (by omega) (by omega)).trans (HG3.out.block k hk (by simp))⟩
      obtain ⟨⟨k0, k1, k2, k3, k4, k5⟩, _⟩ := cells6 hA
      have m0 : w2.cell? ⟨w.heap.size + 1, 0, none⟩ = some (.int .i64 25) := by simp [World.cell?, hB]
      have m1 : w2.cell? ⟨w.heap.size + 1, 1, none⟩ = some (.int .i64 q) := by simp [World.cell?, hB]
      simp [Leaves, settle, results, Tryz.results18, go_sem, k0, k1, k2, k3, k4, k5, m0, m1]
      refine ⟨?_, hgT⟩
      rw [HF.out]
      exact ⟨q, hq, rfl, rfl⟩

set_option maxRecDepth 100000 in
set_option maxHeartbeats 1000000 in
theorem parse_depth (w : World) (s : ByteArray) (d : Int) (hd : d < 0 ∨ 32 < d) :
    Calls Tryz.prog 18 #[.string s, .int .i64 d] w fun e w' => e = .returned (.tuple #[zeroV6, .agg #[.int .i64 20, .int .i64 0]]) ∧ w.grownBy w' none := by
  have hmf : ∀ (fn : Fn) (first cap : Array Value) (w : World), (Instr.makeFunc fn first cap).run Tryz.prog w = .ok (.func fn first cap) w := fun _ _ _ _ => rfl
  have HW2 : Hid (∀ a b : Obj, w.grownBy ((w.alloc a).alloc b) none) := fun a b => gtrans (galloc w a none) (galloc _ b none)
  have hh : (decide (d < 0) || decide (32 < d)) = true := by rcases hd with h | h <;> simp [h]
  rcases hd with h | h
  · have h1 : decide (d < 0) = true := decide_eq_true h
    go_enter_defers Tryz.func18, Tryz.ntmps18
    go_wp2_with fail
    show Leaves _ _ _ _ _ _ _
    have c0 : ((w.alloc (.cells #[.int .i64 0, .bool false, .int .i64 0, .string ⟨#[]⟩, .slice none 0 0, .slice none 0 0] 26)).alloc (.cells #[.int .i64 20, .int .i64 0] 69)).heap[w.heap.size]? = some (.cells #[.int .i64 0, .bool false, .int .i64 0, .string ⟨#[]⟩, .slice none 0 0, .slice none 0 0] 26 (0, 0)) := alloc_keeps (heap_alloc_new w _) _
    have c1 : ((w.alloc (.cells #[.int .i64 0, .bool false, .int .i64 0, .string ⟨#[]⟩, .slice none 0 0, .slice none 0 0] 26)).alloc (.cells #[.int .i64 20, .int .i64 0] 69)).heap[w.heap.size + 1]? = some (.cells #[.int .i64 20, .int .i64 0] 69 (0, 0)) := by
      have := heap_alloc_new (w.alloc (.cells #[.int .i64 0, .bool false, .int .i64 0, .string ⟨#[]⟩, .slice none 0 0, .slice none 0 0] 26)) (.cells #[.int .i64 20, .int .i64 0] 69)
      simpa using this
    have hgW := HW2.out (.cells #[.int .i64 0, .bool false, .int .i64 0, .string ⟨#[]⟩, .slice none 0 0, .slice none 0 0] 26) (.cells #[.int .i64 20, .int .i64 0] 69)
    generalize (w.alloc (.cells #[.int .i64 0, .bool false, .int .i64 0, .string ⟨#[]⟩, .slice none 0 0, .slice none 0 0] 26)).alloc (.cells #[.int .i64 20, .int .i64 0] 69) = W at c0 c1 hgW ⊢
    obtain ⟨⟨k0, k1, k2, k3, k4, k5⟩, _⟩ := cells6 c0
    have m0 : W.cell? ⟨w.heap.size + 1, 0, none⟩ = some (.int .i64 20) := by simp [World.cell?, c1]
    have m1 : W.cell? ⟨w.heap.size + 1, 1, none⟩ = some (.int .i64 0) := by simp [World.cell?, c1]
    simp [Leaves, results, Tryz.results18, go_sem, k0, k1, k2, k3, k4, k5, m0, m1, zeroV6]
    exact hgW
  · have h1 : decide (d < 0) = false := decide_eq_false (by omega)
    have h2 : decide (32 < d) = true := decide_eq_true h
    go_enter_defers Tryz.func18, Tryz.ntmps18
    go_wp2_with fail
    show Leaves _ _ _ _ _ _ _
    have c0 : ((w.alloc (.cells #[.int .i64 0, .bool false, .int .i64 0, .string ⟨#[]⟩, .slice none 0 0, .slice none 0 0] 26)).alloc (.cells #[.int .i64 20, .int .i64 0] 69)).heap[w.heap.size]? = some (.cells #[.int .i64 0, .bool false, .int .i64 0, .string ⟨#[]⟩, .slice none 0 0, .slice none 0 0] 26 (0, 0)) := alloc_keeps (heap_alloc_new w _) _
    have c1 : ((w.alloc (.cells #[.int .i64 0, .bool false, .int .i64 0, .string ⟨#[]⟩, .slice none 0 0, .slice none 0 0] 26)).alloc (.cells #[.int .i64 20, .int .i64 0] 69)).heap[w.heap.size + 1]? = some (.cells #[.int .i64 20, .int .i64 0] 69 (0, 0)) := by
      have := heap_alloc_new (w.alloc (.cells #[.int .i64 0, .bool false, .int .i64 0, .string ⟨#[]⟩, .slice none 0 0, .slice none 0 0] 26)) (.cells #[.int .i64 20, .int .i64 0] 69)
      simpa using this
    have hgW := HW2.out (.cells #[.int .i64 0, .bool false, .int .i64 0, .string ⟨#[]⟩, .slice none 0 0, .slice none 0 0] 26) (.cells #[.int .i64 20, .int .i64 0] 69)
    generalize (w.alloc (.cells #[.int .i64 0, .bool false, .int .i64 0, .string ⟨#[]⟩, .slice none 0 0, .slice none 0 0] 26)).alloc (.cells #[.int .i64 20, .int .i64 0] 69) = W at c0 c1 hgW ⊢
    obtain ⟨⟨k0, k1, k2, k3, k4, k5⟩, _⟩ := cells6 c0
    have m0 : W.cell? ⟨w.heap.size + 1, 0, none⟩ = some (.int .i64 20) := by simp [World.cell?, c1]
    have m1 : W.cell? ⟨w.heap.size + 1, 1, none⟩ = some (.int .i64 0) := by simp [World.cell?, c1]
    simp [Leaves, results, Tryz.results18, go_sem, k0, k1, k2, k3, k4, k5, m0, m1, zeroV6]
    exact hgW
end Go.Proofs.YtdmnhkgiojkphaaGreatDoor

namespace Go.Proofs.YtdmnhkgiojkphaaGreatDoor
open Go Go.RowKit
open Go.RowKit (wrap32 wrap64)

def keyN : List ByteArray → Nat
  | [] => 0
  | k :: r => k.size + 1 + keyN r
mutual
/-- How much stands in a tree. -/
def cntT : Tree → Nat
  | .mk _ _ _ t ks is => cntL is + (t.size + keyN ks) + 1
def cntL : List Tree → Nat
  | [] => 0
  | t :: r => cntT t + cntL r
end
theorem cntT_eq (t : Tree) : cntT t = cntL t.items + (t.text.size + keyN t.keys) + 1 := by cases t with | mk => rw [cntT]; rfl
theorem keyN_length (l : List ByteArray) : l.length ≤ keyN l := by
  induction l with
  | nil => simp [keyN]
  | cons a r ih => rw [keyN, List.length_cons]; omega
theorem keyN_mem {l : List ByteArray} {k : ByteArray} (h : k ∈ l) : k.size ≤ keyN l := by
  induction l with
  | nil => cases h
  | cons a r ih =>
    rw [keyN]
    rcases List.mem_cons.1 h with rfl | h
    · omega
    · have := ih h; omega
theorem cntL_mem {l : List Tree} {t : Tree} (h : t ∈ l) : cntT t ≤ cntL l := by
  induction l with
  | nil => cases h
  | cons a r ih =>
    rw [cntL]
    rcases List.mem_cons.1 h with rfl | h
    · omega
    · have := ih h; omega
theorem cntL_length (l : List Tree) : l.length ≤ cntL l := by
  induction l with
  | nil => simp [cntL]
  | cons a r ih =>
    rw [cntL, List.length_cons]
    have := cntT_eq a
    omega

/-- The cells of a new block of a value. -/
theorem boxed (w : World) (a b c d e f : Value) : (w.alloc (.cells #[a, b, c, d, e, f] 26)).heap[w.heap.size]? = some (.cells #[a, b, c, d, e, f] 26 (0, 0)) := heap_alloc_new w _
theorem Stays.none {F : Nat → Prop} {w w' : World} (hg : w.grownBy w' none) : Stays F w w' := Stays.grown hg fun _ _ => by simp

/-- The cells of an item, as an index finds them. -/
theorem RdIs.at {w wr : World} {F : Nat → Prop} {g o : Nat} {l : List Tree} (h : RdIs w F g o l) (hs : Stays F w wr) (hF : F g) (hg : g < w.heap.size) (i : Nat) (hi : i < l.length) :
    ∃ a b c d e f, wr.cell? ⟨g, o + i * 6, none⟩ = some a ∧ wr.cell? ⟨g, o + i * 6 + 1, none⟩ = some b ∧ wr.cell? ⟨g, o + i * 6 + 2, none⟩ = some c ∧ wr.cell? ⟨g, o + i * 6 + 3, none⟩ = some d ∧ wr.cell? ⟨g, o + i * 6 + 4, none⟩ = some e ∧ wr.cell? ⟨g, o + i * 6 + 5, none⟩ = some f ∧ RdT wr F l[i] (.agg #[a, b, c, d, e, f]) := by
  have := RdIs.get _ (RdIs.kept hs (fun _ h _ => h) hF hg _ h) i _ (List.getElem?_eq_getElem hi)
  rw [Nat.mul_comm 6 i] at this
  exact this

end Go.Proofs.YtdmnhkgiojkphaaGreatDoor
