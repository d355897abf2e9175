/- The walk of key. -/
import Derived.Test.YtdmnhkgiojkphaaGreatDoorMem
import Derived.Test.YtdmnhkgiojkphaaGreatDoorWalkG
import Derived.Maps.Own
import Derived.Maps.OwnSet
import Derived.Maps.Views
import Derived.StringKeys
import Derived.Test.YtdmnhkgiojkphaaGreatDoorWalkH
namespace Go.Proofs.YtdmnhkgiojkphaaGreatDoor
open Go Go.RowKit Go.Maps
open Go.RowKit (wrap32 wrap64)

/-- All blocks but two are as they were. -/
structure Two (b m : Nat) (w w' : World) : Prop where
  os : w'.os = w.os
  tape : w'.tape = w.tape
  output : w'.output = w.output
  size : w.heap.size ≤ w'.heap.size
  block : ∀ k, k < w.heap.size → k ≠ b → k ≠ m → w'.heap[k]? = w.heap[k]?
theorem Two.trans {b m : Nat} {x y z : World} (h : Two b m x y) (k : Two b m y z) : Two b m x z :=
  ⟨k.os.trans h.os, k.tape.trans h.tape, k.output.trans h.output, Nat.le_trans h.size k.size, fun i hi h1 h2 => (k.block i (Nat.lt_of_lt_of_le hi h.size) h1 h2).trans (h.block i hi h1 h2)⟩
theorem Two.of {b m : Nat} {w w' : World} {row : Option Nat} (h : w.grownBy w' row) (hr : row = none ∨ row = some b ∨ row = some m) : Two b m w w' :=
  ⟨h.os, h.tape, h.output, h.size, fun k hk h1 h2 => h.block k hk (by rcases hr with rfl | rfl | rfl <;> simp <;> assumption)⟩
theorem Two.grown {b m : Nat} {w x y : World} (h : w.grownBy x (some b)) (k : Two b m x y) (hm : w.heap.size ≤ m) : w.grownBy y (some b) :=
  ⟨k.os.trans h.os, k.tape.trans h.tape, k.output.trans h.output, Nat.le_trans h.size k.size, fun i hi hr => (k.block i (Nat.lt_of_lt_of_le hi h.size) (fun e => hr (by rw [e])) (by omega)).trans (h.block i hi hr)⟩

/-! ### a quoted text is no longer than its spelling -/
set_option maxRecDepth 100000 in
theorem escP_small {l : List UInt8} {p w : Nat} (h : escP l = some (p, w)) : (Lib.encodeRune p).length ≤ w := by
  have h4 : (Lib.encodeRune p).length ≤ 4 := by
    unfold Lib.encodeRune
    rw [List.length_map]
    exact (Lib.encodeRuneZ_length p).2
  have h1 : p ≤ 127 → (Lib.encodeRune p).length = 1 := by
    intro hp
    unfold Lib.encodeRune
    rw [Lib.encodeRuneZ_one (by omega) (by omega)]
    rfl
  generalize (Lib.encodeRune p).length = z at h4 h1 ⊢
  have key : p ≤ 127 ∨ 4 ≤ w := by
    unfold escP at h
    repeat' split at h
    all_goals simp only [Option.some.injEq, Prod.mk.injEq, reduceCtorEq] at h
    all_goals first | (right; omega) | (left; omega) | skip
    all_goals (rename_i hc; left; rcases hc with rfl | rfl | rfl <;> (rw [← h.1]; decide))
  have := escP_width h
  rcases key with hk | hk
  · rw [h1 hk]; omega
  · omega
theorem unquote_size : ∀ (n : Nat) (l t r : List UInt8), l.length ≤ n → unquote l = some (t, r) → t.length ≤ l.length
  | 0, l, t, r, h, hu => by
    have : l = [] := List.eq_nil_of_length_eq_zero (by omega)
    subst this; cases hu
  | n + 1, [], t, r, _, hu => by cases hu
  | n + 1, c :: q, t, r, h, hu => by
    simp only [List.length_cons] at h
    have step : ∀ (w : Nat) (p : List UInt8), 1 ≤ w → p.length ≤ w → addFront p (unquote ((c :: q).drop w)) = some (t, r) → t.length ≤ (c :: q).length := by
      intro w p hw hpw hs
      cases hd : unquote ((c :: q).drop w) with
      | none => rw [hd] at hs; cases hs
      | some tr =>
        obtain ⟨t', r'⟩ := tr
        rw [hd] at hs
        simp only [addFront, Option.some.injEq, Prod.mk.injEq] at hs
        obtain ⟨rfl, _⟩ := hs
        have ih := unquote_size n _ _ _ (by rw [List.length_drop, List.length_cons]; omega) hd
        have hrest := (unquote_rest _ _ _ _ (Nat.le_refl _) hd).1
        rw [List.length_drop] at ih hrest
        rw [List.length_append]
        omega
    rw [unquote_cons] at hu
    split at hu
    · simp only [Option.some.injEq, Prod.mk.injEq] at hu
      obtain ⟨rfl, _⟩ := hu
      simp
    · split at hu
      · split at hu
        · cases hu
        · rename_i he
          exact step _ _ (by have := escP_width he; omega) (escP_small he) hu
      · split at hu
        · cases hu
        · exact step _ _ (Lib.decodeL_width _) (by rw [List.length_take]; omega) hu

theorem law9 : Keyed Tryz.prog 9 := string_keyed Tryz.underlying9
theorem zero3 (w : World) : (zeroValue 3).run Tryz.prog w = .ok (.int .i64 0) w := by kernel_rfl

/-- A map that knows just the keys ks. -/
def MapOf (w : World) (mb n : Nat) (ks : List ByteArray) : Prop :=
  ∃ D : DataW Unit, w.ownsMap Tryz.prog 9 (plainElem Tryz.prog 3) mb n D ∧ (∀ k : ByteArray, Maps.has D (.string k.data.toList) = hasK ks k) ∧ Maps.size D = ks.length
theorem MapOf.made (w : World) : MapOf (w.alloc (.map #[] 0)) w.heap.size 0 [] := ⟨_, World.ownsMap_made w Tryz.prog 9 _, fun _ => rfl, rfl⟩
theorem MapOf.kept {w w' : World} {mb n : Nat} {ks : List ByteArray} {row : Option Nat} (h : MapOf w mb n ks) (hg : w.grownBy w' row) (hne : some mb ≠ row) : MapOf w' mb n ks := by
  obtain ⟨D, h1, h2, h3⟩ := h
  exact ⟨D, h1.kept hg hne, h2, h3⟩
theorem MapOf.lt {w : World} {mb n : Nat} {ks : List ByteArray} (h : MapOf w mb n ks) : mb < w.heap.size := by
  obtain ⟨D, ⟨es, clock, hb, _⟩, _⟩ := h
  exact (Array.getElem?_eq_some_iff.1 hb).1
theorem hasK_snoc (ks : List ByteArray) (k x : ByteArray) : hasK (ks ++ [k]) x = (hasK ks x || decide (k.data.toList = x.data.toList)) := by
  unfold hasK
  rw [List.any_append]
  simp
theorem has_snoc {D : DataW Unit} {es : List (Lit × DataW Unit)} {ks : List ByteArray} {k : ByteArray} {d : DataW Unit} (hD : D = .map es) (h : ∀ x : ByteArray, Maps.has D (.string x.data.toList) = hasK ks x) (x : ByteArray) :
    Maps.has (D.put (.string k.data.toList) d) (.string x.data.toList) = hasK (ks ++ [k]) x := by
  rw [hasK_snoc]
  by_cases e : x.data.toList = k.data.toList
  · rw [e, Maps.has_put_same ⟨es, hD⟩ (by trivial)]
    simp
  · rw [Maps.has_put_other (by intro h; injection h with h; exact e h), h, decide_eq_false (fun h => e h.symm), Bool.or_false]

/-- How key ends. -/
def KeyEnds (r : Res ByteArray) (b mb n : Nat) (ks : List ByteArray) (s : ByteArray) (d : Int) (e : Ending) (w' : World) : Prop :=
  match r with
  | .ok k q => e = .returned (.string k) ∧ k.size ≤ s.size ∧ ∃ p : Nat, p ≤ s.size ∧ q = from_ s p ∧ Rdr w' b s p d ∧ MapOf w' mb (n + 1) (ks ++ [k])
  | .bad c q => ∃ p : Nat, p ≤ s.size ∧ q = from_ s p ∧ e = faulted c p
theorem keyR_no {ks : List ByteArray} {l m : List UInt8} (h : skip l = m) (hn : m.head? ≠ some 34) : keyR ks l = .bad 22 m := by
  unfold keyR
  rw [h]
  split
  · rename_i r hr; exact absurd rfl hn
  · rfl
theorem keyR_yes {ks : List ByteArray} {l m : List UInt8} (h : skip l = 34 :: m) : keyR ks l = match unquote m with
    | none => .bad 22 (34 :: m)
    | some (k, q) => if hasK ks (str k) = true then .bad 24 (34 :: m) else .ok (str k) q := by
  unfold keyR
  rw [h]
  rfl

set_option maxRecDepth 100000 in
set_option maxHeartbeats 1000000 in
theorem key_any (w : World) (b mb n : Nat) (ks : List ByteArray) (s : ByteArray) (p : Nat) (d : Int) (h : Rdr w b s p d) (hM : MapOf w mb n ks) (hG : Glob w) (hb8 : 8 ≤ b) (hbm : b ≠ mb) (hp : p ≤ s.size) (hs : s.size ≤ 4294967280) (hn : n ≤ 4294967280) (hkn : ks.length ≤ 4294967280) :
    Calls Tryz.prog 141 #[.pointer (some ⟨b, 0, none⟩), .map (some mb)] w fun e w' => KeyEnds (keyR ks (from_ s p)) b mb n ks s d e w' ∧ Two b mb w w' := by
  obtain ⟨R, HRR⟩ : ∃ R, Hid (keyR ks (from_ s p) = R) := ⟨_, hid rfl⟩
  rw [HRR.out]
  have HM := hid hM
  clear hM
  go_enter Tryz.func141, Tryz.ntmps141
  go_wp2_with fail
  refine (first_any w b s p d h hp (by omega)).mono ?_
  rintro e w1 ⟨q, c, rfl, hsk, hq, hc, hr1, hg1⟩
  have HM1 := hid (HM.out.kept hg1 (by simp; exact fun h => hbm h.symm))
  have hbd := u8_bd c
  have HR1 := hid hr1
  have HG1 := hid hg1
  have hGl := hG.grown hg1 (fun k hk => by injection hk with hk; omega)
  have HGl := hid hGl
  have hlt1 := hr1.lt
  clear hr1 hg1 h hGl
  by_cases hc34 : c = 34
  · subst hc34
    rcases hc with ⟨hqs, hc⟩ | ⟨_, hc⟩
    · have hyes := keyR_yes (ks := ks) (hsk.trans hc)
      rw [HRR.out] at hyes
      have HY := hid hyes
      have HC := hid hc
      clear hsk hc hyes
      go_wp2_with fail
      refine (fault_any _ b s q d 24 HR1.out).mono ?_
      rintro e w2 ⟨rfl, hg2⟩
      have hr2 := HR1.out.kept hg2
      have hr3 : Rdr (w2.alloc (.cells #[.int .i64 24, .int .i64 q] 69)) b s q d := hr2.kept (galloc _ _ none)
      have HR3 := hid hr3
      have hG3 := (HGl.out.grown hg2 (fun k hk => by cases hk)).grown (galloc w2 (.cells #[.int .i64 24, .int .i64 q] 69) none) (fun k hk => by cases hk)
      have HG3 := hid hG3
      have HG2 := hid hg2
      have hz2 := hg2.size
      clear hr2 hr3 hG3 hg2
      go_wp2_with fail
      refine (quoted_any _ b s q d HR3.out HG3.out hqs hs).mono ?_
      rintro e w3 ⟨he, hg3⟩
      have HG33 := hid hg3
      have htw : Two b mb w w3 := (((Two.of HG1.out (.inr (.inl rfl))).trans (Two.of HG2.out (.inl rfl))).trans (Two.of (galloc w2 _ none) (.inl rfl))).trans (Two.of hg3 (.inr (.inl rfl)))
      have HTW := hid htw
      have HM3 := hid (((HM1.out.kept HG2.out (by simp)).kept (galloc w2 (.cells #[.int .i64 24, .int .i64 q] 69) none) (by simp)).kept hg3 (by simp; exact fun h => hbm h.symm))
      have hv3 : w3.heap[w2.heap.size]? = some (.cells #[.int .i64 24, .int .i64 q] 69 (0, 0)) := by
        rw [hg3.block _ (by simp) (by simp; omega)]
        exact heap_alloc_new w2 _
      have v0 : w3.cell? ⟨w2.heap.size, 0, none⟩ = some (.int .i64 24) := by simp [World.cell?, hv3]
      have v1 : w3.cell? ⟨w2.heap.size, 1, none⟩ = some (.int .i64 q) := by simp [World.cell?, hv3]
      clear hg3 htw hv3
      cases hu : unquote (from_ s (q + 1)) with
      | none =>
        rw [hu] at he
        have he' : e = .panicked [{ v := faultV 22 q, recovered := false }] := he.1
        subst he'
        have HF : Hid (R = .bad 22 (34 :: from_ s (q + 1))) := by rw [HY.out, hu]; exact rfl
        clear hu he
        go_wp2_with fail
        exact ⟨rfl, by rw [HF.out]; exact ⟨q, hq, HC.out.symm, rfl⟩, HTW.out⟩
      | some tr =>
        obtain ⟨kt, rr⟩ := tr
        rw [hu] at he
        obtain ⟨he1, q3, hq3, hrr, hR3⟩ := he
        subst he1
        have HR33 := hid hR3
        have HQ3 := hid hrr
        have hks : (str kt).size ≤ s.size := by
          have := unquote_size _ _ _ _ (Nat.le_refl _) hu
          have h2 : (from_ s (q + 1)).length ≤ s.size := by unfold from_; rw [List.length_drop, Array.length_toList]; exact Nat.sub_le _ _
          have h3 : (str kt).size = kt.length := by simp [str, ByteArray.size]
          omega
        obtain ⟨K, hK⟩ : ∃ K, str kt = K := ⟨_, rfl⟩
        rw [hK] at hks ⊢
        have HF0 : Hid (R = if hasK ks K = true then .bad 24 (34 :: from_ s (q + 1)) else .ok K rr) := by rw [HY.out, hu, ← hK]; exact rfl
        obtain ⟨D, hown, hhas, hsize⟩ := HM3.out
        have hkey : keyOf Tryz.prog 9 (.string K) = some (.string K.data.toList) := WideMaps.keyOf_string_mk Tryz.underlying9 (by unfold maxLen; omega)
        have hmn : n < maxLen := by unfold maxLen; omega
        have HH := hid (hhas K)
        have HHA := hid hhas
        have HSZ := hid hsize
        clear hu hhas hsize hR3 hrr hK
        cases hhk : hasK ks K with
        | true =>
          rw [hhk] at HH HF0
          go_wp2_with (at_lookup; refine wpList_lookup_own_ok_int _ rfl _ _ 159 rfl 9 3 .i64 law9 Tryz.underlying159 Tryz.underlying3 (zero3 _) mb n D rfl hown _ _ rfl hkey ?_; intro c hat hwc; rw [HH.out])
          exact ⟨rfl, by rw [HF0.out, if_pos trivial]; exact ⟨q, hq, HC.out.symm, rfl⟩, HTW.out⟩
        | false =>
          rw [hhk] at HH HF0
          have HF1 : Hid (R = .ok K rr) := by rw [HF0.out]; exact rfl
          clear HF0
          have hwz : (Lit.int IntKind.i64 (Maps.size D)).wf = true := by
            rw [HSZ.out]
            have : ks.length ≤ 4294967280 := hkn
            simp [Lit.wf, IntKind.min, IntKind.max, IntKind.bits, IntKind.signed]
            omega
          go_wp2_with (first
            | (at_lookup; refine wpList_lookup_own_ok_int _ rfl _ _ 159 rfl 9 3 .i64 law9 Tryz.underlying159 Tryz.underlying3 (zero3 _) mb n D rfl hown _ _ rfl hkey ?_; intro c hat hwc; rw [HH.out])
            | (at_len; refine wpList_len_own _ rfl _ 159 rfl 9 3 Tryz.underlying159 _ mb n D rfl hown ?_)
            | (at_mapUpdate; refine wpList_mapUpdate_own _ rfl _ _ _ 159 rfl 9 3 law9 Tryz.underlying159 _ mb n D rfl hown hmn _ _ _ rfl rfl hkey _ _ (plainElem_int Tryz.underlying3 hwz) ?_; intro w4 hown4 hg4))
          refine bodyPost_ret (v := .string K) (by simp [results, Tryz.results141, go_sem]) rfl ?_
          have htw4 := HTW.out.trans (Two.of hg4 (.inr (.inr rfl)))
          refine ⟨?_, htw4⟩
          rw [HF1.out]
          refine ⟨rfl, hks, q3, hq3, HQ3.out, ?_, _, hown4, ?_, ?_⟩
          · have h3 := HR33.out
            unfold Rdr at h3 ⊢
            rw [hg4.block b HR33.out.lt (by simp; omega), h3]
          · obtain ⟨es, he⟩ := hown.isMap
            exact has_snoc he HHA.out
          · rw [Maps.size_put (hown.tidy law9), HH.out, HSZ.out]
            simp
    · cases hc
  · have hne : ((c.toNat : Int) != 34) = true := u8_ne (m := 34) hc34
    have HF : Hid (R = .bad 22 (from_ s q)) := by
      rw [← HRR.out]
      refine keyR_no hsk ?_
      rcases hc with ⟨_, hc⟩ | ⟨hc, _⟩
      · rw [hc]; simpa using hc34
      · rw [hc]; simp
    clear hc hsk hc34
    go_wp2_with (go_at_call 81; refine (fault_any _ b s q d 22 HR1.out).mono ?_; rintro e w2 ⟨rfl, hg2⟩)
    exact ⟨rfl, by rw [HF.out]; exact ⟨q, hq, rfl, rfl⟩, (Two.of HG1.out (.inr (.inl rfl))).trans (Two.of hg2 (.inl rfl))⟩
end Go.Proofs.YtdmnhkgiojkphaaGreatDoor

namespace Go.Proofs.YtdmnhkgiojkphaaGreatDoor
open Go Go.RowKit Go.Maps
open Go.RowKit (wrap32 wrap64)

theorem row_ne_row {w : World} {B1 B2 e1 e2 z1 z2 n1 n2 : Nat} {v1 v2 : Value} {x1 x2 : List Value} (h1 : w.ownsRow B1 e1 z1 v1 n1 x1) (h2 : w.ownsRow B2 e2 z2 v2 n2 x2) (he : e1 ≠ e2) (g : Nat) (hg : v1.ownBlock = some g) : v2.ownBlock ≠ some g := by
  intro hg2
  rcases h1.2 with ⟨rfl, _⟩ | ⟨g1, cap1, cur1, rfl, _, hb1, _⟩
  · cases hg
  · rcases h2.2 with ⟨rfl, _⟩ | ⟨g2, cap2, cur2, rfl, _, hb2, _⟩
    · cases hg2
    · have e1' : g1 = g := by injection hg
      have e2' : g2 = g := by injection hg2
      subst e1' e2'
      rw [hb1] at hb2
      injection hb2 with hb2
      injection hb2 with _ hb2
      exact he hb2
theorem row_ne_map {w : World} {B e z n m mb : Nat} {v : Value} {xs : List Value} {ks : List ByteArray} (h : w.ownsRow B e z v n xs) (hm : MapOf w mb m ks) : v.ownBlock ≠ some mb := by
  intro hg
  obtain ⟨D, ⟨es, clock, hb, _⟩, _⟩ := hm
  rcases h.2 with ⟨rfl, _⟩ | ⟨g1, cap1, cur1, rfl, _, hb1, _⟩
  · cases hg
  · have e1' : g1 = mb := by injection hg
    subst e1'
    rw [hb] at hb1
    cases hb1

theorem rows_apart {w : World} {B1 B2 e1 e2 z1 z2 n1 n2 : Nat} {v1 v2 : Value} {x1 x2 : List Value} (h1 : w.ownsRow B1 e1 z1 v1 n1 x1) (h2 : w.ownsRow B2 e2 z2 v2 n2 x2) (he : e1 ≠ e2) : v1.ownBlock = none ∨ v1.ownBlock ≠ v2.ownBlock := by
  cases hv : v1.ownBlock with
  | none => exact .inl rfl
  | some g => exact .inr fun e => row_ne_row h1 h2 he g hv e.symm
theorem Two.split {b m : Nat} {w w2 : World} (h : Two b m w w2) : ∃ w', w.grownBy w' (some m) ∧ w'.grownBy w2 (some b) := by
  by_cases hm : m < w.heap.size
  · have hm2 : m < w2.heap.size := Nat.lt_of_lt_of_le hm h.size
    refine ⟨{ w with heap := w.heap.setIfInBounds m w2.heap[m] }, ⟨rfl, rfl, rfl, by simp, fun k hk hr => ?_⟩, ⟨h.os, h.tape, h.output, by simpa using h.size, fun k hk hr => ?_⟩⟩
    · show (w.heap.setIfInBounds m w2.heap[m])[k]? = _
      rw [Array.getElem?_setIfInBounds_ne (fun e => hr (by rw [e]))]
    · show _ = (w.heap.setIfInBounds m w2.heap[m])[k]?
      by_cases hkm : m = k
      · subst hkm
        rw [Array.getElem?_setIfInBounds_self_of_lt hm]
        exact Array.getElem?_eq_getElem hm2
      · rw [Array.getElem?_setIfInBounds_ne hkm]
        exact h.block k (by simpa using hk) (fun e => hr (by rw [e])) (fun e => hkm e.symm)
  · exact ⟨w, ⟨rfl, rfl, rfl, Nat.le_refl _, fun _ _ _ => rfl⟩, ⟨h.os, h.tape, h.output, h.size, fun k hk hr => h.block k hk (fun e => hr (by rw [e])) (by omega)⟩⟩

/-- The state of pairs: the reader, the two blocks of its own, the map of the keys, both rows. -/
structure PS (w : World) (b : Nat) (s : ByteArray) (d : Int) (mb n q : Nat) (ks : List ByteArray) (acc : List Tree) (kv iv : Value) (xi : List Value) (wr : World) : Prop where
  rd : Rdr wr b s q d
  gr : w.grownBy wr (some b)
  zero : wr.heap[w.heap.size]? = some (.cells #[.int .i64 0, .bool false, .int .i64 0, .string ⟨#[]⟩, .slice none 0 0, .slice none 0 0] 26 (0, 0))
  val : wr.heap[w.heap.size + 1]? = some (.cells #[.int .i64 6, .bool false, .int .i64 0, .string ⟨#[]⟩, kv, iv] 26 (0, 0))
  map : MapOf wr mb n ks
  mlo : w.heap.size + 2 ≤ mb
  keys : wr.ownsRow (w.heap.size + 2) 9 1 kv ks.length (ks.map .string)
  items : wr.ownsRow (w.heap.size + 2) 26 6 iv acc.length xi
  elems : Elems wr (fun g => (w.heap.size + 2 ≤ g ∧ some g ≠ kv.ownBlock ∧ g ≠ mb) ∧ some g ≠ iv.ownBlock) acc xi

variable {w wr : World} {b mb n q : Nat} {s : ByteArray} {d : Int} {ks : List ByteArray} {acc : List Tree} {kv iv : Value} {xi : List Value}
theorem PS.size (h : PS w b s d mb n q ks acc kv iv xi wr) : w.heap.size + 1 < wr.heap.size := (Array.getElem?_eq_some_iff.1 h.val).1
/-- The reader goes on. -/
theorem PS.step (h : PS w b s d mb n q ks acc kv iv xi wr) {w2 : World} {q2 : Nat} (hb : b < w.heap.size) (hr : Rdr w2 b s q2 d) (hg : wr.grownBy w2 (some b)) : PS w b s d mb n q2 ks acc kv iv xi w2 := by
  have hz := h.size
  refine ⟨hr, gtrans h.gr hg, ?_, ?_, h.map.kept hg (by have := h.mlo; simp; omega), h.mlo, h.keys.kept hg (.inr fun e => ?_), h.items.kept hg (.inr fun e => ?_), h.elems.on (Stays.grown hg fun x hx e => ?_)⟩
  · rw [hg.block _ (by omega) (by simp; omega)]; exact h.zero
  · rw [hg.block _ (by omega) (by simp; omega)]; exact h.val
  · have := (h.keys.lt _ e).1; omega
  · have := (h.items.lt _ e).1; omega
  · injection e with e
    omega
/-- One key more. -/
theorem PS.key (h : PS w b s d mb n q ks acc kv iv xi wr) {w2 w3 : World} {q2 g cap : Nat} {k : ByteArray} {o : Obj} (hb : b < w.heap.size) (hr : Rdr w2 b s q2 d) (hm : MapOf w2 mb (n + 1) (ks ++ [k])) (ht : Two b mb wr w2)
    (hown : w3.ownsRow (w.heap.size + 2) 9 1 (.slice (some ⟨g, 0, none⟩) (ks.length + 1) cap) (ks.length + 1) (ks.map .string ++ [.string k])) (hg : (w2.alloc o).grownBy w3 kv.ownBlock) (hat : kv.ownBlock = some g ∨ g = w2.heap.size + 1) :
    PS w b s d mb (n + 1) q2 (ks ++ [k]) acc (.slice (some ⟨g, 0, none⟩) (ks.length + 1) cap) iv xi (w3.setCell ⟨w.heap.size + 1, 4, none⟩ (.slice (some ⟨g, 0, none⟩) (ks.length + 1) cap)) := by
  have hz := h.size
  obtain ⟨w', h1, h2⟩ := ht.split
  have hz1 := h1.size
  have hz2 := h2.size
  have hz3 := hg.size
  simp only [World.alloc, Array.size_push] at hz3
  have hlo := h.mlo
  have gs : w3.grownBy (w3.setCell ⟨w.heap.size + 1, 4, none⟩ (.slice (some ⟨g, 0, none⟩) (ks.length + 1) cap)) (some (w.heap.size + 1)) := gset w3 ⟨w.heap.size + 1, 4, none⟩ _
  have kne : ∀ x, kv.ownBlock = some x → w.heap.size + 2 ≤ x ∧ x < wr.heap.size := fun x hx => h.keys.lt x hx
  have ine : ∀ x, iv.ownBlock = some x → w.heap.size + 2 ≤ x ∧ x < wr.heap.size := fun x hx => h.items.lt x hx
  have hkm := row_ne_map h.keys h.map
  have him := row_ne_map h.items h.map
  have keep : ∀ x, x < w.heap.size + 2 → x ≠ b → w3.heap[x]? = wr.heap[x]? := fun x hx hxb => by
    rw [hg.block _ (by simp only [World.alloc, Array.size_push]; omega) (fun e => by have := (kne x e.symm).1; omega), Below.heap_alloc _ _ _ (by omega), h2.block x (by omega) (by simp; exact hxb), h1.block x (by omega) (by simp; omega)]
  have hr3 : Rdr w3 b s q2 d := by
    have hrl := hr.lt
    unfold Rdr at hr ⊢
    rw [hg.block b (by simp only [World.alloc, Array.size_push]; omega) (fun e => by have := (kne b e.symm).1; omega), Below.heap_alloc _ _ _ hrl]
    exact hr
  have hm3 : MapOf w3 mb (n + 1) (ks ++ [k]) := (hm.kept (galloc w2 o none) (by simp)).kept hg (fun e => hkm e.symm)
  have hi3 := (((h.items.kept h1 (.inr him)).kept h2 (.inr fun e => by have := (ine b e).1; omega)).alloc o).kept hg (rows_apart h.items h.keys (by decide))
  refine ⟨hr3.far gs (by omega), ?_, ?_, set4_heap ((keep _ (by omega) (by omega)).trans h.val) _, hm3.kept gs (by simp; omega), hlo, ?_, hi3.kept gs (.inr fun e => by have := (ine _ e).1; omega), ?_⟩
  · refine World.grownBy.andThen (World.grownBy.andThen (World.grownBy.andThen (World.grownBy.andThen (h.gr.andThen h1 (fun j hj => .inl (by injection hj with hj; omega))) h2 (fun j hj => .inr hj)) (galloc w2 o none) (fun j hj => by cases hj)) hg (fun j hj => .inl (by have := (kne j hj).1; omega))) gs (fun j hj => .inl (by injection hj with hj; omega))
  · rw [gs.block _ (by omega) (by simp), keep _ (by omega) (by omega)]
    exact h.zero
  · rw [List.length_append, List.map_append]
    exact hown.kept gs (.inr fun e => by have := (hown.lt _ e).1; omega)
  · refine Elems.kept (F := fun g => (w.heap.size + 2 ≤ g ∧ some g ≠ kv.ownBlock ∧ g ≠ mb) ∧ some g ≠ iv.ownBlock) ?_ ?_ h.elems
    · refine ((((Stays.grown h1 fun x hx e => ?_).trans (Stays.grown h2 fun x hx e => ?_)).trans (Stays.grown (galloc w2 o none) (fun _ _ => by simp))).trans (Stays.grown hg fun x hx => hx.1.2.1)).trans (Stays.grown gs fun x hx e => ?_)
      · injection e with e; exact hx.1.2.2 e
      · injection e with e; omega
      · injection e with e; omega
    · intro x hx hl
      refine ⟨⟨hx.1.1, fun e => ?_, hx.1.2.2⟩, hx.2⟩
      have e : x = g := by injection e
      rcases hat with h' | h'
      · exact hx.1.2.1 (by rw [h', e])
      · omega
/-- One item more. -/
theorem PS.item (h : PS w b s d mb n q ks acc kv iv xi wr) {w2 w3 : World} {q2 g cap : Nat} {t : Tree} {a0 a1 a2 a3 a4 a5 : Value} {o : Obj} (hb : b < w.heap.size) (hr : Rdr w2 b s q2 d) (hg2 : wr.grownBy w2 (some b))
    (hT : RdT w2 (fun g => wr.heap.size ≤ g) t (.agg #[a0, a1, a2, a3, a4, a5]))
    (hown : w3.ownsRow (w.heap.size + 2) 26 6 (.slice (some ⟨g, 0, none⟩) (acc.length + 1) cap) (acc.length + 1) (xi ++ [a0, a1, a2, a3, a4, a5])) (hg : (w2.alloc o).grownBy w3 iv.ownBlock) (hat : iv.ownBlock = some g ∨ g = w2.heap.size + 1) :
    PS w b s d mb n q2 ks (acc ++ [t]) kv (.slice (some ⟨g, 0, none⟩) (acc.length + 1) cap) (xi ++ [a0, a1, a2, a3, a4, a5]) (w3.setCell ⟨w.heap.size + 1, 5, none⟩ (.slice (some ⟨g, 0, none⟩) (acc.length + 1) cap)) := by
  have hz := h.size
  have hz2 := hg2.size
  have hz3 := hg.size
  simp only [World.alloc, Array.size_push] at hz3
  have hlo := h.mlo
  have gs : w3.grownBy (w3.setCell ⟨w.heap.size + 1, 5, none⟩ (.slice (some ⟨g, 0, none⟩) (acc.length + 1) cap)) (some (w.heap.size + 1)) := gset w3 ⟨w.heap.size + 1, 5, none⟩ _
  have kne : ∀ x, kv.ownBlock = some x → w.heap.size + 2 ≤ x ∧ x < wr.heap.size := fun x hx => h.keys.lt x hx
  have ine : ∀ x, iv.ownBlock = some x → w.heap.size + 2 ≤ x ∧ x < wr.heap.size := fun x hx => h.items.lt x hx
  have hmlt := h.map.lt
  have him := row_ne_map h.items h.map
  have keep : ∀ x, x < w.heap.size + 2 → x ≠ b → w3.heap[x]? = wr.heap[x]? := fun x hx hxb => by
    rw [hg.block _ (by simp only [World.alloc, Array.size_push]; omega) (fun e => by have := (ine x e.symm).1; omega), Below.heap_alloc _ _ _ (by omega), hg2.block x (by omega) (by simp; exact hxb)]
  have hr3 : Rdr w3 b s q2 d := by
    have hrl := hr.lt
    unfold Rdr at hr ⊢
    rw [hg.block b (by simp only [World.alloc, Array.size_push]; omega) (fun e => by have := (ine b e.symm).1; omega), Below.heap_alloc _ _ _ hrl]
    exact hr
  have hm3 : MapOf w3 mb n ks := ((h.map.kept hg2 (by simp; omega)).kept (galloc w2 o none) (by simp)).kept hg (fun e => him e.symm)
  have hk3 := ((h.keys.kept hg2 (.inr fun e => by have := (kne b e).1; omega)).alloc o).kept hg (rows_apart h.keys h.items (by decide))
  have hE3 := elems_more (X := fun g => some g ≠ kv.ownBlock ∧ g ≠ mb) (B := w.heap.size + 2) (b := b) (by omega) (by omega) h.items h.elems hg2 hT (fun x hx => ⟨fun e => by have := (kne x e.symm).2; omega, by omega⟩) hg hat
  refine ⟨hr3.far gs (by omega), ?_, ?_, set5_heap ((keep _ (by omega) (by omega)).trans h.val) _, hm3.kept gs (by simp; omega), hlo, hk3.kept gs (.inr fun e => by have := (kne _ e).1; omega), ?_, hE3.on (Stays.grown gs fun x hx e => ?_)⟩
  · refine World.grownBy.andThen (World.grownBy.andThen (World.grownBy.andThen (h.gr.andThen hg2 (fun j hj => .inr hj)) (galloc w2 o none) (fun j hj => by cases hj)) hg (fun j hj => .inl (by have := (ine j hj).1; omega))) gs (fun j hj => .inl (by injection hj with hj; omega))
  · rw [gs.block _ (by omega) (by simp), keep _ (by omega) (by omega)]
    exact h.zero
  · rw [List.length_append]
    exact hown.kept gs (.inr fun e => by have := (hown.lt _ e).1; omega)
  · injection e with e
    omega
end Go.Proofs.YtdmnhkgiojkphaaGreatDoor
