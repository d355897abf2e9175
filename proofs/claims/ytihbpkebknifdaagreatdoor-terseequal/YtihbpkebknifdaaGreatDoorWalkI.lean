/- The walk of key. -/
import Derived.Test.YtihbpkebknifdaaGreatDoorX09
import Derived.Test.YtihbpkebknifdaaGreatDoorWalkG
import Derived.Maps.Own
import Derived.Maps.OwnSet
import Derived.Maps.Views
import Derived.StringKeys
namespace Go.Proofs.YtihbpkebknifdaaGreatDoor
open Go Go.RowKit Go.Maps
open Go.RowKit (wrap32 wrap64)

/-- All blocks but two are as they were. -/
structure Two (b m : Nat) (w w' : World) : Prop where
  os : w'.os = w.os
  tape : w'.tape = w.tape
  output : w'.output = w.output
  size : w.heap.size ≤ w'.heap.size
  block : ∀ k, k < w.heap.size → k ≠ b → k ≠ m → w'.heap[k]? = w.heap[k]?
theorem Two.trans {b m : Nat} {x y z : World} (h : Two b m x y) (k : Two b m y z) : Two b m x z :=
  ⟨k.os.trans h.os, k.tape.trans h.tape, k.output.trans h.output, Nat.le_trans h.size k.size, fun i hi h1 h2 => (k.block i (Nat.lt_of_lt_of_le hi h.size) h1 h2).trans (h.block i hi h1 h2)⟩
theorem Two.of {b m : Nat} {w w' : World} {row : Option Nat} (h : w.grownBy w' row) (hr : row = none ∨ row = some b ∨ row = some m) : Two b m w w' :=
  ⟨h.os, h.tape, h.output, h.size, fun k hk h1 h2 => h.block k hk (by rcases hr with rfl | rfl | rfl <;> simp <;> assumption)⟩
theorem Two.grown {b m : Nat} {w x y : World} (h : w.grownBy x (some b)) (k : Two b m x y) (hm : w.heap.size ≤ m) : w.grownBy y (some b) :=
  ⟨k.os.trans h.os, k.tape.trans h.tape, k.output.trans h.output, Nat.le_trans h.size k.size, fun i hi hr => (k.block i (Nat.lt_of_lt_of_le hi h.size) (fun e => hr (by rw [e])) (by omega)).trans (h.block i hi hr)⟩

/-! ### a quoted text is no longer than its spelling -/
set_option maxRecDepth 100000 in
theorem escP_small {l : List UInt8} {p w : Nat} (h : escP l = some (p, w)) : (Lib.encodeRune p).length ≤ w := by
  have h4 : (Lib.encodeRune p).length ≤ 4 := by
    unfold Lib.encodeRune
    rw [List.length_map]
    exact (Lib.encodeRuneZ_length p).2
  have h1 : p ≤ 127 → (Lib.encodeRune p).length = 1 := by
    intro hp
    unfold Lib.encodeRune
    rw [Lib.encodeRuneZ_one (by omega) (by omega)]
    rfl
  generalize (Lib.encodeRune p).length = z at h4 h1 ⊢
  have key : p ≤ 127 ∨ 4 ≤ w := by
    unfold escP at h
    repeat' split at h
    all_goals simp only [Option.some.injEq, Prod.mk.injEq, reduceCtorEq] at h
    all_goals first | (right; omega) | (left; omega) | skip
    all_goals (rename_i hc; left; rcases hc with rfl | rfl | rfl <;> (rw [← h.1]; decide))
  have := escP_width h
  rcases key with hk | hk
  · rw [h1 hk]; omega
  · omega
theorem unquote_size : ∀ (n : Nat) (l t r : List UInt8), l.length ≤ n → unquote l = some (t, r) → t.length ≤ l.length
  | 0, l, t, r, h, hu => by
    have : l = [] := List.eq_nil_of_length_eq_zero (by omega)
    subst this; cases hu
  | n + 1, [], t, r, _, hu => by cases hu
  | n + 1, c :: q, t, r, h, hu => by
    simp only [List.length_cons] at h
    have step : ∀ (w : Nat) (p : List UInt8), 1 ≤ w → p.length ≤ w → addFront p (unquote ((c :: q).drop w)) = some (t, r) → t.length ≤ (c :: q).length := by
      intro w p hw hpw hs
      cases hd : unquote ((c :: q).drop w) with
      | none => rw [hd] at hs; cases hs
      | some tr =>
        obtain ⟨t', r'⟩ := tr
        rw [hd] at hs
        simp only [addFront, Option.some.injEq, Prod.mk.injEq] at hs
        obtain ⟨rfl, _⟩ := hs
        have ih := unquote_size n _ _ _ (by rw [List.length_drop, List.length_cons]; omega) hd
        have hrest := (unquote_rest _ _ _ _ (Nat.le_refl _) hd).1
        rw [List.length_drop] at ih hrest
        rw [List.length_append]
        omega
    rw [unquote_cons] at hu
    split at hu
    · simp only [Option.some.injEq, Prod.mk.injEq] at hu
      obtain ⟨rfl, _⟩ := hu
      simp
    · split at hu
      · split at hu
        · cases hu
        · rename_i he
          exact step _ _ (by have := escP_width he; omega) (escP_small he) hu
      · split at hu
        · cases hu
        · exact step _ _ (Lib.decodeL_width _) (by rw [List.length_take]; omega) hu

theorem law9 : Keyed Tryz.prog 9 := string_keyed Tryz.underlying9
theorem zero3 (w : World) : (zeroValue 3).run Tryz.prog w = .ok (.int .i64 0) w := by kernel_rfl

/-- A map that knows just the keys ks. -/
def MapOf (w : World) (mb n : Nat) (ks : List ByteArray) : Prop :=
  ∃ D : DataW Unit, w.ownsMap Tryz.prog 9 (plainElem Tryz.prog 3) mb n D ∧ (∀ k : ByteArray, Maps.has D (.string k.data.toList) = hasK ks k) ∧ Maps.size D = ks.length
theorem MapOf.made (w : World) : MapOf (w.alloc (.map #[] 0)) w.heap.size 0 [] := ⟨_, World.ownsMap_made w Tryz.prog 9 _, fun _ => rfl, rfl⟩
theorem MapOf.kept {w w' : World} {mb n : Nat} {ks : List ByteArray} {row : Option Nat} (h : MapOf w mb n ks) (hg : w.grownBy w' row) (hne : some mb ≠ row) : MapOf w' mb n ks := by
  obtain ⟨D, h1, h2, h3⟩ := h
  exact ⟨D, h1.kept hg hne, h2, h3⟩
theorem MapOf.lt {w : World} {mb n : Nat} {ks : List ByteArray} (h : MapOf w mb n ks) : mb < w.heap.size := by
  obtain ⟨D, ⟨es, clock, hb, _⟩, _⟩ := h
  exact (Array.getElem?_eq_some_iff.1 hb).1
theorem hasK_snoc (ks : List ByteArray) (k x : ByteArray) : hasK (ks ++ [k]) x = (hasK ks x || decide (k.data.toList = x.data.toList)) := by
  unfold hasK
  rw [List.any_append]
  simp
theorem has_snoc {D : DataW Unit} {es : List (Lit × DataW Unit)} {ks : List ByteArray} {k : ByteArray} {d : DataW Unit} (hD : D = .map es) (h : ∀ x : ByteArray, Maps.has D (.string x.data.toList) = hasK ks x) (x : ByteArray) :
    Maps.has (D.put (.string k.data.toList) d) (.string x.data.toList) = hasK (ks ++ [k]) x := by
  rw [hasK_snoc]
  by_cases e : x.data.toList = k.data.toList
  · rw [e, Maps.has_put_same ⟨es, hD⟩ (by trivial)]
    simp
  · rw [Maps.has_put_other (by intro h; injection h with h; exact e h), h, decide_eq_false (fun h => e h.symm), Bool.or_false]

/-- How key ends. -/
def KeyEnds (r : Res ByteArray) (b mb n : Nat) (ks : List ByteArray) (s : ByteArray) (d : Int) (e : Ending) (w' : World) : Prop :=
  match r with
  | .ok k q => e = .returned (.string k) ∧ k.size ≤ s.size ∧ ∃ p : Nat, p ≤ s.size ∧ q = from_ s p ∧ Rdr w' b s p d ∧ MapOf w' mb (n + 1) (ks ++ [k])
  | .bad c q => ∃ p : Nat, p ≤ s.size ∧ q = from_ s p ∧ e = faulted c p
theorem keyR_no {ks : List ByteArray} {l m : List UInt8} (h : skip l = m) (hn : m.head? ≠ some 34) : keyR ks l = .bad 22 m := by
  unfold keyR
  rw [h]
  split
  · rename_i r hr; exact absurd rfl hn
  · rfl
theorem keyR_yes {ks : List ByteArray} {l m : List UInt8} (h : skip l = 34 :: m) : keyR ks l = match unquote m with
    | none => .bad 22 (34 :: m)
    | some (k, q) => if hasK ks (str k) = true then .bad 24 (34 :: m) else .ok (str k) q := by
  unfold keyR
  rw [h]
  rfl

set_option maxRecDepth 100000 in
set_option maxHeartbeats 1000000 in
theorem key_any (w : World) (b mb n : Nat) (ks : List ByteArray) (s : ByteArray) (p : Nat) (d : Int) (h : Rdr w b s p d) (hM : MapOf w mb n ks) (hG : Glob w) (hb8 : 8 ≤ b) (hbm : b ≠ mb) (hp : p ≤ s.size) (hs : s.size ≤ 4294967280) (hn : n ≤ 4294967280) (hkn : ks.length ≤ 4294967280) :
    Calls Tryz.prog 46 #[.pointer (some ⟨b, 0, none⟩), .map (some mb)] w fun e w' => KeyEnds (keyR ks (from_ s p)) b mb n ks s d e w' ∧ Two b mb w w' := by
  obtain ⟨R, HRR⟩ : ∃ R, Hid (keyR ks (from_ s p) = R) := ⟨_, hid rfl⟩
  rw [HRR.out]
  have HM := hid hM
  clear hM
  go_enter Tryz.func46, Tryz.ntmps46
  go_wp2_with fail
  refine (first_any w b s p d h hp (by omega)).mono ?_
  rintro e w1 ⟨q, c, rfl, hsk, hq, hc, hr1, hg1⟩
  have HM1 := hid (HM.out.kept hg1 (by simp; exact fun h => hbm h.symm))
  have hbd := u8_bd c
  have HR1 := hid hr1
  have HG1 := hid hg1
  have hGl := hG.grown hg1 (fun k hk => by injection hk with hk; omega)
  have HGl := hid hGl
  have hlt1 := hr1.lt
  clear hr1 hg1 h hGl
  by_cases hc34 : c = 34
  · subst hc34
    rcases hc with ⟨hqs, hc⟩ | ⟨_, hc⟩
    · have hyes := keyR_yes (ks := ks) (hsk.trans hc)
      rw [HRR.out] at hyes
      have HY := hid hyes
      have HC := hid hc
      clear hsk hc hyes
      go_wp2_with fail
      refine (fault_any _ b s q d 24 HR1.out).mono ?_
      rintro e w2 ⟨rfl, hg2⟩
      have hr2 := HR1.out.kept hg2
      have hr3 : Rdr (w2.alloc (.cells #[.int .i64 24, .int .i64 q] 40)) b s q d := hr2.kept (galloc _ _ none)
      have HR3 := hid hr3
      have hG3 := (HGl.out.grown hg2 (fun k hk => by cases hk)).grown (galloc w2 (.cells #[.int .i64 24, .int .i64 q] 40) none) (fun k hk => by cases hk)
      have HG3 := hid hG3
      have HG2 := hid hg2
      have hz2 := hg2.size
      clear hr2 hr3 hG3 hg2
      go_wp2_with fail
      refine (quoted_any _ b s q d HR3.out HG3.out hqs hs).mono ?_
      rintro e w3 ⟨he, hg3⟩
      have HG33 := hid hg3
      have htw : Two b mb w w3 := (((Two.of HG1.out (.inr (.inl rfl))).trans (Two.of HG2.out (.inl rfl))).trans (Two.of (galloc w2 _ none) (.inl rfl))).trans (Two.of hg3 (.inr (.inl rfl)))
      have HTW := hid htw
      have HM3 := hid (((HM1.out.kept HG2.out (by simp)).kept (galloc w2 (.cells #[.int .i64 24, .int .i64 q] 40) none) (by simp)).kept hg3 (by simp; exact fun h => hbm h.symm))
      have hv3 : w3.heap[w2.heap.size]? = some (.cells #[.int .i64 24, .int .i64 q] 40 (0, 0)) := by
        rw [hg3.block _ (by simp) (by simp; omega)]
        exact heap_alloc_new w2 _
      have v0 : w3.cell? ⟨w2.heap.size, 0, none⟩ = some (.int .i64 24) := by simp [World.cell?, hv3]
      have v1 : w3.cell? ⟨w2.heap.size, 1, none⟩ = some (.int .i64 q) := by simp [World.cell?, hv3]
      clear hg3 htw hv3
      cases hu : unquote (from_ s (q + 1)) with
      | none =>
        rw [hu] at he
        have he' : e = .panicked [{ v := faultV 22 q, recovered := false }] := he.1
        subst he'
        have HF : Hid (R = .bad 22 (34 :: from_ s (q + 1))) := by rw [HY.out, hu]; exact rfl
        clear hu he
        go_wp2_with fail
        exact ⟨rfl, by rw [HF.out]; exact ⟨q, hq, HC.out.symm, rfl⟩, HTW.out⟩
      | some tr =>
        obtain ⟨kt, rr⟩ := tr
        rw [hu] at he
        obtain ⟨he1, q3, hq3, hrr, hR3⟩ := he
        subst he1
        have HR33 := hid hR3
        have HQ3 := hid hrr
        have hks : (str kt).size ≤ s.size := by
          have := unquote_size _ _ _ _ (Nat.le_refl _) hu
          have h2 : (from_ s (q + 1)).length ≤ s.size := by unfold from_; rw [List.length_drop, Array.length_toList]; exact Nat.sub_le _ _
          have h3 : (str kt).size = kt.length := by simp [str, ByteArray.size]
          omega
        obtain ⟨K, hK⟩ : ∃ K, str kt = K := ⟨_, rfl⟩
        rw [hK] at hks ⊢
        have HF0 : Hid (R = if hasK ks K = true then .bad 24 (34 :: from_ s (q + 1)) else .ok K rr) := by rw [HY.out, hu, ← hK]; exact rfl
        obtain ⟨D, hown, hhas, hsize⟩ := HM3.out
        have hkey : keyOf Tryz.prog 9 (.string K) = some (.string K.data.toList) := WideMaps.keyOf_string_mk Tryz.underlying9 (by unfold maxLen; omega)
        have hmn : n < maxLen := by unfold maxLen; omega
        have HH := hid (hhas K)
        have HHA := hid hhas
        have HSZ := hid hsize
        clear hu hhas hsize hR3 hrr hK
        cases hhk : hasK ks K with
        | true =>
          rw [hhk] at HH HF0
          go_wp2_with (at_lookup; refine wpList_lookup_own_ok_int _ rfl _ _ 66 rfl 9 3 .i64 law9 Tryz.underlying66 Tryz.underlying3 (zero3 _) mb n D rfl hown _ _ rfl hkey ?_; intro c hat hwc; rw [HH.out])
          exact ⟨rfl, by rw [HF0.out, if_pos trivial]; exact ⟨q, hq, HC.out.symm, rfl⟩, HTW.out⟩
        | false =>
          rw [hhk] at HH HF0
          have HF1 : Hid (R = .ok K rr) := by rw [HF0.out]; exact rfl
          clear HF0
          have hwz : (Lit.int IntKind.i64 (Maps.size D)).wf = true := by
            rw [HSZ.out]
            have : ks.length ≤ 4294967280 := hkn
            simp [Lit.wf, IntKind.min, IntKind.max, IntKind.bits, IntKind.signed]
            omega
          go_wp2_with (first
            | (at_lookup; refine wpList_lookup_own_ok_int _ rfl _ _ 66 rfl 9 3 .i64 law9 Tryz.underlying66 Tryz.underlying3 (zero3 _) mb n D rfl hown _ _ rfl hkey ?_; intro c hat hwc; rw [HH.out])
            | (at_len; refine wpList_len_own _ rfl _ 66 rfl 9 3 Tryz.underlying66 _ mb n D rfl hown ?_)
            | (at_mapUpdate; refine wpList_mapUpdate_own _ rfl _ _ _ 66 rfl 9 3 law9 Tryz.underlying66 _ mb n D rfl hown hmn _ _ _ rfl rfl hkey _ _ (plainElem_int Tryz.underlying3 hwz) ?_; intro w4 hown4 hg4))
          refine bodyPost_ret (v := .string K) (by simp [results, Tryz.results46, go_sem]) rfl ?_
          have htw4 := HTW.out.trans (Two.of hg4 (.inr (.inr rfl)))
          refine ⟨?_, htw4⟩
          rw [HF1.out]
          refine ⟨rfl, hks, q3, hq3, HQ3.out, ?_, _, hown4, ?_, ?_⟩
          · have h3 := HR33.out
            unfold Rdr at h3 ⊢
            rw [hg4.block b HR33.out.lt (by simp; omega), h3]
          · obtain ⟨es, he⟩ := hown.isMap
            exact has_snoc he HHA.out
          · rw [Maps.size_put (hown.tidy law9), HH.out, HSZ.out]
            simp
    · cases hc
  · have hne : ((c.toNat : Int) != 34) = true := u8_ne (m := 34) hc34
    have HF : Hid (R = .bad 22 (from_ s q)) := by
      rw [← HRR.out]
      refine keyR_no hsk ?_
      rcases hc with ⟨_, hc⟩ | ⟨hc, _⟩
      · rw [hc]; simpa using hc34
      · rw [hc]; simp
    clear hc hsk hc34
    go_wp2_with (go_at_call 36; refine (fault_any _ b s q d 22 HR1.out).mono ?_; rintro e w2 ⟨rfl, hg2⟩)
    exact ⟨rfl, by rw [HF.out]; exact ⟨q, hq, rfl, rfl⟩, (Two.of HG1.out (.inr (.inl rfl))).trans (Two.of hg2 (.inl rfl))⟩
end Go.Proofs.YtihbpkebknifdaaGreatDoor
