/- The walk of pairs. -/
import Derived.Test.YtdmnhkgiojkphaaGreatDoorX12
namespace Go.Proofs.YtdmnhkgiojkphaaGreatDoor
open Go Go.RowKit Go.Maps
open Go.RowKit (wrap32 wrap64)

/-- What follows an item in a map. -/
def mapEnd (it : List UInt8 → Res Tree) (f : Nat) (ks : List ByteArray) (acc : List Tree) (q : List UInt8) : Res Tree := match skip q with
  | 125 :: q' => .ok (.mk 6 false 0 ⟨#[]⟩ ks acc) q'
  | 44 :: q' => mapGo it f q' ks acc
  | p => .bad 22 p
theorem mapGo_kbad {it : List UInt8 → Res Tree} {f : Nat} {l q : List UInt8} {ks : List ByteArray} {acc : List Tree} {c : Int} (h : keyR ks l = .bad c q) : mapGo it (f + 1) l ks acc = .bad c q := by
  conv => lhs; unfold mapGo
  rw [h]
theorem mapGo_colon {it : List UInt8 → Res Tree} {f : Nat} {l q p : List UInt8} {ks : List ByteArray} {acc : List Tree} {k : ByteArray} (h : keyR ks l = .ok k q) (hs : skip q = p) (hn : p.head? ≠ some 58) : mapGo it (f + 1) l ks acc = .bad 22 p := by
  conv => lhs; unfold mapGo
  rw [h]
  show (match skip q with | 58 :: q1 => _ | p => _) = _
  rw [hs]
  split
  · exact absurd rfl hn
  · rfl
theorem mapGo_ibad {it : List UInt8 → Res Tree} {f : Nat} {l q q1 q2 : List UInt8} {ks : List ByteArray} {acc : List Tree} {k : ByteArray} {c : Int} (h : keyR ks l = .ok k q) (hs : skip q = 58 :: q1) (hi : it q1 = .bad c q2) : mapGo it (f + 1) l ks acc = .bad c q2 := by
  conv => lhs; unfold mapGo
  rw [h]
  show (match skip q with | 58 :: q1 => _ | p => _) = _
  rw [hs]
  show (match it q1 with | .bad c q => _ | .ok t q => _) = _
  rw [hi]
theorem mapGo_iok {it : List UInt8 → Res Tree} {f : Nat} {l q q1 q2 : List UInt8} {ks : List ByteArray} {acc : List Tree} {k : ByteArray} {t : Tree} (h : keyR ks l = .ok k q) (hs : skip q = 58 :: q1) (hi : it q1 = .ok t q2) : mapGo it (f + 1) l ks acc = mapEnd it f (ks ++ [k]) (acc ++ [t]) q2 := by
  conv => lhs; unfold mapGo
  rw [h]
  show (match skip q with | 58 :: q1 => _ | p => _) = _
  rw [hs]
  show (match it q1 with | .bad c q => _ | .ok t q => _) = _
  rw [hi]
  rfl
theorem mapEnd_end {it : List UInt8 → Res Tree} {f : Nat} {q q1 : List UInt8} {ks : List ByteArray} {acc : List Tree} (h : skip q = 125 :: q1) : mapEnd it f ks acc q = .ok (.mk 6 false 0 ⟨#[]⟩ ks acc) q1 := by
  unfold mapEnd
  rw [h]
  rfl
theorem mapEnd_more {it : List UInt8 → Res Tree} {f : Nat} {q q1 : List UInt8} {ks : List ByteArray} {acc : List Tree} (h : skip q = 44 :: q1) : mapEnd it f ks acc q = mapGo it f q1 ks acc := by
  unfold mapEnd
  rw [h]
  rfl
theorem mapEnd_bad {it : List UInt8 → Res Tree} {f : Nat} {q p : List UInt8} {ks : List ByteArray} {acc : List Tree} (h : skip q = p) (h1 : p.head? ≠ some 125) (h2 : p.head? ≠ some 44) : mapEnd it f ks acc q = .bad 22 p := by
  unfold mapEnd
  rw [h]
  split
  · exact absurd rfl h1
  · exact absurd rfl h2
  · rfl
theorem mapR_eq (it : List UInt8 → Res Tree) (l : List UInt8) : (∀ q, skip l ≠ 125 :: q) → mapR it l = mapGo it (l.length + 1) l [] [] := by
  intro h
  unfold mapR
  split
  · rename_i q hq; exact absurd hq (h q)
  · rfl
theorem keyR_skip (ks : List ByteArray) (l : List UInt8) : keyR ks (skip l) = keyR ks l := by
  unfold keyR
  rw [skip_skip]
theorem mapGo_skip (it : List UInt8 → Res Tree) (f : Nat) (l : List UInt8) (ks : List ByteArray) (acc : List Tree) : mapGo it (f + 1) (skip l) ks acc = mapGo it (f + 1) l ks acc := by
  conv => lhs; unfold mapGo
  conv => rhs; unfold mapGo
  rw [keyR_skip]
theorem from_mono {s : ByteArray} {p q : Nat} (hp : p ≤ s.size) (hq : q ≤ s.size) (h : (from_ s q).length ≤ (from_ s p).length) : p ≤ q := by
  rw [from_length, from_length] at h
  omega
theorem mk_map (w : World) : (Instr.makeMap 159 none).run Tryz.prog w = .ok (.map (some w.heap.size)) (w.alloc (.map #[] 0)) := rfl
theorem one1 (k : ByteArray) : ∀ u ∈ [Value.string k], u.oneCell' = true := by
  intro u hu
  simp at hu
  subst hu
  rfl

set_option maxRecDepth 100000 in
set_option maxHeartbeats 4000000 in
theorem pairs_any (k : Nat) (hk : ItemOk k) (w : World) (b : Nat) (s : ByteArray) (p : Nat) (d about : Int) (h : Rdr w b s p d) (hG : Glob w) (hb8 : 8 ≤ b) (hp : p ≤ s.size) (hs : s.size ≤ 4294967280) (ha0 : 0 ≤ about) (had : about + k = d) (hd : d ≤ 32) :
    Calls Tryz.prog 78 #[.pointer (some ⟨b, 0, none⟩), .int .i64 about] w fun e w' => ItemEnds (mapR (itemR k) (from_ s p)) w.heap.size b s d e w' ∧ w.grownBy w' (some b) := by
  have HK := hid hk
  have hlt := h.lt
  have HAD := hid had
  obtain ⟨R, HRR⟩ : ∃ R, Hid (mapR (itemR k) (from_ s p) = R) := ⟨_, hid rfl⟩
  rw [HRR.out]
  have hab : about ≤ 32 := by omega
  clear hk had
  have hr0 : Rdr ((w.alloc (.cells #[.int .i64 0, .bool false, .int .i64 0, .string ⟨#[]⟩, .slice none 0 0, .slice none 0 0] 26)).alloc (.cells #[.int .i64 6, .bool false, .int .i64 0, .string ⟨#[]⟩, .slice none 0 0, .slice none 0 0] 26)) b s p d := (h.kept (galloc _ _ none)).kept (galloc _ _ none)
  have HR0 := hid hr0
  clear hr0 h
  go_enter Tryz.func78, Tryz.ntmps78
  go_wp2_with fail
  refine (takes_any _ b s p d 125 (by decide) HR0.out hp (by omega)).mono ?_
  rintro e w1 ⟨q, hq, hr1, hg1, ht⟩
  have hg01 : w.grownBy w1 (some b) := (((galloc w _ (some b)).andThen (galloc _ _ none) (fun j hj => by cases hj)).andThen hg1 (fun j hj => .inr hj))
  have c0 : w1.heap[w.heap.size]? = some (.cells #[.int .i64 0, .bool false, .int .i64 0, .string ⟨#[]⟩, .slice none 0 0, .slice none 0 0] 26 (0, 0)) := by
    rw [hg1.block _ (by simp; omega) (by simp; omega)]
    exact alloc_keeps (heap_alloc_new w _) _
  have c1 : w1.heap[w.heap.size + 1]? = some (.cells #[.int .i64 6, .bool false, .int .i64 0, .string ⟨#[]⟩, .slice none 0 0, .slice none 0 0] 26 (0, 0)) := by
    rw [hg1.block _ (by simp) (by simp; omega)]
    have := heap_alloc_new (w.alloc (.cells #[.int .i64 0, .bool false, .int .i64 0, .string ⟨#[]⟩, .slice none 0 0, .slice none 0 0] 26)) (.cells #[.int .i64 6, .bool false, .int .i64 0, .string ⟨#[]⟩, .slice none 0 0, .slice none 0 0] 26)
    simpa using this
  have HG01 := hid hg01
  have HC0 := hid c0
  have HC1 := hid c1
  have HR1 := hid hr1
  have hz1 : w.heap.size + 1 < w1.heap.size := (Array.getElem?_eq_some_iff.1 c1).1
  obtain ⟨⟨x0, x1, x2, x3, x4, x5⟩, xf⟩ := cells6 c0
  obtain ⟨⟨y0, y1, y2, y3, y4, y5⟩, yf⟩ := cells6 c1
  clear hg1 hg01 c0 c1 hr1
  rcases ht with ⟨rfl, hsk⟩ | ⟨rfl, hsk, hnh⟩
  · -- no pair
    have HF : Hid (mapR (itemR k) (from_ s p) = .ok (.mk 6 false 0 ⟨#[]⟩ [] []) (from_ s q)) := by unfold mapR; rw [hsk]; exact rfl
    clear hsk
    go_wp2_with fail
    have HFin := put6_heap (k := w.heap.size) HC0.out (.int .i64 6) (.bool false) (.int .i64 0) (.string ⟨#[]⟩) (.slice none 0 0) (.slice none 0 0)
    have HPg := put6_grown w1 w.heap.size (.int .i64 6) (.bool false) (.int .i64 0) (.string ⟨#[]⟩) (.slice none 0 0) (.slice none 0 0)
    obtain ⟨⟨k0, k1, k2, k3, k4, k5⟩, _⟩ := cells6 HFin
    unfold put6 at k0 k1 k2 k3 k4 k5
    refine bodyPost_ret (v := .agg #[.int .i64 6, .bool false, .int .i64 0, .string ⟨#[]⟩, .slice none 0 0, .slice none 0 0]) ?_ rfl ⟨?_, ?_⟩
    · simp [results, Tryz.results78, go_sem, k0, k1, k2, k3, k4, k5]
    · rw [← HRR.out, HF.out]
      exact ⟨_, rfl, RdT.leaf _ _ _ _ _ _, q, hq, rfl, HR1.out.far HPg (by omega)⟩
    · exact HG01.out.andThen HPg (fun j hj => .inl (by injection hj with hj; omega))
  · have HF2 : Hid (R = mapGo (itemR k) (s.size - p + 1) (from_ s q) [] []) := by
      rw [← HRR.out, mapR_eq _ _ (fun q' hq' => by
        rw [hsk] at hq'
        rw [hq'] at hnh
        simp at hnh), ← mapGo_skip, hsk, from_length]
      exact rfl
    have hqp : p ≤ q := from_mono hp hq (by rw [← hsk]; exact skip_le _)
    obtain ⟨i26, hi26, hz26, hs26, hb26⟩ := info_parts Tryz.info26
    obtain ⟨i9, hi9, hz9, hs9, hb9⟩ := info_parts Tryz.info9
    have HP0 : Hid (PS w b s d w1.heap.size 0 q [] [] (.slice none 0 0) (.slice none 0 0) [] (w1.alloc (.map #[] 0))) :=
      ⟨HR1.out.kept (galloc _ _ none), HG01.out.andThen (galloc w1 _ none) (fun j hj => by cases hj), alloc_keeps HC0.out _, alloc_keeps HC1.out _, MapOf.made w1, by omega, World.ownsRow_nil _ _ _ _, World.ownsRow_nil _ _ _ _, rfl⟩
    have hmlo : w.heap.size + 2 ≤ w1.heap.size := by omega
    clear hsk hnh x0 x1 x2 x3 x4 x5 xf y0 y1 y2 y3 y4 y5 yf HC0 HC1 HG01 HR1
    go_wp2_with fail
    rw [mk_map]
    go_wp2_with fail
    obtain ⟨mb, hmb⟩ : ∃ mb, w1.heap.size = mb := ⟨_, rfl⟩
    rw [hmb] at HP0 hmlo ⊢
    go_loopw [] (fun wr => ∃ (q f : Nat) (ks : List ByteArray) (acc : List Tree) (kv iv : Value) (xs : List Value), q ≤ s.size ∧ s.size - q < f ∧ ks.length ≤ q ∧ acc.length = ks.length ∧ Hid (PS w b s d mb ks.length q ks acc kv iv xs wr) ∧ Hid (R = mapGo (itemR k) f (from_ s q) ks acc)) (fun wr => s.size - atOf wr b)
    case atStart => exact ⟨q, s.size - p + 1, [], [], .slice none 0 0, .slice none 0 0, [], hq, by omega, Nat.zero_le _, rfl, HP0, HF2⟩
    case round =>
      obtain ⟨q', f, ks, acc, kv, iv, xs, hq', hf, hksq, hacc, HP, HL⟩ := hrel
      obtain ⟨f, rfl⟩ : ∃ g, f = g + 1 := ⟨f - 1, by omega⟩
      have hGl : Glob wr := hG.grown HP.out.gr (fun k hk => by injection hk with hk; omega)
      have HGl := hid hGl
      obtain ⟨⟨y0, y1, y2, y3, y4, y5⟩, yf⟩ := cells6 HP.out.val
      have hzr := HP.out.size
      have SO : Hid (∀ wx : World, wx.heap[w.heap.size + 1]? = wr.heap[w.heap.size + 1]? → wx.cell? ⟨w.heap.size + 1, 4, none⟩ = some kv) := fun wx hx => by
        rw [World.cell?_of_block (w := wr) (a := ⟨w.heap.size + 1, 4, none⟩) hx]; exact y4
      have hkey := fun m : Nat => key_any (wr.drewN m) b mb ks.length ks s q' d (HP.out.rd.drew m) (HP.out.map.kept (gdrew wr m none) (by simp)) (hGl.grown (gdrew wr m none) (fun k hk => by cases hk)) hb8 (by omega) hq' hs (by omega) (by omega)
      cases hres : keyR ks (from_ s q') with
      | bad c r =>
        rw [mapGo_kbad hres] at HL
        have HC : Hid (∀ m : Nat, Calls Tryz.prog 141 #[.pointer (some ⟨b, 0, none⟩), .map (some mb)] (wr.drewN m) fun e w' => ∃ p' : Nat, p' ≤ s.size ∧ r = from_ s p' ∧ e = .panicked [{ v := faultV c p', recovered := false }] ∧ w.grownBy w' (some b)) := fun m => by
          refine (hkey m).mono ?_
          rintro e w' ⟨he, hg⟩
          rw [hres] at he
          obtain ⟨p', h1, h2, h3⟩ := he
          exact ⟨p', h1, h2, h3, Two.grown (HP.out.gr.andThen (gdrew wr m none) (fun j hj => by cases hj)) hg (by omega)⟩
        clear hres hkey hGl
        go_wp2_with fail
        refine wp_region_any (by kernel_rfl) ?_
        change wpAny _ _ _ _ _ _ _ (World.drew _)
        refine wpAny_take (i := 0) (v := ?_) rfl (by kernel_rfl) (by kernel_rfl) (by kernel_rfl) (fun _ _ _ h => h) (Or.inl ⟨by rfl, by intro w; go_simp; first | done | with_reducible rfl⟩) ?_
        refine wpAny_take (i := 2) (v := ?_) rfl (by kernel_rfl) (by kernel_rfl) (by kernel_rfl) (fun _ _ _ h => h) (Or.inl ⟨by rfl, by intro w; go_simp; first | done | with_reducible rfl⟩) ?_
        refine wpAny_take (i := 3) (v := ?_) rfl (by kernel_rfl) (by kernel_rfl) (by kernel_rfl) (fun _ _ _ h => h) (Or.inl ⟨by rfl, by intro w; go_simp; first | done | with_reducible rfl⟩) ?_
        refine wpAny_ready (rs := [1, 4]) (by kernel_rfl) (by simp) ?_
        refine AllReady.cons rfl (fun K hK => ?_) (AllReady.cons rfl (fun K hK => ?_) AllReady.nil)
        · go_simp
          refine hK _ _ ?_
          clear hK K
          refine wpAny_ready (rs := [4]) (by kernel_rfl) (by simp) ?_
          refine AllReady.cons rfl (fun K hK => ?_) AllReady.nil
          go_simp
          refine (HC.out 1).mono ?_
          rintro e w2 ⟨p', h1, h2, rfl, h5⟩
          exact ⟨rfl, by rw [HL.out]; exact ⟨p', h1, h2, rfl⟩, h5⟩
        · go_simp
          refine (HC.out 1).mono ?_
          rintro e w2 ⟨p', h1, h2, rfl, h5⟩
          exact ⟨rfl, by rw [HL.out]; exact ⟨p', h1, h2, rfl⟩, h5⟩
      | ok K r =>
        have hrl := keyR_shrinks hres
        have HC : Hid (∀ m : Nat, Calls Tryz.prog 141 #[.pointer (some ⟨b, 0, none⟩), .map (some mb)] (wr.drewN m) fun e w' => ∃ p' : Nat, e = .returned (.string K) ∧ p' ≤ s.size ∧ r = from_ s p' ∧ Rdr w' b s p' d ∧ MapOf w' mb (ks.length + 1) (ks ++ [K]) ∧ Two b mb wr w') := fun m => by
          refine (hkey m).mono ?_
          rintro e w' ⟨he, hg⟩
          rw [hres] at he
          obtain ⟨h1, _, p', h3, h4, h5, h6⟩ := he
          exact ⟨p', h1, h3, h4, h5, h6, (Two.of (gdrew wr m none) (.inl rfl)).trans hg⟩
        have HRES := hid hres
        have hne1 : some (w.heap.size + 1) ≠ kv.ownBlock := fun e => by have := (HP.out.keys.lt _ e.symm).1; omega
        have hneb : kv.ownBlock ≠ some b := fun e => by have := (HP.out.keys.lt _ e).1; omega
        have HNM := hid (row_ne_map HP.out.keys HP.out.map)
        clear hres hkey hGl
        go_wp2_with fail
        go_cut [] from 12 to 34 (fun wc => ∃ (q2 : Nat) (kv2 : Value), q2 ≤ s.size ∧ Hid (r = from_ s q2) ∧ Hid (PS w b s d mb (ks.length + 1) q2 (ks ++ [K]) acc kv2 iv xs wc))
        case first =>
          refine wp_region_any (by kernel_rfl) ?_
          change wpAny _ _ _ _ _ _ _ (World.drew _)
          refine wpAny_take (i := 0) (v := ?_) rfl (by kernel_rfl) (by kernel_rfl) (by kernel_rfl) (fun _ _ _ h => h) (Or.inl ⟨by rfl, by intro w; go_simp; first | done | with_reducible rfl⟩) ?_
          refine wpAny_take (i := 2) (v := ?_) rfl (by kernel_rfl) (by kernel_rfl) (by kernel_rfl) (fun _ _ _ h => h) (Or.inl ⟨by rfl, by intro w; go_simp; first | done | with_reducible rfl⟩) ?_
          refine wpAny_take (i := 3) (v := ?_) rfl (by kernel_rfl) (by kernel_rfl) (by kernel_rfl) (fun _ _ _ h => h) (Or.inl ⟨by rfl, by intro w; go_simp; first | done | with_reducible rfl⟩) ?_
          refine wpAny_ready (rs := [1, 4]) (by kernel_rfl) (by simp) ?_
          refine AllReady.cons rfl (fun Kc hK => ?_) (AllReady.cons rfl (fun Kc hK => ?_) AllReady.nil)
          · go_simp
            refine hK _ _ ?_
            clear hK Kc
            refine wpAny_ready (rs := [4]) (by kernel_rfl) (by simp) (AllReady.cons rfl (fun Kc hK => ?_) AllReady.nil)
            go_simp
            refine (HC.out 1).mono ?_
            rintro e w2 ⟨p', rfl, hp', hr', hR2, hM2, hT2⟩
            have hv2 := hT2.block (w.heap.size + 1) hzr (by omega) (by omega)
            have hz2 := hT2.size
            obtain ⟨wy, hy1, hy2⟩ := hT2.split
            have hO2 := (HP.out.keys.kept hy1 (.inr HNM.out)).kept hy2 (.inr hneb)
            have hc2 := SO.out _ hv2
            have hc22 := fun o => SO.out (w2.alloc o) ((Below.heap_alloc _ _ _ (by omega)).trans hv2)
            refine hK _ _ ?_
            clear hK Kc
            refine wpAny_ready (rs := [5]) (by kernel_rfl) (by simp) (AllReady.cons rfl (fun Kc hK => ?_) AllReady.nil)
            go_simp
            refine hK _ _ ?_
            clear hK Kc
            refine wpAny_ready (rs := [6]) (by kernel_rfl) (by simp) (AllReady.cons rfl (fun Kc hK => ?_) AllReady.nil)
            refine step_append_lies _ (by rfl) _ _ 24 (by rfl) (w.heap.size + 2) 9 i9 _ 1 16 Tryz.underlying24 hi9 hz9 hs9 hb9 (by rfl) (by decide) kv ks.length _ (by rfl) (by exact hO2.alloc _) ⟨w2.heap.size, 0, none⟩ 1 1 [.string K] (by rfl) (by rfl) (by exact news_new w2 _ _) (by exact one1 _) (by decide) (by unfold maxLen; omega) (by omega) (by simp; omega) (w2.heap.size + 1) (by simp) ?_
            intro g cap w3 hown3 hg3 hat3 hlt3
            have hv3 := (hg3.block (w.heap.size + 1) (by simp; omega) hne1).trans ((Below.heap_alloc _ _ _ (by omega)).trans hv2)
            have hc3 := SO.out _ hv3
            have hf3 := (World.frozen?_of_block (w := wr) (a := ⟨w.heap.size + 1, 4, none⟩) hv3).trans (yf 4)
            refine hK _ _ ?_
            clear hK Kc
            refine wpAny_ready (rs := [7]) (by kernel_rfl) (by simp) (AllReady.cons rfl (fun Kc hK => ?_) AllReady.nil)
            go_simp
            refine hK _ _ ?_
            clear hK Kc
            refine wpAny_ready (rs := [8]) (by kernel_rfl) (by simp) (AllReady.cons rfl (fun Kc hK => ?_) AllReady.nil)
            go_simp
            refine hK _ _ ?_
            clear hK Kc
            refine wpAny_done (by kernel_rfl) ?_ _
            go_wp2_with fail
            go_meet
            exact ⟨p', _, hp', hr', HP.out.key hlt hR2 hM2 hT2 hown3 hg3 hat3⟩
          · go_simp
            refine (HC.out 1).mono ?_
            rintro e w2 ⟨p', rfl, hp', hr', hR2, hM2, hT2⟩
            have hv2 := hT2.block (w.heap.size + 1) hzr (by omega) (by omega)
            have hz2 := hT2.size
            obtain ⟨wy, hy1, hy2⟩ := hT2.split
            have hO2 := (HP.out.keys.kept hy1 (.inr HNM.out)).kept hy2 (.inr hneb)
            have hc2 := SO.out _ hv2
            have hc22 := fun o => SO.out (w2.alloc o) ((Below.heap_alloc _ _ _ (by omega)).trans hv2)
            refine hK _ _ ?_
            clear hK Kc
            refine wpAny_ready (rs := [1, 5]) (by kernel_rfl) (by simp) ?_
            refine AllReady.cons rfl (fun Kc hK => ?_) (AllReady.cons rfl (fun Kc hK => ?_) AllReady.nil)
            · go_simp
              refine hK _ _ ?_
              clear hK Kc
              refine wpAny_ready (rs := [5]) (by kernel_rfl) (by simp) (AllReady.cons rfl (fun Kc hK => ?_) AllReady.nil)
              go_simp
              refine hK _ _ ?_
              clear hK Kc
              refine wpAny_ready (rs := [6]) (by kernel_rfl) (by simp) (AllReady.cons rfl (fun Kc hK => ?_) AllReady.nil)
              refine step_append_lies _ (by rfl) _ _ 24 (by rfl) (w.heap.size + 2) 9 i9 _ 1 16 Tryz.underlying24 hi9 hz9 hs9 hb9 (by rfl) (by decide) kv ks.length _ (by rfl) (by exact hO2.alloc _) ⟨w2.heap.size, 0, none⟩ 1 1 [.string K] (by rfl) (by rfl) (by exact news_new w2 _ _) (by exact one1 _) (by decide) (by unfold maxLen; omega) (by omega) (by simp; omega) (w2.heap.size + 1) (by simp) ?_
              intro g cap w3 hown3 hg3 hat3 hlt3
              have hv3 := (hg3.block (w.heap.size + 1) (by simp; omega) hne1).trans ((Below.heap_alloc _ _ _ (by omega)).trans hv2)
              have hc3 := SO.out _ hv3
              have hf3 := (World.frozen?_of_block (w := wr) (a := ⟨w.heap.size + 1, 4, none⟩) hv3).trans (yf 4)
              refine hK _ _ ?_
              clear hK Kc
              refine wpAny_ready (rs := [7]) (by kernel_rfl) (by simp) (AllReady.cons rfl (fun Kc hK => ?_) AllReady.nil)
              go_simp
              refine hK _ _ ?_
              clear hK Kc
              refine wpAny_ready (rs := [8]) (by kernel_rfl) (by simp) (AllReady.cons rfl (fun Kc hK => ?_) AllReady.nil)
              go_simp
              refine hK _ _ ?_
              clear hK Kc
              refine wpAny_done (by kernel_rfl) ?_ _
              go_wp2_with fail
              go_meet
              exact ⟨p', _, hp', hr', HP.out.key hlt hR2 hM2 hT2 hown3 hg3 hat3⟩
            · go_simp
              refine hK _ _ ?_
              clear hK Kc
              refine wpAny_ready (rs := [1]) (by kernel_rfl) (by simp) (AllReady.cons rfl (fun Kc hK => ?_) AllReady.nil)
              go_simp
              refine hK _ _ ?_
              clear hK Kc
              refine wpAny_ready (rs := [6]) (by kernel_rfl) (by simp) (AllReady.cons rfl (fun Kc hK => ?_) AllReady.nil)
              refine step_append_lies _ (by rfl) _ _ 24 (by rfl) (w.heap.size + 2) 9 i9 _ 1 16 Tryz.underlying24 hi9 hz9 hs9 hb9 (by rfl) (by decide) kv ks.length _ (by rfl) (by exact hO2.alloc _) ⟨w2.heap.size, 0, none⟩ 1 1 [.string K] (by rfl) (by rfl) (by exact news_new w2 _ _) (by exact one1 _) (by decide) (by unfold maxLen; omega) (by omega) (by simp; omega) (w2.heap.size + 1) (by simp) ?_
              intro g cap w3 hown3 hg3 hat3 hlt3
              have hv3 := (hg3.block (w.heap.size + 1) (by simp; omega) hne1).trans ((Below.heap_alloc _ _ _ (by omega)).trans hv2)
              have hc3 := SO.out _ hv3
              have hf3 := (World.frozen?_of_block (w := wr) (a := ⟨w.heap.size + 1, 4, none⟩) hv3).trans (yf 4)
              refine hK _ _ ?_
              clear hK Kc
              refine wpAny_ready (rs := [7]) (by kernel_rfl) (by simp) (AllReady.cons rfl (fun Kc hK => ?_) AllReady.nil)
              go_simp
              refine hK _ _ ?_
              clear hK Kc
              refine wpAny_ready (rs := [8]) (by kernel_rfl) (by simp) (AllReady.cons rfl (fun Kc hK => ?_) AllReady.nil)
              go_simp
              refine hK _ _ ?_
              clear hK Kc
              refine wpAny_done (by kernel_rfl) ?_ _
              go_wp2_with fail
              go_meet
              exact ⟨p', _, hp', hr', HP.out.key hlt hR2 hM2 hT2 hown3 hg3 hat3⟩
        case rest =>
          obtain ⟨q2, kv2, hq2, HQ2, HP2⟩ := hcut
          have hq2q : q' ≤ q2 := from_mono hq' hq2 (by rw [← HQ2.out]; exact hrl)
          clear y0 y1 y2 y3 y4 y5 yf SO HC hne1 hneb hrl HNM HGl hzr
          go_wp2_with fail
          refine (wants_any _ b s q2 d 58 (by decide) HP2.out.rd hq2 (by omega)).mono ?_
          unfold faulted
          rintro e w3 ⟨q3, hq3, hr3, hg3, ht3⟩
          have HP3 := hid (HP2.out.step hlt hr3 hg3)
          clear hr3 hg3
          rcases ht3 with ⟨rfl, hsk3⟩ | ⟨rfl, hsk3, hnh3⟩
          · have HSK3 := hid hsk3
            have hq3q : q2 + 1 ≤ q3 := by
              have h1 := skip_le (from_ s q2)
              rw [hsk3, List.length_cons, from_length, from_length] at h1
              omega
            clear hsk3
            have hGl : Glob w3 := hG.grown HP3.out.gr (fun k hk => by injection hk with hk; omega)
            obtain ⟨⟨y0, y1, y2, y3, y4, y5⟩, yf⟩ := cells6 HP3.out.val
            have hzr := HP3.out.size
            have SO : Hid (∀ wx : World, wx.heap[w.heap.size + 1]? = w3.heap[w.heap.size + 1]? → wx.cell? ⟨w.heap.size + 1, 5, none⟩ = some iv) := fun wx hx => by
              rw [World.cell?_of_block (w := w3) (a := ⟨w.heap.size + 1, 5, none⟩) hx]; exact y5
            have hitm := fun m : Nat => HK.out (w3.drewN m) b s q3 d about (HP3.out.rd.drew m) (hGl.grown (gdrew w3 m none) (fun k hk => by cases hk)) hb8 hq3 hs ha0 HAD.out hd
            cases hres : itemR k (from_ s q3) with
            | bad c r3 =>
              have HL3 : Hid (R = .bad c r3) := by rw [HL.out]; exact mapGo_ibad HRES.out (by rw [HQ2.out]; exact HSK3.out) hres
              have HC : Hid (∀ n : Nat, Calls Tryz.prog 46 #[.pointer (some ⟨b, 0, none⟩), .int .i64 about] (w3.drewN n) fun e w' => ∃ p' : Nat, p' ≤ s.size ∧ r3 = from_ s p' ∧ e = .panicked [{ v := faultV c p', recovered := false }] ∧ w.grownBy w' (some b)) := fun n => by
                refine (hitm n).mono ?_
                rintro e w' ⟨he, hg⟩
                rw [hres] at he
                obtain ⟨p', h1, h2, h3⟩ := he
                exact ⟨p', h1, h2, h3, gtrans HP3.out.gr (gtrans (gdrew w3 n _) hg)⟩
              clear hres hitm hGl
              go_wp2_with fail
              refine wp_region_any (by kernel_rfl) ?_
              change wpAny _ _ _ _ _ _ _ (World.drew _)
              refine wpAny_take (i := 0) (v := ?_) rfl (by kernel_rfl) (by kernel_rfl) (by kernel_rfl) (fun _ _ _ h => h) (Or.inl ⟨by rfl, by intro w; go_simp; first | done | with_reducible rfl⟩) ?_
              refine wpAny_take (i := 2) (v := ?_) rfl (by kernel_rfl) (by kernel_rfl) (by kernel_rfl) (fun _ _ _ h => h) (Or.inl ⟨by rfl, by intro w; go_simp; first | done | with_reducible rfl⟩) ?_
              refine wpAny_take (i := 3) (v := ?_) rfl (by kernel_rfl) (by kernel_rfl) (by kernel_rfl) (fun _ _ _ h => h) (Or.inl ⟨by rfl, by intro w; go_simp; first | done | with_reducible rfl⟩) ?_
              refine wpAny_ready (rs := [1, 4]) (by kernel_rfl) (by simp) ?_
              refine AllReady.cons rfl (fun K hK => ?_) (AllReady.cons rfl (fun K hK => ?_) AllReady.nil)
              · go_simp
                refine hK _ _ ?_
                clear hK K
                refine wpAny_ready (rs := [4]) (by kernel_rfl) (by simp) ?_
                refine AllReady.cons rfl (fun K hK => ?_) AllReady.nil
                go_simp
                refine (HC.out 1).mono ?_
                rintro e w2 ⟨p', h1, h2, rfl, h5⟩
                exact ⟨rfl, by rw [HL3.out]; exact ⟨p', h1, h2, rfl⟩, h5⟩
              · go_simp
                refine (HC.out 1).mono ?_
                rintro e w2 ⟨p', h1, h2, rfl, h5⟩
                exact ⟨rfl, by rw [HL3.out]; exact ⟨p', h1, h2, rfl⟩, h5⟩
            | ok t r3 =>
              have HL3 : Hid (R = mapEnd (itemR k) f (ks ++ [K]) (acc ++ [t]) r3) := by rw [HL.out]; exact mapGo_iok HRES.out (by rw [HQ2.out]; exact HSK3.out) hres
              have hrl := itemR_shrinks k _ _ _ hres
              have HC : Hid (∀ n : Nat, Calls Tryz.prog 46 #[.pointer (some ⟨b, 0, none⟩), .int .i64 about] (w3.drewN n) fun e w' => ∃ (ka ia : Option Addr) (kn kc il ic p' : Nat), e = .returned (.agg #[.int .i64 t.kind, .bool t.flag, .int .i64 t.n, .string t.text, .slice ka kn kc, .slice ia il ic]) ∧ RdT w' (fun g => w3.heap.size ≤ g) t (.agg #[.int .i64 t.kind, .bool t.flag, .int .i64 t.n, .string t.text, .slice ka kn kc, .slice ia il ic]) ∧ p' ≤ s.size ∧ r3 = from_ s p' ∧ Rdr w' b s p' d ∧ w3.grownBy w' (some b)) := fun n => by
                refine (hitm n).mono ?_
                rintro e w' ⟨he, hg⟩
                rw [hres] at he
                obtain ⟨v, rfl, h2, p', h3, h4, h5⟩ := he
                have h2' := h2
                rw [RdT_eq] at h2'
                obtain ⟨kv, ia, ic, rfl, hkv, _, _⟩ := h2'
                obtain ⟨ka, kc, rfl, _⟩ := hkv
                exact ⟨ka, ia, _, kc, _, ic, p', rfl, h2, h3, h4, h5, gtrans (gdrew w3 n _) hg⟩
              have hne1 : some (w.heap.size + 1) ≠ iv.ownBlock := fun e => by have := (HP3.out.items.lt _ e.symm).1; omega
              have hneb : iv.ownBlock ≠ some b := fun e => by have := (HP3.out.items.lt _ e).1; omega
              clear hres hitm hGl
              go_wp2_with fail
              go_cut [] from 12 to 34 (fun wc => ∃ (q2 : Nat) (iv2 : Value) (xs2 : List Value), q2 ≤ s.size ∧ Hid (r3 = from_ s q2) ∧ Hid (PS w b s d mb (ks.length + 1) q2 (ks ++ [K]) (acc ++ [t]) kv2 iv2 xs2 wc))
              case first =>
                refine wp_region_any (by kernel_rfl) ?_
                change wpAny _ _ _ _ _ _ _ (World.drew _)
                refine wpAny_take (i := 0) (v := ?_) rfl (by kernel_rfl) (by kernel_rfl) (by kernel_rfl) (fun _ _ _ h => h) (Or.inl ⟨by rfl, by intro w; go_simp; first | done | with_reducible rfl⟩) ?_
                refine wpAny_take (i := 2) (v := ?_) rfl (by kernel_rfl) (by kernel_rfl) (by kernel_rfl) (fun _ _ _ h => h) (Or.inl ⟨by rfl, by intro w; go_simp; first | done | with_reducible rfl⟩) ?_
                refine wpAny_take (i := 3) (v := ?_) rfl (by kernel_rfl) (by kernel_rfl) (by kernel_rfl) (fun _ _ _ h => h) (Or.inl ⟨by rfl, by intro w; go_simp; first | done | with_reducible rfl⟩) ?_
                refine wpAny_ready (rs := [1, 4]) (by kernel_rfl) (by simp) ?_
                refine AllReady.cons rfl (fun Kc hK => ?_) (AllReady.cons rfl (fun Kc hK => ?_) AllReady.nil)
                · go_simp
                  refine hK _ _ ?_
                  clear hK Kc
                  refine wpAny_ready (rs := [4]) (by kernel_rfl) (by simp) (AllReady.cons rfl (fun Kc hK => ?_) AllReady.nil)
                  go_simp
                  refine (HC.out 1).mono ?_
                  rintro e w2 ⟨ka, ia, kn, kc, il, ic, p', rfl, hT2, hp', hr', hR2, hg2⟩
                  have hv2 := hg2.block (w.heap.size + 1) hzr (by simp; omega)
                  have hz2 := hg2.size
                  have hO2 := HP3.out.items.kept hg2 (.inr hneb)
                  have hc2 := SO.out _ hv2
                  have hc22 := fun o => SO.out (w2.alloc o) ((Below.heap_alloc _ _ _ (by omega)).trans hv2)
                  refine hK _ _ ?_
                  clear hK Kc
                  refine wpAny_ready (rs := [5]) (by kernel_rfl) (by simp) (AllReady.cons rfl (fun Kc hK => ?_) AllReady.nil)
                  go_simp
                  refine hK _ _ ?_
                  clear hK Kc
                  refine wpAny_ready (rs := [6]) (by kernel_rfl) (by simp) (AllReady.cons rfl (fun Kc hK => ?_) AllReady.nil)
                  refine step_append_lies _ (by rfl) _ _ 22 (by rfl) (w.heap.size + 2) 26 i26 _ 6 88 Tryz.underlying22 hi26 hz26 hs26 hb26 (by rfl) (by decide) iv acc.length xs (by rfl) (by exact hO2.alloc _) ⟨w2.heap.size, 0, none⟩ 1 1 [.int .i64 t.kind, .bool t.flag, .int .i64 t.n, .string t.text, .slice ka kn kc, .slice ia il ic] (by rfl) (by rfl) (by exact news_new w2 _ _) (by exact one6 _ _ _ _ _ _ _ _ _ _) (by decide) (by unfold maxLen; omega) (by omega) (by simp; omega) (w2.heap.size + 1) (by simp) ?_
                  intro g cap w4 hown4 hg4 hat4 hlt4
                  have hv4 := (hg4.block (w.heap.size + 1) (by simp; omega) hne1).trans ((Below.heap_alloc _ _ _ (by omega)).trans hv2)
                  have hc4 := SO.out _ hv4
                  have hf4 := (World.frozen?_of_block (w := w3) (a := ⟨w.heap.size + 1, 5, none⟩) hv4).trans (yf 5)
                  refine hK _ _ ?_
                  clear hK Kc
                  refine wpAny_ready (rs := [7]) (by kernel_rfl) (by simp) (AllReady.cons rfl (fun Kc hK => ?_) AllReady.nil)
                  go_simp
                  refine hK _ _ ?_
                  clear hK Kc
                  refine wpAny_ready (rs := [8]) (by kernel_rfl) (by simp) (AllReady.cons rfl (fun Kc hK => ?_) AllReady.nil)
                  go_simp
                  refine hK _ _ ?_
                  clear hK Kc
                  refine wpAny_done (by kernel_rfl) ?_ _
                  go_wp2_with fail
                  go_meet
                  have hps := HP3.out.item hlt hR2 hg2 hT2 hown4 hg4 hat4
                  rw [hacc] at hps
                  exact ⟨p', _, _, hp', hr', hps⟩
                · go_simp
                  refine (HC.out 1).mono ?_
                  rintro e w2 ⟨ka, ia, kn, kc, il, ic, p', rfl, hT2, hp', hr', hR2, hg2⟩
                  have hv2 := hg2.block (w.heap.size + 1) hzr (by simp; omega)
                  have hz2 := hg2.size
                  have hO2 := HP3.out.items.kept hg2 (.inr hneb)
                  have hc2 := SO.out _ hv2
                  have hc22 := fun o => SO.out (w2.alloc o) ((Below.heap_alloc _ _ _ (by omega)).trans hv2)
                  refine hK _ _ ?_
                  clear hK Kc
                  refine wpAny_ready (rs := [1, 5]) (by kernel_rfl) (by simp) ?_
                  refine AllReady.cons rfl (fun Kc hK => ?_) (AllReady.cons rfl (fun Kc hK => ?_) AllReady.nil)
                  · go_simp
                    refine hK _ _ ?_
                    clear hK Kc
                    refine wpAny_ready (rs := [5]) (by kernel_rfl) (by simp) (AllReady.cons rfl (fun Kc hK => ?_) AllReady.nil)
                    go_simp
                    refine hK _ _ ?_
                    clear hK Kc
                    refine wpAny_ready (rs := [6]) (by kernel_rfl) (by simp) (AllReady.cons rfl (fun Kc hK => ?_) AllReady.nil)
                    refine step_append_lies _ (by rfl) _ _ 22 (by rfl) (w.heap.size + 2) 26 i26 _ 6 88 Tryz.underlying22 hi26 hz26 hs26 hb26 (by rfl) (by decide) iv acc.length xs (by rfl) (by exact hO2.alloc _) ⟨w2.heap.size, 0, none⟩ 1 1 [.int .i64 t.kind, .bool t.flag, .int .i64 t.n, .string t.text, .slice ka kn kc, .slice ia il ic] (by rfl) (by rfl) (by exact news_new w2 _ _) (by exact one6 _ _ _ _ _ _ _ _ _ _) (by decide) (by unfold maxLen; omega) (by omega) (by simp; omega) (w2.heap.size + 1) (by simp) ?_
                    intro g cap w4 hown4 hg4 hat4 hlt4
                    have hv4 := (hg4.block (w.heap.size + 1) (by simp; omega) hne1).trans ((Below.heap_alloc _ _ _ (by omega)).trans hv2)
                    have hc4 := SO.out _ hv4
                    have hf4 := (World.frozen?_of_block (w := w3) (a := ⟨w.heap.size + 1, 5, none⟩) hv4).trans (yf 5)
                    refine hK _ _ ?_
                    clear hK Kc
                    refine wpAny_ready (rs := [7]) (by kernel_rfl) (by simp) (AllReady.cons rfl (fun Kc hK => ?_) AllReady.nil)
                    go_simp
                    refine hK _ _ ?_
                    clear hK Kc
                    refine wpAny_ready (rs := [8]) (by kernel_rfl) (by simp) (AllReady.cons rfl (fun Kc hK => ?_) AllReady.nil)
                    go_simp
                    refine hK _ _ ?_
                    clear hK Kc
                    refine wpAny_done (by kernel_rfl) ?_ _
                    go_wp2_with fail
                    go_meet
                    have hps := HP3.out.item hlt hR2 hg2 hT2 hown4 hg4 hat4
                    rw [hacc] at hps
                    exact ⟨p', _, _, hp', hr', hps⟩
                  · go_simp
                    refine hK _ _ ?_
                    clear hK Kc
                    refine wpAny_ready (rs := [1]) (by kernel_rfl) (by simp) (AllReady.cons rfl (fun Kc hK => ?_) AllReady.nil)
                    go_simp
                    refine hK _ _ ?_
                    clear hK Kc
                    refine wpAny_ready (rs := [6]) (by kernel_rfl) (by simp) (AllReady.cons rfl (fun Kc hK => ?_) AllReady.nil)
                    refine step_append_lies _ (by rfl) _ _ 22 (by rfl) (w.heap.size + 2) 26 i26 _ 6 88 Tryz.underlying22 hi26 hz26 hs26 hb26 (by rfl) (by decide) iv acc.length xs (by rfl) (by exact hO2.alloc _) ⟨w2.heap.size, 0, none⟩ 1 1 [.int .i64 t.kind, .bool t.flag, .int .i64 t.n, .string t.text, .slice ka kn kc, .slice ia il ic] (by rfl) (by rfl) (by exact news_new w2 _ _) (by exact one6 _ _ _ _ _ _ _ _ _ _) (by decide) (by unfold maxLen; omega) (by omega) (by simp; omega) (w2.heap.size + 1) (by simp) ?_
                    intro g cap w4 hown4 hg4 hat4 hlt4
                    have hv4 := (hg4.block (w.heap.size + 1) (by simp; omega) hne1).trans ((Below.heap_alloc _ _ _ (by omega)).trans hv2)
                    have hc4 := SO.out _ hv4
                    have hf4 := (World.frozen?_of_block (w := w3) (a := ⟨w.heap.size + 1, 5, none⟩) hv4).trans (yf 5)
                    refine hK _ _ ?_
                    clear hK Kc
                    refine wpAny_ready (rs := [7]) (by kernel_rfl) (by simp) (AllReady.cons rfl (fun Kc hK => ?_) AllReady.nil)
                    go_simp
                    refine hK _ _ ?_
                    clear hK Kc
                    refine wpAny_ready (rs := [8]) (by kernel_rfl) (by simp) (AllReady.cons rfl (fun Kc hK => ?_) AllReady.nil)
                    go_simp
                    refine hK _ _ ?_
                    clear hK Kc
                    refine wpAny_done (by kernel_rfl) ?_ _
                    go_wp2_with fail
                    go_meet
                    have hps := HP3.out.item hlt hR2 hg2 hT2 hown4 hg4 hat4
                    rw [hacc] at hps
                    exact ⟨p', _, _, hp', hr', hps⟩
              case rest =>
                obtain ⟨q4, iv2, xs2, hq4, HQ4, HP4⟩ := hcut
                have hq4q : q3 ≤ q4 := from_mono hq3 hq4 (by rw [← HQ4.out]; exact hrl)
                clear y0 y1 y2 y3 y4 y5 yf SO HC hne1 hneb hrl hzr
                go_wp2_with fail
                refine (takes_any _ b s q4 d 125 (by decide) HP4.out.rd hq4 (by omega)).mono ?_
                rintro e w5 ⟨q5, hq5, hr5, hg5, ht5⟩
                have HP5 := hid (HP4.out.step hlt hr5 hg5)
                have hz5 := HP5.out.size
                clear hr5 hg5
                rcases ht5 with ⟨rfl, hsk⟩ | ⟨rfl, hsk, hnh⟩
                · -- the map's end
                  have HF : Hid (R = .ok (.mk 6 false 0 ⟨#[]⟩ (ks ++ [K]) (acc ++ [t])) (from_ s q5)) := by rw [HL3.out, mapEnd_end (by rw [HQ4.out]; exact hsk)]; exact rfl
                  obtain ⟨ia2, ic2, hiv2, hil2, hit2⟩ := items_of (l := acc ++ [t]) (F := fun g => w.heap.size + 2 ≤ g) HP5.out.items (Elems.kept (Stays.refl _ _) (fun g hg _ => hg.1.1) HP5.out.elems) (fun g hg => (HP5.out.items.lt g hg).1)
                  have hkk := keys_of (F := fun g => w.heap.size + 2 ≤ g) HP5.out.keys (fun g hg => (HP5.out.keys.lt g hg).1)
                  have HKK := hid hkk
                  obtain ⟨ka2, kc2, hkv2, _, _⟩ := hkk
                  have HIT := hid hit2
                  have HIL := hid hil2
                  have HZero := hid HP5.out.zero
                  have HVal := hid HP5.out.val
                  have HRd5 := hid HP5.out.rd
                  have HGr5 := hid HP5.out.gr
                  obtain ⟨A, HA⟩ : ∃ A, Hid ((acc ++ [t]).length = A) := ⟨_, hid rfl⟩
                  obtain ⟨KN, HKN⟩ : ∃ A, Hid ((ks ++ [K]).length = A) := ⟨_, hid rfl⟩
                  rw [HA.out] at hiv2
                  rw [HKN.out] at hkv2
                  clear hsk hit2 hil2 HP5 HP4 HP3 HP2
                  subst hiv2 hkv2
                  obtain ⟨⟨x0, x1, x2, x3, x4, x5⟩, xf⟩ := cells6 HZero.out
                  obtain ⟨⟨y0, y1, y2, y3, y4, y5⟩, yf⟩ := cells6 HVal.out
                  go_wp2_with fail
                  have HFin := put6_heap (k := w.heap.size) HZero.out (.int .i64 6) (.bool false) (.int .i64 0) (.string ⟨#[]⟩) (.slice ka2 KN kc2) (.slice ia2 A ic2)
                  have HPg := put6_grown w5 w.heap.size (.int .i64 6) (.bool false) (.int .i64 0) (.string ⟨#[]⟩) (.slice ka2 KN kc2) (.slice ia2 A ic2)
                  obtain ⟨⟨k0, k1, k2, k3, k4, k5⟩, _⟩ := cells6 HFin
                  unfold put6 at k0 k1 k2 k3 k4 k5
                  refine bodyPost_ret (v := .agg #[.int .i64 6, .bool false, .int .i64 0, .string ⟨#[]⟩, .slice ka2 KN kc2, .slice ia2 A ic2]) ?_ rfl ⟨?_, ?_⟩
                  · simp [results, Tryz.results78, go_sem, k0, k1, k2, k3, k4, k5]
                  · rw [HF.out]
                    refine ⟨_, rfl, ?_, q5, hq5, rfl, HRd5.out.far HPg (by omega)⟩
                    rw [RdT_eq]
                    refine ⟨.slice ka2 KN kc2, ia2, ic2, ?_, HKK.out.kept (Stays.grown HPg fun x hx e => by injection e with e; omega) (fun x hx _ => by omega), HIL.out, fun h0 => ?_⟩
                    · show _ = Value.agg #[.int .i64 6, .bool false, .int .i64 0, .string ⟨#[]⟩, .slice ka2 KN kc2, .slice ia2 (acc ++ [t]).length ic2]
                      rw [HA.out]
                    · obtain ⟨g, o, h1, h2, h3, h4⟩ := HIT.out h0
                      refine ⟨g, o, h1, Nat.lt_of_lt_of_le h2 HPg.size, by omega, ?_⟩
                      exact RdIs.kept (F := fun g => w.heap.size + 2 ≤ g) (Stays.grown HPg fun x hx e => by injection e with e; omega) (fun x hx _ => by omega) h3 h2 _ h4
                  · exact HGr5.out.andThen HPg (fun j hj => .inl (by injection hj with hj; omega))
                · have HSK := hid hsk
                  have HNH := hid hnh
                  clear hsk hnh
                  go_wp2_with fail
                  refine (wants_any _ b s q5 d 44 (by decide) HP5.out.rd hq5 (by omega)).mono ?_
                  unfold faulted
                  rintro e w6 ⟨q6, hq6, hr6, hg6, ht6⟩
                  have HP6 := hid (HP5.out.step hlt hr6 hg6)
                  have hsk2 : skip r3 = skip (from_ s q5) := by rw [HQ4.out, ← HSK.out, skip_skip]
                  clear hr6 hg6
                  rcases ht6 with ⟨rfl, hsk6⟩ | ⟨rfl, hsk6, hnh6⟩
                  · have HF : Hid (R = mapGo (itemR k) f (from_ s q6) (ks ++ [K]) (acc ++ [t])) := by rw [HL3.out, mapEnd_more (hsk2.trans hsk6)]; exact rfl
                    have hq6q : q4 + 1 ≤ q6 := by
                      have h1 := skip_le (from_ s q4)
                      rw [← HQ4.out, hsk2, hsk6, List.length_cons, from_length] at h1
                      rw [HQ4.out, from_length] at h1
                      omega
                    clear hsk2 hsk6
                    go_wp2_with fail
                    refine ⟨⟨q6, f, ks ++ [K], acc ++ [t], kv2, iv2, xs2, hq6, by omega, by rw [List.length_append]; show ks.length + 1 ≤ q6; omega, by rw [List.length_append, List.length_append, hacc]; rfl, by rw [List.length_append]; exact HP6, HF⟩, ?_⟩
                    rw [HP6.out.rd.atOf, HP.out.rd.atOf]
                    omega
                  · have HF : Hid (R = .bad 22 (from_ s q6)) := by
                      rw [HL3.out]
                      exact mapEnd_bad (hsk2.trans hsk6) (by rw [← hsk6, ← HSK.out, skip_skip, HSK.out]; exact HNH.out) hnh6
                    clear hsk2 hsk6 hnh6
                    go_wp2_with fail
                    exact ⟨rfl, by rw [HF.out]; exact ⟨q6, hq6, rfl, rfl⟩, HP6.out.gr⟩
          · have HF : Hid (R = .bad 22 (from_ s q3)) := by
              rw [HL.out]; exact mapGo_colon HRES.out (by rw [HQ2.out]; exact hsk3) hnh3
            clear hsk3 hnh3
            go_wp2_with fail
            exact ⟨rfl, by rw [HF.out]; exact ⟨q3, hq3, rfl, rfl⟩, HP3.out.gr⟩
end Go.Proofs.YtdmnhkgiojkphaaGreatDoor
