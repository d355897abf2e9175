/- The law's book over keys: the walk of growKeys. -/
import Derived.Test.YtlgjmhemgfjgnaaGreatKbF
import Derived.Maps.AppendAt
namespace Go.Proofs.YtlgjmhemgfjgnaaGreat.Bk
open Go Go.RowKit
open Go.RowKit (wrap32 wrap64)

theorem info55 : (Tryz.prog.info? 57).map (fun i => (i.zero, i.size, i.bytes)) = some (some (.slice none 0 0), 1, 24) := by kernel_rfl
theorem info3 : (Tryz.prog.info? 3).map (fun i => (i.zero, i.size, i.bytes)) = some (some (.int .i64 0), 1, 8) := by kernel_rfl
theorem under31 : Tryz.prog.underlying 35 = some (.slice 57) := by kernel_rfl
theorem under25 : Tryz.prog.underlying 25 = some (.slice 3) := by kernel_rfl
theorem one_one {u : Value} (h : u.oneCell' = true) : ∀ q ∈ [u], q.oneCell' = true := fun q hq => by
  simp at hq
  rw [hq]
  exact h
theorem own_grown {w w' : World} {B e q n : Nat} {v : Value} {xs : List Value} (h : w.ownsRow B e q v n xs) (hg : w.grownBy w' none) : w'.ownsRow B e q v n xs := by
  refine World.ownsRow.kept h hg ?_
  cases hv : v.ownBlock with
  | none => exact .inl rfl
  | some g => exact .inr (fun e => by cases e)

/-- How many of the first i - 1 are kept. -/
def cnt (i : Nat) : Nat := min (i - 1) 3 + (i - 1) / 16

set_option maxRecDepth 100000 in
set_option maxHeartbeats 1600000 in
theorem growKeys_any (w : World) (B bk A N : Nat) (v0 v1 : Value) (T D U : Int) (gs : List Value) (ms : List Nat) (h : Bst w B bk v0 v1 A T D U gs ms A N) (hN : gs.length = N) (hA : A ≤ N) (hbig : 6 * N ≤ 5 * A + 1048576) (hB : B ≤ bk) (hBw : B ≤ w.heap.size) :
    Calls Tryz.prog 59 #[.pointer (some ⟨bk, 0, none⟩)] w fun e w' => e = .returned (.tuple #[]) ∧ ∃ (v0' v1' : Value) (gs' : List Value) (ms' : List Nat), Bst w' B bk v0' v1' gs'.length T D U gs' ms' gs'.length gs'.length ∧ gs'.length = N + 5 * (N - A) ∧ Below B w w' ∧ Same 66 w w' := by
  obtain ⟨inf5, hi5, hz50, hz51, hz52⟩ := info_parts Tryz.info85
  obtain ⟨inf28, hi58, hz580, hz581, hz582⟩ := info_parts info55
  obtain ⟨inf3, hi3, hz30, hz31, hz16⟩ := info_parts info3
  have hcA : w.cell? ⟨bk, 32, none⟩ = some (.int .i64 A) := h.cells.cell (i := 32) (by decide)
  obtain ⟨a0, c0, hv0⟩ := own_shape' h.row0
  have hc0 : w.cell? ⟨bk, 30, none⟩ = some (.slice a0 N c0) := by rw [← hN, ← hv0]; exact h.cells.cell (i := 30) (by decide)
  have hlt := h.cells.lt
  have H := hid h
  obtain ⟨x, hx⟩ : ∃ x : Int, (N : Int) = x := ⟨_, rfl⟩
  have hx0 : 0 ≤ x := by omega
  have hx1 : x ≤ 1048576 := by omega
  have hA2 : A ≤ 1048576 := by omega
  have HX := hid hx
  have HNN := hid hN
  have HBIG := hid hbig
  have HA := hid hA
  clear h hv0 hN hbig hA
  go_enter Tryz.func59, Tryz.ntmps59
  go_wp2
  go_loopw [3] (fun kv wr => ∃ (k : Nat) (v0 v1 : Value) (gs : List Value) (ms : List Nat), kv = .int .i64 k ∧ k ≤ 1048576 ∧ Hid (A ≤ k ∧ k ≤ N ∧ gs.length = N + 5 * (k - A)) ∧ Hid (Bst wr B bk v0 v1 A T D U gs ms k N) ∧ Hid (Below B w wr) ∧ Hid (Same 66 w wr)) (fun kv _ => N - (intOf kv).toNat)
  case atStart => exact ⟨A, v0, v1, gs, ms, rfl, hA2, hid ⟨Nat.le_refl _, HA.out, by have := HNN.out; omega⟩, H, hid (Below.refl _ _), hid (Same.refl _ _)⟩
  case round =>
    as_aux_lemma =>
    clear hc0 hcA H HNN hlt
    obtain ⟨k, v0, v1, gs, ms, rfl, hk, HK, HS, HB, H57⟩ := hrel
    obtain ⟨a0', c0', hv0⟩ := own_shape' HS.out.row0
    obtain ⟨a1', c1', hv1⟩ := own_shape' HS.out.row1
    subst hv0
    subst hv1
    have hlt := HS.out.cells.lt
    have hc0 : wr.cell? ⟨bk, 30, none⟩ = some (.slice a0' gs.length c0') := HS.out.cells.cell (i := 30) (by decide)
    have hc1 : wr.cell? ⟨bk, 31, none⟩ = some (.slice a1' gs.length c1') := HS.out.cells.cell (i := 31) (by decide)
    obtain ⟨n, HN⟩ : ∃ n : Nat, Hid (gs.length = n) := ⟨_, hid rfl⟩
    have hn1 : n ≤ 1048576 := by have := HN.out; have := HK.out; have := HBIG.out; omega
    by_cases hkN : k < N
    · have hlt' : (k : Int) < x := by have := HX.out; omega
      have hkn : k < gs.length := by have := HK.out; omega
      obtain ⟨b0, ha0, hb0, _, _, hcell0⟩ := own_cells HS.out.row0 (by omega)
      obtain ⟨b1, ha1, hb1, _, _, hcell1⟩ := own_cells HS.out.row1 (by omega)
      subst ha0
      subst ha1
      have hg0 : gs[k]? = some (gs[k]'hkn) := List.getElem?_eq_getElem _
      have hm0 : ms[k]? = some (ms[k]'(by have := HS.out.len; omega)) := List.getElem?_eq_getElem _
      obtain ⟨m, HM⟩ : ∃ m, Hid (ms[k]'(by have := HS.out.len; omega) = m) := ⟨_, hid rfl⟩
      obtain ⟨g, HG⟩ : ∃ g, Hid (gs[k]'hkn = g) := ⟨_, hid rfl⟩
      rw [HM.out] at hm0
      rw [HG.out] at hg0
      have hmm : m ≤ 1099511627776 := HS.out.mle m (List.mem_of_getElem? hm0)
      obtain ⟨⟨lg0, hlg0, hown0⟩, hap0⟩ := HS.out.fresh k g m (Nat.le_refl _) hkN hg0 hm0
      have q0 := hcell0 k hkn
      rw [hg0] at q0
      have q1 := hcell1 k hkn
      have q1' : wr.cell? ⟨b1, k, none⟩ = some (.int .i64 m) := by
        rw [q1]
        simp [ci, hm0]
      have HOWN0 := hid hown0
      have HAP0 := hid hap0
      have HSAFE : Hid (∀ (j : Nat) g', gs[j]? = some g' → slen g' ≤ lg0 ∨ g'.ownBlock ≠ g.ownBlock) := hid (by
        intro j g' hj
        by_cases hjk : j = k
        · subst hjk
          rw [hg0] at hj
          have e : g = g' := Option.some.inj hj
          subst e
          obtain ⟨a, c, hgv⟩ := own_shape' hown0
          left
          rw [hgv]
          exact Nat.le_refl _
        · rcases hap0 j g' hjk hj with h1 | h1
          · cases hq : g.ownBlock with
            | none =>
              left
              rcases hown0.2 with ⟨hgn, hln⟩ | ⟨q, cap, cur, hgv, _⟩
              · have hh := HS.out.held j g' (ms[j]'(by have := HS.out.len; have := (List.getElem?_eq_some_iff.1 hj).1; omega)) hj (List.getElem?_eq_getElem _)
                obtain ⟨a', n', c', rfl, _, hb'⟩ := hh
                show n' ≤ lg0
                rcases Nat.eq_zero_or_pos n' with h0 | h0
                · omega
                · obtain ⟨b', _, rfl, _⟩ := hb' h0
                  cases h1
              · rw [hgv] at hq
                cases hq
            | some y => exact Or.inr (by rw [h1]; exact fun k => by cases k)
          · exact Or.inr h1)
      have HAPR : Hid (∀ (i : Nat) r, k + 1 ≤ i → i < N → gs[i]? = some r → Apart g r) := hid (by
        intro i r h1 h2 hr
        have h3 := HS.out.fresh i r (ms[i]'(by have := HS.out.len; have := (List.getElem?_eq_some_iff.1 hr).1; omega)) (by omega) h2 hr (List.getElem?_eq_getElem _)
        exact h3.2 k g (by omega) hg0)
      have HS2 : Hid (Bst wr B bk (.slice (some ⟨b0, 0, none⟩) gs.length c0') (.slice (some ⟨b1, 0, none⟩) gs.length c1') A T D U gs ms (k + 1) N) := hid ⟨HS.out.cells, HS.out.row0, HS.out.row1, HS.out.held, HS.out.mle, fun i g m h1 h2 h3 h4 => HS.out.fresh i g m (by omega) h2 h3 h4, HS.out.low⟩
      clear hown0 hap0 q1 hcell0 hcell1 hg0 hm0
      clear HM HG
      have hkn1 : (k : Int) < (gs.length : Int) := by omega
      go_wp2
      go_loopw [4, 6] (fun gv iv wr => ∃ (i lg : Nat) (v0 v1 : Value) (gs : List Value) (ms : List Nat), iv = .int .i64 i ∧ 1 ≤ i ∧ i ≤ 33 ∧ lg ≤ 1048032 ∧ Hid (lg + 1 = lg0 + i ∧ gs.length = N + 5 * (k - A) + cnt i) ∧ Hid (Bst wr B bk v0 v1 A T D U gs ms (k + 1) N) ∧ Hid (wr.ownsRow B 85 19 gv lg (kcs (List.replicate lg (kyM m)))) ∧ Hid (∀ (j : Nat) g', gs[j]? = some g' → slen g' ≤ lg ∨ g'.ownBlock ≠ gv.ownBlock) ∧ Hid (∀ (i : Nat) r, k + 1 ≤ i → i < N → gs[i]? = some r → Apart gv r) ∧ Hid (Below B w wr) ∧ Hid (Same 66 w wr)) (fun _ iv _ => 33 - (intOf iv).toNat)
      case atStart => exact ⟨1, lg0, _, _, gs, ms, rfl, by omega, by omega, by omega, hid ⟨rfl, by have := HK.out; simp only [cnt]; omega⟩, HS2, HOWN0, HSAFE, HAPR, HB, H57⟩
      case round =>
        as_aux_lemma =>
        clear hc0 hc1 q0 q1' HS HS2 HOWN0 HSAFE HAPR HAP0 HB H57 hb0 hb1 hlt HN hn1 hkn hkn1
        obtain ⟨i, lg, v0, v1, gs, ms, rfl, hi1, hi97, hlg, HL, HS, HO, HSAFE, HAPR, HB, H57⟩ := hrel
        by_cases hi96 : i ≤ 32
        · have hi96' : (i : Int) ≤ 32 := by omega
          obtain ⟨ag, cg, hgv⟩ := own_shape' HO.out
          subst hgv
          have HMk := hid (fun u => kmark_any u m hmm)
          have hBr : B ≤ wr.heap.size := Nat.le_trans hBw HB.out.size
          have hown := HO.out
          go_wp2_with (first
            | (go_at_call 27; refine (HMk.out _).mono ?_; rintro e wa ⟨rfl, hga⟩; have HGa : Hid (wr.grownBy wa none) := hid hga; clear hga)
            | (with_reducible refine wpList_slice1 (by with_unfolding_all rfl) _ (by with_unfolding_all rfl) (kyM m) (kyM_len m) (by with_unfolding_all rfl) ?_; intro wb Bb sb gg; have HBb := hid Bb; have HGb := hid (gtrans HGa.out gg); have HSb := hid sb; have HOb := hid (own_grown hown HGb.out); clear Bb sb gg)
            | (at_builtin; refine wpList_append_keeps _ rfl (.tmp 39) (.tmp 42) 57 rfl B 85 inf5 (.agg zky.cells.toArray) 19 40 Tryz.underlying57 hi5 hz50 hz51 hz52 rfl (by decide) _ lg _ rfl HOb.out ⟨wa.heap.size, 0, none⟩ 1 (kyM m).cells rfl (Ky.cells_length (kyM_len m)) ?hnews (cells_oneM _ _ _) ?h63 ?hbytes ?hbase ?_))
          case hnews => exact fun j u hu => by rw [Addr.add_lit, Nat.zero_add, HBb.out.cell j]; exact hu
          case h63 => unfold maxLen; omega
          case hbytes => omega
          case hbase => have h8 := HGb.out.size; omega
          intro gb cap w2 hown2 hg2 hwh hkeep
          have hal : Below wr.heap.size wr wb := gbelow HGb.out
          have S1 : Bst wb B bk v0 v1 A T D U gs ms (k + 1) N := HS.out.same (fun e _ => Same.below hal) hal.size
          have HS' := hid (S1.grew HOb.out hg2 hkeep HSAFE.out (fun i r h1 h2 h3 => (HAPR.out i r h1 h2 h3).symm))
          have HO' : Hid (w2.ownsRow B 85 19 (.slice (some ⟨gb, 0, none⟩) (lg + 1) cap) (lg + 1) (kcs (List.replicate (lg + 1) (kyM m)))) := hid (by
            have e : kcs (List.replicate (lg + 1) (kyM m)) = kcs (List.replicate lg (kyM m)) ++ (kyM m).cells := by rw [List.replicate_succ', kcs_append]; simp [kcs]
            rw [e]
            exact hown2)
          have HB' := hid ((HB.out.trans (hal.mono hBr)).grown hg2 (by have h8 := HGb.out.size; omega) (fun j hj => (hown.lt j hj).1))
          have H57' := hid ((H57.out.trans (Same.below hal)).trans (Same.grown HOb.out hg2 (by decide)))
          have HSZ := hid hal.size
          have HSAFE' : Hid (∀ (j : Nat) g', gs[j]? = some g' → slen g' ≤ lg + 1 ∨ g'.ownBlock ≠ (Value.slice (some ⟨gb, 0, none⟩) (lg + 1) cap).ownBlock) := hid (by
            intro j g' hj
            rcases HSAFE.out j g' hj with h1 | h1
            · exact Or.inl (by omega)
            · rcases hwh with h2 | h2
              · exact Or.inr (by show g'.ownBlock ≠ some gb; rw [← h2]; exact h1)
              · have hh := HS.out.held j g' (ms[j]'(by have := HS.out.len; have := (List.getElem?_eq_some_iff.1 hj).1; omega)) hj (List.getElem?_eq_getElem _)
                obtain ⟨a', n', c', rfl, _, hb'⟩ := hh
                rcases Nat.eq_zero_or_pos n' with h0 | h0
                · exact Or.inl (by show n' ≤ _; omega)
                · obtain ⟨b', _, rfl, hb2, _⟩ := hb' h0
                  refine Or.inr (fun h3 => ?_)
                  have h4 : b' = gb := by simpa [Value.ownBlock] using h3
                  have h5 : b' < wr.heap.size := (Array.getElem?_eq_some_iff.1 hb2).1
                  have h6 : wr.heap.size ≤ gb := by have h8 := HGb.out.size; omega
                  omega)
          have HAPR' : Hid (∀ (i : Nat) r, k + 1 ≤ i → i < N → gs[i]? = some r → Apart (.slice (some ⟨gb, 0, none⟩) (lg + 1) cap) r) := hid (by
            intro i r h1 h2 hr
            rcases hwh with h3 | h3
            · have h4 := HAPR.out i r h1 h2 hr
              unfold Apart at h4 ⊢
              rw [h3] at h4
              exact h4
            · have h4 := HS.out.fresh i r (ms[i]'(by have := HS.out.len; have := (List.getElem?_eq_some_iff.1 hr).1; omega)) h1 h2 hr (List.getElem?_eq_getElem _)
              obtain ⟨⟨nr, _, hor⟩, _⟩ := h4
              refine Or.inr (fun h5 => ?_)
              have h6 := (hor.lt gb h5.symm).2
              have h7 : wr.heap.size ≤ gb := by have h8 := HGb.out.size; omega
              omega)
          clear hown hown2 hg2 hwh hkeep hal S1 HS HO HSAFE HAPR HB H57 HMk hBr HSZ HGa HGb HBb HSb HOb
          have hlt := HS'.out.cells.lt
          have hBr2 : B ≤ w2.heap.size := Nat.le_trans hBw HB'.out.size
          obtain ⟨a0, c0, hv0⟩ := own_shape' HS'.out.row0
          obtain ⟨a1, c1, hv1⟩ := own_shape' HS'.out.row1
          subst hv0
          subst hv1
          obtain ⟨n, HN⟩ : ∃ n : Nat, Hid (gs.length = n) := ⟨_, hid rfl⟩
          have hn1 : n ≤ 1048576 := by have h1 := HL.out.2; simp only [cnt] at h1; have := HN.out; have := HK.out; have := HBIG.out; omega
          rw [HN.out] at HS'
          by_cases hp4 : i < 4
          · have h4 : (i : Int) < 4 := by omega
            have hc0 : w2.cell? ⟨bk, 30, none⟩ = some (.slice a0 n c0) := HS'.out.cells.cell (i := 30) (by decide)
            have hf0 := HS'.out.cells.frozen 30
            have hrow0 : w2.ownsRow B 57 1 (.slice a0 n c0) n gs := by have := HS'.out.row0; rw [HN.out] at this; exact this
            go_wp2_with (at_builtin; refine wpList_append_keeps _ rfl (.tmp 55) (.tmp 57) 35 rfl B 57 inf28 (.slice none 0 0) 1 24 under31 hi58 hz580 hz581 hz582 rfl (by decide) _ n _ rfl (hrow0.alloc _) ⟨w2.heap.size, 0, none⟩ 1 [.slice (some ⟨gb, 0, none⟩) (lg + 1) cap] rfl rfl (cell_one_new w2 _ _) (one_one rfl) ?h63 ?hbytes ?hbase ?_)
            case h63 => unfold maxLen; omega
            case hbytes => omega
            case hbase => simp; omega
            intro g3 cap3 w3 hown3 hg3 hwh3 hkeep3
            have S3 : ∀ e, e ≠ 57 → Same e w2 w3 := fun e he => (Same.alloc e w2 _).trans (Same.grown (hrow0.alloc _) hg3 he)
            have HB3 := hid ((HB'.out.alloc hBr2 (.cells #[.slice (some ⟨gb, 0, none⟩) (lg + 1) cap] 57)).grown hg3 (by simp; omega) (fun j hj => (hrow0.lt j hj).1))
            have C3 := hid (bkc_same HS'.out.cells (S3 50 (by decide)))
            have R3 := hid (own_same HS'.out.row1 (S3 3 (by decide)))
            have hf3 := C3.out.frozen 30
            have hf31 := C3.out.frozen 31
            have hc31 : w3.cell? ⟨bk, 31, none⟩ = some (.slice a1 n c1) := C3.out.cell (i := 31) (by decide)
            have hlt3 := C3.out.lt
            have hc30 : w3.cell? ⟨bk, 30, none⟩ = some (.slice a0 n c0) := C3.out.cell (i := 30) (by decide)
            have hBr3 : B ≤ w3.heap.size := Nat.le_trans hBw HB3.out.size
            have HOWN3 := hid hown3
            have HSZ3 : Hid (w2.heap.size ≤ w3.heap.size) := hid (by have := hg3.size; simp at this; omega)
            have HS3 := hid S3
            clear hown3 hg3 hwh3 hkeep3 S3 hc0 hf0 hrow0
            have hrow1 : (w3.setCell ⟨bk, 30, none⟩ (.slice (some ⟨g3, 0, none⟩) (n + 1) cap3)).ownsRow B 3 1 (.slice a1 n c1) n (ci ms) := by
              obtain ⟨cs, hcs⟩ := bkc_block C3.out
              have := own_same R3.out (Same.set (i := 30) hcs (by decide) (.slice (some ⟨g3, 0, none⟩) (n + 1) cap3))
              rw [HN.out] at this
              exact this
            go_wp2_with (at_builtin; refine wpList_append_keeps _ rfl (.tmp 65) (.tmp 67) 25 rfl B 3 inf3 (.int .i64 0) 1 8 under25 hi3 hz30 hz31 hz16 rfl (by decide) _ n _ rfl (hrow1.alloc _) ⟨(w3.setCell ⟨bk, 30, none⟩ (.slice (some ⟨g3, 0, none⟩) (n + 1) cap3)).heap.size, 0, none⟩ 1 [.int .i64 m] ?hx1 rfl (cell_one_new _ _ _) (one_one rfl) ?h63 ?hbytes ?hbase ?_)
            case hx1 => simp [Act.eval, World.setCell]
            case h63 => unfold maxLen; omega
            case hbytes => omega
            case hbase => simp [World.setCell]; omega
            intro g5 cap5 w5 hown5 hg5 hwh5 hkeep5
            obtain ⟨W4, HW4⟩ : ∃ W4, Hid (w3.setCell ⟨bk, 30, none⟩ (.slice (some ⟨g3, 0, none⟩) (n + 1) cap3) = W4) := ⟨_, hid rfl⟩
            rw [HW4.out] at hrow1 hg5
            have S5 : ∀ e, e ≠ 3 → Same e W4 w5 := fun e he => (Same.alloc e W4 _).trans (Same.grown (hrow1.alloc _) hg5 he)
            have C4 : Bkc W4 bk (.slice (some ⟨g3, 0, none⟩) (n + 1) cap3) (.slice a1 n c1) A T D U := by
              rw [← HW4.out]
              exact (C3.out.set 30 (.slice (some ⟨g3, 0, none⟩) (n + 1) cap3)).congr (fun i _ => bkF_0 _ _ _ _ _ _ _ i)
            have C5 := hid (bkc_same C4 (S5 50 (by decide)))
            have hf5 := C5.out.frozen 31
            have hlt5 := C5.out.lt
            have hc51 : w5.cell? ⟨bk, 31, none⟩ = some (.slice a1 n c1) := C5.out.cell (i := 31) (by decide)
            have HB4 : Below B w W4 := by rw [← HW4.out]; exact HB3.out.setCell hB _
            have hBr4 : B ≤ W4.heap.size := Nat.le_trans hBw HB4.size
            have HB5 := hid ((HB4.alloc hBr4 (.cells #[.int .i64 m] 3)).grown hg5 (by simp; omega) (fun j hj => (hrow1.lt j hj).1))
            have S4 : ∀ e, e ≠ 50 → Same e w3 W4 := fun e he => by
              obtain ⟨cs, hcs⟩ := bkc_block C3.out
              rw [← HW4.out]
              exact Same.set hcs he _
            have HS25 : Hid (∀ e, e ≠ 3 → e ≠ 57 → e ≠ 50 → Same e w2 w5) := hid (fun e h1 h2 h3 => ((HS3.out e h2).trans (S4 e h3)).trans (S5 e h1))
            have HOWN5 := hid (own_same (own_same HOWN3.out (S4 57 (by decide))) (S5 57 (by decide)))
            have HR5 := hid hown5
            have hq4 : W4.heap.size = w3.heap.size := by rw [← HW4.out]; simp [World.setCell]
            have HSZ5 : Hid (w3.heap.size ≤ w5.heap.size) := hid (by have h9 := hg5.size; simp at h9; omega)
            clear hq4
            clear hown5 hg5 hwh5 hkeep5 S5 S4 C4 HB4 hrow1 hc31 hf3 hf31 hc30
            go_wp2
            have CB5 := bkc_block C5.out
            obtain ⟨cs5, hcs5⟩ := CB5
            have S56 : ∀ e, e ≠ 50 → Same e w5 (w5.setCell ⟨bk, 31, none⟩ (.slice (some ⟨g5, 0, none⟩) (n + 1) cap5)) := fun e he => Same.set hcs5 he _
            have FIN := HS'.out.push (w' := w5.setCell ⟨bk, 31, none⟩ (.slice (some ⟨g5, 0, none⟩) (n + 1) cap5)) (T' := T) (U' := U) (gv := .slice (some ⟨gb, 0, none⟩) (lg + 1) cap) (m := m)
              ((C5.out.set 31 _).congr (fun i _ => bkF_1 _ _ _ _ _ _ _ i)) (by rw [HN.out]; exact own_same HOWN5.out (S56 57 (by decide))) (by rw [HN.out]; exact own_same HR5.out (S56 3 (by decide)))
              ((HS25.out 85 (by decide) (by decide) (by decide)).trans (S56 85 (by decide))) (own_held (by have := HL.out; omega) (own_same (own_same HO'.out (HS25.out 85 (by decide) (by decide) (by decide))) (S56 85 (by decide)))) hmm (by have := HL.out; have := HN.out; omega) HAPR'.out (by have := HSZ3.out; have := HSZ5.out; simp [World.setCell]; omega) (fun b hb => by have h9 := (HO'.out.lt b hb).2; have := HSZ3.out; have := HSZ5.out; simp [World.setCell]; omega)
            refine ⟨⟨i + 1, lg + 1, _, _, _, _, by go_num, by omega, by omega, by have := HL.out; omega, hid ⟨by have := HL.out; omega, ?_⟩, hid FIN, hid (own_same (own_same HO'.out (HS25.out 85 (by decide) (by decide) (by decide))) (S56 85 (by decide))), hid ?_, hid ?_, hid (HB5.out.setCell hB _), hid ((H57'.out.trans (HS25.out 66 (by decide) (by decide) (by decide))).trans (S56 66 (by decide)))⟩, by simp [intOf]; omega⟩
            · have := HL.out.2
              rw [List.length_append]
              simp only [cnt, List.length_cons, List.length_nil] at this ⊢
              omega
            · intro j g' hj
              by_cases hjl : j < gs.length
              · rw [List.getElem?_append_left hjl] at hj
                exact HSAFE'.out j g' hj
              · rw [List.getElem?_append_right (by omega)] at hj
                have hj2 : j = gs.length := by
                  have := (List.getElem?_eq_some_iff.1 hj).1
                  simp at this
                  omega
                subst hj2
                simp at hj
                subst hj
                exact Or.inl (Nat.le_refl _)
            · intro j r h1 h2 hr
              rw [List.getElem?_append_left (by have := HL.out; omega)] at hr
              exact HAPR'.out j r h1 h2 hr
          by_cases hp16 : i % 16 = 0
          · have h4 : (4 : Int) ≤ i := by omega
            have h16 : (i : Int) % 16 = 0 := by omega
            have hc0 : w2.cell? ⟨bk, 30, none⟩ = some (.slice a0 n c0) := HS'.out.cells.cell (i := 30) (by decide)
            have hf0 := HS'.out.cells.frozen 30
            have hrow0 : w2.ownsRow B 57 1 (.slice a0 n c0) n gs := by have := HS'.out.row0; rw [HN.out] at this; exact this
            go_wp2_with (at_builtin; refine wpList_append_keeps _ rfl (.tmp 55) (.tmp 57) 35 rfl B 57 inf28 (.slice none 0 0) 1 24 under31 hi58 hz580 hz581 hz582 rfl (by decide) _ n _ rfl (hrow0.alloc _) ⟨w2.heap.size, 0, none⟩ 1 [.slice (some ⟨gb, 0, none⟩) (lg + 1) cap] rfl rfl (cell_one_new w2 _ _) (one_one rfl) ?h63 ?hbytes ?hbase ?_)
            case h63 => unfold maxLen; omega
            case hbytes => omega
            case hbase => simp; omega
            intro g3 cap3 w3 hown3 hg3 hwh3 hkeep3
            have S3 : ∀ e, e ≠ 57 → Same e w2 w3 := fun e he => (Same.alloc e w2 _).trans (Same.grown (hrow0.alloc _) hg3 he)
            have HB3 := hid ((HB'.out.alloc hBr2 (.cells #[.slice (some ⟨gb, 0, none⟩) (lg + 1) cap] 57)).grown hg3 (by simp; omega) (fun j hj => (hrow0.lt j hj).1))
            have C3 := hid (bkc_same HS'.out.cells (S3 50 (by decide)))
            have R3 := hid (own_same HS'.out.row1 (S3 3 (by decide)))
            have hf3 := C3.out.frozen 30
            have hf31 := C3.out.frozen 31
            have hc31 : w3.cell? ⟨bk, 31, none⟩ = some (.slice a1 n c1) := C3.out.cell (i := 31) (by decide)
            have hlt3 := C3.out.lt
            have hc30 : w3.cell? ⟨bk, 30, none⟩ = some (.slice a0 n c0) := C3.out.cell (i := 30) (by decide)
            have hBr3 : B ≤ w3.heap.size := Nat.le_trans hBw HB3.out.size
            have HOWN3 := hid hown3
            have HSZ3 : Hid (w2.heap.size ≤ w3.heap.size) := hid (by have := hg3.size; simp at this; omega)
            have HS3 := hid S3
            clear hown3 hg3 hwh3 hkeep3 S3 hc0 hf0 hrow0
            have hrow1 : (w3.setCell ⟨bk, 30, none⟩ (.slice (some ⟨g3, 0, none⟩) (n + 1) cap3)).ownsRow B 3 1 (.slice a1 n c1) n (ci ms) := by
              obtain ⟨cs, hcs⟩ := bkc_block C3.out
              have := own_same R3.out (Same.set (i := 30) hcs (by decide) (.slice (some ⟨g3, 0, none⟩) (n + 1) cap3))
              rw [HN.out] at this
              exact this
            go_wp2_with (at_builtin; refine wpList_append_keeps _ rfl (.tmp 65) (.tmp 67) 25 rfl B 3 inf3 (.int .i64 0) 1 8 under25 hi3 hz30 hz31 hz16 rfl (by decide) _ n _ rfl (hrow1.alloc _) ⟨(w3.setCell ⟨bk, 30, none⟩ (.slice (some ⟨g3, 0, none⟩) (n + 1) cap3)).heap.size, 0, none⟩ 1 [.int .i64 m] ?hx1 rfl (cell_one_new _ _ _) (one_one rfl) ?h63 ?hbytes ?hbase ?_)
            case hx1 => simp [Act.eval, World.setCell]
            case h63 => unfold maxLen; omega
            case hbytes => omega
            case hbase => simp [World.setCell]; omega
            intro g5 cap5 w5 hown5 hg5 hwh5 hkeep5
            obtain ⟨W4, HW4⟩ : ∃ W4, Hid (w3.setCell ⟨bk, 30, none⟩ (.slice (some ⟨g3, 0, none⟩) (n + 1) cap3) = W4) := ⟨_, hid rfl⟩
            rw [HW4.out] at hrow1 hg5
            have S5 : ∀ e, e ≠ 3 → Same e W4 w5 := fun e he => (Same.alloc e W4 _).trans (Same.grown (hrow1.alloc _) hg5 he)
            have C4 : Bkc W4 bk (.slice (some ⟨g3, 0, none⟩) (n + 1) cap3) (.slice a1 n c1) A T D U := by
              rw [← HW4.out]
              exact (C3.out.set 30 (.slice (some ⟨g3, 0, none⟩) (n + 1) cap3)).congr (fun i _ => bkF_0 _ _ _ _ _ _ _ i)
            have C5 := hid (bkc_same C4 (S5 50 (by decide)))
            have hf5 := C5.out.frozen 31
            have hlt5 := C5.out.lt
            have hc51 : w5.cell? ⟨bk, 31, none⟩ = some (.slice a1 n c1) := C5.out.cell (i := 31) (by decide)
            have HB4 : Below B w W4 := by rw [← HW4.out]; exact HB3.out.setCell hB _
            have hBr4 : B ≤ W4.heap.size := Nat.le_trans hBw HB4.size
            have HB5 := hid ((HB4.alloc hBr4 (.cells #[.int .i64 m] 3)).grown hg5 (by simp; omega) (fun j hj => (hrow1.lt j hj).1))
            have S4 : ∀ e, e ≠ 50 → Same e w3 W4 := fun e he => by
              obtain ⟨cs, hcs⟩ := bkc_block C3.out
              rw [← HW4.out]
              exact Same.set hcs he _
            have HS25 : Hid (∀ e, e ≠ 3 → e ≠ 57 → e ≠ 50 → Same e w2 w5) := hid (fun e h1 h2 h3 => ((HS3.out e h2).trans (S4 e h3)).trans (S5 e h1))
            have HOWN5 := hid (own_same (own_same HOWN3.out (S4 57 (by decide))) (S5 57 (by decide)))
            have HR5 := hid hown5
            have hq4 : W4.heap.size = w3.heap.size := by rw [← HW4.out]; simp [World.setCell]
            have HSZ5 : Hid (w3.heap.size ≤ w5.heap.size) := hid (by have h9 := hg5.size; simp at h9; omega)
            clear hq4
            clear hown5 hg5 hwh5 hkeep5 S5 S4 C4 HB4 hrow1 hc31 hf3 hf31 hc30
            go_wp2
            have CB5 := bkc_block C5.out
            obtain ⟨cs5, hcs5⟩ := CB5
            have S56 : ∀ e, e ≠ 50 → Same e w5 (w5.setCell ⟨bk, 31, none⟩ (.slice (some ⟨g5, 0, none⟩) (n + 1) cap5)) := fun e he => Same.set hcs5 he _
            have FIN := HS'.out.push (w' := w5.setCell ⟨bk, 31, none⟩ (.slice (some ⟨g5, 0, none⟩) (n + 1) cap5)) (T' := T) (U' := U) (gv := .slice (some ⟨gb, 0, none⟩) (lg + 1) cap) (m := m)
              ((C5.out.set 31 _).congr (fun i _ => bkF_1 _ _ _ _ _ _ _ i)) (by rw [HN.out]; exact own_same HOWN5.out (S56 57 (by decide))) (by rw [HN.out]; exact own_same HR5.out (S56 3 (by decide)))
              ((HS25.out 85 (by decide) (by decide) (by decide)).trans (S56 85 (by decide))) (own_held (by have := HL.out; omega) (own_same (own_same HO'.out (HS25.out 85 (by decide) (by decide) (by decide))) (S56 85 (by decide)))) hmm (by have := HL.out; have := HN.out; omega) HAPR'.out (by have := HSZ3.out; have := HSZ5.out; simp [World.setCell]; omega) (fun b hb => by have h9 := (HO'.out.lt b hb).2; have := HSZ3.out; have := HSZ5.out; simp [World.setCell]; omega)
            refine ⟨⟨i + 1, lg + 1, _, _, _, _, by go_num, by omega, by omega, by have := HL.out; omega, hid ⟨by have := HL.out; omega, ?_⟩, hid FIN, hid (own_same (own_same HO'.out (HS25.out 85 (by decide) (by decide) (by decide))) (S56 85 (by decide))), hid ?_, hid ?_, hid (HB5.out.setCell hB _), hid ((H57'.out.trans (HS25.out 66 (by decide) (by decide) (by decide))).trans (S56 66 (by decide)))⟩, by simp [intOf]; omega⟩
            · have := HL.out.2
              rw [List.length_append]
              simp only [cnt, List.length_cons, List.length_nil] at this ⊢
              omega
            · intro j g' hj
              by_cases hjl : j < gs.length
              · rw [List.getElem?_append_left hjl] at hj
                exact HSAFE'.out j g' hj
              · rw [List.getElem?_append_right (by omega)] at hj
                have hj2 : j = gs.length := by
                  have := (List.getElem?_eq_some_iff.1 hj).1
                  simp at this
                  omega
                subst hj2
                simp at hj
                subst hj
                exact Or.inl (Nat.le_refl _)
            · intro j r h1 h2 hr
              rw [List.getElem?_append_left (by have := HL.out; omega)] at hr
              exact HAPR'.out j r h1 h2 hr
          · have h4 : (4 : Int) ≤ i := by omega
            have h16 : ((i : Int) % 16 == 0) = false := beq_eq_false_iff_ne.2 (by omega)
            go_wp2
            refine ⟨⟨i + 1, lg + 1, _, _, gs, ms, by go_num, by omega, by omega, by have := HL.out; omega, hid ⟨by have := HL.out; omega, ?_⟩, HS', HO', HSAFE', HAPR', HB', H57'⟩, by simp [intOf]; omega⟩
            have := HL.out.2
            simp only [cnt] at this ⊢
            omega
        · have hi97' : (33 : Int) ≤ i := by omega
          go_wp2
          refine ⟨⟨k + 1, v0, v1, gs, ms, by go_num, by have := HX.out; omega, hid ⟨by have := HK.out; omega, by omega, ?_⟩, HS, HB, H57⟩, by simp [intOf]; omega⟩
          have := HL.out.2
          rw [show i = 33 by omega] at this
          simp only [cnt] at this
          have := HK.out
          omega
    · have hge : x ≤ (k : Int) := by have := HX.out; omega
      rw [HN.out] at hc0
      have hf := HS.out.cells.frozen 32
      have hc2 : wr.cell? ⟨bk, 32, none⟩ = some (.int .i64 A) := HS.out.cells.cell (i := 32) (by decide)
      go_wp2
      go_end0
      have hke : k = N := by have := HK.out; omega
      refine ⟨rfl, .slice a0' gs.length c0', .slice a1' gs.length c1', gs, ms, ?_, by have := HK.out; rw [hke] at this; exact this.2.2, HB.out.setCell hB _, ?_⟩
      · obtain ⟨cs, hcs⟩ := bkc_block HS.out.cells
        have s : ∀ e, e = 85 ∨ e = 57 ∨ e = 3 → Same e wr (wr.setCell ⟨bk, 32, none⟩ (.int .i64 n)) := fun e he => Same.set hcs (by rcases he with rfl | rfl | rfl <;> decide) _
        refine ⟨?_, own_same HS.out.row0 (s 57 (by simp)), own_same HS.out.row1 (s 3 (by simp)), fun i g m hg hm => held_same (HS.out.held i g m hg hm) (s 85 (by simp)), HS.out.mle, fun i g m h1 h2 => by omega, fun i g b hg hb => by rw [show (wr.setCell ⟨bk, 32, none⟩ (.int .i64 n)).heap.size = wr.heap.size by simp [World.setCell]]; exact HS.out.low i g b hg hb⟩
        have e : ((gs.length : Nat) : Int) = (n : Int) := by rw [HN.out]
        rw [e]
        exact (HS.out.cells.set 32 _).congr (fun i _ => bkF_A _ _ _ _ _ _ _ i)
      · obtain ⟨cs, hcs⟩ := bkc_block HS.out.cells
        exact H57.out.trans (Same.set hcs (by decide) _)
end Go.Proofs.YtlgjmhemgfjgnaaGreat.Bk
