/- The walk of quoted. -/
import Derived.Test.YtdmnhkgiojkphaaGreatDoorWalkF
import Derived.Lib.FrozenHead
import Derived.Lib.OthersKept
import Derived.Lib.RuneBytes
namespace Go.Proofs.YtdmnhkgiojkphaaGreatDoor
open Go Go.RowKit
open Go.RowKit (wrap32 wrap64)

/-! ### plain -/
theorem hexv_ascii {c : UInt8} {n : Nat} (h : hexv c = some n) : c.toNat < 128 := by
  unfold hexv at h
  repeat' split at h
  all_goals first | (exfalso; cases h; done) | omega
/-- The first k bytes are below 128. -/
def Asc (l : List UInt8) (k : Nat) : Prop := k ≤ l.length ∧ ∀ j, j < k → (l.getD j 0).toNat < 128
theorem fourN_asc {l : List UInt8} {n : Nat} (h : fourN l = some n) : Asc l 6 := by
  unfold fourN at h
  split at h
  · split at h
    · rename_i ha hb hc hd
      have := hexv_ascii ha
      have := hexv_ascii hb
      have := hexv_ascii hc
      have := hexv_ascii hd
      refine ⟨by simp, fun j hj => ?_⟩
      match j, hj with
      | 0, _ => simp
      | 1, _ => simp
      | 2, _ => simpa
      | 3, _ => simpa
      | 4, _ => simpa
      | 5, _ => simpa
      | j + 6, hj => omega
    · cases h
  · cases h
theorem asc_more {l : List UInt8} {a b : Nat} (h : Asc l a) (k : Asc (l.drop a) b) : Asc l (a + b) := by
  refine ⟨?_, fun j hj => ?_⟩
  · have := k.1
    rw [List.length_drop] at this
    have := h.1
    omega
  · by_cases hja : j < a
    · exact h.2 j hja
    · have := k.2 (j - a) (by omega)
      rw [List.getD_eq_getElem?_getD, List.getElem?_drop, ← List.getD_eq_getElem?_getD, show a + (j - a) = j by omega] at this
      exact this
theorem esc16_asc {l : List UInt8} {p k : Nat} (h : esc16 l = some (p, k)) : Asc l k ∧ p ≤ 1114111 ∧ 2 ≤ k := by
  unfold esc16 at h
  split at h
  · cases h
  · rename_i a ha
    have h6 := fourN_asc ha
    have hlt := (fourN_lt ha).1
    split at h
    · simp only [Option.some.injEq, Prod.mk.injEq] at h
      obtain ⟨rfl, rfl⟩ := h
      exact ⟨h6, by omega, by omega⟩
    · split at h
      · cases h
      · rename_i b hb
        have hlt2 := (fourN_lt hb).1
        split at h
        · cases h
        · simp only [Option.some.injEq, Prod.mk.injEq] at h
          obtain ⟨rfl, rfl⟩ := h
          exact ⟨asc_more h6 (fourN_asc hb), by omega, by omega⟩
theorem escP_asc {c : UInt8} {r : List UInt8} {p k : Nat} (hc : c.toNat < 128) (h : escP (c :: r) = some (p, k)) : Asc (c :: r) k ∧ p ≤ 1114111 ∧ 2 ≤ k := by
  cases r with
  | nil => cases h
  | cons d q =>
    rw [escP_cons] at h
    have two : d.toNat < 128 → Asc (c :: d :: q) 2 := fun hd => ⟨by simp, fun j hj => by
      match j, hj with
      | 0, _ => simpa
      | 1, _ => simpa
      | j + 2, hj => omega⟩
    by_cases h1 : d = 34 ∨ d = 92 ∨ d = 47
    · rw [if_pos h1] at h
      simp only [Option.some.injEq, Prod.mk.injEq] at h
      obtain ⟨rfl, rfl⟩ := h
      have hd : d.toNat < 128 := by rcases h1 with rfl | rfl | rfl <;> decide
      exact ⟨two hd, by omega, by omega⟩
    · rw [if_neg h1] at h
      by_cases h2 : d = 117
      · subst h2
        exact esc16_asc h
      · have hd : d = 98 ∨ d = 102 ∨ d = 110 ∨ d = 114 ∨ d = 116 := by
          by_cases a1 : d = 98
          · exact .inl a1
          by_cases a2 : d = 102
          · exact .inr (.inl a2)
          by_cases a3 : d = 110
          · exact .inr (.inr (.inl a3))
          by_cases a4 : d = 114
          · exact .inr (.inr (.inr (.inl a4)))
          by_cases a5 : d = 116
          · exact .inr (.inr (.inr (.inr a5)))
          rw [if_neg a1, if_neg a2, if_neg a3, if_neg a4, if_neg a5, if_neg h2] at h
          cases h
        rcases hd with rfl | rfl | rfl | rfl | rfl <;>
        · have hv := h
          simp only [] at hv
          have e : ∃ x, some (x, 2) = some (p, k) ∧ x ≤ 13 := by
            first
              | exact ⟨8, hv, by omega⟩
              | exact ⟨12, hv, by omega⟩
              | exact ⟨10, hv, by omega⟩
              | exact ⟨13, hv, by omega⟩
              | exact ⟨9, hv, by omega⟩
          obtain ⟨x, hx, hx2⟩ := e
          simp only [Option.some.injEq, Prod.mk.injEq] at hx
          obtain ⟨rfl, rfl⟩ := hx
          exact ⟨two (by decide), by omega, by omega⟩
theorem addFront_addFront (a b : List UInt8) (x : Option (List UInt8 × List UInt8)) : addFront a (addFront b x) = addFront (a ++ b) x := by
  cases x with
  | none => rfl
  | some x => simp [addFront]

theorem builder_kept {T e : TypeId} {B b : Nat} {bs : List Value} {w w' : World} (h : Lib.IsBuilderF T e B b bs w) (hg : w.grownBy w' none) : Lib.IsBuilderF T e B b bs w' := by
  have key : ∀ p, Lib.BuilderAtF T e B b p bs w → Lib.BuilderAtF T e B b p bs w' := by
    intro p hp
    have hlt := hp.lt
    obtain ⟨hB, v, hb, hown, hne⟩ := hp
    exact ⟨hB, v, (hg.block b hlt (by simp)).trans hb, hown.kept hg (by cases hv : v.ownBlock <;> simp), hne⟩
  rcases h with h | h
  · exact .inl (key _ h)
  · exact .inr (key _ h)

theorem builder_far {T e : TypeId} {B b k : Nat} {bs : List Value} {w w' : World} (h : Lib.IsBuilderF T e B b bs w) (hg : w.grownBy w' (some k)) (hk : k < B) : Lib.IsBuilderF T e B b bs w' := by
  have key : ∀ p, Lib.BuilderAtF T e B b p bs w → Lib.BuilderAtF T e B b p bs w' := by
    intro p hp
    have hlt := hp.lt
    obtain ⟨hB, v, hb, hown, hne⟩ := hp
    refine ⟨hB, v, (hg.block b hlt (by simp; omega)).trans hb, hown.kept hg ?_, hne⟩
    rcases hown.2 with ⟨rfl, _⟩ | ⟨g, cap, cur, fz, rfl, hbg, _⟩
    · exact .inl rfl
    · right
      simp [Value.ownBlock]
      omega
  rcases h with h | h
  · exact .inl (key _ h)
  · exact .inr (key _ h)

theorem gbel {w x y : World} {row : Option Nat} (h : w.grownBy x row) (k : Below w.heap.size x y) : w.grownBy y row :=
  ⟨k.os.trans h.os, k.tape.trans h.tape, k.output.trans h.output, Nat.le_trans h.size k.size, fun i hi hr => (k.block i hi).trans (h.block i hi hr)⟩

/-- How quoted ends. -/
def QuoEnds (x : Option (List UInt8 × List UInt8)) (b : Nat) (s : ByteArray) (p : Nat) (d : Int) (e : Ending) (w' : World) : Prop :=
  match x with
  | none => e = faulted 22 p ∧ Rdr w' b s p d
  | some (t, r) => e = .returned (.string (str t)) ∧ ∃ q : Nat, q ≤ s.size ∧ r = from_ s q ∧ Rdr w' b s q d

set_option maxRecDepth 100000 in
set_option maxHeartbeats 2000000 in
theorem quoted_any (w : World) (b : Nat) (s : ByteArray) (p : Nat) (d : Int) (h : Rdr w b s p d) (hG : Glob w) (hp : p < s.size) (hs : s.size ≤ 4294967280) :
    Calls Tryz.prog 79 #[.pointer (some ⟨b, 0, none⟩)] w fun e w' => QuoEnds (unquote (from_ s (p + 1))) b s p d e w' ∧ w.grownBy w' (some b) := by
  have h0 := h.text
  have h1 := h.at_
  have hlt := h.lt
  obtain ⟨S, e1⟩ : ∃ S, s.extract (p + 1) s.size = S := ⟨_, rfl⟩
  obtain ⟨hl1, hz1⟩ := extk e1
  have hl1' : from_ s (p + 1) = S.data.toList := hl1.symm
  rw [hl1']
  have HL := hid hl1'
  have hwr : IntKind.i64.wrap ((p : Int) + 1) = (p : Int) + 1 := by rw [IntKind.wrap_i64]; omega
  have q2 : (p : Int) + 1 ≤ (s.size : Int) := by omega
  have q3 : ((p : Int) + 1).toNat = p + 1 := by omega
  have q4 : p + 1 ≤ s.size := by omega
  have q5 : (0 : Int) ≤ (p : Int) + 1 := by omega
  have q6 : ¬ ((p : Int) + 1 < 0) := by omega
  have HR := hid h
  have hSb : S.size ≤ 4294967280 := by omega
  have HZ1 := hid hz1
  clear hl1 hl1' h hz1
  go_enter Tryz.func79, Tryz.ntmps79
  go_wp2_with fail
  go_quiet (fail)
  rename_i nq
  go_wp2_with fail
  go_loopw [5] (fun rv wr => ∃ (pos rd : Nat) (acc : List UInt8), rv = .int .i64 rd ∧ Hid (Lib.IsBuilderF 163 5 w.heap.size w.heap.size (Lib.byteCells acc) wr) ∧ Hid (wr.heap[w.heap.size + 1]? = some (.stringIter S pos)) ∧ Hid (Below w.heap.size w wr) ∧ pos ≤ S.size ∧ rd ≤ S.size ∧ acc.length ≤ 4 * max pos rd ∧ Hid (unquote S.data.toList = addFront acc (unquote (from_ S (max pos rd)))) ∧ Hid (∀ (j : Nat) (hj : j < S.size), pos ≤ j → j < rd → (S[j]'hj).toNat < 128)) (fun _ wr => S.size - wr.iterPos (w.heap.size + 1))
  case atStart =>
    refine ⟨0, 0, [], rfl, ?_, ?_, ?_, Nat.zero_le _, Nat.zero_le _, by simp, ?_, ?_⟩
    · exact (Lib.IsBuilderF.of (Lib.fresh_isBuilder 163 5 (w.drewN nq))).alloc _
    · have := World.iter_heap ((w.drewN nq).alloc (.cells #[.pointer none, .slice none 0 0] 163)) S 0
      have e : ((w.drewN nq).alloc (.cells #[.pointer none, .slice none 0 0] 163)).heap.size = w.heap.size + 1 := by simp
      rw [e] at this
      exact this
    · exact (((below_of_grown (gdrew w nq none) (Nat.le_refl _) (fun k hk => by cases hk)).alloc (by simp) _).alloc (by simp) _)
    · show unquote S.data.toList = addFront [] (unquote (from_ S (max 0 0)))
      rw [Nat.max_self, from_zero]
      cases unquote S.data.toList with
      | none => rfl
      | some x => rfl
    · intro j hj _ h; omega
  case round =>
    obtain ⟨pos, rd, acc, rfl, HI, HT, HB, hps, hrd, hal, HU, HA⟩ := hrel
    have hsz : w.heap.size + 1 < wr.heap.size := (Array.getElem?_eq_some_iff.1 HT.out).1
    have hRw : Rdr wr b s p d := HR.out.kept (gof HB.out none)
    have HRW := hid hRw
    clear hRw
    by_cases hp2 : pos < S.size
    · have hnx : ∀ ty, (Instr.next (.pointer (some ⟨w.heap.size + 1, 0, none⟩)) true ty).run Tryz.prog wr = _ := fun ty => Lib.run_next_any_at wr (w.heap.size + 1) S pos ty HT.out hp2
      have hwd : 1 ≤ (Utf8.decode S pos).2 := Lib.width_pos S pos
      have hle := Lib.rune_le S pos
      have HF : Hid (from_ S pos = S[pos] :: from_ S (pos + 1)) := from_lt S pos hp2
      have hbs := u8_bd S[pos]
      by_cases hrp : pos < rd
      · -- behind the first sign of an escape
        have h128 := HA.out pos hp2 (Nat.le_refl _) hrp
        have hdec := decode_ascii S pos hp2 h128
        have hit2 := Lib.iterAt_heap wr (w.heap.size + 1) S pos (pos + 1) HT.out
        have hbw2 := Lib.below_iterAt HB.out (k := w.heap.size + 1) (by omega) S (pos + 1)
        have hI2 := HI.out.iterAt HT.out (pos + 1)
        rw [hdec] at hnx
        have HI2 := hid hI2
        have HT2 := hid hit2
        have HB2 := hid hbw2
        clear hI2 hit2 hbw2 hdec hle hwd
        have hri : (pos : Int) < (rd : Int) := by omega
        go_wp2_with fail
        go_roundw
        case rel =>
          refine ⟨pos + 1, rd, acc, rfl, HI2, HT2, HB2, hp2, hrd, by omega, ?_, ?_⟩
          · rw [show max (pos + 1) rd = max pos rd by omega]; exact HU
          · intro j hj h1 h2; exact HA.out j hj (by omega) h2
        case measure =>
          simp only [World.iterPos, HT2.out, HT.out]
          omega
      · have hri : ¬ ((pos : Int) < (rd : Int)) := by omega
        have hmax : max pos rd = pos := by omega
        rw [hmax] at HU hal
        clear hmax
        have hun := unquote_cons S[pos] (from_ S (pos + 1))
        rw [← HF.out] at hun
        rw [hun] at HU
        clear hun
        have hdl : Lib.decodeL (from_ S pos) = Utf8.decode S pos := Lib.decodeL_drop S pos
        obtain ⟨S2, e2⟩ : ∃ S2, S.extract pos S.size = S2 := ⟨_, rfl⟩
        obtain ⟨hl2, hz2⟩ := extk e2
        have hl2' : S2.data.toList = from_ S pos := hl2
        have hposi : (pos : Int) ≤ (S.size : Int) := by omega
        have hS2b : S2.size ≤ 4294967280 := by omega
        have hS20 : 0 < S2.size := by omega
        clear hl2 hz2
        by_cases c34 : S[pos] = 34
        · -- the text's end
          have hdec := decode_ascii S pos hp2 (by rw [c34]; decide)
          rw [hdec, c34] at hnx
          rw [if_pos c34] at HU
          have hit2 := Lib.iterAt_heap wr (w.heap.size + 1) S pos (pos + 1) HT.out
          have hbw2 := Lib.below_iterAt HB.out (k := w.heap.size + 1) (by omega) S (pos + 1)
          have hI2 := HI.out.iterAt HT.out (pos + 1)
          have hR2 := HR.out.kept (gof hbw2 none)
          obtain ⟨W2, hW2⟩ : ∃ W2, wr.iterAt (w.heap.size + 1) S (pos + 1) = W2 := ⟨_, rfl⟩
          have hnx2 : ∀ ty, (Instr.next (.pointer (some ⟨w.heap.size + 1, 0, none⟩)) true ty).run Tryz.prog wr = .ok (.tuple #[.bool true, .int .i64 pos, .int .i32 34]) W2 := fun ty => by rw [hnx ty, ← hW2]; rfl
          rw [hW2] at hit2 hbw2 hI2 hR2
          have r1 := hR2.at_
          have r2 := hR2.free
          have r3 := hR2.lt
          have HS := hid (HL.out)
          have hI3 := builder_far hI2 (gset W2 ⟨b, 1, none⟩ (.int .i64 ((p : Int) + (1 + (pos : Int) + 1)))) hlt
          have HI3 := hid hI3
          have HB2 := hid hbw2
          have HR2 := hid hR2
          have hz3 : w.heap.size ≤ (W2.setCell ⟨b, 1, none⟩ (.int .i64 ((p : Int) + (1 + (pos : Int) + 1)))).heap.size := by
            have := (gset W2 ⟨b, 1, none⟩ (.int .i64 ((p : Int) + (1 + (pos : Int) + 1)))).size
            have := hbw2.size
            omega
          clear hnx hdec hle hwd hit2 hbw2 hI2 hR2 hI3 hW2
          have hpz : (p : Int) + (1 + (pos : Int) + 1) ≤ 4294967281 := by have := HZ1.out; omega
          go_wp2_with (go_at_call 142; refine (Tryz.Builder_String_any_k w.heap.size w.heap.size acc _ HI3.out hz3).mono ?_; rintro e W3 ⟨rfl, _, b3, _⟩)
          go_ret
          have HF2 : unquote S.data.toList = some (acc, from_ S (pos + 1)) := by rw [HU.out]; simp [addFront]
          have hfs : from_ S (pos + 1) = from_ s (p + 1 + (pos + 1)) := by
            show S.data.toList.drop (pos + 1) = _
            rw [← HL.out, from_drop]
          have hRs : Rdr (W2.setCell ⟨b, 1, none⟩ (.int .i64 ((p : Int) + (1 + (pos : Int) + 1)))) b s ((p + 1 + (pos + 1) : Nat) : Int) d := by
            rw [show ((p + 1 + (pos + 1) : Nat) : Int) = (p : Int) + (1 + (pos : Int) + 1) by omega]
            exact HR2.out.set _
          refine ⟨?_, ?_⟩
          · rw [HF2]
            refine ⟨rfl, p + 1 + (pos + 1), by have := HZ1.out; omega, hfs, ?_⟩
            unfold Rdr at hRs ⊢
            rw [b3.block b hlt]
            exact hRs
          · exact gbel ((gof HB2.out (some b)).andThen (gset W2 ⟨b, 1, none⟩ _) (fun j hj => .inr hj)) b3
        · rw [if_neg c34] at HU
          by_cases c92 : S[pos] = 92
          · -- an escape
            have hdec := decode_ascii S pos hp2 (by rw [c92]; decide)
            rw [hdec, c92] at hnx
            rw [if_pos c92] at HU
            have hit2 := Lib.iterAt_heap wr (w.heap.size + 1) S pos (pos + 1) HT.out
            have hbw2 := Lib.below_iterAt HB.out (k := w.heap.size + 1) (by omega) S (pos + 1)
            have hI2 := HI.out.iterAt HT.out (pos + 1)
            have hR2 := HR.out.kept (gof hbw2 none)
            obtain ⟨W2, hW2⟩ : ∃ W2, wr.iterAt (w.heap.size + 1) S (pos + 1) = W2 := ⟨_, rfl⟩
            have hnx2 : ∀ ty, (Instr.next (.pointer (some ⟨w.heap.size + 1, 0, none⟩)) true ty).run Tryz.prog wr = .ok (.tuple #[.bool true, .int .i64 pos, .int .i32 92]) W2 := fun ty => by rw [hnx ty, ← hW2]; rfl
            rw [hW2] at hit2 hbw2 hI2 hR2
            have HB2 := hid hbw2
            have HR2 := hid hR2
            have HT2 := hid hit2
            have HI2 := hid hI2
            have hz2w : w.heap.size + 1 < W2.heap.size := (Array.getElem?_eq_some_iff.1 hit2).1
            have hesc := fun w => escape_any S2 w (by omega)
            rw [hl2'] at hesc
            have hcons : from_ S pos = 92 :: from_ S (pos + 1) := by rw [HF.out, c92]
            clear hnx hdec hle hwd hit2 hbw2 hI2 hR2 hW2
            cases hes : escP (from_ S pos) with
            | none =>
              rw [hes] at HU
              rw [hes] at hesc
              have HE : Hid (∀ w, Calls Tryz.prog 143 #[.string S2] w fun e w' => e = .returned (.tuple #[.int .i32 0, .int .i64 0]) ∧ w' = w) := hesc
              have HF2 : Hid (unquote S.data.toList = none) := HU
              clear hesc hes HU hcons
              go_wp2_with (first
                | (go_at_call 143; refine (HE.out _).mono ?_; rintro e w2 ⟨rfl, rfl⟩)
                | (go_at_call 81; refine (fault_any _ b s p d 22 HR2.out).mono ?_; rintro e w2 ⟨rfl, hg2⟩))
              refine ⟨rfl, ?_, ?_⟩
              · rw [HF2.out]; exact ⟨rfl, HR2.out.kept ‹_›⟩
              · exact (gof HB2.out _).andThen ‹_› (fun j hj => by cases hj)
            | some pk =>
              obtain ⟨pt, k⟩ := pk
              have hes2 := hes
              rw [hes] at HU
              rw [hes] at hesc
              rw [hcons] at hes2
              obtain ⟨⟨hk1, hk2⟩, hpt, hk3⟩ := escP_asc (by decide) hes2
              rw [← hcons, from_length] at hk1
              rw [← hcons] at hk2
              have HE : Hid (∀ w, Calls Tryz.prog 143 #[.string S2] w fun e w' => e = .returned (.tuple #[.int .i32 pt, .int .i64 k]) ∧ w' = w) := hesc
              have HK2 := hid hk2
              have hk0 : ((k : Int) == 0) = false := by simp; omega
              have hpi : (pos : Int) + (k : Int) ≤ 4294967281 := by omega
              simp only [from_drop] at HU
              clear hesc hes hcons hes2 hk2
              have hz3 : w.heap.size ≤ W2.heap.size := by omega
              go_wp2_with (first
                | (go_at_call 143; refine (HE.out _).mono ?_; rintro e w2 ⟨rfl, rfl⟩)
                | (go_at_call 144; refine (Tryz.Builder_WriteRune_k w.heap.size w.heap.size _ _ (by omega) (by omega) _ HI2.out (by rw [Lib.byteCells_length]; omega) hz3).mono ?_; rintro e W1 ⟨rfl, hw1, b1, k1⟩))
              go_roundw
              case rel =>
                have hl4 := Lib.runeCells_le (pt : Int)
                rw [Lib.runeCells_length] at hl4
                refine ⟨pos + 1, pos + k, acc ++ Lib.encodeRune pt, by go_num, ?_, k1.iter HT2.out (by omega), HB2.out.trans b1, hp2, by omega, by rw [List.length_append]; omega, ?_, ?_⟩
                · rw [Lib.byteCells_append, Lib.byteCells_encodeRune]; exact Or.inr hw1
                · rw [show max (pos + 1) (pos + k) = pos + k by omega]
                  refine hid ?_
                  rw [HU.out]
                  simp only [addFront_addFront]
                · intro j hj h2 h3
                  have := HK2.out (j - pos) (by omega)
                  have e : (from_ S pos).getD (j - pos) 0 = S[j]'hj := by
                    unfold from_
                    rw [List.getD_eq_getElem?_getD, List.getElem?_drop, show pos + (j - pos) = j by omega, List.getElem?_eq_getElem (by rw [length_data]; exact hj)]
                    rfl
                  rw [e] at this
                  exact this
              case measure =>
                simp only [World.iterPos, k1.iter HT2.out (show w.heap.size + 1 ≠ w.heap.size by omega), HT.out]
                omega
          · rw [if_neg c92, hdl] at HU
            have hit2 := Lib.iterAt_heap wr (w.heap.size + 1) S pos (pos + (Utf8.decode S pos).2) HT.out
            have hbw2 := Lib.below_iterAt HB.out (k := w.heap.size + 1) (by omega) S (pos + (Utf8.decode S pos).2)
            have hI2 := HI.out.iterAt HT.out (pos + (Utf8.decode S pos).2)
            have hR2 := HR.out.kept (gof hbw2 none)
            have hasc : S[pos].toNat < 128 → Utf8.decode S pos = (S[pos].toNat, 1) := fun h => decode_ascii S pos hp2 h
            have hhi : 128 ≤ S[pos].toNat → 128 ≤ (Utf8.decode S pos).1 := fun h => (decode_high S pos hp2 h).1
            have hdle : (Utf8.decode S pos).2 ≤ S.size - pos := by
              have := Lib.decodeL_le (from_ S pos) (by rw [HF.out]; simp)
              rw [hdl, from_length] at this
              exact this
            have henc : ¬ ((Utf8.decode S pos).1 = 65533 ∧ (Utf8.decode S pos).2 = 1) → Lib.encodeRune ((Utf8.decode S pos).1 : Int) = (from_ S pos).take (Utf8.decode S pos).2 := fun h => by
              have := Lib.encode_decode (from_ S pos) (by rw [HF.out]; simp) (by rw [hdl]; exact h)
              rw [hdl] at this
              exact this
            obtain ⟨x, wd, hxw⟩ : ∃ x wd, Utf8.decode S pos = (x, wd) := ⟨_, _, rfl⟩
            rw [hxw] at HU hnx hit2 hbw2 hI2 hR2 hasc hhi hdle henc hwd hle hdl
            simp only [] at HU hnx hit2 hbw2 hI2 hR2 hasc hhi hdle henc hwd hle
            obtain ⟨W2, hW2⟩ : ∃ W2, wr.iterAt (w.heap.size + 1) S (pos + wd) = W2 := ⟨_, rfl⟩
            rw [hW2] at hnx hit2 hbw2 hI2 hR2
            have HB2 := hid hbw2
            have HR2 := hid hR2
            have HT2 := hid hit2
            have HI2 := hid hI2
            have hz2w : w.heap.size + 1 < W2.heap.size := (Array.getElem?_eq_some_iff.1 hit2).1
            have hz3 : w.heap.size ≤ W2.heap.size := by omega
            have hG2 := hG.below (hbw2.mono hG.1)
            have HG2 := hid hG2
            have hn34 : ((x : Int) == 34) = false := by
              rw [beq_eq_false_iff_ne]
              intro hx
              by_cases h : S[pos].toNat < 128
              · have := hasc h
                simp only [Prod.mk.injEq] at this
                exact c34 (by rw [← UInt8.toNat_inj]; show S[pos].toNat = 34; omega)
              · have := hhi (by omega); omega
            have hn92 : ((x : Int) == 92) = false := by
              rw [beq_eq_false_iff_ne]
              intro hx
              by_cases h : S[pos].toNat < 128
              · have := hasc h
                simp only [Prod.mk.injEq] at this
                exact c92 (by rw [← UInt8.toNat_inj]; show S[pos].toNat = 92; omega)
              · have := hhi (by omega); omega
            have hx32 : S[pos].toNat < 32 ↔ x < 32 := by
              by_cases h : S[pos].toNat < 128
              · have := hasc h
                simp only [Prod.mk.injEq] at this
                omega
              · have := hhi (by omega); omega
            have hxle : (x : Int) ≤ 1114111 := by omega
            have hdl2 : (Lib.decodeL (from_ S pos)).2 = wd := by rw [hdl]
            clear hW2 hit2 hbw2 hI2 hR2 hasc hhi hxw hdl hG2 hle
            by_cases hbad : S[pos].toNat < 32 ∨ (x = 65533 ∧ wd = 1)
            · rw [if_pos hbad] at HU
              have HF2 : Hid (unquote S.data.toList = none) := HU
              by_cases hx : x < 32
              · have hxi : (x : Int) < 32 := by omega
                clear HU hbad hx32
                go_wp2_with (go_at_call 81; refine (fault_any _ b s p d 22 HR2.out).mono ?_; rintro e w2 ⟨rfl, hg2⟩)
                refine ⟨rfl, ?_, ?_⟩
                · rw [HF2.out]; exact ⟨rfl, HR2.out.kept ‹_›⟩
                · exact (gof HB2.out _).andThen ‹_› (fun j hj => by cases hj)
              · have hxi : ¬ ((x : Int) < 32) := by omega
                have hx6 : x = 65533 ∧ wd = 1 := by
                  rcases hbad with h | h
                  · exact absurd (hx32.1 h) hx
                  · exact h
                obtain ⟨rfl, rfl⟩ := hx6
                have HBB : Hid (∀ w, Glob w → Calls Tryz.prog 145 #[.string S2] w fun e w' => e = .returned (.bool true) ∧ w.grownBy w' none) := fun w hG => by
                  have := isBadByte_any S2 w hG hS20
                  rw [hl2', hdl2] at this
                  exact this
                clear HU hbad hx32 hl2' hdl2 henc
                go_wp2_with fail
                refine (HBB.out _ HG2.out).mono ?_
                rintro e w3 ⟨rfl, hg3⟩
                go_wp2_with (go_at_call 81; refine (fault_any _ b s p d 22 (HR2.out.kept hg3)).mono ?_; rintro e w4 ⟨rfl, hg4⟩)
                refine ⟨rfl, ?_, ?_⟩
                · rw [HF2.out]; exact ⟨rfl, (HR2.out.kept hg3).kept hg4⟩
                · exact ((gof HB2.out _).andThen hg3 (fun j hj => by cases hj)).andThen hg4 (fun j hj => by cases hj)
            · rw [if_neg hbad, from_drop] at HU
              have hxi : ¬ ((x : Int) < 32) := by
                intro h
                exact hbad (.inl (hx32.2 (by omega)))
              have hgood : ¬ (x = 65533 ∧ wd = 1) := fun h => hbad (.inr h)
              have HEN := hid (henc hgood)
              have HU2 := hid HU.out
              clear HU hbad hx32 henc
              by_cases hx6 : x = 65533
              · subst hx6
                have hw1 : ¬ wd = 1 := fun h => hgood ⟨rfl, h⟩
                have HBB : Hid (∀ w, Glob w → Calls Tryz.prog 145 #[.string S2] w fun e w' => e = .returned (.bool false) ∧ w.grownBy w' none) := fun w hG => by
                  have := isBadByte_any S2 w hG hS20
                  rw [hl2', hdl2] at this
                  simp only [decide_eq_false hw1] at this
                  exact this
                clear hl2' hdl2 hgood
                go_wp2_with fail
                refine (HBB.out _ HG2.out).mono ?_
                rintro e w3 ⟨rfl, hg3⟩
                have hI3 := builder_kept HI2.out hg3
                have hT3 : w3.heap[w.heap.size + 1]? = some (.stringIter S (pos + wd)) := by
                  rw [hg3.block _ hz2w (by simp)]; exact HT2.out
                have hB3 : Below w.heap.size w w3 := HB2.out.trans ((gbelow hg3).mono hz3)
                have HI3 := hid hI3
                have HT3 := hid hT3
                have HB3 := hid hB3
                have hz4 : w.heap.size ≤ w3.heap.size := Nat.le_trans hz3 hg3.size
                clear hI3 hT3 hB3
                go_wp2_with (go_at_call 144; refine (Tryz.Builder_WriteRune_k w.heap.size w.heap.size _ _ (by omega) (by omega) _ HI3.out (by rw [Lib.byteCells_length]; omega) hz4).mono ?_; rintro e W1 ⟨rfl, hw1, b1, k1⟩)
                go_roundw
                case rel =>
                  have hl4 := Lib.runeCells_le ((65533 : Nat) : Int)
                  rw [Lib.runeCells_length] at hl4
                  refine ⟨pos + wd, rd, acc ++ Lib.encodeRune ((65533 : Nat) : Int), rfl, ?_, k1.iter HT3.out (by omega), HB3.out.trans b1, by omega, hrd, by rw [List.length_append]; omega, ?_, ?_⟩
                  · rw [Lib.byteCells_append, Lib.byteCells_encodeRune]; exact Or.inr hw1
                  · rw [show max (pos + wd) rd = pos + wd by omega]
                    refine hid ?_
                    rw [HU2.out, addFront_addFront, HEN.out]
                  · intro j hj h2 h3; omega
                case measure =>
                  simp only [World.iterPos, k1.iter HT3.out (show w.heap.size + 1 ≠ w.heap.size by omega), HT.out]
                  omega
              · have hx6b : ((x : Int) == 65533) = false := by rw [beq_eq_false_iff_ne]; omega
                clear hx6 hgood hl2' hdl2
                go_wp2_with (go_at_call 144; refine (Tryz.Builder_WriteRune_k w.heap.size w.heap.size _ _ (by omega) (by omega) _ HI2.out (by rw [Lib.byteCells_length]; omega) hz3).mono ?_; rintro e W1 ⟨rfl, hw1, b1, k1⟩)
                go_roundw
                case rel =>
                  have hl4 := Lib.runeCells_le (x : Int)
                  rw [Lib.runeCells_length] at hl4
                  refine ⟨pos + wd, rd, acc ++ Lib.encodeRune x, rfl, ?_, k1.iter HT2.out (by omega), HB2.out.trans b1, by omega, hrd, by rw [List.length_append]; omega, ?_, ?_⟩
                  · rw [Lib.byteCells_append, Lib.byteCells_encodeRune]; exact Or.inr hw1
                  · rw [show max (pos + wd) rd = pos + wd by omega]
                    refine hid ?_
                    rw [HU2.out, addFront_addFront, HEN.out]
                  · intro j hj h2 h3; omega
                case measure =>
                  simp only [World.iterPos, k1.iter HT2.out (show w.heap.size + 1 ≠ w.heap.size by omega), HT.out]
                  omega
    · have hnx : ∀ ty, (Instr.next (.pointer (some ⟨w.heap.size + 1, 0, none⟩)) true ty).run Tryz.prog wr = _ := fun ty => Lib.run_next_end_at wr (w.heap.size + 1) S pos ty HT.out hp2
      have hmax : max pos rd = S.size := by omega
      rw [hmax, from_ge S S.size (Nat.le_refl _)] at HU
      have HF : Hid (unquote S.data.toList = none) := HU
      go_wp2_with (go_at_call 81; refine (fault_any _ b s p d 22 HRW.out).mono ?_; rintro e w2 ⟨rfl, hg2⟩)
      refine ⟨rfl, ?_, ?_⟩
      · rw [HF.out]; exact ⟨rfl, HRW.out.kept hg2⟩
      · exact (gof HB.out _).andThen hg2 (fun j hj => by cases hj)
end Go.Proofs.YtdmnhkgiojkphaaGreatDoor
