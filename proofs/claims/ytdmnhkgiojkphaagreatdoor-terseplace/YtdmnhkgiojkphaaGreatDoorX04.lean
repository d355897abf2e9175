/- The walks of strings.IndexRune and strings.IndexAny at the marks that end a word, whatever the text; wordAhead. -/
import Derived.Test.YtdmnhkgiojkphaaGreatDoorX01
import Derived.Test.YtdmnhkgiojkphaaGreatDoorShelf
import Derived.Test.YtdmnhkgiojkphaaGreatDoorTreeQ
import Derived.Lib.AppendIntMem
namespace Go.Proofs.YtdmnhkgiojkphaaGreatDoor
open Go Go.RowKit
open Go.RowKit (wrap32 wrap64)

def marks : ByteArray := ⟨#[91, 93, 123, 125, 44, 58, 34, 9, 10, 13, 32]⟩
theorem marks_ascii (j : Nat) (h : j < marks.size) : (marks[j]'h).toNat < 128 := by
  have : ∀ j : Fin 11, (marks[j.val]'(j.isLt)).toNat < 128 := by decide
  exact this ⟨j, h⟩

set_option maxRecDepth 100000 in
set_option maxHeartbeats 1000000 in
theorem indexRune_err (w : World) : Calls Tryz.prog 196 #[.string marks, .int .i32 65533] w fun e w' => e = .returned (.int .i64 (-1)) ∧ w.grownBy w' none := by
  go_enter Tryz.func196, Tryz.ntmps196
  go_wp2
  go_loopw [] (fun wr => ∃ pos : Nat, wr.heap[w.heap.size]? = some (.stringIter marks pos) ∧ Below w.heap.size w wr ∧ pos ≤ 11) (fun wr => 11 - wr.iterPos w.heap.size)
  case atStart =>
    refine ⟨0, ?_, (Below.refl _ w).alloc (Nat.le_refl _) _, Nat.zero_le _⟩
    have := World.iter_heap w marks 0
    simpa using this
  case round =>
    obtain ⟨pos, hit, hbw, hps⟩ := hrel
    have hsz : w.heap.size < wr.heap.size := (Array.getElem?_eq_some_iff.1 hit).1
    by_cases hp : pos < 11
    · have hp' : pos < marks.size := hp
      have hnx : ∀ ty, (Instr.next (.pointer (some ⟨w.heap.size, 0, none⟩)) true ty).run Tryz.prog wr = _ := fun ty => Lib.run_next_any_at wr w.heap.size marks pos ty hit hp'
      have hb := marks_ascii pos hp'
      have hdec := decode_ascii marks pos hp' hb
      have hit2 := Lib.iterAt_heap wr w.heap.size marks pos (pos + (Utf8.decode marks pos).2) hit
      have hbw2 := Lib.below_iterAt hbw (k := w.heap.size) (by omega) marks (pos + (Utf8.decode marks pos).2)
      rw [hdec] at hnx hit2 hbw2
      generalize (marks[pos]'hp').toNat = x at *
      have hx : ((x : Int) == 65533) = false := by simp; omega
      have HI := hid hit2
      have HB := hid hbw2
      have HI0 := hid hit
      clear hit2 hbw2 hit hdec
      go_wp2
      go_roundw
      case rel => exact ⟨pos + 1, HI.out, HB.out, hp⟩
      case measure =>
        simp only [World.iterPos, HI.out, HI0.out]
        omega
    · have hp' : ¬ pos < marks.size := hp
      have hnx : ∀ ty, (Instr.next (.pointer (some ⟨w.heap.size, 0, none⟩)) true ty).run Tryz.prog wr = _ := fun ty => Lib.run_next_end_at wr w.heap.size marks pos ty hit hp'
      have HB := hid hbw
      clear hbw
      go_wp2
      go_ret
      exact ⟨rfl, gof HB.out none⟩

theorem encode_high (r : Nat) (h0 : 128 ≤ r) : ∃ (E : ByteArray) (k : Nat) (hk : k < E.size), Utf8.encode (r : Int) = E ∧ E.size = k + 1 ∧ 1 ≤ k ∧ k ≤ 3 ∧ 128 ≤ (E[k]'hk).toNat := by
  unfold Utf8.encode
  simp only []
  generalize hc : (if Utf8.valid (r : Int) = true then (r : Int).toNat else Utf8.runeError) = c
  have hc0 : 128 ≤ c := by
    rw [← hc]
    split
    · omega
    · decide
  rw [if_neg (by omega)]
  split
  · exact ⟨_, 1, by simp [ByteArray.size], rfl, rfl, by omega, by omega, by simp [ByteArray.getElem_eq_getElem_data]; omega⟩
  · split
    · exact ⟨_, 2, by simp [ByteArray.size], rfl, rfl, by omega, by omega, by simp [ByteArray.getElem_eq_getElem_data]; omega⟩
    · exact ⟨_, 3, by simp [ByteArray.size], rfl, rfl, by omega, by omega, by simp [ByteArray.getElem_eq_getElem_data]; omega⟩
theorem indexByte_none : ∀ (l : List UInt8) (c : UInt8), (∀ x ∈ l, x ≠ c) → Lib.indexByte l c = -1
  | [], _, _ => rfl
  | b :: l, c, h => by
    unfold Lib.indexByte
    rw [if_neg (by simp; exact h b (by simp)), indexByte_none l c (fun x hx => h x (by simp [hx]))]
    rfl
theorem mem_data (M : ByteArray) (k : Nat) (h : k < M.size) : M[k] ∈ M.data.toList := by
  have : M[k] = M.data.toList[k]'(by simpa using h) := rfl
  rw [this]
  exact List.getElem_mem _
theorem ascii_not (M : ByteArray) (hA : ∀ x ∈ M.data.toList, x.toNat < 128) (k : Nat) (c : UInt8) (h : 128 ≤ c.toNat) : Lib.indexByte (M.data.toList.drop k) c = -1 := by
  apply indexByte_none
  intro x hx e
  have h3 := hA x (List.mem_of_mem_drop hx)
  rw [e] at h3
  omega

set_option maxRecDepth 100000 in
set_option maxHeartbeats 1000000 in
theorem indexRune_high (M : ByteArray) (hM : M.size = 11) (hA : ∀ x ∈ M.data.toList, x.toNat < 128) (r : Nat) (w : World) (h0 : 128 ≤ r) (h1 : r ≤ 1114111) (h2 : r ≠ 65533) : Calls Tryz.prog 196 #[.string M, .int .i32 r] w fun e w' => e = .returned (.int .i64 (-1)) ∧ w.grownBy w' none := by
  have hr1 : ¬ ((r : Int) < 128) := by omega
  have hr2 : ((r : Int) == 65533) = false := by simp; omega
  cases hv : Lib.validRune r with
  | false =>
    go_enter Tryz.func196, Tryz.ntmps196
    go_wp2_with (go_at_call 213; refine (Tryz.utf8_ValidRune _ _).mono ?_; rintro e w' ⟨rfl, rfl⟩)
    go_ret
    exact ⟨rfl, grefl _ _⟩
  | true =>
    obtain ⟨E, k, hkE, he, hE, hk1, hk3, hb⟩ := encode_high r h0
    have hbb := u8_bd (E[k]'hkE)
    have hk : k < M.size := by omega
    have hki : (k : Int) < (M.size : Int) := by omega
    have hkj : (k : Int) + 1 < (M.size : Int) := by omega
    have hke : (k : Int) < (E.size : Int) := by omega
    have hm := hA (M[k]'hk) (mem_data M _ hk)
    have hix := ascii_not M hA (k + 1) (E[k]'hkE) hb
    rw [← Lib.ext_list] at hix
    obtain ⟨x, hx⟩ : ∃ x : Int, ((M[k]'hk).toNat : Int) = x := ⟨_, rfl⟩
    obtain ⟨y, hy⟩ : ∃ y : Int, ((E[k]'hkE).toNat : Int) = y := ⟨_, rfl⟩
    have e1 : (x != y) = true := by rw [bne_iff_ne]; omega
    have hyb : 0 ≤ y ∧ y < 256 := by omega
    have hEi : (E.size : Int) - 1 = (k : Int) := by omega
    have hyy : y.toNat.toUInt8 = E[k]'hkE := by rw [← hy]; simp
    rw [← hyy] at hix
    have hcall : ∀ w, Calls Tryz.prog 211 #[.string (M.extract (k + 1) M.size), .int .u8 y] w fun e w' => e = .returned (.int .i64 (-1)) ∧ w' = w := fun w => by
      have := Tryz.strings_IndexByte (M.extract (k + 1) M.size) y w
      rw [hix] at this
      exact this
    have HIX := hid hcall
    have hwr : IntKind.i64.wrap ((k : Int) + 1) = (k : Int) + 1 := by rw [IntKind.wrap_i64]; omega
    have q1 : ¬ ((k : Int) + 1 < 0) := by omega
    have q2 : (k : Int) + 1 ≤ (M.size : Int) := by omega
    have q3 : ((k : Int) + 1).toNat = k + 1 := by omega
    have q4 : k + 1 ≤ M.size := by omega
    have q5 : (0 : Int) ≤ (k : Int) + 1 := by omega
    have HA := hid hA
    have HM := hid hM
    have HE := hid hE
    have hm11 : (M.size : Int) ≤ 11 := by omega
    have he4 : (E.size : Int) ≤ 4 := by omega
    clear hix hA hM hyy hb hm hbb hE hcall
    go_enter Tryz.func196, Tryz.ntmps196
    go_wp2_with (go_at_call 213; refine (Tryz.utf8_ValidRune _ _).mono ?_; rintro e w' ⟨rfl, rfl⟩)
    go_step3
    go_wp2_with fail
    go_loopw [9] (fun i wr => i = .int .i64 k ∧ wr = w') (fun _ wr => 0)
    case atStart => exact ⟨rfl, rfl⟩
    case round =>
      obtain ⟨rfl, rfl⟩ := hrel
      go_wp2_with fail
      go_step3
      go_wp2_with fail
      go_quiet (fail)
      rename_i nq
      go_wp2_with fail
      go_quiet ((go_at_call 211; exact (HIX.out _).mono (fun e w' h => ⟨h.1, _, h.2⟩)))
      go_wp2_with fail
      rw [Exit.noGoto_ret]
      simp only [Exit.inBlock]
      go_wp2
      rw [Exit.noGoto_ret]
      go_wp2
      go_ret
      exact ⟨rfl, gdrew _ _ _⟩

/-! ### IndexAny -/
def anyIdx (l : List UInt8) : Int := if (wordOf l).length = l.length then -1 else (wordOf l).length
theorem marks_end (c : UInt8) : marks.data.toList.contains c = isEnd c := by
  show [91, 93, 123, 125, 44, 58, 34, 9, 10, 13, 32].contains c = isEnd c
  unfold isEnd
  simp only [List.contains_cons, List.contains_nil, Bool.or_false]
  simp only [Bool.or_assoc]
theorem wordOf_cons (c : UInt8) (r : List UInt8) : wordOf (c :: r) = if isEnd c = true then [] else c :: wordOf r := by
  unfold wordOf
  rw [List.takeWhile_cons]
  cases isEnd c <;> rfl
theorem wordOf_le (l : List UInt8) : (wordOf l).length ≤ l.length := List.Sublist.length_le (List.takeWhile_sublist _)
theorem indexAny_eq : ∀ l : List UInt8, Lib.indexAny l marks.data.toList = anyIdx l
  | [] => rfl
  | c :: r => by
    have ih := indexAny_eq r
    have hle := wordOf_le r
    unfold Lib.indexAny anyIdx
    rw [marks_end, wordOf_cons, ih]
    cases hc : isEnd c with
    | true => simp
    | false =>
      simp only [Bool.false_eq_true, if_false, List.length_cons]
      unfold anyIdx
      by_cases h : (wordOf r).length = r.length
      · rw [if_pos h, if_pos (by simp), if_pos (by omega)]
      · rw [if_neg h, if_neg (by simp), if_neg (by omega)]
        omega
theorem isEnd_none (b : UInt8) (h : 128 ≤ b.toNat) : isEnd b = false := by
  rw [← marks_end]
  cases hc : marks.data.toList.contains b with
  | false => rfl
  | true =>
    have hm := List.contains_iff_mem.1 hc
    have : ∀ x ∈ marks.data.toList, x.toNat < 128 := by decide
    have := this b hm
    omega
theorem word_high (l : List UInt8) (c : UInt8) (r : List UInt8) (e : l = c :: r) (h : 128 ≤ c.toNat) : wordOf l = l.take (Lib.decodeL l).2 ++ wordOf (l.drop (Lib.decodeL l).2) ∧ (Lib.decodeL l).2 ≤ l.length := by
  have hne : l ≠ [] := by rw [e]; simp
  refine ⟨?_, Lib.decodeL_le l hne⟩
  have all : ∀ b ∈ l.take (Lib.decodeL l).2, isEnd b = false := by
    have hhi : ∀ b ∈ l.take (Lib.decodeL l).2, 128 ≤ b.toNat := by
      by_cases hv : (Lib.decodeL l).1 = 65533 ∧ (Lib.decodeL l).2 = 1
      · rw [hv.2, e]
        intro b hb
        simp at hb
        subst hb
        exact h
      · exact decodeL_high l hne hv (by rw [e]; simpa using h)
    intro b hb
    have hb' := hhi b hb
    exact isEnd_none b hb'
  conv => lhs; rw [← List.take_append_drop (Lib.decodeL l).2 l]
  unfold wordOf
  generalize l.take (Lib.decodeL l).2 = x at *
  induction x with
  | nil => rfl
  | cons a q ih =>
    rw [List.cons_append, List.takeWhile_cons, if_pos (by simp [all a (by simp)]), ih (fun b hb => all b (by simp [hb]))]
    rfl

theorem from_drop (s : ByteArray) (k m : Nat) : (from_ s k).drop m = from_ s (k + m) := by unfold from_; rw [List.drop_drop]
theorem marks_idx (c : UInt8) : (0 ≤ Lib.indexByte marks.data.toList c) ↔ isEnd c = true := by
  rw [← marks_end]
  generalize marks.data.toList = l
  induction l with
  | nil => simp [Lib.indexByte]
  | cons b r ih =>
    have hge := Lib.indexByte_ge r c
    unfold Lib.indexByte
    rw [List.contains_cons]
    by_cases h : b = c
    · subst h; simp
    · rw [if_neg (by simpa using h), show (c == b) = false by simp; exact fun e => h e.symm, Bool.false_or, ← ih]
      by_cases h1 : Lib.indexByte r c = -1
      · rw [h1]; simp
      · rw [if_neg (by simpa using h1)]; omega

set_option maxRecDepth 100000 in
set_option maxHeartbeats 1000000 in
theorem indexAny_short (M : ByteArray) (hM : M = marks) (s : ByteArray) (w : World) (h8 : s.size ≤ 8) : Calls Tryz.prog 182 #[.string s, .string M] w fun e w' => e = .returned (.int .i64 (anyIdx s.data.toList)) ∧ w.grownBy w' none := by
  have hMs : M.size = 11 := by rw [hM]; rfl
  have g1 : M.toList.isEmpty = false := by rw [empty_iff, hMs]; rfl
  have g2 : ¬ M.toList = [] := fun h => by have := (nil_iff M).1 h; omega
  have g3 : ((M.size : Int) == 1) = false := by rw [hMs]; rfl
  have h8z : decide ((8 : Int) < (s.size : Int)) = false := by simp; omega
  have HM := hid hM
  clear hM hMs
  go_enter Tryz.func182, Tryz.ntmps182
  go_wp2_with (go_at_call 197; refine (Tryz.strings_shouldUseASCIISet _ _).mono ?_; rintro e w0 ⟨rfl, rfl⟩)
  go_loopw [] (fun wr => ∃ pos : Nat, wr.heap[w0.heap.size]? = some (.stringIter s pos) ∧ Below w0.heap.size w0 wr ∧ pos ≤ s.size ∧ Hid ((wordOf s.data.toList).length = pos + (wordOf (from_ s pos)).length)) (fun wr => s.size - wr.iterPos w0.heap.size)
  case atStart =>
    refine ⟨0, ?_, (Below.refl _ w0).alloc (Nat.le_refl _) _, Nat.zero_le _, hid (by rw [from_zero]; simp)⟩
    have := World.iter_heap w0 s 0
    simpa using this
  case round =>
    obtain ⟨pos, hit, hbw, hps, HD⟩ := hrel
    have hsz : w0.heap.size < wr.heap.size := (Array.getElem?_eq_some_iff.1 hit).1
    by_cases hp : pos < s.size
    · have hnx : ∀ ty, (Instr.next (.pointer (some ⟨w0.heap.size, 0, none⟩)) true ty).run Tryz.prog wr = _ := fun ty => Lib.run_next_any_at wr w0.heap.size s pos ty hit hp
      have hit2 := Lib.iterAt_heap wr w0.heap.size s pos (pos + (Utf8.decode s pos).2) hit
      have hbw2 := Lib.below_iterAt hbw (k := w0.heap.size) (by omega) s (pos + (Utf8.decode s pos).2)
      have HF : Hid (from_ s pos = s[pos] :: from_ s (pos + 1)) := from_lt s pos hp
      have hle := Lib.rune_le s pos
      by_cases h128 : s[pos].toNat < 128
      · have hdec := decode_ascii s pos hp h128
        rw [hdec] at hnx hit2 hbw2
        have hcall : ∀ w, Calls Tryz.prog 196 #[.string M, .int .i32 s[pos].toNat] w fun e w' => e = .returned (.int .i64 (Lib.indexByte marks.data.toList s[pos])) ∧ w' = w := fun w => by
          have := Tryz.strings_IndexRune_ascii M s[pos].toNat w (by omega) (by omega)
          rw [HM.out] at this ⊢
          simpa using this
        have HC := hid hcall
        have HI := hid hit2
        have HB := hid hbw2
        have HI0 := hid hit
        have hmi := marks_idx s[pos]
        have hw := wordOf_cons s[pos] (from_ s (pos + 1))
        generalize Lib.indexByte marks.data.toList s[pos] = ix at *
        have HMI := hid hmi
        have HW := hid hw
        clear hit2 hbw2 hit hdec hcall hmi hw hle
        by_cases hix : 0 ≤ ix
        · have he := HMI.out.1 hix
          go_wp2_with (go_at_call 196; refine (HC.out _).mono ?_; rintro e w2 ⟨rfl, h2⟩; rw [h2])
          go_ret
          refine ⟨?_, gof HB.out none⟩
          have hd := HD.out
          rw [HF.out, HW.out, he, if_pos rfl] at hd
          simp at hd
          unfold anyIdx
          rw [hd, length_data, if_neg (by omega)]
          rfl
        · have he : isEnd s[pos] = false := by
            cases h : isEnd s[pos] with
            | false => rfl
            | true => exact absurd (HMI.out.2 h) hix
          go_wp2_with (go_at_call 196; refine (HC.out _).mono ?_; rintro e w2 ⟨rfl, h2⟩; rw [h2])
          go_roundw
          case rel =>
            refine ⟨pos + 1, HI.out, HB.out, hp, hid ?_⟩
            have hd := HD.out
            rw [HF.out, HW.out, he, if_neg (by simp), List.length_cons] at hd
            omega
          case measure =>
            simp only [World.iterPos, HI.out, HI0.out]
            omega
      · have hx := (decode_high s pos hp (by omega)).1
        have hwd := (decode_high s pos hp (by omega)).2
        obtain ⟨hw, hwl⟩ := word_high (from_ s pos) s[pos] _ HF.out (by omega)
        have hdl : Lib.decodeL (from_ s pos) = Utf8.decode s pos := Lib.decodeL_drop s pos
        rw [hdl, from_drop] at hw
        rw [hdl, from_length] at hwl
        have hwlen : (wordOf (from_ s pos)).length = (Utf8.decode s pos).2 + (wordOf (from_ s (pos + (Utf8.decode s pos).2))).length := by
          rw [hw, List.length_append, List.length_take, from_length]
          omega
        have HW := hid hwlen
        have HI := hid hit2
        have HB := hid hbw2
        have HI0 := hid hit
        clear hit2 hbw2 hit hw hwlen hdl
        generalize (Utf8.decode s pos).2 = wd at *
        generalize (Utf8.decode s pos).1 = x at *
        have hcall : ∀ w, Calls Tryz.prog 196 #[.string M, .int .i32 x] w fun e w' => e = .returned (.int .i64 (-1)) ∧ w.grownBy w' none := fun w => by
          by_cases hx3 : x = 65533
          · subst hx3
            rw [HM.out]
            exact indexRune_err w
          · exact indexRune_high M (by rw [HM.out]; rfl) (by rw [HM.out]; decide) x w hx hle hx3
        have HC := hid hcall
        clear hcall
        go_wp2_with (go_at_call 196; refine (HC.out _).mono ?_; rintro e w1 ⟨rfl, hg1⟩)
        have hit3 : w1.heap[w0.heap.size]? = some (.stringIter s (pos + wd)) := by
          rw [hg1.block _ (by rw [Lib.iterAt_size]; exact hsz) (by simp)]
          exact HI.out
        go_roundw
        case rel =>
          refine ⟨pos + wd, hit3, HB.out.trans ((gbelow hg1).mono (by rw [Lib.iterAt_size]; omega)), by omega, hid ?_⟩
          have hd := HD.out
          rw [HW.out] at hd
          omega
        case measure =>
          simp only [World.iterPos, hit3, HI0.out]
          omega
    · have hnx : ∀ ty, (Instr.next (.pointer (some ⟨w0.heap.size, 0, none⟩)) true ty).run Tryz.prog wr = _ := fun ty => Lib.run_next_end_at wr w0.heap.size s pos ty hit hp
      have HF : Hid (from_ s pos = []) := from_ge s pos (by omega)
      have HP : Hid (pos = s.size) := by have : pos = s.size := by omega
                                         exact this
      have HB := hid hbw
      clear hbw
      go_wp2
      go_ret
      refine ⟨?_, gof HB.out none⟩
      have hd := HD.out
      rw [HF.out, HP.out] at hd
      have h0 : (wordOf []).length = 0 := rfl
      unfold anyIdx
      rw [hd, h0, length_data, if_pos (by omega)]
      rfl

/-- IndexAny at the marks. -/
theorem indexAny_any (s : ByteArray) (w : World) (hs : s.size ≤ 4294967280) : Calls Tryz.prog 182 #[.string s, .string marks] w fun e w' => e = .returned (.int .i64 (anyIdx s.data.toList)) ∧ w.grownBy w' none := by
  by_cases h8 : s.size ≤ 8
  · exact indexAny_short marks rfl s w h8
  · have hz : (Tryz.prog.info? 273).map (fun i => (i.zero, i.size)) = some (some (.agg (Array.replicate 256 (.bool false))), 256) := by kernel_rfl
    refine (Tryz.strings_IndexAny_long (zero_of_info hz).1 s marks w (by decide) (by omega) (by omega) (by decide) (fun j b hb => ?_)).mono ?_
    · have : ∀ x ∈ marks.data.toList, x.toNat < 128 := by decide
      exact this b (List.mem_of_getElem? hb)
    · rintro e w' ⟨rfl, rfl⟩
      refine ⟨by rw [indexAny_eq], ?_⟩
      exact gof (((Below.refl _ _).alloc (Nat.le_refl _) _).alloc (by simp) _) none

theorem wordOf_take (l : List UInt8) : l.take (wordOf l).length = wordOf l := by
  unfold wordOf
  induction l with
  | nil => rfl
  | cons c r ih =>
    rw [List.takeWhile_cons]
    split
    · rw [List.length_cons, List.take_succ_cons, ih]
    · rfl

set_option maxHeartbeats 400000 in
theorem wordAhead_any (s : ByteArray) (w : World) (hs : s.size ≤ 4294967280) : Calls Tryz.prog 146 #[.string s] w fun e w' => e = .returned (.string (str (wordOf s.data.toList))) ∧ w.grownBy w' none := by
  have hle := wordOf_le s.data.toList
  rw [length_data] at hle
  go_enter Tryz.func146, Tryz.ntmps146
  go_wp2_with fail
  refine (indexAny_any s w hs).mono ?_
  rintro e w1 ⟨rfl, hg⟩
  by_cases h : (wordOf s.data.toList).length = s.data.toList.length
  · have hx : anyIdx s.data.toList = -1 := by unfold anyIdx; rw [if_pos h]
    rw [hx]
    have hw : wordOf s.data.toList = s.data.toList := by rw [← wordOf_take, h, List.take_length]
    have HW := hid hw
    clear h hx hw hle
    go_wp2
    go_ret
    refine ⟨?_, hg⟩
    rw [HW.out, list_str]
    rfl
  · have hx : anyIdx s.data.toList = ((wordOf s.data.toList).length : Nat) := by unfold anyIdx; rw [if_neg h]
    rw [hx]
    have ht := wordOf_take s.data.toList
    have HT := hid ht
    clear ht hx h
    generalize (wordOf s.data.toList).length = k at *
    have hki : (k : Int) ≤ (s.size : Int) := by omega
    go_wp2
    go_ret
    refine ⟨?_, hg⟩
    have e : s.extract 0 k = str (s.data.toList.take k) := by
      apply WideShapes.bytes_inj
      rw [str_list]
      simp
    show Ending.returned (.string (s.extract 0 k)) = _
    rw [← HT.out, e]
end Go.Proofs.YtdmnhkgiojkphaaGreatDoor

namespace Go.Proofs.YtdmnhkgiojkphaaGreatDoor
open Go Go.RowKit
open Go.RowKit (wrap32 wrap64)

/-- What the package-level variables hold; they lie below block 8. -/
def tensName : String := "internal/strconv.uint64pow10"
def Glob (w : World) : Prop :=
  8 ≤ w.heap.size ∧ ∀ w', Below 8 w w' → Lib.Utf8Tabs 0 1 w' ∧ (∃ te pe, w'.cell? ⟨4, 0, none⟩ = some (.iface te pe)) ∧ (∃ te pe, w'.cell? ⟨5, 0, none⟩ = some (.iface te pe)) ∧ Lib.TabIs Tryz.prog w' tensName .u64 Lib.pow10Tab
theorem Glob.below {w w' : World} (h : Glob w) (hb : Below 8 w w') : Glob w' := ⟨Nat.le_trans h.1 hb.size, fun w2 h2 => h.2 w2 (hb.trans h2)⟩
theorem below_of_grown {w w' : World} {row : Option Nat} {B : Nat} (hg : w.grownBy w' row) (hB : B ≤ w.heap.size) (hr : ∀ k, row = some k → B ≤ k) : Below B w w' :=
  ⟨hg.os, hg.tape, hg.output, hg.size, fun k hk => hg.block k (by omega) (fun e => by have := hr k e.symm; omega)⟩
theorem Glob.grown {w w' : World} {row : Option Nat} (h : Glob w) (hg : w.grownBy w' row) (hr : ∀ k, row = some k → 8 ≤ k) : Glob w' := h.below (below_of_grown hg h.1 hr)
theorem Glob.here {w : World} (h : Glob w) : Lib.Utf8Tabs 0 1 w ∧ (∃ te pe, w.cell? ⟨4, 0, none⟩ = some (.iface te pe)) ∧ (∃ te pe, w.cell? ⟨5, 0, none⟩ = some (.iface te pe)) ∧ Lib.TabIs Tryz.prog w tensName .u64 Lib.pow10Tab := h.2 w (Below.refl _ _)

theorem prefix_one (l : List UInt8) (c : UInt8) : Lib.hasPrefix l [c] = (l.head? == some c) := by
  unfold Lib.hasPrefix
  cases l with
  | nil => rfl
  | cons a r =>
    show (c == a && [].isPrefixOf r) = (some a == some c)
    simp only [List.isPrefixOf, Bool.and_true]
    by_cases h : a = c
    · subst h; simp
    · rw [beq_eq_false_iff_ne.2 (fun e => h e.symm), show (some a == some c) = false by simp [h]]
theorem trim_one (l : List UInt8) (c : UInt8) : Lib.trimPrefix l [c] = if l.head? = some c then l.drop 1 else l := by
  unfold Lib.trimPrefix
  rw [prefix_one]
  by_cases h : l.head? = some c
  · rw [h]; simp
  · rw [if_neg h, if_neg (by simpa using h)]
theorem noMinus_eq (l : List UInt8) : Lib.trimPrefix l [45] = noMinus l := by
  rw [trim_one]
  cases l with
  | nil => rfl
  | cons a r =>
    by_cases h : a = 45
    · subst h; rfl
    · rw [if_neg (by simpa using h)]
      unfold noMinus
      split
      · rename_i e; injection e with e _; exact absurd e h
      · rfl
theorem trimMinus (s : ByteArray) (w : World) : Calls Tryz.prog 200 #[.string s, .string ⟨#[45]⟩] w fun e w' => e = .returned (.string (str (noMinus s.data.toList))) ∧ w' = w := by
  have := Tryz.strings_TrimPrefix s ⟨#[45]⟩ w
  rw [show (⟨#[45]⟩ : ByteArray).data.toList = [45] from rfl, noMinus_eq] at this
  exact this
/-- Behind a dot. -/
def noDot (l : List UInt8) : List UInt8 := if l.head? = some 46 then l.drop 1 else l
theorem cutDot (s : ByteArray) (w : World) : Calls Tryz.prog 202 #[.string s, .string ⟨#[46]⟩] w fun e w' => e = .returned (.tuple #[.string (str (noDot s.data.toList)), .bool (s.data.toList.head? == some 46)]) ∧ w' = w := by
  have := Tryz.strings_CutPrefix s ⟨#[46]⟩ w
  rw [show (⟨#[46]⟩ : ByteArray).data.toList = [46] from rfl, trim_one, prefix_one] at this
  exact this
theorem fracNum_eq (l : List UInt8) : fracNum l = if l.head? = some 46 then (if digs (noDot l) = 0 then false else restNum ((noDot l).drop (digs (noDot l)))) else restNum l := by
  unfold noDot
  cases l with
  | nil => rfl
  | cons a r =>
    by_cases h : a = 46
    · subst h; rfl
    · rw [if_neg (by simpa using h)]
      unfold fracNum
      split
      · rename_i e; injection e with e _; exact absurd e h
      · rfl
theorem restNum_eq (s : ByteArray) : restNum s.data.toList = (decide (s.size = 0) || isExp s.data.toList) := by
  unfold restNum
  rw [isEmpty_data]

theorem extk {s s1 : ByteArray} {k : Nat} (h : s.extract k s.size = s1) : s1.data.toList = s.data.toList.drop k ∧ s1.size = s.size - k := by
  subst h
  exact ⟨Lib.ext_list s k, Lib.ext_size s k⟩

set_option maxRecDepth 100000 in
set_option maxHeartbeats 1000000 in
theorem isNumber_any (s : ByteArray) (w : World) (hs : s.size ≤ 1099511627776) : Calls Tryz.prog 183 #[.string s] w fun e w' => e = .returned (.bool (isNum s.data.toList)) ∧ w.grownBy w' none := by
  obtain ⟨s1, e1⟩ : ∃ s1, str (noMinus s.data.toList) = s1 := ⟨_, rfl⟩
  have hnum : isNum s.data.toList = wholeNum s1.data.toList := by unfold isNum; rw [← e1, str_list]
  have hz1 : s1.size ≤ 1099511627776 := by
    rw [← e1, str_size]
    have : (noMinus s.data.toList).length ≤ s.data.toList.length := by
      rw [← noMinus_eq, trim_one]
      split
      · rw [List.length_drop]; omega
      · exact Nat.le_refl _
    rw [length_data] at this
    omega
  have hd1 := digs_le s1.data.toList
  rw [length_data] at hd1
  unfold wholeNum at hnum
  have HN := hid hnum
  have HE := hid e1
  clear hnum e1
  go_enter Tryz.func183, Tryz.ntmps183
  go_wp2_with fail
  refine (trimMinus s w).mono ?_
  rintro e w' ⟨rfl, h⟩
  rw [h, HE.out]
  clear h
  go_wp2_with fail
  refine (digitsAhead_any s1 w).mono ?_
  rintro e w1 ⟨rfl, hg1⟩
  obtain ⟨k, hk⟩ : ∃ k, digs s1.data.toList = k := ⟨_, rfl⟩
  rw [hk] at HN hd1 ⊢
  have HK := hid hk
  clear hk
  by_cases hk0 : k = 0
  · subst hk0
    rw [if_pos (.inl rfl)] at HN
    go_wp2_with fail
    go_ret
    exact ⟨ret_bool (by rw [HN.out]), hg1⟩
  · have hk0b : ((k : Int) == 0) = false := by simp; omega
    have hs10 : 0 < s1.size := by omega
    have hs10i : (0 : Int) < (s1.size : Int) := by omega
    have hbd := u8_bd s1[0]
    have hhead : s1.data.toList.head? = some s1[0] := by rw [← from_zero, from_lt s1 0 hs10]; rfl
    rw [hhead] at HN
    by_cases hz : 1 < k ∧ s1[0].toNat = 48
    · rw [if_pos (.inr ⟨hz.1, by congr 1; rw [← UInt8.toNat_inj]; exact hz.2⟩)] at HN
      have q1 : (1 : Int) < (k : Int) := by omega
      have q2 : ((s1[0].toNat : Int)) = 48 := by omega
      clear hhead hz
      go_wp2_with fail
      go_ret
      exact ⟨ret_bool (by rw [HN.out]), hg1⟩
    · rw [if_neg (by
        rintro (h | ⟨h, h'⟩)
        · exact hk0 h
        · injection h' with h'
          exact hz ⟨h, by rw [h']; rfl⟩)] at HN
      obtain ⟨s2, e2⟩ : ∃ s2, s1.extract k s1.size = s2 := ⟨_, rfl⟩
      obtain ⟨hl2, hz2⟩ := extk e2
      rw [← hl2, fracNum_eq] at HN
      have hzd : decide ((1 : Int) < (k : Int)) = false ∨ ((decide ((1 : Int) < (k : Int)) = true ∧ ((s1[0].toNat : Int) == 48) = false)) := by
        by_cases h : 1 < k
        · right
          refine ⟨by simp; omega, ?_⟩
          rw [beq_eq_false_iff_ne]
          intro h'
          exact hz ⟨h, by omega⟩
        · left; simp; omega
      obtain ⟨s3, e3⟩ : ∃ s3, str (noDot s2.data.toList) = s3 := ⟨_, rfl⟩
      have hl3 : noDot s2.data.toList = s3.data.toList := by rw [← e3, str_list]
      have hz3 : s3.size ≤ s2.size := by
        rw [← e3, str_size, ← length_data]
        unfold noDot
        split
        · rw [List.length_drop]; omega
        · exact Nat.le_refl _
      rw [hl3] at HN
      have hd3 := digs_le s3.data.toList
      rw [length_data] at hd3
      have HE3 := hid e3
      have HK1 := hid hk0
      have HZ := hid hz
      have HL2 := hid hl2
      have HL3 := hid hl3
      have hkle : (k : Int) ≤ (s1.size : Int) := by omega
      clear e3 hk0 hz hl2 hl3 hhead
      have hex : ∀ (t : ByteArray), t.size ≤ 1099511627776 → ∀ w, 0 < t.size → Calls Tryz.prog 203 #[.string t] w fun e w' => e = .returned (.bool (isExp t.data.toList)) ∧ w.grownBy w' none := fun t ht w h0 => isExponent_any t w ht h0
      have HEX := hid hex
      clear hex
      cases hdot : (s2.data.toList.head? == some 46) with
      | true =>
        have hdot' : s2.data.toList.head? = some 46 := by simpa using hdot
        rw [if_pos hdot'] at HN
        have HDT := hid hdot
        clear hdot hdot'
        obtain ⟨m, hm⟩ : ∃ m, digs s3.data.toList = m := ⟨_, rfl⟩
        rw [hm] at HN hd3
        have HM := hid hm
        clear hm
        obtain ⟨s4, e4⟩ : ∃ s4, s3.extract m s3.size = s4 := ⟨_, rfl⟩
        obtain ⟨hl4, hz4⟩ := extk e4
        rw [← hl4, restNum_eq] at HN
        have HL4 := hid hl4
        have hmle : (m : Int) ≤ (s3.size : Int) := by omega
        clear hl4
        by_cases hm0 : m = 0
        · rw [if_pos hm0] at HN
          subst hm0
          rcases hzd with hzd | ⟨hzd, hzd2⟩
          all_goals
            go_wp2_with (first
              | (go_at_call 202; refine (cutDot s2 _).mono ?_; rintro e w2 ⟨rfl, h2⟩; rw [h2, HE3.out, HDT.out])
              | (go_at_call 201; refine (digitsAhead_any s3 _).mono ?_; rintro e w2 ⟨rfl, hg2⟩; rw [HM.out]))
            go_ret
            exact ⟨ret_bool (by rw [HN.out]), gtrans hg1 ‹World.grownBy w1 _ none›⟩
        · rw [if_neg hm0] at HN
          have hm0b : ((m : Int) == 0) = false := by simp; omega
          by_cases h4 : s4.size = 0
          · have k1 : s4.toList.isEmpty = true := by rw [empty_iff]; simp [h4]
            have k2 : s4.toList = [] := (nil_iff s4).2 h4
            rw [decide_eq_true h4, Bool.true_or] at HN
            clear h4 hm0
            rcases hzd with hzd | ⟨hzd, hzd2⟩
            all_goals
              go_wp2_with (first
                | (go_at_call 202; refine (cutDot s2 _).mono ?_; rintro e w2 ⟨rfl, h2⟩; rw [h2, HE3.out, HDT.out])
                | (go_at_call 201; refine (digitsAhead_any s3 _).mono ?_; rintro e w2 ⟨rfl, hg2⟩; rw [HM.out]))
              go_ret
              exact ⟨ret_bool (by rw [HN.out]), gtrans hg1 ‹World.grownBy w1 _ none›⟩
          · have k1 : s4.toList.isEmpty = false := by rw [empty_iff]; simp [h4]
            have k2 : ¬ s4.toList = [] := fun h => h4 ((nil_iff s4).1 h)
            rw [decide_eq_false h4, Bool.false_or] at HN
            have h40 : 0 < s4.size := by omega
            have h41 : s4.size ≤ 1099511627776 := by omega
            clear h4 hm0
            rcases hzd with hzd | ⟨hzd, hzd2⟩
            all_goals
              go_wp2_with (first
                | (go_at_call 202; refine (cutDot s2 _).mono ?_; rintro e w2 ⟨rfl, h2⟩; rw [h2, HE3.out, HDT.out])
                | (go_at_call 201; refine (digitsAhead_any s3 _).mono ?_; rintro e w2 ⟨rfl, hg2⟩; rw [HM.out])
                | (go_at_call 203; refine (HEX.out s4 h41 _ h40).mono ?_; rintro e w3 ⟨rfl, hg3⟩))
              go_ret
              exact ⟨ret_bool (by rw [HN.out]), gtrans hg1 (gtrans ‹World.grownBy w1 _ none› ‹World.grownBy _ _ none›)⟩
      | false =>
        have hdot' : ¬ s2.data.toList.head? = some 46 := by simpa using hdot
        rw [if_neg hdot', restNum_eq] at HN
        have HDT := hid hdot
        clear hdot hdot'
        by_cases h4 : s2.size = 0
        · have k1 : s2.toList.isEmpty = true := by rw [empty_iff]; simp [h4]
          have k2 : s2.toList = [] := (nil_iff s2).2 h4
          rw [decide_eq_true h4, Bool.true_or] at HN
          clear h4
          rcases hzd with hzd | ⟨hzd, hzd2⟩
          all_goals
            go_wp2_with (go_at_call 202; refine (cutDot s2 _).mono ?_; rintro e w2 ⟨rfl, h2⟩; rw [h2, HE3.out, HDT.out])
            go_ret
            exact ⟨ret_bool (by rw [HN.out]), hg1⟩
        · have k1 : s2.toList.isEmpty = false := by rw [empty_iff]; simp [h4]
          have k2 : ¬ s2.toList = [] := fun h => h4 ((nil_iff s2).1 h)
          rw [decide_eq_false h4, Bool.false_or] at HN
          have h40 : 0 < s2.size := by omega
          have h41 : s2.size ≤ 1099511627776 := by omega
          clear h4
          rcases hzd with hzd | ⟨hzd, hzd2⟩
          all_goals
            go_wp2_with (first
              | (go_at_call 202; refine (cutDot s2 _).mono ?_; rintro e w2 ⟨rfl, h2⟩; rw [h2, HE3.out, HDT.out])
              | (go_at_call 203; refine (HEX.out s2 h41 _ h40).mono ?_; rintro e w3 ⟨rfl, hg3⟩))
            go_ret
            exact ⟨ret_bool (by rw [HN.out]), gtrans hg1 ‹World.grownBy w1 _ none›⟩
end Go.Proofs.YtdmnhkgiojkphaaGreatDoor
