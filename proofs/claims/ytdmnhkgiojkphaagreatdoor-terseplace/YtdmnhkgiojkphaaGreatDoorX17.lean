/- The walk of appendText. -/
import Derived.Test.YtdmnhkgiojkphaaGreatDoorX15
import Derived.Test.YtdmnhkgiojkphaaGreatDoorX16
import Derived.Test.YtdmnhkgiojkphaaGreatDoorX14
import Derived.Shelf.Strconv.AppendInt10
namespace Go.Proofs.YtdmnhkgiojkphaaGreatDoor
open Go Go.RowKit
open Go.RowKit (wrap32 wrap64)

set_option maxRecDepth 100000 in
theorem runeP_ascii : ∀ k : Fin 128, runeP (k.val : Int) = escB (UInt8.ofNat k.val) := by decide
theorem runeP_high (c : Int) (h : 128 ≤ c) : runeP c = Lib.encodeRune c := by
  unfold runeP
  rw [if_neg (by omega), if_neg (by omega), if_neg (by omega), if_neg (by omega), if_neg (by omega)]
theorem decode_big (l : List UInt8) (h : 128 ≤ (l.getD 0 0).toNat) : 128 ≤ (Lib.decodeL l).1 := by
  rw [Lib.decodeL_N]
  rcases Lib.decodeN_shape l.length (l.getD 0 0).toNat (l.getD 1 0).toNat (l.getD 2 0).toNat (l.getD 3 0).toNat with ⟨c, e⟩ | ⟨c1, c2, c3, cv, e⟩ | ⟨c1, c2, c3, c4, cv, cs, e⟩ | ⟨c1, c2, c3, c4, c5, cv, cw, e⟩ | e
  · omega
  · rw [e]; exact cv
  · rw [e]; show 128 ≤ _ ; omega
  · rw [e]; show 128 ≤ _; omega
  · rw [e]; decide
/-- A good text, a code point at a time. -/
theorem escL_rune (l : List UInt8) (hne : l ≠ []) (hv : Lib.validD l = true) :
    escL l = runeP ((Lib.decodeL l).1 : Int) ++ escL (l.drop (Lib.decodeL l).2) ∧ Lib.validD (l.drop (Lib.decodeL l).2) = true := by
  rw [Lib.validD_step _ hne] at hv
  by_cases hb : (Lib.decodeL l).1 = 65533 ∧ (Lib.decodeL l).2 = 1
  · rw [if_pos hb] at hv; cases hv
  · rw [if_neg hb] at hv
    refine ⟨?_, hv⟩
    cases l with
    | nil => exact absurd rfl hne
    | cons c q =>
      by_cases hc : c.toNat < 128
      · rw [Lib.decodeL_ascii c q hc]
        have := runeP_ascii ⟨c.toNat, hc⟩
        simp only [UInt8.ofNat_toNat] at this
        show escB c ++ escL q = runeP (c.toNat : Int) ++ escL q
        rw [this]
      · have hhi := decodeL_high (c :: q) hne hb (by simp; omega)
        have hbig := decode_big (c :: q) (by simp; omega)
        rw [runeP_high _ (by omega), Lib.encode_decode _ hne hb]
        conv => lhs; rw [← List.take_append_drop (Lib.decodeL (c :: q)).2 (c :: q), escL_append, escL_high _ hhi]
theorem escL_le (l : List UInt8) : (escL l).length ≤ 6 * l.length := by
  induction l with
  | nil => simp [escL]
  | cons c r ih =>
    have : escL (c :: r) = escB c ++ escL r := rfl
    rw [this, List.length_append, List.length_cons]
    have := escB_le c
    omega
theorem from_zeroR (s : ByteArray) : from_ s 0 = s.data.toList := by unfold from_; simp
theorem from_dropR (s : ByteArray) (k m : Nat) : (from_ s k).drop m = from_ s (k + m) := by unfold from_; rw [List.drop_drop]
theorem Kept.iter {B K : Nat} {a w : World} (h : Kept B a w) (hB : B ≤ K) (hK : a.heap.size ≤ K) (s : ByteArray) (pos : Nat) : Kept B a (w.iterAt K s pos) := by
  refine ⟨Lib.below_iterAt h.1 hB s pos, fun k o hk hb ho => ?_⟩
  have hlt := (Array.getElem?_eq_some_iff.1 hk).1
  rw [Lib.iterAt_other w K k s pos (by omega)]
  exact h.2 k o hk hb ho
theorem KeptV.iter {B K : Nat} {a w : World} {va v : Value} {acc0 : List UInt8} {s : ByteArray} {p : Nat} (h : KeptV B a va acc0 w v) (hB : B ≤ K) (hK : a.heap.size ≤ K) (hit : w.heap[K]? = some (.stringIter s p)) (pos : Nat) : KeptV B a va acc0 (w.iterAt K s pos) v :=
  ⟨h.1.iter hB hK s pos, fun L c hl hn => by
    have := h.2 L c hl hn
    refine ⟨?_, this.2⟩
    rw [Lib.iterAt_other w K L s pos (by rintro rfl; have h1 := this.1; rw [hit] at h1; cases h1)]
    exact this.1⟩
theorem Out.iter {B K : Nat} {w : World} {v : Value} {acc : List UInt8} {s : ByteArray} {p : Nat} (h : Out B w v acc) (hit : w.heap[K]? = some (.stringIter s p)) (pos : Nat) : Out B (w.iterAt K s pos) v acc := by
  refine ⟨h.1, ?_⟩
  rcases h.2 with hn | ⟨g, cap, cur, hv, hbg, hg, rest⟩
  · exact .inl hn
  · have hkg : g ≠ K := by
      intro e1
      rw [e1, hit] at hg
      cases hg
    exact .inr ⟨g, cap, cur, hv, hbg, (Lib.iterAt_other w K g s pos hkg).trans hg, rest⟩

set_option maxRecDepth 100000 in
set_option maxHeartbeats 1000000 in
theorem appendText_any (B : Nat) (w : World) (v : Value) (acc : List UInt8) (s : ByteArray) (hg : good s = true) (ho : Out B w v acc) (hlen : acc.length + 6 * s.size + 2 ≤ 35184372088832) (hB : B ≤ w.heap.size) :
    Calls Tryz.prog 72 #[v, .string s] w fun e w' => ∃ v', e = .returned v' ∧ Out B w' v' (acc ++ quo s.data.toList) ∧ KeptV B w v acc w' v' := by
  obtain ⟨i0, hi, hz0, hzz, hz2⟩ := info_parts Tryz.info5
  have HO := hid ho
  have ho' : w.ownsRow B 5 1 v acc.length (Lib.byteCells acc) := ho
  have HOW := hid ho'
  obtain ⟨N, HN⟩ : ∃ N, Hid (acc.length = N) := ⟨_, hid rfl⟩
  rw [HN.out] at HOW hlen
  have hm : N + 1 ≤ maxLen := by unfold maxLen; omega
  have HGood := hid hg
  clear ho ho' hg
  go_enter Tryz.func72, Tryz.ntmps72
  go_wp2_with (at_builtin; refine wpList_append_own _ rfl _ _ 84 rfl B 5 i0 (.int .u8 0) 1 1 Tryz.underlying84 hi hz0 hzz hz2 rfl (by decide) _ _ _ rfl (HOW.out.alloc _) ⟨w.heap.size, 0, none⟩ 1 1 [.int .u8 34] rfl rfl (by exact fun j u hu => newsN w _ _ j u hu) (by intro u hu; simp at hu; subst hu; rfl) hm (by omega) (by simp; omega) ?_; intro v1 w1 hown' hgrow _)
  have hO1 : Out B w1 v1 (acc ++ [34]) := Out.more hown' (by rw [HN.out]; rfl) rfl
  have hK1 : KeptV B w v acc w1 v1 := ((KeptV.refl B w v acc).none hB (galloc w _ none)).grown (HO.out.none (galloc w _ none)) (by simp; omega) hgrow hO1 (List.prefix_append _ _)
  have hz1 := hgrow.size
  simp at hz1
  have HO1 := hid hO1
  have HK1 := hid hK1
  clear hO1 hK1 hown' hgrow
  have HV0 : Hid (Lib.validD s.data.toList = true) := hid HGood.out
  go_wp2_with fail
  go_loopw [0] (fun ov wr => ∃ (pos : Nat) (acc' : List UInt8), pos ≤ s.size ∧ Hid (Out B wr ov acc') ∧ Hid (wr.heap[w1.heap.size]? = some (.stringIter s pos)) ∧ Hid (KeptV B w v acc wr ov) ∧ Hid (acc <+: acc') ∧ Hid (acc ++ [34] ++ escL s.data.toList = acc' ++ escL (from_ s pos)) ∧ Hid (Lib.validD (from_ s pos) = true)) (fun _ wr => s.size - wr.iterPos w1.heap.size)
  case atStart =>
    refine ⟨0, acc ++ [34], Nat.zero_le _, HO1.out.none (galloc _ _ none), ?_, HK1.out.none (by omega) (galloc _ _ none), List.prefix_append _ _, ?_, ?_⟩
    · refine hid ?_
      have := World.iter_heap w1 s 0
      simpa using this
    · rw [from_zeroR]; exact rfl
    · rw [from_zeroR]; exact HV0.out
  case round =>
    obtain ⟨pos, acc', hps, HO', HT, HK, HP, HE, HV⟩ := hrel
    have hsz : w1.heap.size < wr.heap.size := (Array.getElem?_eq_some_iff.1 HT.out).1
    have hlen' : acc'.length + (escL (from_ s pos)).length = N + 1 + (escL s.data.toList).length := by
      have := congrArg List.length HE.out
      simp only [List.length_append, List.length_cons, List.length_nil] at this
      have h2 := HN.out
      omega
    have hel := escL_le s.data.toList
    rw [Array.length_toList] at hel
    have hel2 : (escL s.data.toList).length ≤ 6 * s.size := hel
    by_cases hp : pos < s.size
    · have hnx : ∀ ty, (Instr.next (.pointer (some ⟨w1.heap.size, 0, none⟩)) true ty).run Tryz.prog wr = _ := fun ty => Lib.run_next_any_at wr w1.heap.size s pos ty HT.out hp
      have hit2 := Lib.iterAt_heap wr w1.heap.size s pos (pos + (Utf8.decode s pos).2) HT.out
      have hwd : 1 ≤ (Utf8.decode s pos).2 := Lib.width_pos s pos
      have hle := Lib.rune_le s pos
      have hne : from_ s pos ≠ [] := by rw [from_lt s pos hp]; simp
      have hdl : Lib.decodeL (from_ s pos) = Utf8.decode s pos := Lib.decodeL_drop s pos
      have hst := escL_rune _ hne HV.out
      have hwl : (Utf8.decode s pos).2 ≤ s.size - pos := by
        have := Lib.decodeL_le (from_ s pos) hne
        rw [hdl, from_length] at this
        exact this
      rw [hdl, from_dropR] at hst
      have HS := hid hst
      have hO2 := HO'.out.iter HT.out (pos + (Utf8.decode s pos).2)
      have hK2 := HK.out.iter (K := w1.heap.size) (by omega) (by omega) HT.out (pos + (Utf8.decode s pos).2)
      obtain ⟨W2, hW2⟩ : ∃ W2, wr.iterAt w1.heap.size s (pos + (Utf8.decode s pos).2) = W2 := ⟨_, rfl⟩
      have hzW : W2.heap.size = wr.heap.size := by rw [← hW2, Lib.iterAt_size]
      rw [hW2] at hnx hit2 hO2 hK2
      generalize (Utf8.decode s pos).2 = wd at *
      obtain ⟨x, hx⟩ : ∃ x, (Utf8.decode s pos).1 = x := ⟨_, rfl⟩
      rw [hx] at hnx hle HS
      have HT2 := hid hit2
      have HO2 := hid hO2
      have HK2 := hid hK2
      have hacc : acc'.length ≤ 35184372088832 := by omega
      clear hst hit2 hO2 hK2 hW2 hx hdl hne hlen' hel hel2
      go_wp2_with fail
      refine (appendRune_any B W2 _ acc' (x : Int) (by omega) (by omega) HO2.out hacc (by omega)).mono ?_
      rintro e w3 ⟨v3, rfl, hO3, hK3⟩
      have HO3 := hid hO3
      have hit3 := hK3.1.2 _ _ HT2.out (by simp) (fun _ _ e1 => by cases e1)
      have HT3 := hid hit3
      have HK3 := hid (HK2.out.trans hK3 HP.out)
      clear hO3 hK3 hit3
      go_wp2_with fail
      refine ⟨⟨pos + wd, acc' ++ runeP (x : Int), by omega, HO3, HT3, HK3, HP.out.trans (List.prefix_append _ _), ?_, hid HS.out.2⟩, ?_⟩
      · refine hid ?_
        rw [HE.out, HS.out.1, List.append_assoc]
      · simp only [World.iterPos, HT3.out, HT.out]
        omega
    · have hnx : ∀ ty, (Instr.next (.pointer (some ⟨w1.heap.size, 0, none⟩)) true ty).run Tryz.prog wr = _ := fun ty => Lib.run_next_end_at wr w1.heap.size s pos ty HT.out hp
      have HF : Hid (from_ s pos = []) := from_ge s pos (by omega)
      have hO' : wr.ownsRow B 5 1 u0 acc'.length (Lib.byteCells acc') := HO'.out
      have HOW' := hid hO'
      have hm' : acc'.length + 1 ≤ maxLen := by unfold maxLen; omega
      obtain ⟨M, HM⟩ : ∃ M, Hid (acc'.length = M) := ⟨_, hid rfl⟩
      rw [HM.out] at HOW' hlen' hm'
      have hM : M + 1 ≤ 35184372088832 := by omega
      have hBr : B ≤ wr.heap.size := by omega
      clear hO' hel hel2 hlen'
      go_wp2_with (at_builtin; refine wpList_append_own _ rfl _ _ 84 rfl B 5 i0 (.int .u8 0) 1 1 Tryz.underlying84 hi hz0 hzz hz2 rfl (by decide) _ _ _ rfl (HOW'.out.alloc _) ⟨wr.heap.size, 0, none⟩ 1 1 [.int .u8 34] rfl rfl (by exact fun j u hu => newsN wr _ _ j u hu) (by intro u hu; simp at hu; subst hu; rfl) hm' (by omega) (by simp; omega) ?_; intro v4 w4 hown4 hg4 _)
      go_wp2_with fail
      go_ret
      have hO4 : Out B w4 v4 (acc ++ quo s.data.toList) := by
        have := Out.more hown4 (by rw [HM.out]; rfl) (bs := [34]) rfl
        have e := HE.out
        rw [HF.out] at e
        simp only [escL, List.flatMap_nil, List.append_nil] at e
        rw [← e] at this
        unfold quo
        rw [show acc ++ 34 :: (escL s.data.toList ++ [34]) = acc ++ [34] ++ s.data.toList.flatMap escB ++ [34] by simp [escL]]
        exact this
      exact ⟨v4, rfl, hO4, (HK.out.none (by omega) (galloc wr _ none)).grown (HO'.out.none (galloc wr _ none)) (by simp; omega) hg4 hO4 (List.prefix_append _ _)⟩
end Go.Proofs.YtdmnhkgiojkphaaGreatDoor

namespace Go.Proofs.YtdmnhkgiojkphaaGreatDoor
open Go Go.RowKit
open Go.RowKit (wrap32 wrap64)

theorem gwide {w w' : World} (h : w.grownBy w' none) (row : Option Nat) : w.grownBy w' row := ⟨h.os, h.tape, h.output, h.size, fun k hk _ => h.block k hk (by simp)⟩
theorem small_at (u : Nat) (hu : u < 100) (w : World) : Calls Tryz.prog 188 #[.int .i64 u] w fun e w' => e = .returned (.string (str (Lib.decDigits u))) ∧ w' = w :=
  Any.internal_strconv_small { Tryz.laysM176 with } u hu w
theorem numDigits_at (u : Nat) (h1 : 1 ≤ u) (h2 : u < 18446744073709551616) (w : World) (ht : Lib.TabIs Tryz.prog w "internal/strconv.uint64pow10" .u64 Lib.pow10Tab) : Calls Tryz.prog 189 #[.int .u64 u] w fun e w' => e = .returned (.int .i64 (Lib.nDigits u)) ∧ w' = w :=
  Any.internal_strconv_numDigits { Tryz.laysM176 with } u h1 h2 w ht
theorem digits_le20 (u : Nat) (h : u < 18446744073709551616) : Lib.nDigits u ≤ 20 := by
  by_cases h1 : 1 ≤ u
  · have := Lib.numDigits_eq u h1 h
    split at this <;> omega
  · rw [Lib.nDigits_small (by omega)]; omega

set_option maxRecDepth 100000 in
set_option maxHeartbeats 2000000 in
theorem appendUint_any (B : Nat) (w : World) (v : Value) (acc : List UInt8) (u : Nat) (hu : u < 18446744073709551616) (ho : Out B w v acc) (hlen : acc.length + 21 ≤ 35184372088832) (hB : B ≤ w.heap.size) (ht : Lib.TabIs Tryz.prog w "internal/strconv.uint64pow10" .u64 Lib.pow10Tab) :
    Calls Tryz.prog 177 #[v, .int .u64 u, .int .i64 10] w fun e w' => ∃ v', e = .returned v' ∧ Out B w' v' (acc ++ Lib.decDigits u) ∧ w.grownBy w' v.ownBlock := by
  obtain ⟨i0, hi, hz0, hzz, hz2⟩ := info_parts Tryz.info5
  have HO := hid ho
  have ho' : w.ownsRow B 5 1 v acc.length (Lib.byteCells acc) := ho
  have HOW := hid ho'
  obtain ⟨N, HN⟩ : ∃ N, Hid (acc.length = N) := ⟨_, hid rfl⟩
  rw [HN.out] at HOW hlen
  have hd := digits_le20 u hu
  have hdl := Lib.decDigits_length u
  have hss : (str (Lib.decDigits u)).size = Lib.nDigits u := by rw [str_size, hdl]
  clear ho ho'
  by_cases h100 : u < 100
  · have HC := hid (small_at u h100)
    have hlt : decide ((u : Int) < 100) = true := decide_eq_true (by omega)
    have hmm : N + (str (Lib.decDigits u)).size ≤ maxLen := by rw [hss]; unfold maxLen; omega
    have hmb : N + (str (Lib.decDigits u)).size ≤ 140737488355328 := by rw [hss]; omega
    have hw1 : IntKind.i64.wrap (u : Int) = (u : Int) := by rw [IntKind.wrap_i64]; omega
    have HSS := hid hss
    clear hd hdl hss
    go_enter Tryz.func177, Tryz.ntmps177
    go_wp2_with fail
    refine (HC.out w).mono ?_
    rintro e w1 ⟨rfl, rfl⟩
    go_wp2_with (at_builtin; refine Lib.wpList_append_own_string _ rfl _ _ 84 9 rfl B 5 i0 Tryz.underlying84 Tryz.underlying9 hi hz0 hzz hz2 _ _ _ rfl HOW.out (str (Lib.decDigits u)) rfl hmm hmb hB ?_; intro v' w2 hown' hgrow _)
    go_ret
    refine ⟨v', rfl, Out.more hown' (by rw [HN.out, str_size]) ?_, hgrow⟩
    unfold Lib.strCells Lib.byteCells
    rw [str_list]
  · have hlt : decide ((u : Int) < 100) = false := decide_eq_false (by omega)
    have h1 : 1 ≤ u := by omega
    have HT : Hid (∀ (W : World), _ → _) := hid (numDigits_at u h1 hu)
    have hal : Tryz.prog.arrayLen 261 = 24 := by simp [Program.arrayLen, Tryz.underlying261]
    have hsl : ∀ W, (Instr.sliceAt 261 (.pointer (some ⟨w.heap.size, 0, none⟩)) none (some (.int .i64 (Lib.nDigits u : Int))) none).run Tryz.prog W = .ok (.slice (some ⟨w.heap.size, 0, none⟩) (Lib.nDigits u) 24) W := fun W => by
      rw [run_sliceAt_array_h W 261 ⟨w.heap.size, 0, none⟩ (by simp [Program.arrayLen, Program.elem, Tryz.underlying261]) .i64 (Lib.nDigits u : Int) (by omega) (by rw [hal]; omega)]
      go_simp
    have hH0 := Lib.holds_zero0 w 261 (Lib.nDigits u) (by omega)
    have HH0 := hid hH0
    obtain ⟨W0, HW0⟩ : ∃ W0, Hid (w.alloc (.cells Lib.zeros24 261) = W0) := ⟨_, hid rfl⟩
    have hW0 : w.alloc (.cells #[.int .u8 0, .int .u8 0, .int .u8 0, .int .u8 0, .int .u8 0, .int .u8 0, .int .u8 0, .int .u8 0, .int .u8 0, .int .u8 0, .int .u8 0, .int .u8 0, .int .u8 0, .int .u8 0, .int .u8 0, .int .u8 0, .int .u8 0, .int .u8 0, .int .u8 0, .int .u8 0, .int .u8 0, .int .u8 0, .int .u8 0, .int .u8 0] 261) = W0 := HW0.out
    have HTab : Hid (Lib.TabIs Tryz.prog W0 "internal/strconv.uint64pow10" .u64 Lib.pow10Tab) := by rw [← HW0.out]; exact Lib.tabIs_alloc ht _
    have HFm : Hid (Calls Tryz.prog 190 #[.slice (some ⟨w.heap.size, 0, none⟩) (Lib.nDigits u) 24, .int .u64 u] W0 fun e w' => e = .returned (.tuple #[]) ∧ w.grownBy w' none ∧ ∀ (j : Nat) (x : Value), (Lib.byteCells (Lib.decDigits u))[j]? = some x → w'.cell? ((⟨w.heap.size, 0, none⟩ : Addr).add j) = some x) := by
      refine hid ?_
      have hf := Any.internal_strconv_formatBase10 { Tryz.laysM176 with } w.heap.size 0 24 u (Array.replicate (Lib.nDigits u) 0) (w.alloc (.cells Lib.zeros24 261)) HH0.out (by rw [Array.size_replicate]; exact Lib.lt_pow_nDigits u) hu (by rw [Array.size_replicate]; omega)
      rw [Array.size_replicate, HW0.out] at hf
      refine hf.mono ?_
      rintro e w' ⟨rfl, k, v', dk, rfl, hF⟩
      obtain ⟨os, eo⟩ := Lib.fin_at w (.cells Lib.zeros24 261) dk k 0
      rw [← HW0.out]
      refine ⟨rfl, ?_, fun j x hj => ?_⟩
      · rw [eo]; exact gof (Lib.below_grow w.heap.size w (Nat.le_refl _) k os) none
      · have hjl : j < (Lib.decDigits u).length := by
          have := (List.getElem?_eq_some_iff.1 hj).1
          rwa [Lib.byteCells_length] at this
        have ej : (Lib.byteCells (Lib.decDigits u))[j]? = some (.int .u8 ((Lib.decDigits u)[j].toNat : Int)) := by simp [Lib.byteCells, hjl]
        rw [ej] at hj
        injection hj with hj
        rw [← hj, Lib.row_is_numeral hF j hjl, Lib.add_plain, World.cell?_drewN]
        exact Go.Sort.cell?_putRow (fun (b : UInt8) => Value.int .u8 (b.toNat : Int)) _ w.heap.size 0 _ dk HH0.out (by rw [hF.size, Array.size_replicate]) j (by rw [hF.size]; omega)
    have hmm : N + Lib.nDigits u ≤ maxLen := by unfold maxLen; omega
    have hmb : (N + Lib.nDigits u) * 1 ≤ 140737488355328 := by omega
    have hbl : (Lib.byteCells (Lib.decDigits u)).length = Lib.nDigits u * 1 := by rw [Lib.byteCells_length, hdl, Nat.mul_one]
    have HBL := hid hbl
    have HDL := hid hdl
    have HMM := hid hmm
    have HMB := hid hmb
    clear hH0 hd hdl hss hal hmm hmb hbl ht
    go_enter Tryz.func177, Tryz.ntmps177
    go_wp2_with fail
    refine (HT.out W0 HTab.out).mono ?_
    rintro e w1 ⟨rfl, rfl⟩
    go_wp2_with fail
    refine HFm.out.mono ?_
    rintro e w2 ⟨rfl, hg2, hcells⟩
    have HG2 := hid hg2
    have HCe := hid hcells
    have hz2' := hg2.size
    have HO2 : Hid (Out B w2 v acc) := HO.out.none hg2
    have hO2 : w2.ownsRow B 5 1 v acc.length (Lib.byteCells acc) := HO2.out
    rw [HN.out] at hO2
    have HOW2 := hid hO2
    clear hg2 hcells hO2
    go_wp2_with (at_builtin; refine wpList_append_own _ rfl _ _ 84 rfl B 5 i0 (.int .u8 0) 1 1 Tryz.underlying84 hi hz0 hzz hz2 rfl (by decide) _ _ _ rfl HOW2.out ⟨w.heap.size, 0, none⟩ (Lib.nDigits u) 24 (Lib.byteCells (Lib.decDigits u)) rfl HBL.out HCe.out (by intro x hx; simp only [Lib.byteCells, List.mem_map] at hx; obtain ⟨b, _, rfl⟩ := hx; rfl) HMM.out HMB.out (by omega) ?_; intro v' w3 hown' hgrow _)
    go_ret
    refine ⟨v', rfl, Out.more hown' (by rw [HN.out, HDL.out]) rfl, ?_⟩
    exact gtrans (gwide HG2.out v.ownBlock) hgrow

theorem Lib.TabBelow.grown {B : Nat} {w w' : World} {row : Option Nat} (h : Lib.TabBelow Tryz.prog B w "internal/strconv.uint64pow10" .u64 Lib.pow10Tab) (hg : w.grownBy w' row) (hB : B ≤ w.heap.size) (hr : ∀ k, row = some k → B ≤ k) : Lib.TabIs Tryz.prog w' "internal/strconv.uint64pow10" .u64 Lib.pow10Tab := h w' (below_of_grown hg hB hr)
theorem Glob.tab {w : World} (h : Glob w) {B : Nat} (hB : 8 ≤ B) : Lib.TabBelow Tryz.prog B w "internal/strconv.uint64pow10" .u64 Lib.pow10Tab :=
  fun w' hb => (h.2 w' ⟨hb.os, hb.tape, hb.output, hb.size, fun k hk => hb.block k (by omega)⟩).2.2.2

set_option maxRecDepth 100000 in
set_option maxHeartbeats 2000000 in
theorem appendInt_in (B : Nat) (w : World) (v : Value) (acc : List UInt8) (i : Int) (hf : fitsN i) (ho : Out B w v acc) (hlen : acc.length + 30 ≤ 35184372088832) (hB : B ≤ w.heap.size) (hG : Glob w) (h8 : 8 ≤ B) :
    Calls Tryz.prog 132 #[v, .int .i64 i, .int .i64 10] w fun e w' => ∃ v', e = .returned v' ∧ Out B w' v' (acc ++ Lib.itoa i) ∧ KeptV B w v acc w' v' := by
  obtain ⟨i0, hi, hz0, hzz, hz2⟩ := info_parts Tryz.info5
  have HO := hid ho
  have ho' : w.ownsRow B 5 1 v acc.length (Lib.byteCells acc) := ho
  have HOW := hid ho'
  have HLen := hid hlen
  obtain ⟨N, HN⟩ : ∃ N, Hid (acc.length = N) := ⟨_, hid rfl⟩
  rw [HN.out] at HOW hlen
  have hf1 := hf.1
  have hf2 := hf.2
  have HTB := hid (hG.tab h8)
  clear ho ho' hf
  by_cases hneg : i < 0
  · obtain ⟨u, rfl⟩ : ∃ u : Nat, i = -(u : Int) := ⟨i.natAbs, by omega⟩
    have hu1 : 1 ≤ u := by omega
    have hu : u < 18446744073709551616 := by omega
    have hwr : IntKind.u64.wrap (-IntKind.u64.wrap (-(u : Int))) = (u : Int) := by rw [IntKind.wrap_u64, IntKind.wrap_u64]; omega
    have hm : N + 1 ≤ maxLen := by unfold maxLen; omega
    have HI : Hid (Lib.itoa (-(u : Int)) = 45 :: Lib.decDigits u) := hid (Lib.itoa_neg u hu1)
    clear hu1
    go_enter Tryz.func132, Tryz.ntmps132
    go_wp2_with (at_builtin; refine wpList_append_own _ rfl _ _ 84 rfl B 5 i0 (.int .u8 0) 1 1 Tryz.underlying84 hi hz0 hzz hz2 rfl (by decide) _ _ _ rfl (HOW.out.alloc _) ⟨w.heap.size, 0, none⟩ 1 1 [.int .u8 45] rfl rfl (by exact fun j u hu => newsN w _ _ j u hu) (by intro u hu; simp at hu; subst hu; rfl) hm (by omega) (by simp; omega) ?_; intro v1 w1 hown1 hg1 _)
    have hO1 : Out B w1 v1 (acc ++ [45]) := Out.more hown1 (by rw [HN.out]; rfl) rfl
    have hK1 : KeptV B w v acc w1 v1 := ((KeptV.refl B w v acc).none hB (galloc w _ none)).grown (HO.out.none (galloc w _ none)) (by simp; omega) hg1 hO1 (List.prefix_append _ _)
    have ht1 := HTB.out w1 hK1.1.1
    have hz1 := hK1.1.1.size
    refine (appendUint_any B w1 v1 (acc ++ [45]) u hu hO1 (by simp only [List.length_append, List.length_cons, List.length_nil]; have := HLen.out; omega) (by omega) ht1).mono ?_
    rintro e w2 ⟨v2, rfl, hO2, hg2⟩
    have HO1 := hid hO1
    have HK1 := hid hK1
    have HO2 := hid hO2
    have HG2 := hid hg2
    clear hO1 hK1 hO2 hg2 hown1 hg1 ht1
    go_wp2_with fail
    go_ret
    have hO : Out B w2 v2 (acc ++ Lib.itoa (-(u : Int))) := by
      rw [HI.out]
      have := HO2.out
      rw [List.append_assoc] at this
      exact this
    exact ⟨v2, rfl, hO, HK1.out.grown HO1.out (by omega) HG2.out hO (List.prefix_append _ _)⟩
  · obtain ⟨u, rfl⟩ : ∃ u : Nat, i = (u : Int) := ⟨i.toNat, by omega⟩
    have hu : u < 18446744073709551616 := by omega
    have hwr : IntKind.u64.wrap (u : Int) = (u : Int) := by rw [IntKind.wrap_u64]; omega
    have HI : Hid (Lib.itoa (u : Int) = Lib.decDigits u) := hid (Lib.itoa_nonneg u)
    have hnn : decide ((u : Int) < 0) = false := decide_eq_false (by omega)
    go_enter Tryz.func132, Tryz.ntmps132
    go_wp2_with fail
    refine (appendUint_any B w v acc u hu HO.out (by have := HLen.out; omega) hB (HTB.out w (Below.refl _ _))).mono ?_
    rintro e w2 ⟨v2, rfl, hO2, hg2⟩
    have HO2 := hid hO2
    have HG2 := hid hg2
    clear hO2 hg2
    go_wp2_with fail
    go_ret
    have hO : Out B w2 v2 (acc ++ Lib.itoa (u : Int)) := by rw [HI.out]; exact HO2.out
    exact ⟨v2, rfl, hO, (KeptV.refl B w v acc).grown HO.out hB HG2.out hO (List.prefix_append _ _)⟩
theorem appendInt_any (B : Nat) (w : World) (v : Value) (acc : List UInt8) (i : Int) (hf : fitsN i) (ho : Out B w v acc) (hlen : acc.length + 30 ≤ 35184372088832) (hB : B ≤ w.heap.size) (hG : Glob w) (h8 : 8 ≤ B) :
    Calls Tryz.prog 71 #[v, .int .i64 i, .int .i64 10] w fun e w' => ∃ v', e = .returned v' ∧ Out B w' v' (acc ++ Lib.itoa i) ∧ KeptV B w v acc w' v' := by
  have HC := hid (appendInt_in B w v acc i hf ho hlen hB hG h8)
  clear ho hf hG hlen
  go_enter Tryz.func71, Tryz.ntmps71
  go_wp2_with fail
  refine HC.out.mono ?_
  rintro e w' ⟨v', rfl, h⟩
  have H := hid h
  clear h
  go_wp2_with fail
  go_ret
  exact ⟨v', rfl, H.out⟩
end Go.Proofs.YtdmnhkgiojkphaaGreatDoor
