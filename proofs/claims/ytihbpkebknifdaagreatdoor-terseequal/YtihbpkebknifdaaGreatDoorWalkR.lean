/- The walk of appendText. -/
import Derived.Test.YtihbpkebknifdaaGreatDoorWalkQ
import Derived.Test.YtihbpkebknifdaaGreatDoorTreeP
namespace Go.Proofs.YtihbpkebknifdaaGreatDoor
open Go Go.RowKit
open Go.RowKit (wrap32 wrap64)

set_option maxRecDepth 100000 in
theorem runeP_ascii : ∀ k : Fin 128, runeP (k.val : Int) = escB (UInt8.ofNat k.val) := by decide
theorem runeP_high (c : Int) (h : 128 ≤ c) : runeP c = Lib.encodeRune c := by
  unfold runeP
  rw [if_neg (by omega), if_neg (by omega), if_neg (by omega), if_neg (by omega), if_neg (by omega)]
theorem decode_big (l : List UInt8) (h : 128 ≤ (l.getD 0 0).toNat) : 128 ≤ (Lib.decodeL l).1 := by
  rw [Lib.decodeL_N]
  rcases Lib.decodeN_shape l.length (l.getD 0 0).toNat (l.getD 1 0).toNat (l.getD 2 0).toNat (l.getD 3 0).toNat with ⟨c, e⟩ | ⟨c1, c2, c3, cv, e⟩ | ⟨c1, c2, c3, c4, cv, cs, e⟩ | ⟨c1, c2, c3, c4, c5, cv, cw, e⟩ | e
  · omega
  · rw [e]; exact cv
  · rw [e]; show 128 ≤ _ ; omega
  · rw [e]; show 128 ≤ _; omega
  · rw [e]; decide
/-- A good text, a code point at a time. -/
theorem escL_rune (l : List UInt8) (hne : l ≠ []) (hv : Lib.validD l = true) :
    escL l = runeP ((Lib.decodeL l).1 : Int) ++ escL (l.drop (Lib.decodeL l).2) ∧ Lib.validD (l.drop (Lib.decodeL l).2) = true := by
  rw [Lib.validD_step _ hne] at hv
  by_cases hb : (Lib.decodeL l).1 = 65533 ∧ (Lib.decodeL l).2 = 1
  · rw [if_pos hb] at hv; cases hv
  · rw [if_neg hb] at hv
    refine ⟨?_, hv⟩
    cases l with
    | nil => exact absurd rfl hne
    | cons c q =>
      by_cases hc : c.toNat < 128
      · rw [Lib.decodeL_ascii c q hc]
        have := runeP_ascii ⟨c.toNat, hc⟩
        simp only [UInt8.ofNat_toNat] at this
        show escB c ++ escL q = runeP (c.toNat : Int) ++ escL q
        rw [this]
      · have hhi := decodeL_high (c :: q) hne hb (by simp; omega)
        have hbig := decode_big (c :: q) (by simp; omega)
        rw [runeP_high _ (by omega), Lib.encode_decode _ hne hb]
        conv => lhs; rw [← List.take_append_drop (Lib.decodeL (c :: q)).2 (c :: q), escL_append, escL_high _ hhi]
theorem escL_le (l : List UInt8) : (escL l).length ≤ 6 * l.length := by
  induction l with
  | nil => simp [escL]
  | cons c r ih =>
    have : escL (c :: r) = escB c ++ escL r := rfl
    rw [this, List.length_append, List.length_cons]
    have := escB_le c
    omega
theorem from_zeroR (s : ByteArray) : from_ s 0 = s.data.toList := by unfold from_; simp
theorem from_dropR (s : ByteArray) (k m : Nat) : (from_ s k).drop m = from_ s (k + m) := by unfold from_; rw [List.drop_drop]
theorem Kept.iter {B K : Nat} {a w : World} (h : Kept B a w) (hB : B ≤ K) (hK : a.heap.size ≤ K) (s : ByteArray) (pos : Nat) : Kept B a (w.iterAt K s pos) := by
  refine ⟨Lib.below_iterAt h.1 hB s pos, fun k o hk hb ho => ?_⟩
  have hlt := (Array.getElem?_eq_some_iff.1 hk).1
  rw [Lib.iterAt_other w K k s pos (by omega)]
  exact h.2 k o hk hb ho
theorem KeptV.iter {B K : Nat} {a w : World} {va v : Value} {acc0 : List UInt8} {s : ByteArray} {p : Nat} (h : KeptV B a va acc0 w v) (hB : B ≤ K) (hK : a.heap.size ≤ K) (hit : w.heap[K]? = some (.stringIter s p)) (pos : Nat) : KeptV B a va acc0 (w.iterAt K s pos) v :=
  ⟨h.1.iter hB hK s pos, fun L c hl hn => by
    have := h.2 L c hl hn
    refine ⟨?_, this.2⟩
    rw [Lib.iterAt_other w K L s pos (by rintro rfl; have h1 := this.1; rw [hit] at h1; cases h1)]
    exact this.1⟩
theorem Out.iter {B K : Nat} {w : World} {v : Value} {acc : List UInt8} {s : ByteArray} {p : Nat} (h : Out B w v acc) (hit : w.heap[K]? = some (.stringIter s p)) (pos : Nat) : Out B (w.iterAt K s pos) v acc := by
  refine ⟨h.1, ?_⟩
  rcases h.2 with hn | ⟨g, cap, cur, hv, hbg, hg, rest⟩
  · exact .inl hn
  · have hkg : g ≠ K := by
      intro e1
      rw [e1, hit] at hg
      cases hg
    exact .inr ⟨g, cap, cur, hv, hbg, (Lib.iterAt_other w K g s pos hkg).trans hg, rest⟩

set_option maxRecDepth 100000 in
set_option maxHeartbeats 1000000 in
theorem appendText_any (B : Nat) (w : World) (v : Value) (acc : List UInt8) (s : ByteArray) (hg : good s = true) (ho : Out B w v acc) (hlen : acc.length + 6 * s.size + 2 ≤ 35184372088832) (hB : B ≤ w.heap.size) :
    Calls Tryz.prog 39 #[v, .string s] w fun e w' => ∃ v', e = .returned v' ∧ Out B w' v' (acc ++ quo s.data.toList) ∧ KeptV B w v acc w' v' := by
  obtain ⟨i0, hi, hz0, hzz, hz2⟩ := info_parts Tryz.info5
  have HO := hid ho
  have ho' : w.ownsRow B 5 1 v acc.length (Lib.byteCells acc) := ho
  have HOW := hid ho'
  obtain ⟨N, HN⟩ : ∃ N, Hid (acc.length = N) := ⟨_, hid rfl⟩
  rw [HN.out] at HOW hlen
  have hm : N + 1 ≤ maxLen := by unfold maxLen; omega
  have HGood := hid hg
  clear ho ho' hg
  go_enter Tryz.func39, Tryz.ntmps39
  go_wp2_with (at_builtin; refine wpList_append_own _ rfl _ _ 50 rfl B 5 i0 (.int .u8 0) 1 1 Tryz.underlying50 hi hz0 hzz hz2 rfl (by decide) _ _ _ rfl (HOW.out.alloc _) ⟨w.heap.size, 0, none⟩ 1 1 [.int .u8 34] rfl rfl (by exact fun j u hu => newsN w _ _ j u hu) (by intro u hu; simp at hu; subst hu; rfl) hm (by omega) (by simp; omega) ?_; intro v1 w1 hown' hgrow _)
  have hO1 : Out B w1 v1 (acc ++ [34]) := Out.more hown' (by rw [HN.out]; rfl) rfl
  have hK1 : KeptV B w v acc w1 v1 := ((KeptV.refl B w v acc).none hB (galloc w _ none)).grown (HO.out.none (galloc w _ none)) (by simp; omega) hgrow hO1 (List.prefix_append _ _)
  have hz1 := hgrow.size
  simp at hz1
  have HO1 := hid hO1
  have HK1 := hid hK1
  clear hO1 hK1 hown' hgrow
  have HV0 : Hid (Lib.validD s.data.toList = true) := hid HGood.out
  go_wp2_with fail
  go_loopw [0] (fun ov wr => ∃ (pos : Nat) (acc' : List UInt8), pos ≤ s.size ∧ Hid (Out B wr ov acc') ∧ Hid (wr.heap[w1.heap.size]? = some (.stringIter s pos)) ∧ Hid (KeptV B w v acc wr ov) ∧ Hid (acc <+: acc') ∧ Hid (acc ++ [34] ++ escL s.data.toList = acc' ++ escL (from_ s pos)) ∧ Hid (Lib.validD (from_ s pos) = true)) (fun _ wr => s.size - wr.iterPos w1.heap.size)
  case atStart =>
    refine ⟨0, acc ++ [34], Nat.zero_le _, HO1.out.none (galloc _ _ none), ?_, HK1.out.none (by omega) (galloc _ _ none), List.prefix_append _ _, ?_, ?_⟩
    · refine hid ?_
      have := World.iter_heap w1 s 0
      simpa using this
    · rw [from_zeroR]; exact rfl
    · rw [from_zeroR]; exact HV0.out
  case round =>
    obtain ⟨pos, acc', hps, HO', HT, HK, HP, HE, HV⟩ := hrel
    have hsz : w1.heap.size < wr.heap.size := (Array.getElem?_eq_some_iff.1 HT.out).1
    have hlen' : acc'.length + (escL (from_ s pos)).length = N + 1 + (escL s.data.toList).length := by
      have := congrArg List.length HE.out
      simp only [List.length_append, List.length_cons, List.length_nil] at this
      have h2 := HN.out
      omega
    have hel := escL_le s.data.toList
    rw [Array.length_toList] at hel
    have hel2 : (escL s.data.toList).length ≤ 6 * s.size := hel
    by_cases hp : pos < s.size
    · have hnx : ∀ ty, (Instr.next (.pointer (some ⟨w1.heap.size, 0, none⟩)) true ty).run Tryz.prog wr = _ := fun ty => Lib.run_next_any_at wr w1.heap.size s pos ty HT.out hp
      have hit2 := Lib.iterAt_heap wr w1.heap.size s pos (pos + (Utf8.decode s pos).2) HT.out
      have hwd : 1 ≤ (Utf8.decode s pos).2 := Lib.width_pos s pos
      have hle := Lib.rune_le s pos
      have hne : from_ s pos ≠ [] := by rw [from_lt s pos hp]; simp
      have hdl : Lib.decodeL (from_ s pos) = Utf8.decode s pos := Lib.decodeL_drop s pos
      have hst := escL_rune _ hne HV.out
      have hwl : (Utf8.decode s pos).2 ≤ s.size - pos := by
        have := Lib.decodeL_le (from_ s pos) hne
        rw [hdl, from_length] at this
        exact this
      rw [hdl, from_dropR] at hst
      have HS := hid hst
      have hO2 := HO'.out.iter HT.out (pos + (Utf8.decode s pos).2)
      have hK2 := HK.out.iter (K := w1.heap.size) (by omega) (by omega) HT.out (pos + (Utf8.decode s pos).2)
      obtain ⟨W2, hW2⟩ : ∃ W2, wr.iterAt w1.heap.size s (pos + (Utf8.decode s pos).2) = W2 := ⟨_, rfl⟩
      have hzW : W2.heap.size = wr.heap.size := by rw [← hW2, Lib.iterAt_size]
      rw [hW2] at hnx hit2 hO2 hK2
      generalize (Utf8.decode s pos).2 = wd at *
      obtain ⟨x, hx⟩ : ∃ x, (Utf8.decode s pos).1 = x := ⟨_, rfl⟩
      rw [hx] at hnx hle HS
      have HT2 := hid hit2
      have HO2 := hid hO2
      have HK2 := hid hK2
      have hacc : acc'.length ≤ 35184372088832 := by omega
      clear hst hit2 hO2 hK2 hW2 hx hdl hne hlen' hel hel2
      go_wp2_with fail
      refine (appendRune_any B W2 _ acc' (x : Int) (by omega) (by omega) HO2.out hacc (by omega)).mono ?_
      rintro e w3 ⟨v3, rfl, hO3, hK3⟩
      have HO3 := hid hO3
      have hit3 := hK3.1.2 _ _ HT2.out (by simp) (fun _ _ e1 => by cases e1)
      have HT3 := hid hit3
      have HK3 := hid (HK2.out.trans hK3 HP.out)
      clear hO3 hK3 hit3
      go_wp2_with fail
      refine ⟨⟨pos + wd, acc' ++ runeP (x : Int), by omega, HO3, HT3, HK3, HP.out.trans (List.prefix_append _ _), ?_, hid HS.out.2⟩, ?_⟩
      · refine hid ?_
        rw [HE.out, HS.out.1, List.append_assoc]
      · simp only [World.iterPos, HT3.out, HT.out]
        omega
    · have hnx : ∀ ty, (Instr.next (.pointer (some ⟨w1.heap.size, 0, none⟩)) true ty).run Tryz.prog wr = _ := fun ty => Lib.run_next_end_at wr w1.heap.size s pos ty HT.out hp
      have HF : Hid (from_ s pos = []) := from_ge s pos (by omega)
      have hO' : wr.ownsRow B 5 1 u0 acc'.length (Lib.byteCells acc') := HO'.out
      have HOW' := hid hO'
      have hm' : acc'.length + 1 ≤ maxLen := by unfold maxLen; omega
      obtain ⟨M, HM⟩ : ∃ M, Hid (acc'.length = M) := ⟨_, hid rfl⟩
      rw [HM.out] at HOW' hlen' hm'
      have hM : M + 1 ≤ 35184372088832 := by omega
      have hBr : B ≤ wr.heap.size := by omega
      clear hO' hel hel2 hlen'
      go_wp2_with (at_builtin; refine wpList_append_own _ rfl _ _ 50 rfl B 5 i0 (.int .u8 0) 1 1 Tryz.underlying50 hi hz0 hzz hz2 rfl (by decide) _ _ _ rfl (HOW'.out.alloc _) ⟨wr.heap.size, 0, none⟩ 1 1 [.int .u8 34] rfl rfl (by exact fun j u hu => newsN wr _ _ j u hu) (by intro u hu; simp at hu; subst hu; rfl) hm' (by omega) (by simp; omega) ?_; intro v4 w4 hown4 hg4 _)
      go_wp2_with fail
      go_ret
      have hO4 : Out B w4 v4 (acc ++ quo s.data.toList) := by
        have := Out.more hown4 (by rw [HM.out]; rfl) (bs := [34]) rfl
        have e := HE.out
        rw [HF.out] at e
        simp only [escL, List.flatMap_nil, List.append_nil] at e
        rw [← e] at this
        unfold quo
        rw [show acc ++ 34 :: (escL s.data.toList ++ [34]) = acc ++ [34] ++ s.data.toList.flatMap escB ++ [34] by simp [escL]]
        exact this
      exact ⟨v4, rfl, hO4, (HK.out.none (by omega) (galloc wr _ none)).grown (HO'.out.none (galloc wr _ none)) (by simp; omega) hg4 hO4 (List.prefix_append _ _)⟩
end Go.Proofs.YtihbpkebknifdaaGreatDoor
