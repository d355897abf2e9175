/- sum; Names. -/
import Derived.Test.YtlgjmdianmijeaaDu
namespace Go.Proofs.Ytlgjmdianmijeaa
open Go Go.RowKit Go.MapKept Go.MuLone
open Go.RowKit (wrap32 wrap64)

theorem used_take {L : Cn} {i : Nat} (h : i < L.length) : usedC (L.take (i + 1)) = usedC (L.take i) + (L[i]).2.length := by
  unfold usedC
  rw [List.take_succ_eq_append_getElem h, List.map_append, List.sum_append]
  simp
theorem used_take_le (L : Cn) (i : Nat) : usedC (L.take i) ≤ usedC L := by
  have h : usedC L = usedC (L.take i) + usedC (L.drop i) := by
    unfold usedC
    rw [← List.sum_append, ← List.map_append, List.take_append_drop]
  omega
set_option maxRecDepth 100000 in
set_option maxHeartbeats 4000000 in
theorem sum_any (w : World) (F : Nat → Prop) (a : Option Addr) (g off c : Nat) (L : Cn) (hA : ArF w F a g off L) (hL : L.length ≤ 1000000) (hU : usedC L ≤ 1099511627776) :
    Calls Try.prog 22 #[.slice a L.length c] w fun e w' => e = .returned (.int .i64 (usedC L : Nat)) ∧ w' = w := by
  have HA := hid hA
  obtain ⟨n, HN⟩ : ∃ n, Hid (L.length = n) := ⟨_, hid rfl⟩
  obtain ⟨R, HR⟩ : ∃ x, Hid (usedC L = x) := ⟨_, hid rfl⟩
  rw [HN.out] at hL ⊢
  rw [HR.out] at hU ⊢
  clear hA
  go_enter Try.func22, Try.ntmps22
  go_upto_region 3 with fail
  go_loopw [4, 3] (fun iv zv wr => ∃ i z : Nat, iv = .int .i64 i ∧ zv = .int .i64 z ∧ i ≤ n ∧ Hid (usedC (L.take i) = z) ∧ Hid (wr = w)) (fun iv _ _ => n - (intOf iv).toNat)
  case atStart => exact ⟨0, 0, rfl, rfl, by omega, hid rfl, hid rfl⟩
  case round =>
    obtain ⟨i, z, rfl, rfl, hi, HZ, HW⟩ := hrel
    have hw := HW.out
    subst hw
    have hzl : z ≤ 1099511627776 := by rw [← HZ.out]; have := used_take_le L i; rw [HR.out] at this; omega
    by_cases hlt : i < n
    · have hlt' : (i : Int) < (n : Int) := by omega
      have hiL : i < L.length := by rw [HN.out]; exact hlt
      obtain ⟨rfl, -⟩ := HA.out.at_ (by omega)
      have HE := hid (HA.out.each i hiL)
      obtain ⟨v, hv1, hv2⟩ := HE.out.2
      obtain ⟨q, Hq⟩ : ∃ x, Hid ((L[i]).2 = x) := ⟨_, hid rfl⟩
      rw [Hq.out] at hv2
      obtain ⟨xa, -, -, xc, rfl, -⟩ := hv2
      obtain ⟨xn, hxn⟩ : ∃ x, q.length = x := ⟨_, rfl⟩
      rw [hxn] at hv1
      have HNx : Hid (usedC (L.take (i + 1)) = z + xn) := hid (by rw [used_take hiL, HZ.out, Hq.out, hxn])
      have hxl : z + xn ≤ 1099511627776 := by rw [← HNx.out]; have := used_take_le L (i + 1); rw [HR.out] at this; omega
      clear hxn
      go_wp2_with fail
      go_roundw
      case rel => exact ⟨i + 1, z + xn, by go_num, by go_num, by omega, HNx, hid trivial⟩
      case measure => simp [intOf]; omega
    · have hlt' : ¬ (i : Int) < (n : Int) := by omega
      have hzR : z = R := by rw [← HZ.out, ← HR.out, List.take_of_length_le (by rw [HN.out]; omega)]
      go_wp2_with fail
      go_ret
      exact ⟨rfl, rfl⟩
/-- A text laid where it stands already. -/
theorem str_set {w : World} {B n : Nat} {a : Option Addr} {c : Nat} {xs : List (List UInt8)} (h : w.ownsRow B 9 1 (.slice a n c) n (xs.map encStr)) {i g : Nat} (hi : i < xs.length) (ha : a = some ⟨g, 0, none⟩) : w.frozen? ⟨g, i, none⟩ = false ∧ (w.setCell ⟨g, i, none⟩ (.string ⟨(xs[i]).toArray⟩)).ownsRow B 9 1 (.slice a n c) n (xs.map encStr) ∧ w.grownBy (w.setCell ⟨g, i, none⟩ (.string ⟨(xs[i]).toArray⟩)) (some g) ∧ B ≤ g := by
  have h0 := h.1
  rw [List.length_map, Nat.mul_one] at h0
  rcases h.2 with ⟨h1, h2⟩ | ⟨g', cap, cur, h1, hB, hg, hle, hm, hs, ht⟩
  · omega
  · injection h1 with h1 h1b h1c
    rw [ha] at h1
    injection h1 with h1
    injection h1 with h1 _ _
    subst h1
    have hb : Blk w g cur.toList 9 := by unfold Blk; rw [hg]
    have hx : (cur.toList.take (n * 1))[i]? = some (encStr xs[i]) := by rw [ht, List.getElem?_map, List.getElem?_eq_getElem hi]; rfl
    rw [List.getElem?_take, if_pos (by omega)] at hx
    have hsame : cur.toList.set i (.string ⟨(xs[i]).toArray⟩) = cur.toList := by
      obtain ⟨q1, q2⟩ := List.getElem?_eq_some_iff.1 hx
      rw [show Value.string ⟨(xs[i]).toArray⟩ = cur.toList[i] from q2.symm]
      exact List.set_getElem_self q1
    have hb2 := hb.set i (.string ⟨(xs[i]).toArray⟩)
    rw [hsame] at hb2
    refine ⟨hb.frozen i, ⟨h.1, .inr ⟨g, cap, cur, by rw [ha, h1c], hB, ?_, hle, hm, hs, ht⟩⟩, gset _ _ _, hB⟩
    unfold Blk at hb2
    rw [hb2]
variable {w w' : World} {B b m : Nat} {lk room : Int} {off : Bool} {wt ar kp : Int} {F : List Fl}
set_option maxRecDepth 100000 in
set_option maxHeartbeats 4000000 in
theorem names_off (h : Dk w B b m 0 room true wt ar kp F) : Calls Try.prog 40 #[.pointer (some ⟨b, 0, none⟩)] w fun e w' => e = .returned (.tuple #[.slice none 0 0, .int .i64 94]) ∧ w.grownBy w' none := by
  have HD := hid h
  have HL := hid (lock_any h)
  clear h
  go_enter_defers Try.func40, Try.ntmps40
  go_wp2_with (go_at_call 31; refine HL.out.mono ?_; rintro e w1 ⟨rfl, hd, hg⟩; have HD1 := hid hd; have HG1 := hid hg; have y4 := hd.c.2.2.2.1; clear hd hg)
  refine leaves_cons (f := 32) (args := #[.pointer (some ⟨b, 0, none⟩)]) (by simp) (by simp [go_sem]) ?_
  refine (unlock_any .returning HD1.out).mono ?_
  rintro e u' w2 ⟨rfl, rfl, hd2, hg2⟩
  exact ⟨_, results_tmp2 rfl _ _ _, rfl, back_same HD.out.blk (gtrans HG1.out hg2) hd2.blk⟩
set_option maxRecDepth 100000 in
set_option maxHeartbeats 8000000 in
theorem names_dk (h : Dk w B b m 0 room false wt ar kp F) (hl : F.length ≤ 64) (hn : ∀ f ∈ F, f.nm.size ≤ 64) :
    Calls Try.prog 40 #[.pointer (some ⟨b, 0, none⟩)] w fun e w' => ∃ v, e = .returned (.tuple #[v, .int .i64 0]) ∧ w'.ownsRow w.heap.size 9 1 v F.length ((srtL (nmL F)).map encStr) ∧ w.grownBy w' none := by
  have HFl : Hid (∀ k, Fp b m F k → k < w.heap.size) := hid (fun k hk => (h.lt hk).2)
  have HB0 := hid h.blk
  have HT9 : Hid (∀ {u v : World}, w.grownBy u (some b) → DF u v (fun k => w.heap.size ≤ k) → w.grownBy v (some b)) := hid (fun h1 h2 => ⟨h2.os.trans h1.os, h2.tape.trans h1.tape, h2.output.trans h1.output, Nat.le_trans h1.size h2.size, fun k hk hr => (h2.block k (Nat.lt_of_lt_of_le hk h1.size) (by omega)).trans (h1.block k hk hr)⟩)
  have HL := hid (lock_any h)
  have HSo : Hid (∀ u, Dk u B b m 1 room false wt ar kp F → Calls Try.prog 33 #[.pointer (some ⟨b, 0, none⟩)] u fun e w' => ∃ v, e = .returned v ∧ w'.ownsRow u.heap.size 9 1 v F.length ((srtL (nmL F)).map encStr) ∧ u.grownBy w' none) := hid (fun u hu => sorted_any hu hl hn)
  have HLl := hid hl
  have HNm := hid hn
  clear h hl hn
  obtain ⟨n, HN⟩ : ∃ n, Hid (F.length = n) := ⟨_, hid rfl⟩
  rw [HN.out] at HSo ⊢
  go_enter_defers Try.func40, Try.ntmps40
  go_upto_region 7 with (first
    | (go_at_call 31; refine HL.out.mono ?_; rintro e w1 ⟨rfl, hd, hg⟩; have HD1 := hid hd; have HG1 := hid hg; have y4 := hd.c.2.2.2.1; clear hd hg)
    | (go_at_call 33; refine (HSo.out _ HD1.out).mono ?_; rintro e w3 ⟨v, rfl, ho, hg⟩; obtain ⟨sa, sc, rfl⟩ := row_len ho; have HO3 := hid ho; have HG3 := hid hg; clear ho hg))
  have HNs : Hid ((srtL (nmL F)).length = n) := hid (by unfold srtL; rw [List.length_mergeSort, nmL, List.length_map, HN.out])
  have HD3 := hid (HD1.out.keep HG3.out)
  have HT3 := hid (gtrans HG1.out (gsome HG3.out (some b)))
  have HS3 := hid (owns_base HO3.out HG1.out.size)
  clear HO3 HG3 HD1 HSo HL y4
  go_loopw [22] (fun iv wr => ∃ (i : Nat), iv = .int .i64 i ∧ i ≤ n ∧ Hid (Dk wr B b m 1 room false wt ar kp F) ∧ Hid (wr.ownsRow w.heap.size 9 1 (.slice sa n sc) n ((srtL (nmL F)).map encStr)) ∧ Hid (w.grownBy wr (some b))) (fun iv _ => n - (intOf iv).toNat)
  case atStart => exact ⟨0, rfl, by omega, HD3, HS3, HT3⟩
  case round =>
    obtain ⟨i, rfl, hi, HD, HS, HG⟩ := hrel
    obtain ⟨w0, hw0⟩ : ∃ x : World, x = wr := ⟨_, rfl⟩
    rw [← hw0] at HD HS HG ⊢
    clear hw0 HD3 HT3 HS3
    by_cases hlt : i < n
    · as_aux_lemma =>
      have hlt' : (i : Int) < (n : Int) := by omega
      have hn64 : n ≤ 64 := by rw [← HN.out]; exact HLl.out
      have hiN : i < (srtL (nmL F)).length := by rw [HNs.out]; exact hlt
      obtain ⟨sg, rfl, hsg, hcl⟩ := str_at HS.out hiN
      have HSt : Hid (∀ u, w0.grownBy u none → u.frozen? ⟨sg, i, none⟩ = false ∧ (u.setCell ⟨sg, i, none⟩ (.string ⟨((srtL (nmL F))[i]).toArray⟩)).ownsRow w.heap.size 9 1 (.slice (some ⟨sg, 0, none⟩) n sc) n ((srtL (nmL F)).map encStr) ∧ u.grownBy (u.setCell ⟨sg, i, none⟩ (.string ⟨((srtL (nmL F))[i]).toArray⟩)) (some sg) ∧ w.heap.size ≤ sg) := hid (fun u hu => str_set (row_kept HS.out hu) hiN rfl)
      obtain ⟨s, HsE⟩ : ∃ s, Hid ((⟨((srtL (nmL F))[i]).toArray⟩ : ByteArray) = s) := ⟨_, hid rfl⟩
      rw [HsE.out] at hcl HSt
      have HSz : Hid (s.size ≤ 64) := hid (by
        have h1 : (srtL (nmL F))[i] ∈ nmL F := (List.mergeSort_perm (nmL F) leB).mem_iff.1 (List.getElem_mem hiN)
        obtain ⟨f, hf, he⟩ := List.mem_map.1 h1
        rw [← HsE.out]
        show ((srtL (nmL F))[i]).toArray.size ≤ 64
        rw [← he]
        exact HNm.out f hf)
      have HCl : Hid (∀ u, Calls Try.prog 34 #[.string s] u fun e w' => e = .returned (.string s) ∧ u.grownBy w' none) := hid (fun u => clone_any s u (by have := HSz.out; omega))
      go_wp2_with (go_at_call 34; refine (HCl.out _).mono ?_; rintro e w5 ⟨rfl, hg⟩; have HG5 := hid hg; obtain ⟨hz, hrow, hgs, hlow⟩ := HSt.out w5 hg; have hcx := (cell_at hg (by have := hcl; exact World.block_lt_of_cell? w0 _ this) (by simp)).trans hcl; obtain ⟨w6, hw6⟩ : ∃ x, w5.setCell ⟨sg, i, none⟩ (.string s) = x := ⟨_, rfl⟩; have HR6 : Hid (w6.ownsRow w.heap.size 9 1 (.slice (some ⟨sg, 0, none⟩) n sc) n ((srtL (nmL F)).map encStr)) := hid (by rw [← hw6]; exact hrow); have HG6 : Hid (w5.grownBy w6 (some sg)) := hid (by rw [← hw6]; exact hgs); clear hg hrow hgs)
      have HF6 := hid (DF.one HG6.out (P := fun k => w.heap.size ≤ k) hlow)
      have HD6 := hid ((HD.out.keep HG5.out).df HF6.out (fun k hk hw => by have := HFl.out k hk; omega))
      go_roundw
      case rel => exact ⟨i + 1, by go_num, by omega, HD6, HR6, hid (HT9.out (gtrans HG.out (gsome HG5.out (some b))) HF6.out)⟩
      case measure => simp [intOf]; omega
    · as_aux_lemma =>
      have hge : ¬ (i : Int) < (n : Int) := by omega
      go_wp2_with fail
      refine leaves_cons (f := 32) (args := #[.pointer (some ⟨b, 0, none⟩)]) (by simp) (by simp [go_sem]) ?_
      refine (unlock_any .returning HD.out).mono ?_
      rintro e u' w7 ⟨rfl, rfl, hd7, hg7⟩
      refine ⟨_, results_tmp2 rfl _ _ _, _, rfl, row_on HS.out hg7 (fun k hk e => ?_), back_same HB0.out (gtrans HG.out hg7) hd7.blk⟩
      injection hk with hk
      have h1 := own_low HS.out k e
      have h2 := HFl.out b (.inl rfl)
      omega
end Go.Proofs.Ytlgjmdianmijeaa
