/- sum; Names. -/
import Derived.Test.YtlgjmdianmijeaaGreatX13
import Derived.Test.YtlgjmdianmijeaaGreatRm
namespace Go.Proofs.YtlgjmdianmijeaaGreat
open Go Go.RowKit Go.MapKept Go.MuLone
open Go.RowKit (wrap32 wrap64)

/-- A text laid where it stands already. -/
theorem str_set {w : World} {B n : Nat} {a : Option Addr} {c : Nat} {xs : List (List UInt8)} (h : w.ownsRow B 9 1 (.slice a n c) n (xs.map encStr)) {i g : Nat} (hi : i < xs.length) (ha : a = some ⟨g, 0, none⟩) : w.frozen? ⟨g, i, none⟩ = false ∧ (w.setCell ⟨g, i, none⟩ (.string ⟨(xs[i]).toArray⟩)).ownsRow B 9 1 (.slice a n c) n (xs.map encStr) ∧ w.grownBy (w.setCell ⟨g, i, none⟩ (.string ⟨(xs[i]).toArray⟩)) (some g) ∧ B ≤ g := by
  have h0 := h.1
  rw [List.length_map, Nat.mul_one] at h0
  rcases h.2 with ⟨h1, h2⟩ | ⟨g', cap, cur, h1, hB, hg, hle, hm, hs, ht⟩
  · omega
  · injection h1 with h1 h1b h1c
    rw [ha] at h1
    injection h1 with h1
    injection h1 with h1 _ _
    subst h1
    have hb : Blk w g cur.toList 9 := by unfold Blk; rw [hg]
    have hx : (cur.toList.take (n * 1))[i]? = some (encStr xs[i]) := by rw [ht, List.getElem?_map, List.getElem?_eq_getElem hi]; rfl
    rw [List.getElem?_take, if_pos (by omega)] at hx
    have hsame : cur.toList.set i (.string ⟨(xs[i]).toArray⟩) = cur.toList := by
      obtain ⟨q1, q2⟩ := List.getElem?_eq_some_iff.1 hx
      rw [show Value.string ⟨(xs[i]).toArray⟩ = cur.toList[i] from q2.symm]
      exact List.set_getElem_self q1
    have hb2 := hb.set i (.string ⟨(xs[i]).toArray⟩)
    rw [hsame] at hb2
    refine ⟨hb.frozen i, ⟨h.1, .inr ⟨g, cap, cur, by rw [ha, h1c], hB, ?_, hle, hm, hs, ht⟩⟩, gset _ _ _, hB⟩
    unfold Blk at hb2
    rw [hb2]
variable {w w' : World} {B b m : Nat} {lk room : Int} {off : Bool} {wt ar kp : Int} {F : List Fl}
set_option maxRecDepth 100000 in
set_option maxHeartbeats 4000000 in
theorem names_off (h : Dk w B b m 0 room true wt ar kp F) : Calls Tryz.prog 71 #[.pointer (some ⟨b, 0, none⟩)] w fun e w' => e = .returned (.tuple #[.slice none 0 0, .int .i64 94]) ∧ w.grownBy w' none := by
  have HD := hid h
  have HL := hid (lock_any h)
  clear h
  go_enter_defers Tryz.func71, Tryz.ntmps71
  go_wp2_with (go_at_call 43; refine HL.out.mono ?_; rintro e w1 ⟨rfl, hd, hg⟩; have HD1 := hid hd; have HG1 := hid hg; have y4 := hd.c.2.2.2.1; clear hd hg)
  refine leaves_cons (f := 44) (args := #[.pointer (some ⟨b, 0, none⟩)]) (by simp) (by simp [go_sem]) ?_
  refine (unlock_any .returning HD1.out).mono ?_
  rintro e u' w2 ⟨rfl, rfl, hd2, hg2⟩
  exact ⟨_, results_tmp2 rfl _ _ _, rfl, back_same HD.out.blk (gtrans HG1.out hg2) hd2.blk⟩
set_option maxRecDepth 100000 in
set_option maxHeartbeats 8000000 in
theorem names_dk (h : Dk w B b m 0 room false wt ar kp F) (hl : F.length ≤ 64) (hn : ∀ f ∈ F, f.nm.size ≤ 64) :
    Calls Tryz.prog 71 #[.pointer (some ⟨b, 0, none⟩)] w fun e w' => ∃ v, e = .returned (.tuple #[v, .int .i64 0]) ∧ w'.ownsRow w.heap.size 9 1 v F.length ((srtL (nmL F)).map encStr) ∧ w.grownBy w' none := by
  have HFl : Hid (∀ k, Fp b m F k → k < w.heap.size) := hid (fun k hk => (h.lt hk).2)
  have HB0 := hid h.blk
  have HT9 : Hid (∀ {u v : World}, w.grownBy u (some b) → DF u v (fun k => w.heap.size ≤ k) → w.grownBy v (some b)) := hid (fun h1 h2 => ⟨h2.os.trans h1.os, h2.tape.trans h1.tape, h2.output.trans h1.output, Nat.le_trans h1.size h2.size, fun k hk hr => (h2.block k (Nat.lt_of_lt_of_le hk h1.size) (by omega)).trans (h1.block k hk hr)⟩)
  have HL := hid (lock_any h)
  have HSo : Hid (∀ u, Dk u B b m 1 room false wt ar kp F → Calls Tryz.prog 111 #[.pointer (some ⟨b, 0, none⟩)] u fun e w' => ∃ v, e = .returned v ∧ w'.ownsRow u.heap.size 9 1 v F.length ((srtL (nmL F)).map encStr) ∧ u.grownBy w' none) := hid (fun u hu => sorted_any hu hl hn)
  have HLl := hid hl
  have HNm := hid hn
  clear h hl hn
  obtain ⟨n, HN⟩ : ∃ n, Hid (F.length = n) := ⟨_, hid rfl⟩
  rw [HN.out] at HSo ⊢
  go_enter_defers Tryz.func71, Tryz.ntmps71
  go_upto_region 7 with (first
    | (go_at_call 43; refine HL.out.mono ?_; rintro e w1 ⟨rfl, hd, hg⟩; have HD1 := hid hd; have HG1 := hid hg; have y4 := hd.c.2.2.2.1; clear hd hg)
    | (go_at_call 111; refine (HSo.out _ HD1.out).mono ?_; rintro e w3 ⟨v, rfl, ho, hg⟩; obtain ⟨sa, sc, rfl⟩ := row_len ho; have HO3 := hid ho; have HG3 := hid hg; clear ho hg))
  have HNs : Hid ((srtL (nmL F)).length = n) := hid (by unfold srtL; rw [List.length_mergeSort, nmL, List.length_map, HN.out])
  have HD3 := hid (HD1.out.keep HG3.out)
  have HT3 := hid (gtrans HG1.out (gsome HG3.out (some b)))
  have HS3 := hid (owns_base HO3.out HG1.out.size)
  clear HO3 HG3 HD1 HSo HL y4
  go_loopw [22] (fun iv wr => ∃ (i : Nat), iv = .int .i64 i ∧ i ≤ n ∧ Hid (Dk wr B b m 1 room false wt ar kp F) ∧ Hid (wr.ownsRow w.heap.size 9 1 (.slice sa n sc) n ((srtL (nmL F)).map encStr)) ∧ Hid (w.grownBy wr (some b))) (fun iv _ => n - (intOf iv).toNat)
  case atStart => exact ⟨0, rfl, by omega, HD3, HS3, HT3⟩
  case round =>
    obtain ⟨i, rfl, hi, HD, HS, HG⟩ := hrel
    obtain ⟨w0, hw0⟩ : ∃ x : World, x = wr := ⟨_, rfl⟩
    rw [← hw0] at HD HS HG ⊢
    clear hw0 HD3 HT3 HS3
    by_cases hlt : i < n
    · as_aux_lemma =>
      have hlt' : (i : Int) < (n : Int) := by omega
      have hn64 : n ≤ 64 := by rw [← HN.out]; exact HLl.out
      have hiN : i < (srtL (nmL F)).length := by rw [HNs.out]; exact hlt
      obtain ⟨sg, rfl, hsg, hcl⟩ := str_at HS.out hiN
      have HSt : Hid (∀ u, w0.grownBy u none → u.frozen? ⟨sg, i, none⟩ = false ∧ (u.setCell ⟨sg, i, none⟩ (.string ⟨((srtL (nmL F))[i]).toArray⟩)).ownsRow w.heap.size 9 1 (.slice (some ⟨sg, 0, none⟩) n sc) n ((srtL (nmL F)).map encStr) ∧ u.grownBy (u.setCell ⟨sg, i, none⟩ (.string ⟨((srtL (nmL F))[i]).toArray⟩)) (some sg) ∧ w.heap.size ≤ sg) := hid (fun u hu => str_set (row_kept HS.out hu) hiN rfl)
      obtain ⟨s, HsE⟩ : ∃ s, Hid ((⟨((srtL (nmL F))[i]).toArray⟩ : ByteArray) = s) := ⟨_, hid rfl⟩
      rw [HsE.out] at hcl HSt
      have HSz : Hid (s.size ≤ 64) := hid (by
        have h1 : (srtL (nmL F))[i] ∈ nmL F := (List.mergeSort_perm (nmL F) leB).mem_iff.1 (List.getElem_mem hiN)
        obtain ⟨f, hf, he⟩ := List.mem_map.1 h1
        rw [← HsE.out]
        show ((srtL (nmL F))[i]).toArray.size ≤ 64
        rw [← he]
        exact HNm.out f hf)
      have HCl : Hid (∀ u, Calls Tryz.prog 112 #[.string s] u fun e w' => e = .returned (.string s) ∧ u.grownBy w' none) := hid (fun u => clone_any s u (by have := HSz.out; omega))
      go_wp2_with (go_at_call 112; refine (HCl.out _).mono ?_; rintro e w5 ⟨rfl, hg⟩; have HG5 := hid hg; obtain ⟨hz, hrow, hgs, hlow⟩ := HSt.out w5 hg; have hcx := (cell_at hg (by have := hcl; exact World.block_lt_of_cell? w0 _ this) (by simp)).trans hcl; obtain ⟨w6, hw6⟩ : ∃ x, w5.setCell ⟨sg, i, none⟩ (.string s) = x := ⟨_, rfl⟩; have HR6 : Hid (w6.ownsRow w.heap.size 9 1 (.slice (some ⟨sg, 0, none⟩) n sc) n ((srtL (nmL F)).map encStr)) := hid (by rw [← hw6]; exact hrow); have HG6 : Hid (w5.grownBy w6 (some sg)) := hid (by rw [← hw6]; exact hgs); clear hg hrow hgs)
      have HF6 := hid (DF.one HG6.out (P := fun k => w.heap.size ≤ k) hlow)
      have HD6 := hid ((HD.out.keep HG5.out).df HF6.out (fun k hk hw => by have := HFl.out k hk; omega))
      go_roundw
      case rel => exact ⟨i + 1, by go_num, by omega, HD6, HR6, hid (HT9.out (gtrans HG.out (gsome HG5.out (some b))) HF6.out)⟩
      case measure => simp [intOf]; omega
    · as_aux_lemma =>
      have hge : ¬ (i : Int) < (n : Int) := by omega
      go_wp2_with fail
      refine leaves_cons (f := 44) (args := #[.pointer (some ⟨b, 0, none⟩)]) (by simp) (by simp [go_sem]) ?_
      refine (unlock_any .returning HD.out).mono ?_
      rintro e u' w7 ⟨rfl, rfl, hd7, hg7⟩
      refine ⟨_, results_tmp2 rfl _ _ _, _, rfl, row_on HS.out hg7 (fun k hk e => ?_), back_same HB0.out (gtrans HG.out hg7) hd7.blk⟩
      injection hk with hk
      have h1 := own_low HS.out k e
      have h2 := HFl.out b (.inl rfl)
      omega
end Go.Proofs.YtlgjmdianmijeaaGreat

namespace Go.Proofs.YtlgjmdianmijeaaGreat
open Go Go.RowKit Go.MapKept Go.MuLone
open Go.RowKit (wrap32 wrap64)

variable {w u u' w' w2 : World} {B b c : Nat} {A A' : Ab} {P P' Q Q' R : Nat → Prop} {sv sv' : Value} {E E' : List Fl}
set_option maxRecDepth 100000 in
theorem rload_no (w : World) (a : Option Addr) (n c : Nat) (room : Int) (h : room < 1 ∨ 268435456 < room) : Calls Tryz.prog 51 #[.slice a n c, .int .i64 room] w fun e w' => e = .returned (.tuple #[.pointer none, .int .i64 90]) ∧ w' = w := by
  by_cases h1 : room < 1
  · clear h
    go_enter Tryz.func51, Tryz.ntmps51
    go_wp2_with fail
    refine bodyPost_ret (results_tmp2 rfl _ _ _) rfl ?_
    exact ⟨rfl, rfl⟩
  · have h2 : 268435456 < room := by omega
    clear h
    go_enter Tryz.func51, Tryz.ntmps51
    go_wp2_with fail
    refine bodyPost_ret (results_tmp2 rfl _ _ _) rfl ?_
    exact ⟨rfl, rfl⟩
set_option maxRecDepth 100000 in
theorem rnew_ok (w : World) (room : Int) (h1 : 1 ≤ room) (h2 : room ≤ 268435456) : Calls Tryz.prog 19 #[.int .i64 room] w fun e w' => ∃ b, e = .returned (.tuple #[.pointer (some ⟨b, 0, none⟩), .int .i64 0]) ∧ (∃ sv E, Rk w' w.heap.size b ⟨room, false, 0, 0, 0, []⟩ sv E) ∧ w.grownBy w' none := by
  have HL : Hid (Calls Tryz.prog 51 #[.slice none 0 0, .int .i64 room] w fun e w' => ∃ b, e = .returned (.tuple #[.pointer (some ⟨b, 0, none⟩), .int .i64 0]) ∧ (∃ sv E, Rk w' w.heap.size b ⟨room, false, 0, 0, 0, []⟩ sv E) ∧ w.grownBy w' none) := hid ((rload_any w (fun _ => False) none 0 0 0 [] room ⟨fun h => absurd h (by decide), fun i hi => absurd hi (by simp)⟩ (fun p hp => by cases hp) (fun p hp => by cases hp) (by decide) h1 h2).mono fun e w' ⟨q1, q2⟩ => by
    rcases q2 with ⟨q2, _⟩ | ⟨b, q2, _, q3⟩
    · cases q2
    · have e0 : srtC [] = ([] : Cn) := srt_self List.Pairwise.nil
      rw [e0] at q3
      exact ⟨b, q2, q3, q1⟩)
  clear h1 h2
  go_enter Tryz.func19, Tryz.ntmps19
  go_wp2_with (go_at_call 51; (with_reducible refine HL.out.mono ?_); rintro e w5 ⟨b, rfl, hr, hg⟩; have HR5 := hid hr; have HG5 := hid hg; clear hr hg)
  refine bodyPost_ret (results_tmp2 rfl _ _ _) rfl ?_
  exact ⟨b, rfl, HR5.out, HG5.out⟩
set_option maxRecDepth 100000 in
theorem rnew_no (w : World) (room : Int) (h : room < 1 ∨ 268435456 < room) : Calls Tryz.prog 19 #[.int .i64 room] w fun e w' => e = .returned (.tuple #[.pointer none, .int .i64 90]) ∧ w' = w := by
  have HL := hid (rload_no w none 0 0 room h)
  clear h
  go_enter Tryz.func19, Tryz.ntmps19
  go_wp2_with (go_at_call 51; (with_reducible refine HL.out.mono ?_); rintro e w5 ⟨rfl, hw5⟩; have hw5' := hw5.symm; clear hw5; subst hw5')
  refine bodyPost_ret (results_tmp2 rfl _ _ _) rfl ?_
  exact ⟨rfl, rfl⟩
theorem row_df {Bz e q n : Nat} {v : Value} {xs : List Value} (h : w.ownsRow Bz e q v n xs) (hd : DF w u P) (hp : ∀ k, v.ownBlock = some k → ¬ P k) : u.ownsRow Bz e q v n xs := by
  refine ⟨h.1, ?_⟩
  rcases h.2 with h1 | ⟨g, cap, cur, hv, hB, hg, hle, hm, hs, ht⟩
  · exact .inl h1
  · refine .inr ⟨g, cap, cur, hv, hB, ?_, hle, hm, hs, ht⟩
    rw [hd.block g (Array.getElem?_eq_some_iff.1 hg).1 (hp g (by rw [hv]; rfl))]
    exact hg
theorem Rk.df (h : Rk w B b A sv E) (hd : DF w u P) (hp : ∀ k, Rfp b sv E k → ¬ P k) : Rk u B b A sv E :=
  ⟨Blk.df h.blk hd (hp b (.inl rfl)), ⟨row_df h.row.row hd (fun k hk => hp k (.inr (.inl hk))), fun f hf => Out.df (h.row.own f hf) hd (fun k hk => hp k (.inr (.inr ⟨f, hf, hk⟩)))⟩, h.con, h.srt, h.low, h.ok⟩
theorem Rk.lt (h : Rk w B b A sv E) {k : Nat} (hk : Rfp b sv E k) : B ≤ k ∧ k < w.heap.size := by
  rcases hk with rfl | hk | ⟨f, hf, hk⟩
  · exact ⟨h.low, h.blk.lt⟩
  · refine ⟨h.row.low k hk, ?_⟩
    rcases h.row.row.2 with ⟨h1, _⟩ | ⟨g, cap, cur, h1, hB, hg, _⟩
    · rw [h1] at hk; cases hk
    · rw [h1] at hk
      injection hk with hk
      have hk' : g = k := hk
      rw [← hk']
      exact (Array.getElem?_eq_some_iff.1 hg).1
  · exact ⟨(h.row.own f hf).block k hk, ((h.row.own f hf).lt k hk).2⟩
theorem Rk.base {D : Nat} (h : Rk w B b A sv E) (hb : D ≤ B) : Rk w D b A sv E := ⟨h.blk, ⟨owns_base h.row.row hb, fun f hf => (h.row.own f hf).below hb⟩, h.con, h.srt, Nat.le_trans hb h.low, h.ok⟩
/-- The reference's disk that lies beyond w; what it has lies in P. -/
structure Sr (w u : World) (b : Nat) (A : Ab) (P : Nat → Prop) : Prop where
  dk : ∃ sv E, Rk u w.heap.size b A sv E ∧ ∀ k, Rfp b sv E k → P k
  lt : ∀ k, P k → k < u.heap.size
  ge : ∀ k, P k → w.heap.size ≤ k
  gr : w.grownBy u none
theorem Sr.keep (h : Sr w u b A P) (hg : u.grownBy u' none) : Sr w u' b A P := by
  obtain ⟨sv, E, h1, h2⟩ := h.dk
  exact ⟨⟨sv, E, h1.keep hg, h2⟩, fun k hk => Nat.lt_of_lt_of_le (h.lt k hk) hg.size, h.ge, gtrans h.gr hg⟩
theorem Sr.df (h : Sr w u b A P) (hd : DF u u' R) (hr : ∀ k, P k → ¬ R k) (hq : ∀ k, R k → w.heap.size ≤ k) : Sr w u' b A P := by
  obtain ⟨sv, E, h1, h2⟩ := h.dk
  exact ⟨⟨sv, E, h1.df hd (fun k hk => hr k (h2 k hk)), h2⟩, fun k hk => Nat.lt_of_lt_of_le (h.lt k hk) hd.size, h.ge, ((DF.of h.gr (P := fun k => w.heap.size ≤ k)).trans hd (fun _ _ q => hq _ q)).grown (fun _ q => q)⟩
/-- What a call that writes leaves. -/
theorem Sr.step (h : Sr w u b A P) (hf : ∀ k, Rfp b sv E k → P k) (he : REnd u u' w.heap.size b sv E A') : Sr w u' b A' (newP P u u') ∧ DF u u' P := by
  obtain ⟨hg, sv', E', h1, h2⟩ := he
  have hd : DF u u' P := DF.one hg (hf b (.inl rfl))
  refine ⟨⟨⟨sv', E', h1, fun k hk' => ?_⟩, fun k hk' => ?_, fun k hk' => ?_, ((DF.of h.gr (P := fun k => w.heap.size ≤ k)).trans hd (fun _ _ q => h.ge _ q)).grown (fun _ q => q)⟩, hd⟩
  · rcases h2 k hk' with q | q
    · exact .inl (hf k q)
    · exact .inr ⟨q, (h1.lt hk').2⟩
  · exact hk'.elim (fun q => Nat.lt_of_lt_of_le (h.lt k q) hd.size) (fun q => q.2)
  · exact hk'.elim (h.ge k) (fun q => Nat.le_trans h.gr.size q.1)
theorem sr_app (h : Sr w u b A P) (s : ByteArray) (F : Nat → Prop) (ba : Option Addr) (bn bc : Nat) (l : List UInt8) (hl : Rd u F (.slice ba bn bc) l) (hF : ∀ k, F k → ¬ P k) (hbl : l.length ≤ 140737488355328) (hs : s.size ≤ 140737488355328) (hw : A.wr ≤ 4611686018427387904) :
    Calls Tryz.prog 24 #[.pointer (some ⟨b, 0, none⟩), .string s, .slice ba bn bc] u fun e u' => e = .returned (.int .i64 (A.appE s l)) ∧ Sr w u' b (A.app s l).sr (newP P u u') ∧ DF u u' P := by
  obtain ⟨sv, E, h1, h2⟩ := h.dk
  exact (rapp_any h1 s F ba bn bc l hl (fun k hk e => hF k hk (h2 k (.inl e))) hbl hs hw).mono fun e u' ⟨q1, q2⟩ => ⟨q1, h.step h2 q2⟩
theorem sr_cut (h : Sr w u b A P) (s : ByteArray) (z : Int) (hs : s.size ≤ 140737488355328) (hw : A.wr ≤ 4611686018427387904) :
    Calls Tryz.prog 26 #[.pointer (some ⟨b, 0, none⟩), .string s, .int .i64 z] u fun e u' => e = .returned (.int .i64 (A.cutE s z)) ∧ Sr w u' b (A.cut s z).sr (newP P u u') ∧ DF u u' P := by
  obtain ⟨sv, E, h1, h2⟩ := h.dk
  exact (rcut_any h1 s z hs hw).mono fun e u' ⟨q1, q2⟩ => ⟨q1, h.step h2 q2⟩
theorem sr_ren (h : Sr w u b A P) (s t : ByteArray) (hs : s.size ≤ 140737488355328) (ht : t.size ≤ 140737488355328) (hw : A.wr ≤ 4611686018427387904) :
    Calls Tryz.prog 28 #[.pointer (some ⟨b, 0, none⟩), .string s, .string t] u fun e u' => e = .returned (.int .i64 (A.renE s t)) ∧ Sr w u' b (A.ren s t).sr (newP P u u') ∧ DF u u' P := by
  obtain ⟨sv, E, h1, h2⟩ := h.dk
  exact (rren_any h1 s t hs ht hw).mono fun e u' ⟨q1, q2⟩ => ⟨q1, h.step h2 q2⟩
theorem sr_rem (h : Sr w u b A P) (s : ByteArray) (hs : s.size ≤ 140737488355328) (hw : A.wr ≤ 4611686018427387904) :
    Calls Tryz.prog 30 #[.pointer (some ⟨b, 0, none⟩), .string s] u fun e u' => e = .returned (.int .i64 (A.remE s)) ∧ Sr w u' b (A.rem s).sr (newP P u u') ∧ DF u u' P := by
  obtain ⟨sv, E, h1, h2⟩ := h.dk
  exact (rrem_any h1 s hs hw).mono fun e u' ⟨q1, q2⟩ => ⟨q1, h.step h2 q2⟩
theorem sr_on (h : Sr w u b A P) : Calls Tryz.prog 34 #[.pointer (some ⟨b, 0, none⟩)] u fun e u' => e = .returned (.tuple #[]) ∧ Sr w u' b A.on (newP P u u') ∧ DF u u' P := by
  obtain ⟨sv, E, h1, h2⟩ := h.dk
  exact (ron_any h1).mono fun e u' ⟨q1, q2, q3⟩ => ⟨q1, h.step h2 (REnd.of q2 q3)⟩
theorem sr_arm (h : Sr w u b A P) (n k : Int) (hn : n ≤ 9223372036854775807) : Calls Tryz.prog 33 #[.pointer (some ⟨b, 0, none⟩), .int .i64 n, .int .i64 k] u fun e u' => e = .returned (.tuple #[]) ∧ Sr w u' b (A.arm n k) (newP P u u') ∧ DF u u' P := by
  obtain ⟨sv, E, h1, h2⟩ := h.dk
  exact (rarm_any h1 n k hn).mono fun e u' ⟨q1, q2, q3⟩ => ⟨q1, h.step h2 (REnd.of q2 q3)⟩
theorem sr_read (h : Sr w u b A P) (s : ByteArray) (hs : s.size ≤ 140737488355328) : Calls Tryz.prog 67 #[.pointer (some ⟨b, 0, none⟩), .string s] u fun e u' => ∃ a c, e = .returned (.tuple #[.slice a (A.fndB s).length c, .int .i64 (A.fndE s)]) ∧ Out u.heap.size u' (.slice a (A.fndB s).length c) (A.fndB s) ∧ u.grownBy u' none := by
  obtain ⟨sv, E, h1, h2⟩ := h.dk
  exact rread_any h1 s hs
theorem sr_size (h : Sr w u b A P) (s : ByteArray) (hs : s.size ≤ 140737488355328) : Calls Tryz.prog 69 #[.pointer (some ⟨b, 0, none⟩), .string s] u fun e u' => e = .returned (.tuple #[.int .i64 ((A.fndB s).length : Nat), .int .i64 (A.fndE s)]) ∧ u.grownBy u' none := by
  obtain ⟨sv, E, h1, h2⟩ := h.dk
  exact rsize_any h1 s hs
theorem sr_files (h : Sr w u b A P) : Calls Tryz.prog 36 #[.pointer (some ⟨b, 0, none⟩)] u fun e u' => (∃ a g c, e = .returned (.slice a A.C.length c) ∧ ArF u' (fun k => u.heap.size ≤ k ∧ k < u'.heap.size) a g 0 A.C) ∧ u.grownBy u' none := by
  obtain ⟨sv, E, h1, h2⟩ := h.dk
  exact rfiles_any h1
theorem sr_new (w : World) (u : World) (hg : w.grownBy u none) (room : Int) (h1 : 1 ≤ room) (h2 : room ≤ 268435456) : Calls Tryz.prog 19 #[.int .i64 room] u fun e u' => ∃ b P, e = .returned (.tuple #[.pointer (some ⟨b, 0, none⟩), .int .i64 0]) ∧ Sr w u' b (Ab.new room) P ∧ u.grownBy u' none ∧ (∀ k, P k → u.heap.size ≤ k) :=
  (rnew_ok u room h1 h2).mono fun _ u' ⟨b, q1, ⟨sv, E, q2⟩, q3⟩ => ⟨b, fun k => u.heap.size ≤ k ∧ k < u'.heap.size, q1, ⟨⟨sv, E, q2.base hg.size, fun _ hk => q2.lt hk⟩, fun _ hk => hk.2, fun _ hk => Nat.le_trans hg.size hk.1, gtrans hg q3⟩, q3, fun _ hk => hk.1⟩
end Go.Proofs.YtlgjmdianmijeaaGreat

namespace Go.Proofs.YtlgjmdianmijeaaGreat
open Go Go.RowKit Go.MapKept Go.MuLone
open Go.RowKit (wrap32 wrap64)

variable {w u u' w' w2 : World} {B b c : Nat} {A A' : Ab} {P P' Q Q' R : Nat → Prop}
/-- A disk of the program that lies beyond w; what it has lies in P. -/
structure Sd (w u : World) (b : Nat) (A : Ab) (P : Nat → Prop) : Prop where
  dk : DkP u w.heap.size b A P
  lt : ∀ k, P k → k < u.heap.size
  ge : ∀ k, P k → w.heap.size ≤ k
  gr : w.grownBy u none
theorem Sd.keep (h : Sd w u b A P) (hg : u.grownBy u' none) : Sd w u' b A P := ⟨h.dk.keep hg, fun k hk => Nat.lt_of_lt_of_le (h.lt k hk) hg.size, h.ge, gtrans h.gr hg⟩
theorem Sd.df (h : Sd w u b A P) (hd : DF u u' R) (hr : ∀ k, P k → ¬ R k) (hq : ∀ k, R k → w.heap.size ≤ k) : Sd w u' b A P :=
  ⟨h.dk.df hd (fun k _ hk => hr k hk), fun k hk => Nat.lt_of_lt_of_le (h.lt k hk) hd.size, h.ge, ((DF.of h.gr (P := fun k => w.heap.size ≤ k)).trans hd (fun _ _ q => hq _ q)).grown (fun _ q => q)⟩
/-- The blocks of one colour. -/
def Co (w u : World) (col : Nat → Nat) (i k : Nat) : Prop := col k = i ∧ w.heap.size ≤ k ∧ k < u.heap.size
def dye (u : World) (col : Nat → Nat) (i k : Nat) : Nat := if k < u.heap.size then col k else i
theorem co_old {col : Nat → Nat} {i j k : Nat} (h : Co w u col j k) (hs : u.heap.size ≤ u'.heap.size) : Co w u' (dye u col i) j k := ⟨by unfold dye; rw [if_pos h.2.2]; exact h.1, h.2.1, Nat.lt_of_lt_of_le h.2.2 hs⟩
theorem co_new {col : Nat → Nat} {i k : Nat} (hg : w.heap.size ≤ u.heap.size) (h : newP (Co w u col i) u u' k) (hs : u.heap.size ≤ u'.heap.size) : Co w u' (dye u col i) i k :=
  h.elim (fun q => co_old q hs) (fun q => ⟨by unfold dye; rw [if_neg (by omega)], by omega, q.2⟩)
theorem Sd.co {col : Nat → Nat} {i j : Nat} (h : Sd w u' b A (Co w u col j)) (hs : u.heap.size ≤ u'.heap.size) : Sd w u' b A (Co w u' (dye u col i) j) := ⟨h.dk.mono (fun _ _ _ hk => co_old hk hs), fun _ hk => hk.2.2, fun _ hk => hk.2.1, h.gr⟩
theorem Sr.co {col : Nat → Nat} {i j : Nat} (h : Sr w u' b A (Co w u col j)) (hs : u.heap.size ≤ u'.heap.size) : Sr w u' b A (Co w u' (dye u col i) j) := by
  obtain ⟨sv, E, h1, h2⟩ := h.dk
  exact ⟨⟨sv, E, h1, fun k hk => co_old (h2 k hk) hs⟩, fun _ hk => hk.2.2, fun _ hk => hk.2.1, h.gr⟩
def stc (b0 b1 c0 c1 bk sk : Nat) (mark : Bool) (turn spent : Int) : List Value := [.pointer (some ⟨b0, 0, none⟩), .pointer (some ⟨b1, 0, none⟩), .pointer (some ⟨c0, 0, none⟩), .pointer (some ⟨c1, 0, none⟩), .bool mark, .pointer (some ⟨bk, 0, none⟩), .pointer (some ⟨sk, 0, none⟩), .int .i64 turn, .int .i64 spent]
/-- The disks alone. -/
structure Dsk (w u : World) (col : Nat → Nat) (b0 b1 c0 c1 : Nat) (A0 A1 : Ab) : Prop where
  x0 : Sd w u b0 A0 (Co w u col 1)
  x1 : Sd w u b1 A1 (Co w u col 2)
  y0 : Sr w u c0 A0.sr (Co w u col 3)
  y1 : Sr w u c1 A1.sr (Co w u col 4)
variable {col : Nat → Nat} {b0 b1 c0 c1 : Nat} {A0 A1 : Ab}
/-- Something else is made, or written that has another colour. -/
theorem Dsk.df (h : Dsk w u col b0 b1 c0 c1 A0 A1) {i : Nat} (hi : i = 0 ∨ 4 < i) (hd : DF u u' (Co w u col i)) : Dsk w u' (dye u col i) b0 b1 c0 c1 A0 A1 := by
  have hn : ∀ j, 1 ≤ j → j ≤ 4 → ∀ k, Co w u col j k → ¬ Co w u col i k := fun j h1 h2 k hk hq => by
    have e := hk.1.symm.trans hq.1
    omega
  have hq : ∀ k, Co w u col i k → w.heap.size ≤ k := fun k hk => hk.2.1
  exact ⟨(h.x0.df hd (hn 1 (by decide) (by decide)) hq).co hd.size, (h.x1.df hd (hn 2 (by decide) (by decide)) hq).co hd.size, (h.y0.df hd (hn 3 (by decide) (by decide)) hq).co hd.size, (h.y1.df hd (hn 4 (by decide) (by decide)) hq).co hd.size⟩
theorem Dsk.keep (h : Dsk w u col b0 b1 c0 c1 A0 A1) (hg : u.grownBy u' none) : Dsk w u' (dye u col 0) b0 b1 c0 c1 A0 A1 := h.df (.inl rfl) (DF.of hg)
/-- The first disk of the program is written. -/
theorem Dsk.px0 (h : Dsk w u col b0 b1 c0 c1 A0 A1) (hd : DkP u' w.heap.size b0 A' (newP (Co w u col 1) u u')) (hf : DF u u' (Co w u col 1)) : Sd w u' b0 A' (Co w u' (dye u col 1) 1) ∧ Sd w u' b1 A1 (Co w u' (dye u col 1) 2) ∧ Sr w u' c0 A0.sr (Co w u' (dye u col 1) 3) ∧ Sr w u' c1 A1.sr (Co w u' (dye u col 1) 4) := by
  have hn : ∀ j, j ≠ 1 → ∀ k, Co w u col j k → ¬ Co w u col 1 k := fun j h1 k hk hq => h1 (hk.1.symm.trans hq.1)
  have hq : ∀ k, Co w u col 1 k → w.heap.size ≤ k := fun k hk => hk.2.1
  have hg : w.grownBy u' none := ((DF.of h.x0.gr (P := fun k => w.heap.size ≤ k)).trans hf (fun _ _ q => hq _ q)).grown (fun _ q => q)
  exact ⟨⟨hd.mono (fun _ _ _ hk => co_new h.x0.gr.size hk hf.size), fun _ hk => hk.2.2, fun _ hk => hk.2.1, hg⟩, (h.x1.df hf (hn 2 (by decide)) hq).co hf.size, (h.y0.df hf (hn 3 (by decide)) hq).co hf.size, (h.y1.df hf (hn 4 (by decide)) hq).co hf.size⟩
theorem srt_set {C : Cn} (h : NdC C) (s : ByteArray) (l : List UInt8) : srtC (setC (srtC C) s l) = srtC (setC C s l) := by
  have q1 := lay_srt (srt_nd h) s l
  rw [srt_self (srt_srtS h)] at q1
  rw [← q1, lay_srt h s l]
theorem srt_del {C : Cn} (h : NdC C) (s : ByteArray) : srtC (delC (srtC C) s) = srtC (delC C s) := by
  rw [drop_srt h s]
  exact srt_self (srt_srtS (del_nd h s))
theorem used_sr (h : NdC A.C) (s : ByteArray) : A.sr.fndE s = A.fndE s ∧ A.sr.fndB s = A.fndB s ∧ A.sr.old s = A.old s ∧ (∀ n, A.sr.fits s n = A.fits s n) := by
  have hg : ∀ t, getC A.sr.C t = getC A.C t := fun t => get_srt h t
  have hf : A.sr.fndE s = A.fndE s := by unfold Ab.fndE; rw [hg]; rfl
  refine ⟨hf, ?_, ?_, fun n => ?_⟩
  · unfold Ab.fndB; rw [hf, hg]
  · unfold Ab.old; rw [hg]
  · unfold Ab.fits
    rw [hg]
    show (((getC A.C s).isSome || decide ((srtC A.C).length < 64)) && decide ((n : Int) ≤ A.room - (usedC (srtC A.C) : Nat))) = _
    rw [srtC_len, used_srt h]
/-- What the reference answers, and leaves, is what the program does. -/
theorem sr_appE (h : NdC A.C) (s : ByteArray) (l : List UInt8) : A.sr.appE s l = A.appE s l ∧ (A.sr.app s l).sr = (A.app s l).sr := by
  obtain ⟨h1, h2, h3, h4⟩ := used_sr h s
  refine ⟨by unfold Ab.appE; rw [h4]; rfl, ?_⟩
  unfold Ab.app
  rw [h4]
  by_cases q : refE A.off s = 0 ∧ A.fits s l.length = true
  · rw [if_pos q, if_pos (show refE A.sr.off s = 0 ∧ A.fits s l.length = true from q), did_sr, did_sr]
    have e : srtC (A.sr.appC s l) = srtC (A.appC s l) := by
      unfold Ab.appC
      rw [h3]
      show srtC (if 0 < wK A.ar A.kp then setC (srtC A.C) s _ else srtC A.C) = _
      split
      · exact srt_set h s _
      · exact srt_self (srt_srtS h)
    rw [e]
    rfl
  · rw [if_neg q, if_neg (show ¬ (refE A.sr.off s = 0 ∧ A.fits s l.length = true) from q)]
    exact sr_self (srt_srtS h)
theorem sr_cutE (h : NdC A.C) (s : ByteArray) (z : Int) : A.sr.cutE s z = A.cutE s z ∧ (A.sr.cut s z).sr = (A.cut s z).sr := by
  obtain ⟨h1, h2, h3, h4⟩ := used_sr h s
  refine ⟨by unfold Ab.cutE; rw [h1, h3]; rfl, ?_⟩
  unfold Ab.cut
  rw [h1, h3]
  by_cases q : A.fndE s = 0 ∧ 0 ≤ z ∧ z ≤ ((A.old s).length : Int)
  · rw [if_pos q, if_pos q, did_sr, did_sr]
    have e : srtC (A.sr.cutC s z) = srtC (A.cutC s z) := by
      unfold Ab.cutC
      rw [h3]
      show srtC (if 0 < wK A.ar A.kp then setC (srtC A.C) s _ else srtC A.C) = _
      split
      · exact srt_set h s _
      · exact srt_self (srt_srtS h)
    rw [e]
    rfl
  · rw [if_neg q, if_neg q]
    exact sr_self (srt_srtS h)
theorem sr_remE (h : NdC A.C) (s : ByteArray) : A.sr.remE s = A.remE s ∧ (A.sr.rem s).sr = (A.rem s).sr := by
  obtain ⟨h1, h2, h3, h4⟩ := used_sr h s
  refine ⟨by unfold Ab.remE; rw [h1]; rfl, ?_⟩
  unfold Ab.rem
  rw [h1]
  by_cases q : A.fndE s = 0
  · rw [if_pos q, if_pos q, did_sr, did_sr]
    have e : srtC (A.sr.remC s) = srtC (A.remC s) := by
      unfold Ab.remC
      show srtC (if 0 < wK A.ar A.kp then delC (srtC A.C) s else srtC A.C) = _
      split
      · exact srt_del h s
      · exact srt_self (srt_srtS h)
    rw [e]
    rfl
  · rw [if_neg q, if_neg q]
    exact sr_self (srt_srtS h)
theorem sr_renE (h : NdC A.C) (s t : ByteArray) : A.sr.renE s t = A.renE s t ∧ (A.sr.ren s t).sr = (A.ren s t).sr := by
  obtain ⟨h1, h2, h3, h4⟩ := used_sr h s
  refine ⟨by unfold Ab.renE; rw [h1]; rfl, ?_⟩
  unfold Ab.ren
  rw [h1]
  by_cases q : refE A.off t = 0 ∧ A.fndE s = 0
  · rw [if_pos q, if_pos (show refE A.sr.off t = 0 ∧ A.fndE s = 0 from q), did_sr, did_sr]
    have e : srtC (A.sr.renC s t) = srtC (A.renC s t) := by
      unfold Ab.renC
      rw [h3]
      show srtC (if 0 < wK A.ar A.kp then setC (delC (srtC A.C) s) t _ else srtC A.C) = _
      split
      · rw [drop_srt h s]
        exact srt_set (del_nd h s) t _
      · exact srt_self (srt_srtS h)
    rw [e]
    rfl
  · rw [if_neg q, if_neg (show ¬ (refE A.sr.off t = 0 ∧ A.fndE s = 0) from q)]
    exact sr_self (srt_srtS h)
end Go.Proofs.YtlgjmdianmijeaaGreat

namespace Go.Proofs.YtlgjmdianmijeaaGreat
open Go Go.RowKit Go.MapKept Go.MuLone
open Go.RowKit (wrap32 wrap64)

theorem grown_back {w u u' : World} {row : Option Nat} (h : w.grownBy u none) (hg : u.grownBy u' row) (hk : ∀ k, row = some k → w.heap.size ≤ k) : w.grownBy u' none :=
  ⟨hg.os.trans h.os, hg.tape.trans h.tape, hg.output.trans h.output, Nat.le_trans h.size hg.size, fun k hl _ => (hg.block k (Nat.lt_of_lt_of_le hl h.size) (fun e => absurd (hk k e.symm) (by omega))).trans (h.block k hl (by simp))⟩
/-- Mark i behind what is lent. -/
def mkA (i : Nat) : UInt8 := UInt8.ofNat (165 - i)
set_option maxRecDepth 100000 in
theorem markAt_any (i : Nat) (w : World) (hi : i < 70) : Calls Tryz.prog 122 #[.int .i64 i] w fun e w' => e = .returned (.int .u8 (mkA i).toNat) ∧ w' = w := by
  have e : ((mkA i).toNat : Int) = 165 - (i : Int) := by
    unfold mkA
    rw [UInt8.toNat_ofNat']
    omega
  rw [e]
  clear e
  go_enter Tryz.func122, Tryz.ntmps122
  go_wp2
  go_ret
  exact ⟨rfl, rfl⟩
def mkL (n : Nat) : List UInt8 := (List.range n).map mkA
theorem mkL_length (n : Nat) : (mkL n).length = n := by simp [mkL]
theorem mkL_succ (n : Nat) : mkL (n + 1) = mkL n ++ [mkA n] := by simp [mkL, List.range_succ]
/-- What is lent: the bytes, marks behind them, in a row of one's own. -/
def Lent (w : World) (B : Nat) (v : Value) (l : List UInt8) : Prop :=
  ∃ (g c : Nat), v = .slice (some ⟨g, 0, none⟩) l.length c ∧ l.length + 70 ≤ c ∧ Out B w (.slice (some ⟨g, 0, none⟩) (l.length + 70) c) (l ++ mkL 70)
theorem Lent.keep {w w' : World} {B : Nat} {v : Value} {l : List UInt8} (h : Lent w B v l) (hg : w.grownBy w' none) : Lent w' B v l := by
  obtain ⟨g, c, h1, h2, h3⟩ := h
  exact ⟨g, c, h1, h2, h3.keep hg⟩
theorem Lent.on {w w' : World} {B : Nat} {v : Value} {l : List UInt8} {row : Option Nat} (h : Lent w B v l) (hg : w.grownBy w' row) (hr : ∀ k, row = some k → v.ownBlock ≠ some k) : Lent w' B v l := by
  obtain ⟨g, c, rfl, h2, h3⟩ := h
  exact ⟨g, c, rfl, h2, h3.on hg (fun k hk e => hr k hk e)⟩
theorem Lent.out {w : World} {B : Nat} {v : Value} {l : List UInt8} (h : Lent w B v l) : Out B w v l := by
  obtain ⟨g, c, rfl, h2, h3⟩ := h
  refine ⟨by simp [Lib.byteCells], .inr ?_⟩
  rcases h3.2 with ⟨h4, _⟩ | ⟨g', cap, cur, e, hb, hg, hle, hm, hs, ht⟩
  · cases h4
  · injection e with e1 e2 e3
    injection e1 with e1
    injection e1 with e1
    subst e1; subst e3
    refine ⟨g, c, cur, rfl, hb, hg, by omega, hm, hs, ?_⟩
    have h5 := congrArg (List.take (l.length * 1)) ht
    rw [List.take_take] at h5
    rw [show min (l.length * 1) ((l ++ mkL 70).length * 1) = l.length * 1 by simp [mkL_length]] at h5
    rw [h5]
    simp [Lib.byteCells]
theorem Lent.mark {w : World} {B : Nat} {v : Value} {l : List UInt8} (h : Lent w B v l) : ∃ (b c : Nat), v = .slice (some ⟨b, 0, none⟩) l.length c ∧ b < w.heap.size ∧ l.length + 70 ≤ c ∧ ∀ i, i < 70 → w.cell? ⟨b, l.length + i, none⟩ = some (.int .u8 (mkA i).toNat) := by
  obtain ⟨g, c, rfl, h2, h3⟩ := h
  refine ⟨g, c, rfl, (h3.lt g rfl).2, h2, fun i hi => ?_⟩
  have := h3.cells (g := g) rfl (l.length + i) (.int .u8 (mkA i).toNat) (by simp [Lib.byteCells, mkL, hi])
  rw [Addr.add_lit, Nat.zero_add] at this
  exact this
set_option maxRecDepth 100000 in
set_option maxHeartbeats 1600000 in
theorem lend_any (w : World) (v : Value) (F : Nat → Prop) (l : List UInt8) (hb : Rd w F v l) (hl : l.length ≤ 1000000000) :
    Calls Tryz.prog 53 #[v] w fun e w' => ∃ v', e = .returned v' ∧ Lent w' w.heap.size v' l ∧ w.grownBy w' none := by
  obtain ⟨inf, hi, hz0, hz1, hz2⟩ := info_parts Tryz.info5
  have R := hid hb
  obtain ⟨ab, bb, offb, cbb, hbv, _⟩ := hb
  subst hbv
  obtain ⟨m, HM⟩ : ∃ m : Nat, Hid (l.length = m) := ⟨_, hid rfl⟩
  rw [HM.out] at hl ⊢
  have HR := R
  rw [HM.out] at HR
  clear R
  go_enter Tryz.func53, Tryz.ntmps53
  go_wp2_with (at_make; refine wpList_make_own _ rfl _ _ 58 rfl w.heap.size 5 inf (.int .u8 0) 1 Tryz.underlying58 hi hz0 hz1 _ _ _ (m + 70) rfl rfl (by omega) (by rw [hz2]; omega) (by unfold maxLen; omega) (Nat.le_refl _) ?_)
  intro w1 hown1 hg1
  have R1 := hid (HR.out.keep hg1)
  have HG1 := hid hg1
  have hO1 : Hid (Out w.heap.size w1 (.slice (some ⟨w.heap.size, 0, none⟩) 0 (m + 70)) []) := hid hown1
  clear hg1 HR hown1
  go_wp2_with (at_builtin; refine wpList_append_rd rfl _ _ rfl w.heap.size F [] l hO1.out R1.out (by have := HM.out; simp; omega) HG1.out.size ?_)
  intro v2 w2 hown2 hg2 _
  have HO : Hid (Out w.heap.size w2 v2 (l ++ mkL 0)) := hid (by
    simpa [mkL] using hown2)
  have HG : Hid (w.grownBy w2 none) := hid (grown_back HG1.out hg2 (fun k hk => hO1.out.block k hk))
  clear hO1 hown2 hg2 R1 HG1
  go_wp2
  go_loopw [3, 4] (fun tv iv wr => ∃ i : Nat, iv = .int .i64 i ∧ i ≤ 70 ∧ Hid (Out w.heap.size wr tv (l ++ mkL i)) ∧ Hid (w.grownBy wr none)) (fun _ iv _ => 70 - (intOf iv).toNat)
  case atStart => exact ⟨0, rfl, by omega, HO, HG⟩
  case round =>
    as_aux_lemma =>
    clear HO HG
    obtain ⟨i, rfl, hi70, HO, HG⟩ := hrel
    by_cases hlt : i < 70
    · have hlt' : (i : Int) < 70 := by omega
      have hat := fun w => markAt_any i w hlt
      obtain ⟨u, HU⟩ : ∃ u : UInt8, Hid (mkA i = u) := ⟨_, hid rfl⟩
      rw [HU.out] at hat
      have HAT := hid hat
      clear hat
      go_wp2_with (first | (go_at_call 122; refine (HAT.out _).mono ?_; rintro e w' ⟨rfl, hw⟩; have hw' := hw.symm; clear hw; subst hw') | (at_builtin; refine wpList_append_byte rfl _ _ rfl w.heap.size wr.heap.size (l ++ mkL i) u (HO.out.keep (galloc wr _ none)) rfl (litL wr _) (by have := HM.out; rw [List.length_append, mkL_length]; omega) (by have := HG.out.size; have := (galloc wr (.cells #[.int .u8 u.toNat] 5) none).size; omega) ?_))
      intro v' w3 hown3 hg3
      have HN : Hid (Out w.heap.size w3 v' (l ++ mkL (i + 1))) := hid (by rw [mkL_succ, HU.out]; exact hown3)
      have HGN : Hid (w.grownBy w3 none) := hid (grown_back (gtrans HG.out (galloc wr _ none)) hg3 (fun k hk => HO.out.block k hk))
      clear hown3 hg3
      go_wp2
      exact ⟨⟨i + 1, by go_num, by omega, HN, HGN⟩, by simp [intOf]; omega⟩
    · have hge : (70 : Int) ≤ i := by omega
      have he : i = 70 := by omega
      subst he
      obtain ⟨b, cap, hv, hle⟩ : ∃ b cap, u3 = .slice (some ⟨b, 0, none⟩) (m + 70) cap ∧ m + 70 ≤ cap := by
        rcases HO.out.2 with ⟨_, h9⟩ | ⟨g, cap, cur, e, hb, hg, hle, _⟩
        · rw [List.length_append, mkL_length] at h9; omega
        · rw [List.length_append, mkL_length, HM.out] at e hle
          exact ⟨g, cap, e, hle⟩
      subst hv
      have hcm : (m : Int) ≤ (cap : Int) := by omega
      go_wp2
      go_ret
      refine ⟨.slice (some ⟨b, 0, none⟩) m cap, rfl, ⟨b, cap, by rw [HM.out], by rw [HM.out]; exact hle, by rw [HM.out]; exact HO.out⟩, HG.out⟩
set_option maxRecDepth 100000 in
set_option maxHeartbeats 1600000 in
theorem intact_any (w : World) (B : Nat) (v b : Value) (F : Nat → Prop) (l : List UInt8) (hv : Lent w B v l) (hb : Rd w F b l) (hl : l.length ≤ 1000000000) :
    Calls Tryz.prog 54 #[v, b] w fun e w' => e = .returned (.bool true) ∧ w.grownBy w' none := by
  have k1 := hv.out.rd.convert
  have k2 := hb.convert
  obtain ⟨s, HS⟩ : ∃ s, Hid ((⟨l.toArray⟩ : ByteArray) = s) := ⟨_, hid rfl⟩
  rw [HS.out] at k1 k2
  obtain ⟨bb, c, rfl, hbb, hc, hm⟩ := hv.mark
  obtain ⟨m, HM⟩ : ∃ m : Nat, Hid (l.length = m) := ⟨_, hid rfl⟩
  rw [HM.out] at hl hc hm k1 ⊢
  have HMK := hid hm
  have hc' : (m : Int) + 70 ≤ (c : Int) := by omega
  clear hm hv hb
  go_enter Tryz.func54, Tryz.ntmps54
  go_wp2
  go_loopw [6] (fun iv wr => ∃ i : Nat, iv = .int .i64 i ∧ i ≤ 70 ∧ ∃ k, Hid (wr = w.drewN k)) (fun iv _ => 70 - (intOf iv).toNat)
  case atStart => exact ⟨0, rfl, by omega, 0, hid rfl⟩
  case round =>
    as_aux_lemma =>
    obtain ⟨i, rfl, hi, d, HD⟩ := hrel
    by_cases hlt : i < 70
    · have hlt' : (i : Int) < 70 := by omega
      have q : wr.cell? ⟨bb, m + i, none⟩ = some (.int .u8 (mkA i).toNat) := by rw [HD.out]; exact HMK.out i hlt
      have hat := fun w => markAt_any i w hlt
      obtain ⟨y, HY⟩ : ∃ y : Int, Hid (((mkA i).toNat : Int) = y) := ⟨_, hid rfl⟩
      rw [HY.out] at q hat
      have HAT := hid hat
      have rb : bb < wr.heap.size := by rw [HD.out]; exact hbb
      clear hat
      go_wp2
      go_quiet ((go_at_call 122; exact Calls.quiet_of_same (HAT.out _)))
      rename_i nq
      go_wp2
      refine ⟨⟨i + 1, by go_num, by omega, d + nq, hid (by rw [HD.out, World.drewN_drewN])⟩, by simp [intOf]; omega⟩
    · have hge : (70 : Int) ≤ i := by omega
      go_wp2
      go_ret
      exact ⟨rfl, by rw [HD.out]; exact gdrewN _ _ _⟩
end Go.Proofs.YtlgjmdianmijeaaGreat
