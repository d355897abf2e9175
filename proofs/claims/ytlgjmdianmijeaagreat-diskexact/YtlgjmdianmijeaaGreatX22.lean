/- Names of the reference; EqStrings; put, fresh. -/
import Derived.Test.YtlgjmdianmijeaaGreatX21
namespace Go.Proofs.YtlgjmdianmijeaaGreat
open Go Go.RowKit Go.MapKept Go.MuLone
open Go.RowKit (wrap32 wrap64)

variable {w w' u u' : World} {B b c : Nat} {A A' : Ab} {P : Nat → Prop} {sv : Value} {E : List Fl}
/-- A row of texts of the call's own. -/
def OutS (B : Nat) (w : World) (v : Value) (l : List ByteArray) : Prop := w.ownsRow B 9 1 v l.length (l.map Value.string)
theorem OutS.nil (B : Nat) (w : World) : OutS B w (.slice none 0 0) [] := World.ownsRow_nil _ _ _ _
theorem OutS.keep {v : Value} {l : List ByteArray} (h : OutS B w v l) (hg : w.grownBy w' none) : OutS B w' v l := row_kept h hg
theorem OutS.len {v : Value} {l : List ByteArray} (h : OutS B w v l) : ∃ a c, v = .slice a l.length c := row_len h
theorem OutS.at_ {a : Option Addr} {n c : Nat} {l : List ByteArray} (h : OutS B w (.slice a n c) l) {i : Nat} (hi : i < l.length) : ∃ g, a = some ⟨g, 0, none⟩ ∧ B ≤ g ∧ g < w.heap.size ∧ w.cell? ⟨g, i, none⟩ = some (.string l[i]) := by
  rcases h.2 with ⟨h1, h2⟩ | ⟨g, cap, cur, h1, hB, hg, hle, hm, hs, ht⟩
  · omega
  · injection h1 with h1
    refine ⟨g, h1, hB, (Array.getElem?_eq_some_iff.1 hg).1, ?_⟩
    have hx : (cur.toList.take (l.length * 1))[i]? = some (.string l[i]) := by rw [ht, List.getElem?_map, List.getElem?_eq_getElem hi]; rfl
    rw [List.getElem?_take, if_pos (by omega)] at hx
    have hx' : cur[i]? = some (.string l[i]) := by rw [← Array.getElem?_toList]; exact hx
    simp [World.cell?, hg, hx']
theorem Tryz.info9 : (Tryz.prog.info? 9).map (fun i => (i.zero, i.size, i.bytes)) = some (some (.string ⟨#[]⟩), 1, 16) := by kernel_rfl
set_option maxRecDepth 100000 in
/-- append of one text. -/
theorem wpList_append_str {ops : Array Oper} {rest : List Oper} {o : Oper} {a : Act} {Q : Exit → Act → World → Prop} (hgd : o.guard = none) (s x : Operand)
    (ho : o.op = .call { callee := .builtin .append, args := #[s, x], argTypes := #[59, 59] })
    (B L : Nat) (l : List ByteArray) (t : ByteArray) (hown : OutS B w (a.eval s) l) (hx : a.eval x = .slice (some ⟨L, 0, none⟩) 1 1) (hL : w.cell? ⟨L, 0, none⟩ = some (.string t)) (hn : l.length ≤ 1000000) (hB : B ≤ w.heap.size)
    (h : ∀ v' w', OutS B w' v' (l ++ [t]) → w.grownBy w' (a.eval s).ownBlock → wpList Tryz.prog ops Q rest (a.put o.dst v') w') : wpList Tryz.prog ops Q (o :: rest) a w := by
  obtain ⟨inf, hi, hz0, hz1, hz2⟩ := info_parts Tryz.info9
  refine wpList_append_own w hgd s x 59 ho B 9 inf (.string ⟨#[]⟩) 1 16 Tryz.underlying59 hi hz0 hz1 hz2 rfl (by decide) _ _ _ rfl hown ⟨L, 0, none⟩ 1 1 [.string t] hx rfl ?_ ?_ (by unfold maxLen; omega) (by omega) hB ?_
  · intro j u hu
    have : j = 0 := by have := (List.getElem?_eq_some_iff.1 hu).1; simpa using this
    subst this
    have : u = .string t := by simpa using hu.symm
    subst this
    exact hL
  · intro u hu
    have : u = .string t := by simpa using hu
    subst this
    rfl
  · intro v' w' h1 h2 h3
    refine h v' w' ?_ h2
    unfold OutS
    rw [List.map_append, List.length_append]
    exact h1
set_option maxRecDepth 100000 in
set_option maxHeartbeats 1600000 in
theorem eqStrings_same (w : World) (Ba Bb : Nat) (v v' : Value) (L : List ByteArray) (hA : OutS Ba w v L) (hB : OutS Bb w v' L) (hL : L.length ≤ 1000000) :
    Calls Tryz.prog 73 #[v, v'] w fun e w' => e = .returned (.bool true) ∧ w.grownBy w' none := by
  obtain ⟨a, c, rfl⟩ := hA.len
  obtain ⟨a', c', rfl⟩ := hB.len
  have HAa : Hid (∀ u, w.grownBy u none → OutS Ba u (.slice a L.length c) L) := hid (fun u hu => hA.keep hu)
  have HAb : Hid (∀ u, w.grownBy u none → OutS Bb u (.slice a' L.length c') L) := hid (fun u hu => hB.keep hu)
  obtain ⟨n, HN⟩ : ∃ n, Hid (L.length = n) := ⟨_, hid rfl⟩
  rw [HN.out] at hL ⊢
  clear hA hB
  go_enter Tryz.func73, Tryz.ntmps73
  go_wp2_with fail
  go_loopw [5] (fun iv wr => ∃ i : Nat, iv = .int .i64 i ∧ i ≤ n ∧ Hid (w.grownBy wr none)) (fun iv _ => n - (intOf iv).toNat)
  case atStart => exact ⟨0, rfl, by omega, hid (grefl _ _)⟩
  case round =>
    obtain ⟨i, rfl, hi, HG⟩ := hrel
    obtain ⟨w0, hw0⟩ : ∃ x : World, x = wr := ⟨_, rfl⟩
    rw [← hw0] at HG ⊢
    clear hw0
    by_cases hlt : i < n
    · as_aux_lemma =>
      have hlt' : (i : Int) < (n : Int) := by omega
      have hiL : i < L.length := by rw [HN.out]; exact hlt
      obtain ⟨g, rfl, -, hg1, hc1⟩ := (HAa.out w0 HG.out).at_ hiL
      obtain ⟨g', rfl, -, hg2, hc2⟩ := (HAb.out w0 HG.out).at_ hiL
      obtain ⟨s, Hs⟩ : ∃ x, Hid (L[i] = x) := ⟨_, hid rfl⟩
      rw [Hs.out] at hc1 hc2
      have hss : (s.toList == s.toList) = true := by simp
      clear HAa HAb
      go_upto_region 6 with fail
      go_quiet (fail)
      rename_i nq
      go_wp2
      go_roundw
      case rel => exact ⟨i + 1, by go_num, by omega, hid (gtrans HG.out (gdrewN _ _ _))⟩
      case measure => simp [intOf]; omega
    · as_aux_lemma =>
      have hge : ¬ (i : Int) < (n : Int) := by omega
      go_wp2
      go_ret
      exact ⟨rfl, HG.out⟩
set_option maxRecDepth 100000 in
theorem rnames_off (h : Rk w B b A sv E) (ho : A.off = true) : Calls Tryz.prog 72 #[.pointer (some ⟨b, 0, none⟩)] w fun e w' => e = .returned (.tuple #[.slice none 0 0, .int .i64 94]) ∧ w.grownBy w' none := by
  have y4 : w.cell? ⟨b, 4, none⟩ = some (.bool true) := by rw [← ho]; exact h.blk.cell 4
  clear h ho
  go_enter Tryz.func72, Tryz.ntmps72
  go_wp2
  refine bodyPost_ret (results_tmp2 rfl _ _ _) rfl ?_
  exact ⟨rfl, grefl _ _⟩
set_option maxRecDepth 100000 in
set_option maxHeartbeats 1600000 in
theorem rnames_on (h : Rk w B b A sv E) (ho : A.off = false) : Calls Tryz.prog 72 #[.pointer (some ⟨b, 0, none⟩)] w fun e w' => ∃ v, e = .returned (.tuple #[v, .int .i64 0]) ∧ OutS w.heap.size w' v (A.C.map (·.1)) ∧ w.grownBy w' none := by
  obtain ⟨a, g, c, rfl, hA⟩ := h.row.ar
  rw [h.con] at hA h
  have HY : Hid (∀ u, w.grownBy u none → u.cell? ⟨b, 4, none⟩ = some (.bool false) ∧ u.cell? ⟨b, 1, none⟩ = some (.slice a A.C.length c)) := hid (fun u hu => ⟨by rw [← ho]; exact (h.blk.keep hu).cell 4, (h.blk.keep hu).cell 1⟩)
  have HA : Hid (∀ u, w.grownBy u none → ArF u (fun k => B ≤ k ∧ k < w.heap.size) a g 0 A.C) := hid (fun u hu => hA.keep hu)
  have hln : A.C.length ≤ 64 := h.ok.len
  obtain ⟨S, hS⟩ : ∃ x, A.C = x := ⟨_, rfl⟩
  rw [hS] at HA HY hln ⊢
  obtain ⟨n, HN⟩ : ∃ n, Hid (S.length = n) := ⟨_, hid rfl⟩
  rw [HN.out] at HY hln
  clear hA h hS ho
  obtain ⟨y4, y1⟩ := HY.out w (grefl _ _)
  go_enter Tryz.func72, Tryz.ntmps72
  go_wp2
  clear y4 y1
  go_loopw [4, 5] (fun v iv wr => ∃ (i : Nat) (xa : Option Addr) (xc : Nat), iv = .int .i64 i ∧ v = .slice xa i xc ∧ i ≤ n ∧ Hid (OutS w.heap.size wr (.slice xa i xc) ((S.take i).map (·.1)) ∧ w.grownBy wr none)) (fun _ iv _ => n - (intOf iv).toNat)
  case atStart => exact ⟨0, none, 0, rfl, rfl, Nat.zero_le _, hid ⟨OutS.nil _ _, grefl _ _⟩⟩
  case round =>
    obtain ⟨i, xa, xc, rfl, rfl, hi, HC⟩ := hrel
    obtain ⟨w0, hw0⟩ : ∃ x : World, x = wr := ⟨_, rfl⟩
    rw [← hw0] at HC ⊢
    clear hw0
    obtain ⟨-, y1⟩ := HY.out w0 HC.out.2
    by_cases hlt : i < n
    · as_aux_lemma =>
      have hlt' : (i : Int) < (n : Int) := by omega
      have hiL : i < S.length := by rw [HN.out]; exact hlt
      obtain ⟨rfl, hgl, -⟩ := (HA.out w0 HC.out.2).at_ (by omega)
      obtain ⟨s, Hs⟩ : ∃ x, Hid (S[i].1 = x) := ⟨_, hid rfl⟩
      have hc : w0.cell? ⟨g, i * 2, none⟩ = some (.string s) := by have := ((HA.out w0 HC.out.2).each i hiL).1; rw [Hs.out, Nat.zero_add] at this; exact this
      have hOS : Hid (OutS w.heap.size (w0.alloc (.cells #[.string s] 9)) (.slice xa i xc) ((S.take i).map (·.1))) := hid (HC.out.1.keep (galloc w0 _ none))
      have HL0 : Hid ((w0.alloc (.cells #[.string s] 9)).cell? ⟨w0.heap.size, 0, none⟩ = some (.string s)) := hid (by have := (Blk.new w0 [.string s] 9).cell 0; exact this)
      have HLn : Hid (((S.take i).map (·.1)).length ≤ 1000000) := hid (by rw [List.length_map, List.length_take]; omega)
      have HBs : Hid (w.heap.size ≤ (w0.alloc (.cells #[.string s] 9)).heap.size) := hid (Nat.le_trans HC.out.2.size (galloc w0 (.cells #[.string s] 9) none).size)
      go_wp2_with (at_builtin; refine wpList_append_str rfl _ _ rfl w.heap.size w0.heap.size _ s hOS.out rfl HL0.out HLn.out HBs.out ?_; intro v2 w2 h2 g2; have HH2 := hid h2; have HG2 := hid g2; clear h2 g2 hOS)
      have h2 := HH2.out
      have g2 := HG2.out
      have HRl : Hid (∃ (i' : Nat) (xa' : Option Addr) (xc' : Nat), Value.int .i64 ((i : Int) + 1) = .int .i64 i' ∧ v2 = .slice xa' i' xc' ∧ i' ≤ n ∧ Hid (OutS w.heap.size w2 (.slice xa' i' xc') ((S.take i').map (·.1)) ∧ w.grownBy w2 none)) := hid (by
        have e1 : (S.take i).map (·.1) ++ [s] = (S.take (i + 1)).map (·.1) := by rw [List.take_succ_eq_append_getElem hiL, List.map_append, ← Hs.out]; rfl
        rw [e1] at h2
        obtain ⟨xa', xc', hv2⟩ := h2.len
        rw [List.length_map, List.length_take, Nat.min_eq_left (by omega)] at hv2
        subst hv2
        exact ⟨i + 1, xa', xc', by go_num, rfl, by omega, hid ⟨h2, grown_back (gtrans HC.out.2 (galloc w0 _ none)) g2 (fun k hk => own_low HC.out.1 k hk)⟩⟩)
      clear h2 g2
      go_wp2
      exact ⟨HRl.out, by simp [intOf]; omega⟩
    · as_aux_lemma =>
      have hge : ¬ (i : Int) < (n : Int) := by omega
      have he : i = n := by omega
      subst he
      have HT : Hid (S.take i = S) := hid (List.take_of_length_le (by rw [HN.out]; omega))
      rw [HT.out] at HC
      go_wp2
      refine bodyPost_ret (results_tmp2 rfl _ _ _) rfl ?_
      exact ⟨_, rfl, HC.out.1, HC.out.2⟩
end Go.Proofs.YtlgjmdianmijeaaGreat

namespace Go.Proofs.YtlgjmdianmijeaaGreat
open Go Go.RowKit Go.MapKept Go.MuLone
open Go.RowKit (wrap32 wrap64)

variable {w w' u u' : World} {B b c : Nat} {A A' : Ab} {P : Nat → Prop}
set_option maxRecDepth 100000 in
theorem put_no (w : World) (sb : Nat) (k : Int) (E : Int) : Calls Tryz.prog 20 #[.pointer (some ⟨sb, 0, none⟩), .int .i64 k, .pointer none, .int .i64 E, .pointer none, .int .i64 E] w fun e w' => e = .returned (.bool true) ∧ w.grownBy w' none := by
  have HN : Hid (∀ u, Calls Tryz.prog 12 #[.int .i64 E] u fun e w' => e = .returned (.int .i64 E) ∧ w' = u) := hid (fun u => num_any E u)
  go_enter Tryz.func20, Tryz.ntmps20
  go_wp2_with (go_at_call 12; refine (HN.out _).mono ?_; rintro e w1 ⟨rfl, rfl⟩)
  go_ret
  exact ⟨rfl, grefl _ _⟩
set_option maxRecDepth 100000 in
theorem put_0 (w : World) (sb : Nat) (E : Int) (d q : Nat) (x0 x1 x2 x3 x4 x5 x6 x7 x8 : Value) (h : Blk w sb [x0, x1, x2, x3, x4, x5, x6, x7, x8] 78) : Calls Tryz.prog 20 #[.pointer (some ⟨sb, 0, none⟩), .int .i64 0, .pointer (some ⟨d, 0, none⟩), .int .i64 E, .pointer (some ⟨q, 0, none⟩), .int .i64 E] w fun e w' => e = .returned (.bool true) ∧ w' = (w.setCell ⟨sb, 0, none⟩ (.pointer (some ⟨d, 0, none⟩))).setCell ⟨sb, 2, none⟩ (.pointer (some ⟨q, 0, none⟩)) := by
  have HN : Hid (∀ u, Calls Tryz.prog 12 #[.int .i64 E] u fun e w' => e = .returned (.int .i64 E) ∧ w' = u) := hid (fun u => num_any E u)
  have y0 := h.cell 0
  have y2 := h.cell 2
  have f0 := h.frozen 0
  have f2 := h.frozen 2
  have hb := h.lt
  clear h
  go_enter Tryz.func20, Tryz.ntmps20
  go_wp2_with (go_at_call 12; refine (HN.out _).mono ?_; rintro e w1 ⟨rfl, rfl⟩)
  go_ret
  exact ⟨rfl, rfl⟩
set_option maxRecDepth 100000 in
theorem put_1 (w : World) (sb : Nat) (E : Int) (d q : Nat) (x0 x1 x2 x3 x4 x5 x6 x7 x8 : Value) (h : Blk w sb [x0, x1, x2, x3, x4, x5, x6, x7, x8] 78) : Calls Tryz.prog 20 #[.pointer (some ⟨sb, 0, none⟩), .int .i64 1, .pointer (some ⟨d, 0, none⟩), .int .i64 E, .pointer (some ⟨q, 0, none⟩), .int .i64 E] w fun e w' => e = .returned (.bool true) ∧ w' = (w.setCell ⟨sb, 1, none⟩ (.pointer (some ⟨d, 0, none⟩))).setCell ⟨sb, 3, none⟩ (.pointer (some ⟨q, 0, none⟩)) := by
  have HN : Hid (∀ u, Calls Tryz.prog 12 #[.int .i64 E] u fun e w' => e = .returned (.int .i64 E) ∧ w' = u) := hid (fun u => num_any E u)
  have y0 := h.cell 1
  have y2 := h.cell 3
  have f0 := h.frozen 1
  have f2 := h.frozen 3
  have hb := h.lt
  clear h
  go_enter Tryz.func20, Tryz.ntmps20
  go_wp2_with (go_at_call 12; refine (HN.out _).mono ?_; rintro e w1 ⟨rfl, rfl⟩)
  go_ret
  exact ⟨rfl, rfl⟩
/-- The stage's cells with a disk put at k. -/
def updS (k : Nat) (cs : List Value) (d q : Nat) : List Value := (cs.set k (.pointer (some ⟨d, 0, none⟩))).set (2 + k) (.pointer (some ⟨q, 0, none⟩))
theorem put_some {sb k : Nat} {cs : List Value} (h : Blk w sb cs 78) (hc : cs.length = 9) (hk : k < 2) (E : Int) (d q : Nat) : Calls Tryz.prog 20 #[.pointer (some ⟨sb, 0, none⟩), .int .i64 k, .pointer (some ⟨d, 0, none⟩), .int .i64 E, .pointer (some ⟨q, 0, none⟩), .int .i64 E] w fun e w' => e = .returned (.bool true) ∧ Blk w' sb (updS k cs d q) 78 ∧ w.grownBy w' (some sb) := by
  obtain ⟨x0, x1, x2, x3, x4, x5, x6, x7, x8, rfl⟩ : ∃ x0 x1 x2 x3 x4 x5 x6 x7 x8, cs = [x0, x1, x2, x3, x4, x5, x6, x7, x8] := by
    match cs, hc with
    | [x0, x1, x2, x3, x4, x5, x6, x7, x8], _ => exact ⟨x0, x1, x2, x3, x4, x5, x6, x7, x8, rfl⟩
  rcases (show k = 0 ∨ k = 1 by omega) with rfl | rfl
  · refine (put_0 w sb E d q _ _ _ _ _ _ _ _ _ h).mono fun e w' ⟨q1, q2⟩ => ⟨q1, ?_, ?_⟩
    · rw [q2]; exact (h.set 0 _).set 2 _
    · rw [q2]; exact gtrans (gset _ _ _) (gset _ _ _)
  · refine (put_1 w sb E d q _ _ _ _ _ _ _ _ _ h).mono fun e w' ⟨q1, q2⟩ => ⟨q1, ?_, ?_⟩
    · rw [q2]; exact (h.set 1 _).set 3 _
    · rw [q2]; exact gtrans (gset _ _ _) (gset _ _ _)
set_option maxRecDepth 100000 in
theorem fresh_no {sb k : Nat} (u : World) (room : Int) (h : room < 1 ∨ 268435456 < room) : Calls Tryz.prog 7 #[.pointer (some ⟨sb, 0, none⟩), .int .i64 (k : Nat), .int .i64 room] u fun e u' => e = .returned (.bool true) ∧ u.grownBy u' none := by
  have H1 : Hid (∀ w, Calls Tryz.prog 11 #[.int .i64 room] w fun e w' => e = .returned (.tuple #[.pointer none, .int .i64 90]) ∧ w' = w) := hid (fun w => new_no w room h)
  have H2 : Hid (∀ w, Calls Tryz.prog 19 #[.int .i64 room] w fun e w' => e = .returned (.tuple #[.pointer none, .int .i64 90]) ∧ w' = w) := hid (fun w => rnew_no w room h)
  have H3 : Hid (∀ w, Calls Tryz.prog 20 #[.pointer (some ⟨sb, 0, none⟩), .int .i64 (k : Nat), .pointer none, .int .i64 90, .pointer none, .int .i64 90] w fun e w' => e = .returned (.bool true) ∧ w.grownBy w' none) := hid (fun w => put_no w sb _ 90)
  clear h
  go_enter Tryz.func7, Tryz.ntmps7
  go_wp2_with (first
    | (go_at_call 11; refine (H1.out _).mono ?_; rintro e w1 ⟨rfl, rfl⟩)
    | (go_at_call 19; refine (H2.out _).mono ?_; rintro e w1 ⟨rfl, rfl⟩)
    | (go_at_call 20; refine (H3.out _).mono ?_; rintro e w3 ⟨rfl, hg⟩; have HG := hid hg; clear hg))
  go_ret
  exact ⟨rfl, HG.out⟩
set_option maxRecDepth 100000 in
theorem fresh_ok {sb k : Nat} {cs : List Value} (u : World) (room : Int) (h : Blk u sb cs 78) (hc : cs.length = 9) (hk : k < 2) (h1 : 1 ≤ room) (h2 : room ≤ 268435456) : Calls Tryz.prog 7 #[.pointer (some ⟨sb, 0, none⟩), .int .i64 (k : Nat), .int .i64 room] u fun e u' => e = .returned (.bool true) ∧ ∃ d c m, u.heap.size ≤ m ∧ m ≤ u'.heap.size ∧ DkP u' u.heap.size d (Ab.new room) (fun j => u.heap.size ≤ j ∧ j < m) ∧ (∃ sv E, Rk u' m c (Ab.new room) sv E ∧ ∀ j, Rfp c sv E j → m ≤ j ∧ j < u'.heap.size) ∧ Blk u' sb (updS k cs d c) 78 ∧ u.grownBy u' (some sb) := by
  have H1 := hid (new_ok u room h1 h2)
  have H2 : Hid (∀ w, Calls Tryz.prog 19 #[.int .i64 room] w fun e w' => ∃ b, e = .returned (.tuple #[.pointer (some ⟨b, 0, none⟩), .int .i64 0]) ∧ (∃ sv E, Rk w' w.heap.size b (Ab.new room) sv E) ∧ w.grownBy w' none) := hid (fun w => rnew_ok w room h1 h2)
  have H3 : Hid (∀ w d q, Blk w sb cs 78 → Calls Tryz.prog 20 #[.pointer (some ⟨sb, 0, none⟩), .int .i64 (k : Nat), .pointer (some ⟨d, 0, none⟩), .int .i64 0, .pointer (some ⟨q, 0, none⟩), .int .i64 0] w fun e w' => e = .returned (.bool true) ∧ Blk w' sb (updS k cs d q) 78 ∧ w.grownBy w' (some sb)) := hid (fun w d q hw => put_some hw hc hk 0 d q)
  have HB := hid h
  clear h h1 h2 hc hk
  go_enter Tryz.func7, Tryz.ntmps7
  go_wp2_with (first
    | (go_at_call 11; refine H1.out.mono ?_; rintro e w1 ⟨d, rfl, hd, hg⟩; have HD1 := hid hd; have HG1 := hid hg; clear hd hg)
    | (go_at_call 19; refine (H2.out _).mono ?_; rintro e w2 ⟨c, rfl, hr, hg⟩; have HR2 := hid hr; have HG2 := hid hg; clear hr hg)
    | (go_at_call 20; refine (H3.out _ _ _ (HB.out.keep (gtrans HG1.out HG2.out))).mono ?_; rintro e w3 ⟨rfl, hb, hg⟩; have HB3 := hid hb; have HG3 := hid hg; clear hb hg))
  go_ret
  have hd3 := DF.one HG3.out (P := fun j => j = sb) rfl
  have hl := HB.out.lt
  obtain ⟨sv, E, hr⟩ := HR2.out
  refine ⟨rfl, d, c, w1.heap.size, HG1.out.size, Nat.le_trans HG2.out.size HG3.out.size, (HD1.out.keep HG2.out).df hd3 (fun j _ hj e => by have := hj.1; omega), ⟨sv, E, hr.df hd3 (fun j hj e => ?_), fun j hj => ?_⟩, HB3.out, gtrans (gsome (gtrans HG1.out HG2.out) (some sb)) HG3.out⟩
  · have := (hr.lt hj).1
    have := HG1.out.size
    omega
  · have := hr.lt hj
    have := HG3.out.size
    omega
end Go.Proofs.YtlgjmdianmijeaaGreat

namespace Go.Proofs.YtlgjmdianmijeaaGreat
open Go Go.RowKit Go.MapKept Go.MuLone
open Go.RowKit (wrap32 wrap64)

variable {w w' u u' : World} {B b c : Nat} {A A' : Ab} {P Q : Nat → Prop}
theorem Tryz.num_quiet (E : Int) (u : World) : Calls Tryz.prog 12 #[.int .i64 E] u fun e w' => e = .returned (.int .i64 E) ∧ w' = u := num_any E u
set_option maxRecDepth 100000 in
set_option maxHeartbeats 1600000 in
theorem read_law {sb k : Nat} {cs : List Value} (h : Blk w sb cs 78) (hk : k < 2) (hd : cs[k]? = some (.pointer (some ⟨b, 0, none⟩))) (hq : cs[2 + k]? = some (.pointer (some ⟨c, 0, none⟩))) (hm : cs[4]? = some (.bool false)) (s : ByteArray)
    (h1 : Hid (∀ u, w.grownBy u none → Calls Tryz.prog 17 #[.pointer (some ⟨b, 0, none⟩), .string s] u fun e w' => ∃ v, e = .returned (.tuple #[v, .int .i64 (A.fndE s)]) ∧ Out u.heap.size w' v (A.fndB s) ∧ u.grownBy w' none))
    (h2 : Hid (∀ u, w.grownBy u none → Calls Tryz.prog 67 #[.pointer (some ⟨c, 0, none⟩), .string s] u fun e w' => ∃ v, e = .returned (.tuple #[v, .int .i64 (A.fndE s)]) ∧ Out u.heap.size w' v (A.fndB s) ∧ u.grownBy w' none))
    (h3 : Hid (∀ u, w.grownBy u none → Calls Tryz.prog 68 #[.pointer (some ⟨b, 0, none⟩), .string s] u fun e w' => e = .returned (.tuple #[.int .i64 ((A.fndB s).length : Nat), .int .i64 (A.fndE s)]) ∧ u.grownBy w' none))
    (h4 : Hid (∀ u, w.grownBy u none → Calls Tryz.prog 69 #[.pointer (some ⟨c, 0, none⟩), .string s] u fun e w' => e = .returned (.tuple #[.int .i64 ((A.fndB s).length : Nat), .int .i64 (A.fndE s)]) ∧ u.grownBy w' none)) :
    Calls Tryz.prog 31 #[.pointer (some ⟨sb, 0, none⟩), .int .i64 (k : Nat), .string s] w fun e w' => e = .returned (.bool true) ∧ w.grownBy w' none := by
  have HY : Hid (∀ u, w.grownBy u none → u.cell? ⟨sb, k, none⟩ = some (.pointer (some ⟨b, 0, none⟩)) ∧ u.cell? ⟨sb, 2 + k, none⟩ = some (.pointer (some ⟨c, 0, none⟩)) ∧ u.cell? ⟨sb, 4, none⟩ = some (.bool false)) := hid (fun u hu => ⟨((h.keep hu).cell k).trans hd, ((h.keep hu).cell (2 + k)).trans hq, ((h.keep hu).cell 4).trans hm⟩)
  obtain ⟨E, hE⟩ : ∃ x, A.fndE s = x := ⟨_, rfl⟩
  obtain ⟨l, hl⟩ : ∃ x, A.fndB s = x := ⟨_, rfl⟩
  rw [hE, hl] at h1 h2 h3 h4
  obtain ⟨n, hn⟩ : ∃ x, l.length = x := ⟨_, rfl⟩
  rw [hn] at h3 h4
  obtain ⟨t, ht⟩ : ∃ x, (⟨l.toArray⟩ : ByteArray) = x := ⟨_, rfl⟩
  have HC : Hid (∀ (u u' : World) (C : Nat) (v : Value), Out C u v l → u.grownBy u' none → (convert 58 9 v).run Tryz.prog u' = .ok (.string t) u') := hid (fun u u' C v ho hg => by rw [← ht]; exact (ho.keep hg).rd.convert)
  have htt : (t.toList == t.toList) = true := by simp
  have HN : Hid (∀ u, Calls Tryz.prog 12 #[.int .i64 E] u fun e w' => e = .returned (.int .i64 E) ∧ w' = u) := hid (fun u => num_any E u)
  have hk' : (k : Int) < 2 := by omega
  clear h hd hq hm hE hl hn ht
  have y := HY.out w (grefl _ _)
  obtain ⟨y1, y2, y3⟩ := y
  go_enter Tryz.func31, Tryz.ntmps31
  have HE1 := hid trivial
  go_wp2_with (first
    | (go_at_call 17; have := HE1; clear this HE1 y1 y2 y3; (with_reducible refine (h1.out _ (grefl _ _)).mono ?_); rintro e w1 ⟨v1, rfl, ho, hg⟩; have HO1 := hid ho; have HG1 := hid hg; obtain ⟨y1, y2, y3⟩ := HY.out _ hg; clear ho hg)
    | (go_at_call 17; clear y1 y2 y3; (with_reducible refine (h1.out _ HG1.out).mono ?_); rintro e w2 ⟨v2, rfl, ho, hg⟩; have HO2 := hid ho; have HG2' := hid hg; have HG2 := hid (gtrans HG1.out hg); obtain ⟨y1, y2, y3⟩ := HY.out _ HG2.out; clear ho hg)
    | (go_at_call 67; clear y1 y2 y3; (with_reducible refine (h2.out _ HG2.out).mono ?_); rintro e w3 ⟨v3, rfl, ho, hg⟩; have HO3 := hid ho; have HG3' := hid hg; have HG3 := hid (gtrans HG2.out hg); obtain ⟨y1, y2, y3⟩ := HY.out _ HG3.out; clear ho hg)
    | (go_at_call 68; clear y1 y2 y3; (with_reducible refine (h3.out _ HG3.out).mono ?_); rintro e w4 ⟨rfl, hg⟩; have HG4' := hid hg; have HG4 := hid (gtrans HG3.out hg); obtain ⟨y1, y2, y3⟩ := HY.out _ HG4.out; clear hg)
    | (go_at_call 69; clear y1 y2 y3; (with_reducible refine (h4.out _ HG4.out).mono ?_); rintro e w5 ⟨rfl, hg⟩; have HG5 := hid (gtrans HG4.out hg); obtain ⟨-, -, y3⟩ := HY.out _ HG5.out; have k3 := HC.out _ _ _ _ HO3.out (gtrans HG4'.out hg); have k2 := HC.out _ _ _ _ HO2.out (gtrans HG3'.out (gtrans HG4'.out hg)); have k1 := HC.out _ _ _ _ HO1.out (gtrans HG2'.out (gtrans HG3'.out (gtrans HG4'.out hg))); clear hg)
    | (go_at_call 12; (with_reducible refine (HN.out _).mono ?_); rintro e w6 ⟨rfl, rfl⟩))
  go_ret
  exact ⟨rfl, HG5.out⟩
set_option maxRecDepth 100000 in
set_option maxHeartbeats 1600000 in
theorem names_law {sb k : Nat} {cs : List Value} (h : Blk w sb cs 78) (hk : k < 2) (hd : cs[k]? = some (.pointer (some ⟨b, 0, none⟩))) (hq : cs[2 + k]? = some (.pointer (some ⟨c, 0, none⟩))) (hm : cs[4]? = some (.bool false)) (E : Int) (l : List ByteArray) (hl : l.length ≤ 1000000)
    (h1 : Hid (∀ u, w.grownBy u none → Calls Tryz.prog 71 #[.pointer (some ⟨b, 0, none⟩)] u fun e w' => ∃ v, e = .returned (.tuple #[v, .int .i64 E]) ∧ OutS u.heap.size w' v l ∧ u.grownBy w' none))
    (h2 : Hid (∀ u, w.grownBy u none → Calls Tryz.prog 72 #[.pointer (some ⟨c, 0, none⟩)] u fun e w' => ∃ v, e = .returned (.tuple #[v, .int .i64 E]) ∧ OutS u.heap.size w' v l ∧ u.grownBy w' none)) :
    Calls Tryz.prog 32 #[.pointer (some ⟨sb, 0, none⟩), .int .i64 (k : Nat)] w fun e w' => e = .returned (.bool true) ∧ w.grownBy w' none := by
  have HY : Hid (∀ u, w.grownBy u none → u.cell? ⟨sb, k, none⟩ = some (.pointer (some ⟨b, 0, none⟩)) ∧ u.cell? ⟨sb, 2 + k, none⟩ = some (.pointer (some ⟨c, 0, none⟩)) ∧ u.cell? ⟨sb, 4, none⟩ = some (.bool false)) := hid (fun u hu => ⟨((h.keep hu).cell k).trans hd, ((h.keep hu).cell (2 + k)).trans hq, ((h.keep hu).cell 4).trans hm⟩)
  have HQ : Hid (∀ (u : World) (C D : Nat) (v v' : Value), OutS C u v l → OutS D u v' l → Calls Tryz.prog 73 #[v, v'] u fun e w' => e = .returned (.bool true) ∧ u.grownBy w' none) := hid (fun u C D v v' ha hb => eqStrings_same u C D v v' l ha hb hl)
  have HN : Hid (∀ u, Calls Tryz.prog 12 #[.int .i64 E] u fun e w' => e = .returned (.int .i64 E) ∧ w' = u) := hid (fun u => num_any E u)
  have hk' : (k : Int) < 2 := by omega
  clear h hd hq hm hl
  have y := HY.out w (grefl _ _)
  obtain ⟨y1, y2, y3⟩ := y
  go_enter Tryz.func32, Tryz.ntmps32
  have HE1 := hid trivial
  have HE2 := hid trivial
  go_wp2_with (first
    | (go_at_call 71; have := HE1; clear this HE1 y1 y2 y3; (with_reducible refine (h1.out _ (grefl _ _)).mono ?_); rintro e w1 ⟨v1, rfl, ho, hg⟩; have HO1 := hid ho; have HG1 := hid hg; obtain ⟨y1, y2, y3⟩ := HY.out _ hg; clear ho hg)
    | (go_at_call 71; clear y1 y2 y3; (with_reducible refine (h1.out _ HG1.out).mono ?_); rintro e w2 ⟨v2, rfl, ho, hg⟩; have HO2 := hid ho; have HG2' := hid hg; have HG2 := hid (gtrans HG1.out hg); obtain ⟨y1, y2, y3⟩ := HY.out _ HG2.out; clear ho hg)
    | (go_at_call 72; clear y1 y2 y3; (with_reducible refine (h2.out _ HG2.out).mono ?_); rintro e w3 ⟨v3, rfl, ho, hg⟩; have HO3 := hid ho; have HP1 := hid (HO1.out.keep (gtrans HG2'.out hg)); have HP2 := hid (HO2.out.keep hg); have HG3 := hid (gtrans HG2.out hg); obtain ⟨-, -, y3⟩ := HY.out _ HG3.out; clear ho hg)
    | (go_at_call 73; have := HE2; clear this HE2 y3; (with_reducible refine (HQ.out _ _ _ _ _ HP1.out HO3.out).mono ?_); rintro e w4 ⟨rfl, hg⟩; have HG4 := hid (gtrans HG3.out hg); have HR2 := hid (HP2.out.keep hg); have HR3 := hid (HO3.out.keep hg); obtain ⟨-, -, y3⟩ := HY.out _ HG4.out; clear hg)
    | (go_at_call 73; clear y3; (with_reducible refine (HQ.out _ _ _ _ _ HR2.out HR3.out).mono ?_); rintro e w5 ⟨rfl, hg⟩; have HG5 := hid (gtrans HG4.out hg); obtain ⟨-, -, y3⟩ := HY.out _ HG5.out; clear hg)
    | (go_at_call 12; (with_reducible refine (HN.out _).mono ?_); rintro e w6 ⟨rfl, rfl⟩))
  go_ret
  exact ⟨rfl, HG5.out⟩
end Go.Proofs.YtlgjmdianmijeaaGreat
