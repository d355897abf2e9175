/- The stage: bytes, back where nothing is marked; Names of both disks. -/
import Derived.Test.YtlgjmdianmijeaaGreatSe
namespace Go.Proofs.YtlgjmdianmijeaaGreat
open Go Go.RowKit Go.MapKept Go.MuLone
open Go.RowKit (wrap32 wrap64)

variable {w w' u u' : World} {B b c : Nat} {A A' : Ab} {P Q : Nat → Prop}
/-- What Names tells. -/
def Ab.nmE (A : Ab) : Int := if A.off then 94 else 0
def Ab.nmT (A : Ab) : List ByteArray := if A.off then [] else (srtC A.C).map (·.1)
theorem names_p (h : DkP w B b A P) : Calls Tryz.prog 71 #[.pointer (some ⟨b, 0, none⟩)] w fun e w' => ∃ v, e = .returned (.tuple #[v, .int .i64 A.nmE]) ∧ OutS w.heap.size w' v A.nmT ∧ w.grownBy w' none := by
  obtain ⟨h1, m, F, h2, h3, h4⟩ := h
  unfold Ab.nmE Ab.nmT
  cases ho : A.off
  · rw [ho] at h2
    have hmem : ∀ f ∈ F, (f.nm, f.bs) ∈ A.C := fun f hf => by rw [← h3]; exact List.mem_map.2 ⟨f, hf, rfl⟩
    refine (names_dk h2 (by rw [← len_cont, h3]; exact h1.len) (fun f hf => ?_)).mono fun e w' ⟨v, q1, q2, q3⟩ => ⟨v, q1, ?_, q3⟩
    · have hgd : goodN f.nm = true := h1.nms _ (hmem f hf)
      unfold goodN at hgd
      simp only [Bool.and_eq_true, decide_eq_true_eq] at hgd
      exact hgd.2.1
    · have e1 : ((srtC A.C).map (·.1)).map Value.string = (srtL (nmL F)).map encStr := by
        have e2 : nmL F = A.C.map (fun p => p.1.data.toList) := by
          rw [← h3]
          unfold nmL cont
          rw [List.map_map]
          rfl
        rw [e2]
        unfold srtC
        rw [List.map_map, List.map_map]
        rfl
      have e3 : ((srtC A.C).map (·.1)).length = F.length := by rw [List.length_map, srtC_len, ← h3, len_cont]
      show OutS w.heap.size w' v ((srtC A.C).map (·.1))
      unfold OutS
      rw [e1, e3]
      exact q2
  · rw [ho] at h2
    exact (names_off h2).mono fun e w' ⟨q1, q2⟩ => ⟨_, q1, OutS.nil _ _, q2⟩
theorem sr_names (h : Sr w u b A.sr P) : Calls Tryz.prog 72 #[.pointer (some ⟨b, 0, none⟩)] u fun e u' => ∃ v, e = .returned (.tuple #[v, .int .i64 A.nmE]) ∧ OutS u.heap.size u' v A.nmT ∧ u.grownBy u' none := by
  obtain ⟨sv, E, h1, h2⟩ := h.dk
  unfold Ab.nmE Ab.nmT
  cases ho : A.off
  · exact rnames_on h1 ho
  · exact (rnames_off h1 ho).mono fun e w' ⟨q1, q2⟩ => ⟨_, q1, OutS.nil _ _, q2⟩
set_option maxRecDepth 100000 in
theorem bytes_law {sb : Nat} {x0 x1 x2 x3 x5 x6 x8 : Value} {t : Int} (w : World) (h : Blk w sb [x0, x1, x2, x3, .bool false, x5, x6, .int .i64 t, x8] 78) (ht : 0 ≤ t ∧ t < 1000000) (a : Option Addr) (n c : Nat) (F : Nat → Prop) (l : List UInt8) (hb : Rd w F (.slice a n c) l) (hF : ∀ k, F k → k ≠ sb) (hl : l.length ≤ 1000000000) :
    Calls Tryz.prog 22 #[.pointer (some ⟨sb, 0, none⟩), .slice a n c] w fun e w' => ∃ v, e = .returned v ∧ Lent w' w.heap.size v l ∧ Blk w' sb [x0, x1, x2, x3, .bool false, x5, x6, .int .i64 (t + 1), x8] 78 ∧ w.grownBy w' (some sb) := by
  have y7 := h.cell 7
  have f7 := h.frozen 7
  have hS := (h.set 7 (.int .i64 (t + 1)))
  have hG : w.grownBy (w.setCell ⟨sb, 7, none⟩ (.int .i64 (t + 1))) (some sb) := gset _ _ _
  have hR : Rd (w.setCell ⟨sb, 7, none⟩ (.int .i64 (t + 1))) F (.slice a n c) l := by
    obtain ⟨a', b', off, c', e, hc, hnn, ha, hcell⟩ := hb
    refine ⟨a', b', off, c', e, hc, hnn, fun q => ⟨(ha q).1, Nat.lt_of_lt_of_le (ha q).2.1 hG.size, (ha q).2.2⟩, fun i hi => ?_⟩
    have hq := ha (by omega)
    exact (cell_at hG hq.2.1 (by intro e; injection e with e; exact hF _ hq.2.2 e.symm)).trans (hcell i hi)
  have hs : (w.setCell ⟨sb, 7, none⟩ (.int .i64 (t + 1))).heap.size = w.heap.size := by simp
  have y4 := hS.cell 4
  obtain ⟨w1, hw1⟩ : ∃ x, w.setCell ⟨sb, 7, none⟩ (.int .i64 (t + 1)) = x := ⟨_, rfl⟩
  rw [hw1] at hS hG hR hs y4
  have HL := hid (lend_any w1 _ F l hR hl)
  have HS := hid hS
  have HG := hid hG
  have HZ := hid hs
  have ht1 := ht.1
  have ht2 := ht.2
  have y4' : w1.cell? ⟨sb, 4, none⟩ = some (.bool false) := y4
  have y7' : w.cell? ⟨sb, 7, none⟩ = some (.int .i64 t) := y7
  clear h hb hR hS hG hs y4 y7 hl ht
  go_enter Tryz.func22, Tryz.ntmps22
  go_wp2_with (go_at_call 53; (with_reducible refine HL.out.mono ?_); rintro e w2 ⟨v, rfl, hv, hg⟩; have HV := hid hv; have HG2 := hid hg; clear hv hg)
  go_ret
  refine ⟨v, rfl, ?_, HS.out.keep HG2.out, gtrans HG.out (gsome HG2.out (some sb))⟩
  have := HV.out
  rw [HZ.out] at this
  exact this
end Go.Proofs.YtlgjmdianmijeaaGreat

namespace Go.Proofs.YtlgjmdianmijeaaGreat
open Go Go.RowKit Go.MapKept Go.MuLone
open Go.RowKit (wrap32 wrap64)

variable {w w' u u' : World} {B b c : Nat} {A A' : Ab} {P Q : Nat → Prop}
set_option maxRecDepth 100000 in
theorem back_law {sb : Nat} {cs : List Value} (w : World) (h : Blk w sb cs 78) (hm : cs[4]? = some (.bool false)) (B : Nat) (v bv : Value) (F : Nat → Prop) (l : List UInt8) (hv : Lent w B v l) (hb : Rd w F bv l) (hl : l.length ≤ 1000000000) :
    Calls Tryz.prog 23 #[.pointer (some ⟨sb, 0, none⟩), v, bv] w fun e w' => e = .returned (.bool true) ∧ w.grownBy w' v.ownBlock := by
  have y4 : w.cell? ⟨sb, 4, none⟩ = some (.bool false) := (h.cell 4).trans hm
  have k1 := hv.out.rd.convert
  have k2 := hb.convert
  obtain ⟨t, ht⟩ : ∃ x, (⟨l.toArray⟩ : ByteArray) = x := ⟨_, rfl⟩
  rw [ht] at k1 k2
  have htt : (t.toList == t.toList) = true := by simp
  have HI := hid (intact_any w B v bv F l hv hb hl)
  have HO : Hid (∀ u, w.grownBy u none → Calls Tryz.prog 55 #[v] u fun e w' => e = .returned (.tuple #[]) ∧ u.grownBy w' v.ownBlock) := hid (fun u hu => (over_any u B v l (hv.keep hu).out (by omega)).mono fun e w' hq => ⟨hq.1, hq.2.1⟩)
  clear h hm hv hb ht hl
  go_enter Tryz.func23, Tryz.ntmps23
  go_wp2_with (first
    | (go_at_call 54; (with_reducible refine HI.out.mono ?_); rintro e w1 ⟨rfl, hg⟩; have HG1 := hid hg; clear hg)
    | (go_at_call 55; (with_reducible refine (HO.out _ HG1.out).mono ?_); rintro e w2 ⟨rfl, hg⟩; have HG2 := hid hg; clear hg))
  go_ret
  exact ⟨rfl, gtrans (gsome HG1.out _) HG2.out⟩
theorem Lent.below {w : World} {B C : Nat} {v : Value} {l : List UInt8} (h : Lent w B v l) (hC : C ≤ B) : Lent w C v l := by
  obtain ⟨g, c, h1, h2, h3⟩ := h
  exact ⟨g, c, h1, h2, h3.below hC⟩
theorem Lent.len {w : World} {B : Nat} {v : Value} {l : List UInt8} (h : Lent w B v l) : ∃ a c, v = .slice a l.length c := by
  obtain ⟨g, c, h1, _⟩ := h
  exact ⟨_, c, h1⟩
set_option maxRecDepth 100000 in
set_option maxHeartbeats 1600000 in
theorem lendFile_any (w : World) (s : ByteArray) (a : Option Addr) (n c : Nat) (F : Nat → Prop) (l : List UInt8) (hv : Rd w F (.slice a n c) l) (hl : l.length ≤ 1000000000) :
    Calls Tryz.prog 125 #[.agg #[.string s, .slice a n c]] w fun e w' => ∃ a' c', e = .returned (.agg #[.string s, .slice a' n c']) ∧ Lent w' w.heap.size (.slice a' n c') l ∧ w.grownBy w' none := by
  have HN : Hid (l.length = n) := hid (by obtain ⟨_, _, _, _, e, _⟩ := hv; injection e with _ e _; exact e.symm)
  have HCk : Hid (∀ u, w.grownBy u none → Calls Tryz.prog 53 #[.slice a n c] u fun e w' => ∃ a' c', e = .returned (.slice a' n c') ∧ Lent w' u.heap.size (.slice a' n c') l ∧ u.grownBy w' none) := hid (fun u hu => (lend_any u _ F l (hv.keep hu) hl).mono fun e w' ⟨v', h1, h2, h3⟩ => by
    obtain ⟨a', c', rfl⟩ := h2.len
    rw [HN.out] at h1 h2
    exact ⟨a', c', h1, h2, h3⟩)
  clear hv hl HN
  go_enter Tryz.func125, Tryz.ntmps125
  go_wp2_with (first
    | ((with_reducible refine wpList_box_row (by with_unfolding_all rfl) 130 _ (by with_unfolding_all rfl) [.string s, .slice a n c] (by with_unfolding_all rfl) ?_); intro w1 B1 s1 g1; have HB1 := hid B1; have HG1 := hid g1; have HS1 := hid s1; obtain ⟨b1, hb1⟩ : ∃ x, w.heap.size = x := ⟨_, rfl⟩; rw [hb1] at HB1 ⊢; have HL1 := hid hb1; clear B1 g1 s1 hb1)
    | (have := HB2; clear this; (with_reducible refine wpList_alloc_row (by with_unfolding_all rfl) 130 (by with_unfolding_all rfl) [.string ⟨#[]⟩, .slice none 0 0] Tryz.zero130 ?_); intro w3 B3 s3 g3; have HB3 := hid B3; have HG3 := hid g3; have HS3 := hid s3; clear B3 g3 s3)
    | ((with_reducible refine wpList_alloc_row (by with_unfolding_all rfl) 130 (by with_unfolding_all rfl) [.string ⟨#[]⟩, .slice none 0 0] Tryz.zero130 ?_); intro w2 B2 s2 g2; have HB2 := hid B2; have HG2 := hid g2; have HS2 := hid s2; clear B2 g2 s2)
    | (have := HR6; clear this; (with_reducible refine wpList_load_part (by with_unfolding_all rfl) 130 _ (by with_unfolding_all rfl) w2.heap.size 0 [.string s, .slice a5 n c5] _ (by with_unfolding_all rfl) HB6.out.whole Tryz.underlying130 (by with_unfolding_all rfl) (by with_unfolding_all exact Tryz.size130) ?_))
    | (with_reducible refine wpList_load_part (by with_unfolding_all rfl) 130 _ (by with_unfolding_all rfl) b1 0 [.string s, .slice a n c] _ (by with_unfolding_all rfl) (HB1.out.keep HG2.out).whole Tryz.underlying130 (by with_unfolding_all rfl) (by with_unfolding_all exact Tryz.size130) ?_)
    | (have := HR6; clear this; (with_reducible refine wpList_store_all (by with_unfolding_all rfl) 130 _ _ (by with_unfolding_all rfl) _ [.string ⟨#[]⟩, .slice none 0 0] [.string s, .slice a5 n c5] 130 (by with_unfolding_all rfl) (by with_unfolding_all rfl) HR6.out (by with_unfolding_all rfl) (by with_unfolding_all exact Tryz.size130) (file_one _ _ _ _) ?_); intro w7 B7 g7 s7; have HB7 := hid B7; have HG7 := hid g7; clear B7 g7 s7)
    | ((with_reducible refine wpList_store_all (by with_unfolding_all rfl) 130 _ _ (by with_unfolding_all rfl) _ [.string ⟨#[]⟩, .slice none 0 0] [.string s, .slice a n c] 130 (by with_unfolding_all rfl) (by with_unfolding_all rfl) HB3.out (by with_unfolding_all rfl) (by with_unfolding_all exact Tryz.size130) (file_one _ _ _ _) ?_); intro w4 B4 g4 s4; have HB4 := hid B4; have HG4 := hid g4; clear B4 g4 s4; have HR4 := hid ((HB2.out.keep HG3.out).on HG4.out (by simp; have := HS2.out; omega)); have HGx := hid ((gtrans (gtrans HG1.out HG2.out) HG3.out).andThen HG4.out (fun j hj => .inl (by injection hj with hj; have := HG1.out.size; have := HG2.out.size; omega))); have HQ4 := hid (((HB1.out.keep HG2.out).keep HG3.out).on HG4.out (by simp; have := HB1.out.lt; have := HG2.out.size; omega)); have y1 := HQ4.out.cell 1)
    | (go_at_call 53; (with_reducible refine (HCk.out _ HGx.out).mono ?_); rintro e w5 ⟨a5, c5, rfl, hO5, hg5⟩; have HO5 := hid hO5; have HG5 := hid hg5; clear hO5 hg5; have HB5 := hid (HB4.out.keep HG5.out); have HR5 := hid (HR4.out.keep HG5.out); have x0 := HB5.out.cell 1; have x0f := HB5.out.frozen 1; obtain ⟨W6, hW6⟩ : ∃ x, w5.setCell ⟨w2.heap.size, 1, none⟩ (.slice a5 n c5) = x := ⟨_, rfl⟩; have HB6 : Hid (Blk W6 w2.heap.size [.string s, .slice a5 n c5] 130) := hid (by rw [← hW6]; exact HB5.out.set 1 (.slice a5 n c5)); have HG6 := hid (gset w5 ⟨w2.heap.size, 1, none⟩ (.slice a5 n c5)); rw [hW6] at HG6; have HR6 := hid (HR5.out.on HG6.out (by simp; have := HS2.out; omega)); have HO6 := hid (HO5.out.on HG6.out (fun j hj e => by injection hj with hj; exact out_ne HO5.out.out HB5.out (by decide) (e.trans (congrArg some hj.symm))))))
  refine bodyPost_ret (results_blk rfl _ w1.heap.size 130 [.string s, .slice a5 n c5] _ rfl HB7.out Tryz.underlying130 rfl Tryz.size130) rfl ?_
  have q1 := HL1.out
  have q2 := HGx.out.size
  refine ⟨a5, c5, rfl, (HO6.out.on HG7.out (fun j hj e => ?_)).below (by omega), ((gtrans HGx.out HG5.out).andThen HG6.out (fun j hj => .inl (by injection hj with hj; have := HG1.out.size; have := HG2.out.size; omega))).andThen HG7.out (fun j hj => .inl (by injection hj with hj; have := HG1.out.size; omega))⟩
  injection hj with hj
  exact out_ne HO6.out.out HR6.out (by decide) (e.trans (congrArg some hj.symm))
end Go.Proofs.YtlgjmdianmijeaaGreat

namespace Go.Proofs.YtlgjmdianmijeaaGreat
open Go Go.RowKit Go.MapKept Go.MuLone
open Go.RowKit (wrap32 wrap64)

variable {w w' u u' : World} {B b c : Nat}
set_option maxRecDepth 100000 in
set_option maxHeartbeats 4000000 in
theorem backFile_any (w : World) (s : ByteArray) (ba ca : Option Addr) (bn bc cc : Nat) (B : Nat) (G : Nat → Prop) (l : List UInt8) (hx : Lent w B (.slice ba bn bc) l) (hy : Rd w G (.slice ca bn cc) l) (hl : l.length ≤ 1000000000) :
    Calls Tryz.prog 126 #[.agg [Value.string s, .slice ba bn bc].toArray, .agg [Value.string s, .slice ca bn cc].toArray] w fun e w' => e = .returned (.bool true) ∧ w.grownBy w' none := by
  have HE : Hid (∀ u, w.grownBy u none → Calls Tryz.prog 54 #[.slice ba bn bc, .slice ca bn cc] u fun e w' => e = .returned (.bool true) ∧ u.grownBy w' none) := hid (fun u hu => intact_any u B _ _ G l (hx.keep hu) (hy.keep hu) hl)
  have hss : (s.toList == s.toList) = true := by simp
  clear hx hy
  go_enter Tryz.func126, Tryz.ntmps126
  go_wp2_with (first
    | ((with_reducible refine wpList_box_row (by with_unfolding_all rfl) 130 _ (by with_unfolding_all rfl) [Value.string s, .slice ba bn bc] (by with_unfolding_all rfl) ?_); intro w1 B1 s1 g1; have HB1 := hid B1; have HG1 := hid g1; clear B1 s1 g1)
    | ((with_reducible refine wpList_box_row (by with_unfolding_all rfl) 130 _ (by with_unfolding_all rfl) [Value.string s, .slice ca bn cc] (by with_unfolding_all rfl) ?_); intro w2 B2 s2 g2; have HB2 := hid B2; have HG2 := hid g2; have c1 := (HB1.out.keep g2).cell 0; have c2 := (HB1.out.keep g2).cell 1; have c3 := B2.cell 0; have c4 := B2.cell 1; clear B2 s2 g2)
    | (go_at_call 54; refine (HE.out _ (gtrans HG1.out HG2.out)).mono ?_; rintro e w3 ⟨rfl, hg⟩; have HG3 := hid hg; clear hg))
  go_ret
  exact ⟨rfl, gtrans HG1.out (gtrans HG2.out HG3.out)⟩
set_option maxRecDepth 100000 in
set_option maxHeartbeats 1600000 in
theorem overFile_any (w : World) (s : ByteArray) (a : Option Addr) (n c : Nat) (B : Nat) (l : List UInt8) (hx : Out B w (.slice a n c) l) (hl : l.length ≤ 140737488355328) :
    Calls Tryz.prog 127 #[.agg [Value.string s, .slice a n c].toArray] w fun e w' => e = .returned (.tuple #[]) ∧ w.grownBy w' (Value.slice a n c).ownBlock := by
  have HO : Hid (∀ u, w.grownBy u none → Calls Tryz.prog 55 #[.slice a n c] u fun e w' => e = .returned (.tuple #[]) ∧ u.grownBy w' (Value.slice a n c).ownBlock) := hid (fun u hu => (over_any u B _ l (hx.keep hu) hl).mono fun e w' hq => ⟨hq.1, hq.2.1⟩)
  obtain ⟨r, hr⟩ : ∃ x, (Value.slice a n c).ownBlock = x := ⟨_, rfl⟩
  rw [hr] at HO ⊢
  clear hx hr
  go_enter Tryz.func127, Tryz.ntmps127
  go_wp2_with (first
    | ((with_reducible refine wpList_box_row (by with_unfolding_all rfl) 130 _ (by with_unfolding_all rfl) [Value.string s, .slice a n c] (by with_unfolding_all rfl) ?_); intro w1 B1 s1 g1; have HB1 := hid B1; have HG1 := hid g1; have c1 := B1.cell 0; have c2 := B1.cell 1; clear B1 s1 g1)
    | (go_at_call 55; refine (HO.out _ HG1.out).mono ?_; rintro e w3 ⟨rfl, hg⟩; have HG3 := hid hg; clear hg))
  go_end0
  exact ⟨rfl, gtrans (gsome HG1.out _) HG3.out⟩
end Go.Proofs.YtlgjmdianmijeaaGreat

namespace Go.Proofs.YtlgjmdianmijeaaGreat
open Go Go.RowKit Go.MapKept Go.MuLone
open Go.RowKit (wrap32 wrap64)

variable {w w' u u' : World} {B : Nat}
def mkN : ByteArray := ⟨#[109, 97, 114, 107]⟩
def mkF : Fl := ⟨mkN, .slice none 0 0, []⟩
/-- Files that are lent: each with its marks, and spare ones behind them. -/
structure LentF (B : Nat) (w : World) (v : Value) (E : List Fl) : Prop where
  row : ∃ g cap, v = .slice (some ⟨g, 0, none⟩) E.length cap ∧ E.length + 9 ≤ cap ∧ OutF B w (.slice (some ⟨g, 0, none⟩) (E.length + 9) cap) (E ++ List.replicate 9 mkF)
  lent : ∀ f ∈ E, Lent w B f.v f.bs
  apart : ApF E
/-- The row under way. -/
structure LfU (B : Nat) (w : World) (v : Value) (E : List Fl) (j : Nat) : Prop where
  row : OutF B w v (E ++ List.replicate j mkF)
  lent : ∀ f ∈ E, Lent w B f.v f.bs
theorem LfU.next {v v' : Value} {E : List Fl} {j : Nat} (h : LfU B w v E j) (hg : w.grownBy u none) (hr : OutF B u' v' (E ++ List.replicate j mkF ++ [mkF])) (hg2 : u.grownBy u' v.ownBlock) : LfU B u' v' E (j + 1) := by
  refine ⟨by rw [List.replicate_succ', ← List.append_assoc]; exact hr, fun f hf => ((h.lent f hf).keep hg).on hg2 (fun k hk => ?_)⟩
  exact own_ne h.row.row (h.lent f hf).out (by decide) k hk
theorem LfU.more {v v' : Value} {E : List Fl} {f0 : Fl} (h : LfU B w v E 0) (hg : w.grownBy u none) (hn : Lent u B f0.v f0.bs) (hr : OutF B u' v' (E ++ [f0])) (hg2 : u.grownBy u' v.ownBlock) : LfU B u' v' (E ++ [f0]) 0 := by
  refine ⟨by rw [List.replicate_zero, List.append_nil]; exact hr, fun f hf => ?_⟩
  rcases List.mem_append.1 hf with hf | hf
  · exact ((h.lent f hf).keep hg).on hg2 (fun k hk => own_ne h.row.row (h.lent f hf).out (by decide) k hk)
  · rw [List.mem_singleton.1 hf]
    have h0 : OutF B u v (E ++ List.replicate 0 mkF) := h.row.keep hg
    exact hn.on hg2 (fun k hk => own_ne h0.row hn.out (by decide) k hk)
theorem builtM : Tryz.prog.built 130 [(0, .string mkN)] = some [Value.string mkN, .slice none 0 0].toArray := by kernel_rfl
set_option maxRecDepth 100000 in
set_option maxHeartbeats 4000000 in
theorem lendFiles_any (w : World) (F : Nat → Prop) (a : Option Addr) (g off c : Nat) (L : Cn) (hA : ArF w F a g off L) (hL : L.length ≤ 100000) (hb : ∀ p ∈ L, p.2.length ≤ 1000000000) :
    Calls Tryz.prog 75 #[.slice a L.length c] w fun e w' => ∃ v E, e = .returned v ∧ LentF w.heap.size w' v E ∧ cont E = L ∧ w.grownBy w' none := by
  have HA : Hid (∀ u, w.grownBy u none → ArF u F a g off L) := hid (fun u hu => hA.keep hu)
  have HBl := hid hb
  obtain ⟨n, HN⟩ : ∃ n, Hid (L.length = n) := ⟨_, hid rfl⟩
  have hn : n ≤ 100000 := by rw [← HN.out]; exact hL
  rw [HN.out]
  obtain ⟨wm, hmk, HM⟩ := make58 w (n + 9) (by omega)
  rw [show ((n + 9 : Nat) : Int) = (n : Int) + 9 by omega] at hmk
  clear hA hL hb
  go_enter Tryz.func75, Tryz.ntmps75
  go_upto_region 3 with fail
  clear hmk
  go_loopw [4, 3] (fun iv v wr => ∃ (i : Nat) (xa : Option Addr) (xc : Nat), iv = .int .i64 i ∧ v = .slice xa i xc ∧ i ≤ n ∧ Hid (∃ E, LfU w.heap.size wr (.slice xa i xc) E 0 ∧ cont E = L.take i ∧ ApF E ∧ w.grownBy wr none)) (fun iv _ _ => n - (intOf iv).toNat)
  case atStart => exact ⟨0, _, _, rfl, rfl, Nat.zero_le _, hid ⟨[], ⟨HM.out.1, fun f hf => by cases hf⟩, rfl, List.Pairwise.nil, HM.out.2⟩⟩
  case round =>
    obtain ⟨i, xa, xc, rfl, rfl, hi, HC⟩ := hrel
    obtain ⟨w0, hw0⟩ : ∃ x : World, x = wr := ⟨_, rfl⟩
    rw [← hw0] at HC ⊢
    clear hw0 HM
    obtain ⟨E, HE⟩ : ∃ E, Hid (LfU w.heap.size w0 (.slice xa i xc) E 0 ∧ cont E = L.take i ∧ ApF E ∧ w.grownBy w0 none) := ⟨HC.out.choose, hid HC.out.choose_spec⟩
    clear HC
    have HO0 : Hid (OutF w.heap.size w0 (.slice xa i xc) E) := hid (by have := HE.out.1.row; rw [List.replicate_zero, List.append_nil] at this; exact this)
    by_cases hlt : i < n
    · as_aux_lemma =>
      have hlt' : (i : Int) < (n : Int) := by omega
      have hiL : i < L.length := by rw [HN.out]; exact hlt
      obtain ⟨rfl, hgl, -⟩ := (HA.out w0 HE.out.2.2.2).at_ (by omega)
      obtain ⟨q, Hq⟩ : ∃ x, Hid (L[i] = x) := ⟨_, hid rfl⟩
      obtain ⟨s, l⟩ := q
      have HC : Hid (w0.cell? ⟨g, off + i * 2, none⟩ = some (.string s) ∧ ∃ v, w0.cell? ⟨g, off + i * 2 + 1, none⟩ = some v ∧ Rd w0 F v l) := hid (by have := (HA.out w0 HE.out.2.2.2).each i hiL; rw [Hq.out] at this; exact this)
      obtain ⟨v, hv1, hv2⟩ := HC.out.2
      have HV := hid hv2
      have HLl : Hid (l.length ≤ 1000000000) := hid (HBl.out (s, l) (by rw [← Hq.out]; exact List.getElem_mem _))
      obtain ⟨ba, -, -, bc, rfl, -⟩ := hv2
      obtain ⟨bn, HBn⟩ : ∃ x, Hid (l.length = x) := ⟨_, hid rfl⟩
      rw [HBn.out] at HV hv1
      have HR : Hid (w0.rangeAt g (off + i * 2) [.string s, .slice ba bn bc]) := hid (two_range HC.out.1 hv1)
      have HCf := hid (lendFile_any w0 s ba bn bc F l HV.out HLl.out)
      have HEl : Hid (E.length ≤ 1000000) := hid (by have := congrArg List.length HE.out.2.1; rw [len_cont, List.length_take] at this; omega)
      clear HC hv1 HV
      go_wp2_with (first
        | (with_reducible refine wpList_load_part (by with_unfolding_all rfl) 130 _ (by with_unfolding_all rfl) g (off + i * 2) [.string s, .slice ba bn bc] _ (by with_unfolding_all rfl) HR.out Tryz.underlying130 (by with_unfolding_all rfl) (by with_unfolding_all exact Tryz.size130) ?_)
        | (go_at_call 125; (with_reducible refine HCf.out.mono ?_); rintro e w1 ⟨a1, c1, rfl, hO, hg⟩; have HO1 := hid hO; have HG1 := hid hg; clear hO hg)
        | (at_builtin; (refine wpList_append_file rfl _ _ rfl w.heap.size w1.heap.size E s (.slice a1 bn c1) l ((HO0.out.keep HG1.out).keep (galloc w1 _ none)) rfl (Blk.new w1 [.string s, .slice a1 bn c1] 130) ((HO1.out.out.below HE.out.2.2.2.size).keep (galloc w1 _ none)) HEl.out (by have := (gtrans HE.out.2.2.2 (gtrans HG1.out (galloc w1 (.cells #[.string s, .slice a1 bn c1] 130) none))).size; exact this) ?_); intro v2 w2 hF2 hg2 hb2; have HF2 := hid hF2; have HG2 := hid hg2; clear hF2 hg2 hb2))
      have HRl : Hid (∃ (i' : Nat) (xa' : Option Addr) (xc' : Nat), Value.int .i64 ((i : Int) + 1) = .int .i64 i' ∧ v2 = .slice xa' i' xc' ∧ i' ≤ n ∧ Hid (∃ E, LfU w.heap.size w2 (.slice xa' i' xc') E 0 ∧ cont E = L.take i' ∧ ApF E ∧ w.grownBy w2 none)) := hid (by
        have hl : (E ++ [(⟨s, .slice a1 bn c1, l⟩ : Fl)]).length = i + 1 := by
          have := congrArg List.length HE.out.2.1
          rw [len_cont, List.length_take] at this
          rw [List.length_append, List.length_singleton]
          omega
        have hX := HE.out.1.more (gtrans HG1.out (galloc w1 _ none)) (f0 := ⟨s, .slice a1 bn c1, l⟩) ((HO1.out.below HE.out.2.2.2.size).keep (galloc w1 _ none)) HF2.out HG2.out
        obtain ⟨xa', xc', hv2⟩ := HF2.out.len
        rw [hl] at hv2
        subst hv2
        refine ⟨i + 1, xa', xc', by go_num, rfl, by omega, hid ⟨_, hX, ?_, ?_, ?_⟩⟩
        · unfold cont
          rw [List.map_append]
          show cont E ++ [(s, l)] = _
          rw [HE.out.2.1, List.take_succ_eq_append_getElem hiL, Hq.out]
        · refine HE.out.2.2.1.snoc (fun f hf => ?_)
          cases hk : f.v.ownBlock with
          | none => exact .inl rfl
          | some k =>
            refine .inr (fun e => ?_)
            have h1 := ((HO0.out.own f hf).lt k hk).2
            have h2 := HO1.out.out.block k e.symm
            omega
        · exact (gtrans HE.out.2.2.2 (gtrans HG1.out (galloc w1 _ none))).andThen HG2.out (fun j hj => .inl (HO0.out.low j hj)))
      go_roundw
      case rel => exact HRl.out
      case measure => simp [intOf]; omega
    · as_aux_lemma =>
      have hge : ¬ (i : Int) < (n : Int) := by omega
      have hin : i = n := by omega
      subst hin
      have HEn : Hid (E.length = i) := hid (by have := congrArg List.length HE.out.2.1; rw [len_cont, List.length_take] at this; have := HN.out; omega)
      have HQ : Hid (cont E = L) := hid (by rw [HE.out.2.1, ← HN.out, List.take_length])
      go_upto_region 7 with fail
      go_loopw [5, 3] (fun iv v wr => ∃ (j : Nat) (xa : Option Addr) (xc : Nat), iv = .int .i64 j ∧ v = .slice xa (i + j) xc ∧ j ≤ 9 ∧ Hid (LfU w.heap.size wr (.slice xa (i + j) xc) E j ∧ w.grownBy wr none)) (fun iv _ _ => 9 - (intOf iv).toNat)
      case atStart => exact ⟨0, xa, xc, rfl, rfl, Nat.zero_le _, hid ⟨HE.out.1, HE.out.2.2.2⟩⟩
      case round =>
        obtain ⟨j, ya, yc, rfl, rfl, hj, HC⟩ := hrel
        obtain ⟨v0, hv0⟩ : ∃ x : World, x = wr := ⟨_, rfl⟩
        rw [← hv0] at HC ⊢
        clear hv0
        by_cases hjl : j < 9
        · have hjl' : (j : Int) < 9 := by omega
          have HEl : Hid ((E ++ List.replicate j mkF).length ≤ 1000000) := hid (by rw [List.length_append, List.length_replicate, HEn.out]; omega)
          obtain ⟨mn, Hmn⟩ : ∃ x, Hid (mkN = x) := ⟨_, hid rfl⟩
          go_wp2_with (first
            | (with_reducible refine wpList_build_of (by with_unfolding_all rfl) 130 _ (by with_unfolding_all rfl) [(0, .string mkN)] (by with_unfolding_all rfl) [Value.string mkN, .slice none 0 0] builtM ?_)
            | (at_builtin; (refine wpList_append_file rfl _ _ rfl w.heap.size v0.heap.size (E ++ List.replicate j mkF) mkN (.slice none 0 0) [] (HC.out.1.row.keep (galloc v0 _ none)) rfl (Blk.new v0 [.string mkN, .slice none 0 0] 130) (Out.nil _ _) HEl.out (by have := (gtrans HC.out.2 (galloc v0 (.cells #[.string mkN, .slice none 0 0] 130) none)).size; exact this) ?_); intro v2 w2 hF2 hg2 hb2; have HF2 := hid hF2; have HG2 := hid hg2; clear hF2 hg2 hb2))
          have HRl : Hid (∃ (j' : Nat) (xa' : Option Addr) (xc' : Nat), Value.int .i64 ((j : Int) + 1) = .int .i64 j' ∧ v2 = .slice xa' (i + j') xc' ∧ j' ≤ 9 ∧ Hid (LfU w.heap.size w2 (.slice xa' (i + j') xc') E j' ∧ w.grownBy w2 none)) := hid (by
            have hX := HC.out.1.next (galloc v0 _ none) HF2.out HG2.out
            obtain ⟨xa', xc', hv2⟩ := HF2.out.len
            rw [List.length_append, List.length_append, List.length_replicate, HEn.out, List.length_singleton] at hv2
            subst hv2
            exact ⟨j + 1, xa', xc', by go_num, rfl, by omega, hid ⟨hX, (gtrans HC.out.2 (galloc v0 _ none)).andThen HG2.out (fun k hk => .inl (HC.out.1.row.low k hk))⟩⟩)
          go_roundw
          case rel => exact HRl.out
          case measure => simp [intOf]; omega
        · have hjg : ¬ (j : Int) < 9 := by omega
          have hj9 : j = 9 := by omega
          subst hj9
          obtain ⟨gg, cap, hv, hle⟩ : ∃ gg cap, Value.slice ya (i + 9) yc = .slice (some ⟨gg, 0, none⟩) (i + 9) cap ∧ i + 9 ≤ cap := by
            rcases HC.out.1.row.row.2 with ⟨_, h9⟩ | ⟨g, cap, cur, e, hb, hg, hle, _⟩
            · rw [List.length_append, List.length_replicate] at h9; omega
            · rw [List.length_append, List.length_replicate, HEn.out] at e hle
              exact ⟨g, cap, e, hle⟩
          injection hv with hv1 _ hv3
          subst hv1; subst hv3
          have hcm : (i : Int) ≤ (yc : Int) := by omega
          go_wp2_with fail
          go_ret
          exact ⟨.slice (some ⟨gg, 0, none⟩) i yc, rfl, E, ⟨⟨gg, yc, by rw [HEn.out], by rw [HEn.out]; exact hle, by rw [HEn.out]; exact HC.out.1.row⟩, HC.out.1.lent, HE.out.2.2.1⟩, HQ.out, HC.out.2⟩
end Go.Proofs.YtlgjmdianmijeaaGreat
