/- Plain facts: files looked up behind a sort, a write, a removal. -/
import Derived.Test.YtpbiofnncdneoaaGreatDoorX12
import Derived.Lib.SmallJoins
namespace Go.Proofs.YtpbiofnncdneoaaGreatDoor
open Go Go.RowKit Go.MapKept Go.MuLone
open Go.RowKit (wrap32 wrap64)

def NdC (C : Cn) : Prop := (C.map (·.1)).Nodup
theorem get_set : ∀ (C : Cn) (s : ByteArray) (l : List UInt8) (t : ByteArray), getC (setC C s l) t = if t = s then some l else getC C t
  | [], s, l, t => by
    unfold setC getC
    by_cases e : t = s
    · rw [if_pos e, if_pos e.symm]
    · rw [if_neg e, if_neg (fun q => e q.symm)]; rfl
  | p :: C, s, l, t => by
    unfold setC
    by_cases e : p.1 = s
    · rw [if_pos e]
      unfold getC
      by_cases q : t = s
      · rw [if_pos q, if_pos q.symm]
      · rw [if_neg q, if_neg (fun z => q z.symm), if_neg (fun z => q (by rw [← z, e]))]
    · rw [if_neg e]
      unfold getC
      rw [get_set C s l t]
      by_cases q : p.1 = t
      · rw [if_pos q, if_pos q, if_neg (fun z => e (q.trans z))]
      · rw [if_neg q, if_neg q]
theorem get_none : ∀ {C : Cn} {s : ByteArray}, s ∉ C.map (·.1) → getC C s = none
  | [], s, _ => rfl
  | p :: C, s, h => by
    simp only [List.map_cons, List.mem_cons, not_or] at h
    unfold getC
    rw [if_neg (fun e => h.1 e.symm)]
    exact get_none h.2
theorem get_del : ∀ (C : Cn) (s t : ByteArray), NdC C → getC (delC C s) t = if t = s then none else getC C t
  | [], s, t, _ => by unfold delC getC; split <;> rfl
  | p :: C, s, t, h => by
    have h' : p.1 ∉ C.map (·.1) ∧ (C.map (·.1)).Nodup := List.nodup_cons.1 h
    unfold delC
    by_cases e : p.1 = s
    · rw [if_pos e]
      by_cases q : t = s
      · rw [if_pos q, q, ← e]; exact get_none h'.1
      · rw [if_neg q]
        conv => rhs; unfold getC
        rw [if_neg (fun z => q (by rw [← z, e]))]
    · rw [if_neg e]
      unfold getC
      rw [get_del C s t h'.2]
      by_cases q : p.1 = t
      · rw [if_pos q, if_pos q, if_neg (fun z => e (q.trans z))]
      · rw [if_neg q, if_neg q]
theorem get_mem : ∀ {C : Cn} {p : ByteArray × List UInt8}, NdC C → p ∈ C → getC C p.1 = some p.2
  | [], p, _, h => by cases h
  | q :: C, p, hn, h => by
    have h' : q.1 ∉ C.map (·.1) ∧ (C.map (·.1)).Nodup := List.nodup_cons.1 hn
    unfold getC
    rcases List.mem_cons.1 h with rfl | h
    · rw [if_pos rfl]
    · rw [if_neg (fun e => h'.1 (by rw [e]; exact List.mem_map.2 ⟨p, h, rfl⟩))]
      exact get_mem h'.2 h
theorem mem_get : ∀ {C : Cn} {s : ByteArray} {l : List UInt8}, getC C s = some l → (s, l) ∈ C
  | [], s, l, h => by cases h
  | q :: C, s, l, h => by
    unfold getC at h
    by_cases e : q.1 = s
    · rw [if_pos e] at h
      injection h with h
      rw [← e, ← h]
      exact List.mem_cons_self ..
    · rw [if_neg e] at h
      exact List.mem_cons_of_mem _ (mem_get h)
theorem ba_back (s : ByteArray) : (⟨s.data.toList.toArray⟩ : ByteArray) = s := by cases s; rfl
theorem srt_names (C : Cn) : ((srtC C).map (·.1)).Perm (C.map (·.1)) := by
  have h1 : (srtC C).map (·.1) = (srtL (C.map (fun p => p.1.data.toList))).map (fun n => (⟨n.toArray⟩ : ByteArray)) := by
    unfold srtC
    rw [List.map_map]
    rfl
  rw [h1]
  have h2 : ((srtL (C.map (fun p => p.1.data.toList))).map (fun n => (⟨n.toArray⟩ : ByteArray))).Perm ((C.map (fun p => p.1.data.toList)).map (fun n => (⟨n.toArray⟩ : ByteArray))) := (List.mergeSort_perm _ leB).map _
  refine h2.trans (List.Perm.of_eq ?_)
  rw [List.map_map]
  refine List.map_congr_left fun p _ => ?_
  exact ba_back p.1
theorem srt_nd {C : Cn} (h : NdC C) : NdC (srtC C) := (srt_names C).nodup_iff.2 h
theorem srt_mem {C : Cn} {p : ByteArray × List UInt8} (hn : NdC C) (h : p ∈ srtC C) : getC C p.1 = some p.2 := by
  unfold srtC at h
  obtain ⟨n, h1, h2⟩ := List.mem_map.1 h
  have h3 : n ∈ C.map (fun p => p.1.data.toList) := (List.mergeSort_perm _ leB).mem_iff.1 h1
  obtain ⟨q, hq, he⟩ := List.mem_map.1 h3
  have h4 : (⟨n.toArray⟩ : ByteArray) = q.1 := by rw [← he]
  rw [← h2]
  show getC C ⟨n.toArray⟩ = some ((getC C ⟨n.toArray⟩).getD [])
  rw [h4, get_mem hn hq]
  rfl
theorem get_srt {C : Cn} (hn : NdC C) (s : ByteArray) : getC (srtC C) s = getC C s := by
  by_cases h : s ∈ C.map (·.1)
  · obtain ⟨p, hp, rfl⟩ := List.mem_map.1 h
    have h1 : p.1 ∈ (srtC C).map (·.1) := (srt_names C).mem_iff.2 (List.mem_map.2 ⟨p, hp, rfl⟩)
    obtain ⟨q, hq, he⟩ := List.mem_map.1 h1
    have he' : q.1 = p.1 := he
    have h2 := srt_mem hn hq
    have h3 := get_mem (srt_nd hn) hq
    rw [he'] at h2 h3
    rw [h2, h3]
  · rw [get_none h, get_none (fun q => h ((srt_names C).mem_iff.1 q))]
theorem srt_ext {C D : Cn} (h1 : (C.map (·.1)).Perm (D.map (·.1))) (h2 : ∀ s, getC C s = getC D s) : srtC C = srtC D := by
  have h3 : srtL (C.map (fun p => p.1.data.toList)) = srtL (D.map (fun p => p.1.data.toList)) := by
    refine mergeSort_of_perm ?_
    have := h1.map (fun s : ByteArray => s.data.toList)
    rw [List.map_map, List.map_map] at this
    exact this
  unfold srtC
  rw [h3]
  refine List.map_congr_left fun n _ => ?_
  rw [h2]
theorem del_names : ∀ (C : Cn) (s : ByteArray), (getC C s).isSome = true → (C.map (·.1)).Perm (s :: (delC C s).map (·.1))
  | [], s, h => by cases h
  | p :: C, s, h => by
    unfold delC
    unfold getC at h
    by_cases e : p.1 = s
    · rw [if_pos e, List.map_cons, e]
    · rw [if_neg e] at h ⊢
      rw [List.map_cons, List.map_cons]
      exact ((del_names C s h).cons p.1).trans (List.Perm.swap ..)
theorem set_new : ∀ (C : Cn) (s : ByteArray) (l : List UInt8), getC C s = none → setC C s l = C ++ [(s, l)]
  | [], s, l, _ => rfl
  | p :: C, s, l, h => by
    unfold getC at h
    by_cases e : p.1 = s
    · rw [if_pos e] at h; cases h
    · rw [if_neg e] at h
      unfold setC
      rw [if_neg e, set_new C s l h]
      rfl
theorem self_srt {C : Cn} {s : ByteArray} {old : List UInt8} (hn : NdC C) (h : getC C s = some old) : srtC (setC (delC C s) s old) = srtC C := by
  have hd : getC (delC C s) s = none := by rw [get_del C s s hn, if_pos rfl]
  refine srt_ext ?_ (fun t => ?_)
  · rw [set_new _ _ _ hd, List.map_append]
    refine (List.perm_append_comm).trans ?_
    exact (del_names C s (by rw [h]; rfl)).symm
  · rw [get_set, get_del C s t hn]
    by_cases e : t = s
    · rw [if_pos e, e, h]
    · rw [if_neg e, if_neg e]
variable {w w' : World} {B b : Nat} {A : Ab} {P : Nat → Prop}
theorem DkP.nd (h : DkP w B b A P) : NdC A.C := by
  obtain ⟨_, m, F, h2, h3, _⟩ := h
  have := h2.map.nodup
  unfold NdC
  rw [← h3]
  unfold cont
  rw [List.map_map]
  exact this
/-- A disk that is not armed and has its power. -/
def Ab.calm (A : Ab) : Prop := A.off = false ∧ A.ar = 0
end Go.Proofs.YtpbiofnncdneoaaGreatDoor

namespace Go.Proofs.YtpbiofnncdneoaaGreatDoor
open Go Go.RowKit Go.MapKept Go.MuLone
open Go.RowKit (wrap32 wrap64)

theorem out_ne {B : Nat} {w : World} {v : Value} {l : List UInt8} {g : Nat} {cs : List Value} {t : TypeId} (h : Out B w v l) (hb : Blk w g cs t) (ht : t ≠ 5) : v.ownBlock ≠ some g := fun e => by
  rcases h.2 with ⟨h1, _⟩ | ⟨g', cap, cur, hv, hB, hgg, _⟩
  · rw [h1] at e; cases e
  · rw [hv] at e
    injection e with e
    have e' : g' = g := e
    subst e'
    unfold Blk at hb
    rw [hgg] at hb
    injection hb with hb
    injection hb with _ hb
    exact ht hb.symm
variable {w w' : World} {B b m : Nat} {lk room : Int} {off : Bool} {wr ar kp : Int} {F : List Fl}
/-- Over: a row of the caller's own is written over. -/
theorem Out.set {B : Nat} {w : World} {g n c : Nat} {l : List UInt8} (h : Out B w (.slice (some ⟨g, 0, none⟩) n c) l) (i : Nat) (x : UInt8) : Out B (w.setCell ⟨g, i, none⟩ (.int .u8 x.toNat)) (.slice (some ⟨g, 0, none⟩) n c) (l.set i x) := by
  rcases h.2 with ⟨e, _⟩ | ⟨g', cap, cur, e, hb, hg, hle, hm, hs, ht⟩
  · cases e
  · injection e with e1 e2 e3
    injection e1 with e1
    injection e1 with e1 _ _
    subst e1
    subst e3
    refine ⟨by rw [byteCells_length, Nat.mul_one], .inr ⟨g, c, cur.setIfInBounds i (.int .u8 x.toNat), by rw [List.length_set, e2], hb, ?_, by rw [List.length_set]; exact hle, hm, by simpa using hs, ?_⟩⟩
    · exact Go.Joins.block_setCell hg _
    · rw [Array.toList_setIfInBounds, List.length_set]
      rw [List.take_set, ht]
      unfold Lib.byteCells
      rw [List.map_set]
theorem gtr_own {w w1 w2 : World} {g : Option Nat} (h : w.grownBy w1 g) (k : w1.grownBy w2 g) : w.grownBy w2 g := gtrans h k
set_option maxRecDepth 100000 in
set_option maxHeartbeats 800000 in
theorem over_any (w : World) (B : Nat) (v : Value) (l : List UInt8) (hv : Out B w v l) (hl : l.length ≤ 140737488355328) :
    Calls Tryz.prog 26 #[v] w fun e w' => e = .returned (.tuple #[]) ∧ w.grownBy w' v.ownBlock ∧ ∃ l', Out B w' v l' ∧ l'.length = l.length := by
  by_cases h0 : l = []
  · subst h0
    obtain ⟨a, c, rfl⟩ := hv.len
    have HV := hid hv
    clear hv hl
    go_enter Tryz.func26, Tryz.ntmps26
    go_upto_region 1 with fail
    go_loopw [2] (fun iv wr => iv = .int .i64 0 ∧ Hid (wr = w)) (fun _ _ => 0)
    case atStart => exact ⟨rfl, hid rfl⟩
    case round =>
      obtain ⟨rfl, HW⟩ := hrel
      have hw := HW.out
      subst hw
      go_wp2_with fail
      go_end0
      first | exact ⟨rfl, grefl _ _, HV.out⟩ | exact ⟨rfl, grefl _ _, [], HV.out, rfl⟩
  · obtain ⟨g, c, e⟩ : ∃ g c, v = .slice (some ⟨g, 0, none⟩) l.length c := by
      rcases hv.2 with ⟨_, e2⟩ | ⟨g, c, cur, e, _⟩
      · exact absurd (List.eq_nil_of_length_eq_zero e2) h0
      · exact ⟨g, c, e⟩
    subst e
    have HV := hid hv
    obtain ⟨n, hn⟩ : ∃ n, l.length = n := ⟨_, rfl⟩
    rw [hn] at HV hl ⊢
    clear hv
    go_enter Tryz.func26, Tryz.ntmps26
    go_upto_region 1 with fail
    go_loopw [2] (fun iv wr => ∃ i : Nat, iv = .int .i64 i ∧ i ≤ n ∧ Hid (w.grownBy wr (some g) ∧ ∃ l', Out B wr (.slice (some ⟨g, 0, none⟩) n c) l' ∧ l'.length = n)) (fun iv _ => n - (intOf iv).toNat)
    case atStart => exact ⟨0, rfl, Nat.zero_le _, hid ⟨grefl _ _, l, HV.out, hn⟩⟩
    case round =>
      obtain ⟨i, rfl, hi, HC⟩ := hrel
      by_cases hlt : i < n
      · have hlt' : (i : Int) < (n : Int) := by omega
        obtain ⟨l', HO⟩ : ∃ l', Hid (Out B wr (.slice (some ⟨g, 0, none⟩) n c) l' ∧ l'.length = n) := ⟨HC.out.2.choose, hid HC.out.2.choose_spec⟩
        have hcell : ∃ y, wr.cell? ⟨g, i, none⟩ = some y ∧ wr.frozen? ⟨g, i, none⟩ = false := by
          rcases HO.out.1.2 with ⟨e, _⟩ | ⟨g', cap, cur, e, hb, hg, hle, hm, hs, ht⟩
          · cases e
          · injection e with e1 e2 e3
            injection e1 with e1
            injection e1 with e1 _ _
            subst e1
            refine ⟨cur[i]'(by omega), by simp [World.cell?, hg], by simp [World.frozen?, hg]⟩
        obtain ⟨y, hc1, hc2⟩ := hcell
        have HN : Hid (w.grownBy (wr.setCell ⟨g, i, none⟩ (.int .u8 238)) (some g) ∧ ∃ l', Out B (wr.setCell ⟨g, i, none⟩ (.int .u8 238)) (.slice (some ⟨g, 0, none⟩) n c) l' ∧ l'.length = n) := hid ⟨gtr_own HC.out.1 (gset wr ⟨g, i, none⟩ (.int .u8 238)), l'.set i 238, HO.out.1.set i 238, by rw [List.length_set]; exact HO.out.2⟩
        clear HC HO
        go_wp2_with fail
        go_roundw
        case rel => exact ⟨i + 1, by go_num, by omega, HN⟩
        case measure => simp [intOf]; omega
      · have hlt' : ¬ (i : Int) < (n : Int) := by omega
        go_wp2_with fail
        go_end0
        exact ⟨rfl, HC.out⟩
end Go.Proofs.YtpbiofnncdneoaaGreatDoor

namespace Go.Proofs.YtpbiofnncdneoaaGreatDoor
open Go Go.RowKit Go.MapKept Go.MuLone
open Go.RowKit (wrap32 wrap64)

set_option maxRecDepth 100000 in
set_option maxHeartbeats 1600000 in
theorem copyFile_any (w : World) (s : ByteArray) (a : Option Addr) (n c : Nat) (F : Nat → Prop) (l : List UInt8) (hv : Rd w F (.slice a n c) l) (hl : l.length ≤ 140737488355328) :
    Calls Tryz.prog 45 #[.agg #[.string s, .slice a n c]] w fun e w' => ∃ a' c', e = .returned (.agg #[.string s, .slice a' n c']) ∧ Out w.heap.size w' (.slice a' n c') l ∧ w.grownBy w' none := by
  have HN : Hid (l.length = n) := hid (by obtain ⟨_, _, _, _, e, _⟩ := hv; injection e with _ e _; exact e.symm)
  have HCk : Hid (∀ u, w.grownBy u none → Calls Tryz.prog 100 #[.slice a n c] u fun e w' => ∃ a' c', e = .returned (.slice a' n c') ∧ Out u.heap.size w' (.slice a' n c') l ∧ u.grownBy w' none) := hid (fun u hu => (copyR_any u _ F l (hv.keep hu) hl).mono fun e w' ⟨v', h1, h2, h3⟩ => by
    obtain ⟨a', c', rfl⟩ := h2.len
    rw [HN.out] at h1 h2
    exact ⟨a', c', h1, h2, h3⟩)
  clear hv hl HN
  go_enter Tryz.func45, Tryz.ntmps45
  go_wp2_with (first
    | ((with_reducible refine wpList_box_row (by with_unfolding_all rfl) 117 _ (by with_unfolding_all rfl) [.string s, .slice a n c] (by with_unfolding_all rfl) ?_); intro w1 B1 s1 g1; have HB1 := hid B1; have HG1 := hid g1; have HS1 := hid s1; obtain ⟨b1, hb1⟩ : ∃ x, w.heap.size = x := ⟨_, rfl⟩; rw [hb1] at HB1 ⊢; have HL1 := hid hb1; clear B1 g1 s1 hb1)
    | (have := HB2; clear this; (with_reducible refine wpList_alloc_row (by with_unfolding_all rfl) 117 (by with_unfolding_all rfl) [.string ⟨#[]⟩, .slice none 0 0] Tryz.zero117 ?_); intro w3 B3 s3 g3; have HB3 := hid B3; have HG3 := hid g3; have HS3 := hid s3; clear B3 g3 s3)
    | ((with_reducible refine wpList_alloc_row (by with_unfolding_all rfl) 117 (by with_unfolding_all rfl) [.string ⟨#[]⟩, .slice none 0 0] Tryz.zero117 ?_); intro w2 B2 s2 g2; have HB2 := hid B2; have HG2 := hid g2; have HS2 := hid s2; clear B2 g2 s2)
    | (have := HR6; clear this; (with_reducible refine wpList_load_part (by with_unfolding_all rfl) 117 _ (by with_unfolding_all rfl) w2.heap.size 0 [.string s, .slice a5 n c5] _ (by with_unfolding_all rfl) HB6.out.whole Tryz.underlying117 (by with_unfolding_all rfl) (by with_unfolding_all exact Tryz.size117) ?_))
    | (with_reducible refine wpList_load_part (by with_unfolding_all rfl) 117 _ (by with_unfolding_all rfl) b1 0 [.string s, .slice a n c] _ (by with_unfolding_all rfl) (HB1.out.keep HG2.out).whole Tryz.underlying117 (by with_unfolding_all rfl) (by with_unfolding_all exact Tryz.size117) ?_)
    | (have := HR6; clear this; (with_reducible refine wpList_store_all (by with_unfolding_all rfl) 117 _ _ (by with_unfolding_all rfl) _ [.string ⟨#[]⟩, .slice none 0 0] [.string s, .slice a5 n c5] 117 (by with_unfolding_all rfl) (by with_unfolding_all rfl) HR6.out (by with_unfolding_all rfl) (by with_unfolding_all exact Tryz.size117) (file_one _ _ _ _) ?_); intro w7 B7 g7 s7; have HB7 := hid B7; have HG7 := hid g7; clear B7 g7 s7)
    | ((with_reducible refine wpList_store_all (by with_unfolding_all rfl) 117 _ _ (by with_unfolding_all rfl) _ [.string ⟨#[]⟩, .slice none 0 0] [.string s, .slice a n c] 117 (by with_unfolding_all rfl) (by with_unfolding_all rfl) HB3.out (by with_unfolding_all rfl) (by with_unfolding_all exact Tryz.size117) (file_one _ _ _ _) ?_); intro w4 B4 g4 s4; have HB4 := hid B4; have HG4 := hid g4; clear B4 g4 s4; have HR4 := hid ((HB2.out.keep HG3.out).on HG4.out (by simp; have := HS2.out; omega)); have HGx := hid ((gtrans (gtrans HG1.out HG2.out) HG3.out).andThen HG4.out (fun j hj => .inl (by injection hj with hj; have := HG1.out.size; have := HG2.out.size; omega))); have HQ4 := hid (((HB1.out.keep HG2.out).keep HG3.out).on HG4.out (by simp; have := HB1.out.lt; have := HG2.out.size; omega)); have y1 := HQ4.out.cell 1)
    | (go_at_call 100; (with_reducible refine (HCk.out _ HGx.out).mono ?_); rintro e w5 ⟨a5, c5, rfl, hO5, hg5⟩; have HO5 := hid hO5; have HG5 := hid hg5; clear hO5 hg5; have HB5 := hid (HB4.out.keep HG5.out); have HR5 := hid (HR4.out.keep HG5.out); have x0 := HB5.out.cell 1; have x0f := HB5.out.frozen 1; obtain ⟨W6, hW6⟩ : ∃ x, w5.setCell ⟨w2.heap.size, 1, none⟩ (.slice a5 n c5) = x := ⟨_, rfl⟩; have HB6 : Hid (Blk W6 w2.heap.size [.string s, .slice a5 n c5] 117) := hid (by rw [← hW6]; exact HB5.out.set 1 (.slice a5 n c5)); have HG6 := hid (gset w5 ⟨w2.heap.size, 1, none⟩ (.slice a5 n c5)); rw [hW6] at HG6; have HR6 := hid (HR5.out.on HG6.out (by simp; have := HS2.out; omega)); have HO6 := hid (HO5.out.on HG6.out (fun j hj e => by injection hj with hj; exact out_ne HO5.out HB5.out (by decide) (e.trans (congrArg some hj.symm))))))
  refine bodyPost_ret (results_blk rfl _ w1.heap.size 117 [.string s, .slice a5 n c5] _ rfl HB7.out Tryz.underlying117 rfl Tryz.size117) rfl ?_
  have q1 := HL1.out
  have q2 := HGx.out.size
  refine ⟨a5, c5, rfl, (HO6.out.on HG7.out (fun j hj e => ?_)).below (by omega), ((gtrans HGx.out HG5.out).andThen HG6.out (fun j hj => .inl (by injection hj with hj; have := HG1.out.size; have := HG2.out.size; omega))).andThen HG7.out (fun j hj => .inl (by injection hj with hj; have := HG1.out.size; omega))⟩
  injection hj with hj
  exact out_ne HO6.out HR6.out (by decide) (e.trans (congrArg some hj.symm))
theorem OutF.on {B : Nat} {w w' : World} {v : Value} {E : List Fl} {row : Option Nat} (h : OutF B w v E) (hg : w.grownBy w' row) (hr : ∀ k, row = some k → v.ownBlock ≠ some k ∧ ∀ f ∈ E, f.v.ownBlock ≠ some k) : OutF B w' v E :=
  ⟨World.ownsRow.kept h.row hg (by
    cases hv : v.ownBlock with
    | none => exact .inl rfl
    | some k => exact .inr (fun e => (hr k e.symm).1 hv)), fun f hf => (h.own f hf).on hg (fun k hk => (hr k hk).2 f hf)⟩
theorem OutF.low {B : Nat} {w : World} {v : Value} {E : List Fl} (h : OutF B w v E) : ∀ k, v.ownBlock = some k → B ≤ k := fun k hk => by
  rcases h.row.2 with ⟨h1, _⟩ | ⟨g, cap, cur, h1, hB, _⟩
  · rw [h1] at hk; cases hk
  · rw [h1] at hk
    injection hk with hk
    have hk' : g = k := hk
    omega
theorem OutF.ne {B C : Nat} {w : World} {v v' : Value} {E E' : List Fl} (h : OutF B w v E) (h' : OutF C w v' E') : ∀ k, v'.ownBlock = some k → ∀ f ∈ E, f.v.ownBlock ≠ some k := fun k hk f hf => own_ne h'.row (h.own f hf) (by decide) k hk
set_option maxRecDepth 100000 in
/-- append of one file; where the row lies then. -/
theorem app_file2 {w : World} {B g : Nat} {vs : Value} {E : List Fl} {s : ByteArray} {bv : Value} {bs : List UInt8} (h : OutF B w vs E) (hb : Blk w g [.string s, bv] 117) (ho : Out B w bv bs) (hE : E.length ≤ 1000000) (hB : B ≤ w.heap.size) (ty : TypeId) :
    ∃ v' w', (Builtin.append_ #[110, 110] ty #[vs, .slice (some ⟨g, 0, none⟩) 1 1]).run Tryz.prog w = .ok v' w' ∧ OutF B w' v' (E ++ [⟨s, bv, bs⟩]) ∧ w.grownBy w' vs.ownBlock ∧ (v'.ownBlock = vs.ownBlock ∨ v'.ownBlock = some w.heap.size) := by
  obtain ⟨inf, hi, hz0, hz1, hz2⟩ := info_parts Tryz.info117
  obtain ⟨ba, bc, hbv⟩ := ho.len
  obtain ⟨v', w', h1, h2, h3, _, h4⟩ := run_append_own_at (P := Tryz.prog) w B 110 ty 117 inf (.agg [Value.string ⟨#[]⟩, .slice none 0 0].toArray) 2 40 Tryz.underlying110 hi hz0 hz1 hz2 rfl (by decide) vs _ _ h.row ⟨g, 0, none⟩ 1 1 [.string s, bv] rfl (by
    intro j u hu
    rw [Addr.add_lit, Nat.zero_add]
    rcases (show j = 0 ∨ j = 1 ∨ 2 ≤ j by omega) with rfl | rfl | h2
    · injection hu with hu; subst hu; exact hb.cell 0
    · injection hu with hu; subst hu; exact hb.cell 1
    · have : ([Value.string s, bv] : List Value)[j]? = none := by simp; omega
      rw [this] at hu; cases hu) (by rw [hbv]; exact file_one s ba bs.length bc) (by unfold maxLen; omega) (by omega) hB
  refine ⟨v', w', h1, ⟨by rw [fcs_app, List.length_append]; exact h2, fun f hf => ?_⟩, h3, h4⟩
  have hx : ∀ f : Fl, Out B w f.v f.bs → Out B w' f.v f.bs := fun f hf => hf.on h3 (fun k hk => own_ne h.row hf (by decide) k hk)
  rcases List.mem_append.1 hf with hf | hf
  · exact hx f (h.own f hf)
  · rw [List.mem_singleton.1 hf]
    exact hx ⟨s, bv, bs⟩ ho
theorem wpList_append_file {w : World} {ops : Array Oper} {rest : List Oper} {o : Oper} {a : Act} {Q : Exit → Act → World → Prop} (hgd : o.guard = none) (s x : Operand)
    (ho : o.op = .call { callee := .builtin .append, args := #[s, x], argTypes := #[110, 110] }) (B g : Nat) (E : List Fl) (nm : ByteArray) (bv : Value) (bs : List UInt8) (h : OutF B w (a.eval s) E) (hx : a.eval x = .slice (some ⟨g, 0, none⟩) 1 1) (hb : Blk w g [.string nm, bv] 117) (hO : Out B w bv bs) (hE : E.length ≤ 1000000) (hB : B ≤ w.heap.size)
    (k : ∀ v' w', OutF B w' v' (E ++ [⟨nm, bv, bs⟩]) → w.grownBy w' (a.eval s).ownBlock → (v'.ownBlock = (a.eval s).ownBlock ∨ v'.ownBlock = some w.heap.size) → wpList Tryz.prog ops Q rest (a.put o.dst v') w') : wpList Tryz.prog ops Q (o :: rest) a w := by
  obtain ⟨v', w', h1, h2, h3, h4⟩ := app_file2 h hb hO hE hB o.type
  refine wpList_plain hgd fun K hK => ?_
  unfold Oper.wp
  simp [execOp, ho, resolve, invoke, builtin, hx, h1, Result.andThen]
  exact hK _ _ (k v' w' h2 h3 h4)
theorem ApF.snoc {E : List Fl} {f : Fl} (h : ApF E) (hf : ∀ g ∈ E, g.v.ownBlock = none ∨ g.v.ownBlock ≠ f.v.ownBlock) : ApF (E ++ [f]) := by
  unfold ApF
  rw [List.pairwise_append]
  exact ⟨h, List.pairwise_singleton .., fun a ha b hb => by rw [List.mem_singleton.1 hb]; exact hf a ha⟩
set_option maxRecDepth 100000 in
set_option maxHeartbeats 1600000 in
theorem copyFiles_any (w : World) (F : Nat → Prop) (a : Option Addr) (g off c : Nat) (L : Cn) (hA : ArF w F a g off L) (hL : L.length ≤ 1000000) (hb : ∀ p ∈ L, p.2.length ≤ 140737488355328) :
    Calls Tryz.prog 65 #[.slice a L.length c] w fun e w' => ∃ v E, e = .returned v ∧ OutF w.heap.size w' v E ∧ cont E = L ∧ ApF E ∧ w.grownBy w' none := by
  have HA : Hid (∀ u, w.grownBy u none → ArF u F a g off L) := hid (fun u hu => hA.keep hu)
  have HBl := hid hb
  obtain ⟨n, HN⟩ : ∃ n, Hid (L.length = n) := ⟨_, hid rfl⟩
  have hn : n ≤ 1000000 := by rw [← HN.out]; exact hL
  rw [HN.out]
  clear hA hL hb
  go_enter Tryz.func65, Tryz.ntmps65
  go_upto_region 3 with fail
  go_loopw [4, 3] (fun iv v wr => ∃ (i : Nat) (xa : Option Addr) (xc : Nat), iv = .int .i64 i ∧ v = .slice xa i xc ∧ i ≤ n ∧ Hid (∃ E, OutF w.heap.size wr (.slice xa i xc) E ∧ cont E = L.take i ∧ ApF E ∧ w.grownBy wr none)) (fun iv _ _ => n - (intOf iv).toNat)
  case atStart => exact ⟨0, none, 0, rfl, rfl, Nat.zero_le _, hid ⟨[], OutF.nil (World.ownsRow_nil _ _ _ _), rfl, List.Pairwise.nil, grefl _ _⟩⟩
  case round =>
    obtain ⟨i, xa, xc, rfl, rfl, hi, HC⟩ := hrel
    obtain ⟨w0, hw0⟩ : ∃ x : World, x = wr := ⟨_, rfl⟩
    rw [← hw0] at HC ⊢
    clear hw0
    obtain ⟨E, HE⟩ : ∃ E, Hid (OutF w.heap.size w0 (.slice xa i xc) E ∧ cont E = L.take i ∧ ApF E ∧ w.grownBy w0 none) := ⟨HC.out.choose, hid HC.out.choose_spec⟩
    clear HC
    by_cases hlt : i < n
    · have hlt' : (i : Int) < (n : Int) := by omega
      have hiL : i < L.length := by rw [HN.out]; exact hlt
      obtain ⟨rfl, hgl, -⟩ := (HA.out w0 HE.out.2.2.2).at_ (by omega)
      obtain ⟨q, Hq⟩ : ∃ x, Hid (L[i] = x) := ⟨_, hid rfl⟩
      obtain ⟨s, l⟩ := q
      have HC : Hid (w0.cell? ⟨g, off + i * 2, none⟩ = some (.string s) ∧ ∃ v, w0.cell? ⟨g, off + i * 2 + 1, none⟩ = some v ∧ Rd w0 F v l) := hid (by have := (HA.out w0 HE.out.2.2.2).each i hiL; rw [Hq.out] at this; exact this)
      obtain ⟨v, hv1, hv2⟩ := HC.out.2
      have HV := hid hv2
      have HLl : Hid (l.length ≤ 140737488355328) := hid (HBl.out (s, l) (by rw [← Hq.out]; exact List.getElem_mem _))
      obtain ⟨ba, -, -, bc, rfl, -⟩ := hv2
      obtain ⟨bn, HBn⟩ : ∃ x, Hid (l.length = x) := ⟨_, hid rfl⟩
      rw [HBn.out] at HV hv1
      have HR : Hid (w0.rangeAt g (off + i * 2) [.string s, .slice ba bn bc]) := hid (two_range HC.out.1 hv1)
      have HCf := hid (copyFile_any w0 s ba bn bc F l HV.out HLl.out)
      have HEl : Hid (E.length ≤ 1000000) := hid (by have := congrArg List.length HE.out.2.1; rw [len_cont, List.length_take] at this; omega)
      clear HC hv1 HV
      go_wp2_with (first
        | (with_reducible refine wpList_load_part (by with_unfolding_all rfl) 117 _ (by with_unfolding_all rfl) g (off + i * 2) [.string s, .slice ba bn bc] _ (by with_unfolding_all rfl) HR.out Tryz.underlying117 (by with_unfolding_all rfl) (by with_unfolding_all exact Tryz.size117) ?_)
        | (go_at_call 45; (with_reducible refine HCf.out.mono ?_); rintro e w1 ⟨a1, c1, rfl, hO, hg⟩; have HO1 := hid hO; have HG1 := hid hg; clear hO hg)
        | (at_builtin; (refine wpList_append_file rfl _ _ rfl w.heap.size w1.heap.size E s (.slice a1 bn c1) l ((HE.out.1.keep HG1.out).keep (galloc w1 _ none)) rfl (Blk.new w1 [.string s, .slice a1 bn c1] 117) ((HO1.out.below HE.out.2.2.2.size).keep (galloc w1 _ none)) HEl.out (by have := (gtrans HE.out.2.2.2 (gtrans HG1.out (galloc w1 (.cells #[.string s, .slice a1 bn c1] 117) none))).size; exact this) ?_); intro v2 w2 hF2 hg2 hb2; have HF2 := hid hF2; have HG2 := hid hg2; clear hF2 hg2 hb2))
      have HRl : Hid (∃ (i' : Nat) (xa' : Option Addr) (xc' : Nat), Value.int .i64 ((i : Int) + 1) = .int .i64 i' ∧ v2 = .slice xa' i' xc' ∧ i' ≤ n ∧ Hid (∃ E, OutF w.heap.size w2 (.slice xa' i' xc') E ∧ cont E = L.take i' ∧ ApF E ∧ w.grownBy w2 none)) := hid (by
        have hl : (E ++ [(⟨s, .slice a1 bn c1, l⟩ : Fl)]).length = i + 1 := by
          have := congrArg List.length HE.out.2.1
          rw [len_cont, List.length_take] at this
          rw [List.length_append, List.length_singleton]
          omega
        obtain ⟨xa', xc', hv2⟩ := HF2.out.len
        rw [hl] at hv2
        subst hv2
        refine ⟨i + 1, xa', xc', by go_num, rfl, by omega, hid ⟨_, HF2.out, ?_, ?_, ?_⟩⟩
        · unfold cont
          rw [List.map_append]
          show cont E ++ [(s, l)] = _
          rw [HE.out.2.1, List.take_succ_eq_append_getElem hiL, Hq.out]
        · refine HE.out.2.2.1.snoc (fun f hf => ?_)
          cases hk : f.v.ownBlock with
          | none => exact .inl rfl
          | some k =>
            refine .inr (fun e => ?_)
            have h1 := ((HE.out.1.own f hf).lt k hk).2
            have h2 := HO1.out.block k e.symm
            omega
        · exact (gtrans HE.out.2.2.2 (gtrans HG1.out (galloc w1 _ none))).andThen HG2.out (fun j hj => .inl (HE.out.1.low j hj)))
      go_roundw
      case rel => exact HRl.out
      case measure => simp [intOf]; omega
    · have hlt' : ¬ (i : Int) < (n : Int) := by omega
      go_wp2_with fail
      go_ret
      have e : i = n := by omega
      have q : cont E = L := by rw [HE.out.2.1, e, ← HN.out, List.take_length]
      first
        | exact ⟨_, E, rfl, HE.out.1, q, HE.out.2.2.1, HE.out.2.2.2⟩
        | exact ⟨_, rfl, E, HE.out.1, q, HE.out.2.2.1, HE.out.2.2.2⟩
end Go.Proofs.YtpbiofnncdneoaaGreatDoor

namespace Go.Proofs.YtpbiofnncdneoaaGreatDoor
open Go Go.RowKit Go.MapKept Go.MuLone
open Go.RowKit (wrap32 wrap64)

theorem nd_list {C : Cn} (h : NdC C) : C.Nodup := List.Pairwise.of_map (·.1) (fun a b hab e => hab (by rw [e])) h
theorem srt_perm {C : Cn} (h : NdC C) : (srtC C).Perm C := by
  refine (List.perm_ext_iff_of_nodup (nd_list (srt_nd h)) (nd_list h)).2 (fun p => ⟨fun hp => ?_, fun hp => ?_⟩)
  · exact mem_get (srt_mem h hp)
  · have h1 := get_mem h hp
    rw [← get_srt h] at h1
    exact mem_get h1
theorem used_srt {C : Cn} (h : NdC C) : usedC (srtC C) = usedC C := by
  unfold usedC
  exact ((srt_perm h).map _).sum_nat
theorem load_all {room : Int} : ∀ (L D : Cn), NdC (D ++ L) → (∀ p ∈ L, goodN p.1 = true) → (D ++ L).length ≤ 64 → (usedC (D ++ L) : Int) ≤ room → loadC room D L = some (D ++ L)
  | [], D, _, _, _, _ => by unfold loadC; rw [List.append_nil]
  | p :: L, D, hn, hg, hl, hu => by
    have hnone : getC D p.1 = none := by
      refine get_none (fun hm => ?_)
      have := hn
      unfold NdC at this
      rw [List.map_append, List.nodup_append] at this
      exact this.2.2 _ hm _ (by simp) rfl
    have hlen : D.length + L.length + 1 ≤ 64 := by simpa [Nat.add_assoc] using hl
    have hus : usedC (D ++ p :: L) = usedC D + (p.2.length + usedC L) := by
      unfold usedC
      simp
    rw [hus] at hu
    unfold loadC
    rw [if_pos ⟨hg p (List.mem_cons_self ..), by rw [hnone]; rfl, by omega, by omega⟩, set_new _ _ _ hnone]
    have e : D ++ [(p.1, p.2)] ++ L = D ++ p :: L := by rw [List.append_assoc]; rfl
    rw [load_all L (D ++ [(p.1, p.2)]) (by rw [e]; exact hn) (fun q hq => hg q (List.mem_cons_of_mem _ hq)) (by rw [e]; exact hl) (by rw [e, hus]; exact hu), e]
variable {C D : Cn}
theorem none_get : ∀ {C : Cn} {s : ByteArray}, getC C s = none → s ∉ C.map (·.1)
  | [], s, _ => by simp
  | p :: C, s, h => by
    unfold getC at h
    by_cases e : p.1 = s
    · rw [if_pos e] at h; cases h
    · rw [if_neg e] at h
      simp only [List.map_cons, List.mem_cons, not_or]
      exact ⟨fun q => e q.symm, none_get h⟩
theorem set_names : ∀ (C : Cn) (s : ByteArray) (l : List UInt8), (getC C s).isSome = true → (setC C s l).map (·.1) = C.map (·.1)
  | [], s, l, h => by cases h
  | p :: C, s, l, h => by
    unfold setC
    unfold getC at h
    by_cases e : p.1 = s
    · rw [if_pos e, List.map_cons, List.map_cons, e]
    · rw [if_neg e] at h ⊢
      rw [List.map_cons, List.map_cons, set_names C s l h]
theorem set_nd (h : NdC C) (s : ByteArray) (l : List UInt8) : NdC (setC C s l) := by
  unfold NdC
  cases hg : getC C s with
  | some q => rw [set_names C s l (by rw [hg]; rfl)]; exact h
  | none =>
    rw [set_new C s l hg, List.map_append, List.nodup_append]
    refine ⟨h, by simp, fun a ha b hb e => ?_⟩
    have hb' : b = s := by simpa using hb
    exact none_get hg (by rw [← hb', ← e]; exact ha)
theorem del_none : ∀ {C : Cn} {s : ByteArray}, getC C s = none → delC C s = C
  | [], s, _ => rfl
  | p :: C, s, h => by
    unfold getC at h
    by_cases e : p.1 = s
    · rw [if_pos e] at h; cases h
    · rw [if_neg e] at h
      unfold delC
      rw [if_neg e, del_none h]
theorem del_nd (h : NdC C) (s : ByteArray) : NdC (delC C s) := by
  cases hg : getC C s with
  | none => rw [del_none hg]; exact h
  | some q =>
    have := (del_names C s (by rw [hg]; rfl)).nodup_iff.1 h
    exact (List.nodup_cons.1 this).2
/-- The same files, in whatever order. -/
structure Lk (C D : Cn) : Prop where
  nc : NdC C
  nd : NdC D
  nm : (C.map (·.1)).Perm (D.map (·.1))
  get : ∀ s, getC C s = getC D s
theorem Lk.perm (h : Lk C D) : C.Perm D := by
  refine (List.perm_ext_iff_of_nodup (nd_list h.nc) (nd_list h.nd)).2 (fun p => ⟨fun hp => ?_, fun hp => ?_⟩)
  · have := get_mem h.nc hp
    rw [h.get] at this
    exact mem_get this
  · have := get_mem h.nd hp
    rw [← h.get] at this
    exact mem_get this
theorem Lk.len (h : Lk C D) : C.length = D.length := h.perm.length_eq
theorem Lk.srt (h : Lk C D) : srtC C = srtC D := srt_ext h.nm h.get
theorem load_inv {room : Int} : ∀ (L D C : Cn), NdC D → loadC room D L = some C → C = D ++ L ∧ NdC C
  | [], D, C, hn, h => by
    injection h with h
    subst h
    exact ⟨(List.append_nil _).symm, hn⟩
  | p :: L, D, C, hn, h => by
    unfold loadC at h
    by_cases hc : goodN p.1 = true ∧ (getC D p.1).isSome = false ∧ D.length < 64 ∧ (p.2.length : Int) ≤ room - (usedC D : Nat)
    · rw [if_pos hc] at h
      have hg : getC D p.1 = none := by
        cases hg : getC D p.1 with
        | none => rfl
        | some x => rw [hg] at hc; simp at hc
      have q := load_inv L _ C (set_nd hn p.1 p.2) h
      rw [set_new D p.1 p.2 hg] at q
      refine ⟨?_, q.2⟩
      rw [q.1, List.append_assoc]
      rfl
    · rw [if_neg hc] at h; cases h
theorem used_perm {L M : Cn} (h : L.Perm M) : usedC L = usedC M := by
  unfold usedC
  exact (h.map _).sum_nat
/-- One order is refused as another one. -/
theorem load_perm {room : Int} {L M : Cn} (hr : 0 ≤ room) (h : L.Perm M) (C : Cn) (hl : loadC room [] L = some C) : C = L ∧ loadC room [] M = some M ∧ Lk L M := by
  obtain ⟨q1, q2⟩ := load_inv L [] C List.nodup_nil hl
  rw [List.nil_append] at q1
  subst q1
  have q3 := loadC_ok hl (by show ((0 : Nat) : Int) ≤ room; omega) (by decide) (fun p hp => by cases hp)
  have hm : NdC M := (h.map (fun p : ByteArray × List UInt8 => p.1)).nodup_iff.1 q2
  have q4 := load_all (room := room) M [] hm (fun p hp => q3.2.2 p (h.mem_iff.2 hp)) (by rw [List.nil_append, ← h.length_eq]; exact q3.2.1) (by rw [List.nil_append, ← used_perm h]; exact q3.1)
  rw [List.nil_append] at q4
  refine ⟨rfl, q4, q2, hm, h.map _, fun s => ?_⟩
  cases hg : getC C s with
  | some x =>
    have := h.mem_iff.1 (mem_get hg)
    exact (get_mem hm this).symm
  | none =>
    have h1 := none_get hg
    exact (get_none (fun q => h1 ((h.map (fun p : ByteArray × List UInt8 => p.1)).mem_iff.2 q))).symm
theorem load_none {room : Int} {L M : Cn} (hr : 0 ≤ room) (h : L.Perm M) (hl : loadC room [] L = none) : loadC room [] M = none := by
  cases hm : loadC room [] M with
  | none => rfl
  | some C =>
    have := load_perm hr h.symm C hm
    rw [hl] at this
    cases this.2.1
variable {w w' : World} {B b : Nat} {A : Ab} {P : Nat → Prop}
theorem files_p (h : DkP w B b A P) : Calls Tryz.prog 33 #[.pointer (some ⟨b, 0, none⟩)] w fun e w' => (∃ a g c, e = .returned (.slice a (srtC A.C).length c) ∧ ArF w' (fun k => w.heap.size ≤ k ∧ k < w'.heap.size) a g 0 (srtC A.C)) ∧ w.grownBy w' none := by
  have nd := h.nd
  obtain ⟨h1, m, F, h2, h3, h4⟩ := h
  have hmem : ∀ f ∈ F, (f.nm, f.bs) ∈ A.C := fun f hf => by rw [← h3]; exact List.mem_map.2 ⟨f, hf, rfl⟩
  refine (files_dk h2 (by rw [← len_cont, h3]; exact h1.len) (fun f hf => ?_) (fun f hf => ?_)).mono fun e w' ⟨v, E, he, ho, hE, hg⟩ => ⟨?_, hg⟩
  · have hgd : goodN f.nm = true := h1.nms _ (hmem f hf)
    unfold goodN at hgd
    simp only [Bool.and_eq_true, decide_eq_true_eq] at hgd
    exact hgd.2.1
  · have q1 := h1.used
    have q2 := h1.room
    have q3 : f.bs.length ≤ usedC A.C := by
      have q := get_used A.C f.nm
      rw [get_mem nd (hmem f hf)] at q
      exact q
    omega
  · obtain ⟨a, g, c, hv, hA⟩ := ho.ar
    rw [hE, h3] at hv hA
    exact ⟨a, g, c, by rw [he, hv], hA⟩
theorem cont_perm {E E' : List Fl} (h : E.Perm E') : (cont E).Perm (cont E') := h.map _
/-- A row that begins at another place. -/
theorem rot_at {E : List Fl} {t i : Nat} (ht : t < E.length) (hi : i < E.length) : (E.drop t ++ E.take t)[i]'(by simp; omega) = E[(i + t) % E.length]'(Nat.mod_lt _ (by omega)) := by
  rw [List.getElem_append]
  by_cases h : i < E.length - t
  · have e : (i + t) % E.length = t + i := by rw [Nat.mod_eq_of_lt (by omega)]; omega
    rw [dif_pos (by rw [List.length_drop]; exact h), List.getElem_drop]
    simp only [e]
  · have e : (i + t) % E.length = i - (E.length - t) := by
      rw [Nat.mod_eq_sub_mod (by omega), Nat.mod_eq_of_lt (by omega)]; omega
    rw [dif_neg (by rw [List.length_drop]; exact h), List.getElem_take]
    simp only [e, List.length_drop]
theorem rot_perm (E : List Fl) (t : Nat) : (E.drop t ++ E.take t).Perm E := by
  have := List.perm_append_comm (l₁ := E.drop t) (l₂ := E.take t)
  rw [List.take_append_drop] at this
  exact this
/-- The row as a block. -/
theorem OutF.blk {g n c : Nat} {E : List Fl} (h : OutF B w (.slice (some ⟨g, 0, none⟩) n c) E) : n = E.length ∧ ∃ cs : List Value, Blk w g cs 117 ∧ cs.take (n * 2) = fcs E ∧ n * 2 ≤ cs.length ∧ ∀ (w' : World) (cs' : List Value) (E' : List Fl), Blk w' g cs' 117 → cs'.length = cs.length → cs'.take (n * 2) = fcs E' → E'.length = n → (∀ f ∈ E', Out B w' f.v f.bs) → OutF B w' (.slice (some ⟨g, 0, none⟩) n c) E' := by
  rcases h.row.2 with ⟨h1, _⟩ | ⟨g', cap, cur, h1, hB, hg, hle, hm, hs, ht⟩
  · cases h1
  · injection h1 with e1 e2 e3
    injection e1 with e1
    injection e1 with e1 _ _
    subst e1
    subst e3
    subst e2
    refine ⟨rfl, cur.toList, by unfold Blk; rw [hg], ht, by simp; omega, fun w' cs' E' hb hl ht' hE ho => ⟨⟨by rw [fcs_len], .inr ⟨g, c, cs'.toArray, by rw [hE], hB, hb, by rw [hE]; exact hle, hm, by simp at hl ⊢; omega, by rw [hE]; exact ht'⟩⟩, ho⟩⟩
end Go.Proofs.YtpbiofnncdneoaaGreatDoor
