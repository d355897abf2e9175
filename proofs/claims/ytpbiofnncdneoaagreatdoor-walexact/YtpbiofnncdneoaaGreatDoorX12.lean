/- Plain facts: files loaded in whatever order. -/
import Derived.Test.YtpbiofnncdneoaaGreatDoorX11
import Derived.BigQuiet
namespace Go.Proofs.YtpbiofnncdneoaaGreatDoor
open Go Go.RowKit Go.MapKept Go.MuLone
open Go.RowKit (wrap32 wrap64)

theorem nd_list {C : Cn} (h : NdC C) : C.Nodup := List.Pairwise.of_map (·.1) (fun a b hab e => hab (by rw [e])) h
theorem srt_perm {C : Cn} (h : NdC C) : (srtC C).Perm C := by
 refine (List.perm_ext_iff_of_nodup (nd_list (srt_nd h)) (nd_list h)).2 (fun p => ⟨fun hp => ?_, fun hp => ?_⟩)
 ·exact mem_get (srt_mem h hp)
 ·have h1 := get_mem h hp
  rw [← get_srt h] at h1
  exact mem_get h1
theorem used_srt {C : Cn} (h : NdC C) : usedC (srtC C) = usedC C := by
 unfold usedC
 exact ((srt_perm h).map _).sum_nat
variable {C D : Cn}
theorem none_get : ∀ {C : Cn} {s : ByteArray}, getC C s = none → s ∉ C.map (·.1)
 | [], s, _ => by simp
 | p :: C, s, h => by
  unfold getC at h
  by_cases e : p.1 = s
  ·rw [if_pos e] at h; cases h
  ·rw [if_neg e] at h
   simp only [List.map_cons, List.mem_cons, not_or]
   exact ⟨fun q => e q.symm, none_get h⟩
theorem set_names : ∀ (C : Cn) (s : ByteArray) (l : List UInt8), (getC C s).isSome = true → (setC C s l).map (·.1) = C.map (·.1)
 | [], s, l, h => by cases h
 | p :: C, s, l, h => by
  unfold setC
  unfold getC at h
  by_cases e : p.1 = s
  ·rw [if_pos e, List.map_cons, List.map_cons, e]
  ·rw [if_neg e] at h ⊢
   rw [List.map_cons, List.map_cons, set_names C s l h]
theorem set_nd (h : NdC C) (s : ByteArray) (l : List UInt8) : NdC (setC C s l) := by
 unfold NdC
 cases hg : getC C s with
 | some q => rw [set_names C s l (by rw [hg]; rfl)]; exact h
 | none =>
  rw [set_new C s l hg, List.map_append, List.nodup_append]
  refine ⟨h, by simp, fun a ha b hb e => ?_⟩
  have hb' : b = s := by simpa using hb
  exact none_get hg (by rw [← hb', ← e]; exact ha)
theorem del_none : ∀ {C : Cn} {s : ByteArray}, getC C s = none → delC C s = C
 | [], s, _ => rfl
 | p :: C, s, h => by
  unfold getC at h
  by_cases e : p.1 = s
  ·rw [if_pos e] at h; cases h
  ·rw [if_neg e] at h
   unfold delC
   rw [if_neg e, del_none h]
theorem del_nd (h : NdC C) (s : ByteArray) : NdC (delC C s) := by
 cases hg : getC C s with
 | none => rw [del_none hg]; exact h
 | some q =>
  have := (del_names C s (by rw [hg]; rfl)).nodup_iff.1 h
  exact (List.nodup_cons.1 this).2
/-- The same files, in whatever order. -/
structure Lk (C D : Cn) : Prop where
 nc : NdC C
 nd : NdC D
 nm : (C.map (·.1)).Perm (D.map (·.1))
 get : ∀ s, getC C s = getC D s
theorem Lk.perm (h : Lk C D) : C.Perm D := by
 refine (List.perm_ext_iff_of_nodup (nd_list h.nc) (nd_list h.nd)).2 (fun p => ⟨fun hp => ?_, fun hp => ?_⟩)
 ·have := get_mem h.nc hp
  rw [h.get] at this
  exact mem_get this
 ·have := get_mem h.nd hp
  rw [← h.get] at this
  exact mem_get this
theorem Lk.len (h : Lk C D) : C.length = D.length := h.perm.length_eq
theorem Lk.srt (h : Lk C D) : srtC C = srtC D := srt_ext h.nm h.get
variable {w w' : World} {B b : Nat} {A : Ab} {P : Nat → Prop}
theorem files_p (h : DkP w B b A P) : Calls Tryz.prog 33 #[.pointer (some ⟨b, 0, none⟩)] w fun e w' => (∃ a g c, e = .returned (.slice a (srtC A.C).length c) ∧ ArF w' (fun k => w.heap.size ≤ k ∧ k < w'.heap.size) a g 0 (srtC A.C)) ∧ w.grownBy w' none := by
 have nd := h.nd
 obtain ⟨h1, m, F, h2, h3, h4⟩ := h
 have hmem : ∀ f ∈ F, (f.nm, f.bs) ∈ A.C := fun f hf => by rw [← h3]; exact List.mem_map.2 ⟨f, hf, rfl⟩
 refine (files_dk h2 (by rw [← len_cont, h3]; exact h1.len) (fun f hf => ?_) (fun f hf => ?_)).mono fun e w' ⟨v, E, he, ho, hE, hg⟩ => ⟨?_, hg⟩
 ·have hgd : goodN f.nm = true := h1.nms _ (hmem f hf)
  unfold goodN at hgd
  simp only [Bool.and_eq_true, decide_eq_true_eq] at hgd
  exact hgd.2.1
 ·have q1 := h1.used
  have q2 := h1.room
  have q3 : f.bs.length ≤ usedC A.C := by
   have q := get_used A.C f.nm
   rw [get_mem nd (hmem f hf)] at q
   exact q
  omega
 ·obtain ⟨a, g, c, hv, hA⟩ := ho.ar
  rw [hE, h3] at hv hA
  exact ⟨a, g, c, by rw [he, hv], hA⟩
/-- The row as a block. -/
theorem OutF.blk {g n c : Nat} {E : List Fl} (h : OutF B w (.slice (some ⟨g, 0, none⟩) n c) E) : n = E.length ∧ ∃ cs : List Value, Blk w g cs 117 ∧ cs.take (n * 2) = fcs E ∧ n * 2 ≤ cs.length ∧ ∀ (w' : World) (cs' : List Value) (E' : List Fl), Blk w' g cs' 117 → cs'.length = cs.length → cs'.take (n * 2) = fcs E' → E'.length = n → (∀ f ∈ E', Out B w' f.v f.bs) → OutF B w' (.slice (some ⟨g, 0, none⟩) n c) E' := by
 rcases h.row.2 with ⟨h1, _⟩ | ⟨g', cap, cur, h1, hB, hg, hle, hm, hs, ht⟩
 ·cases h1
 ·injection h1 with e1 e2 e3
  injection e1 with e1
  injection e1 with e1 _ _
  subst e1
  subst e3
  subst e2
  refine ⟨rfl, cur.toList, by unfold Blk; rw [hg], ht, by simp; omega, fun w' cs' E' hb hl ht' hE ho => ⟨⟨by rw [fcs_len], .inr ⟨g, c, cs'.toArray, by rw [hE], hB, hb, by rw [hE]; exact hle, hm, by simp at hl ⊢; omega, by rw [hE]; exact ht'⟩⟩, ho⟩⟩
end Go.Proofs.YtpbiofnncdneoaaGreatDoor

namespace Go.Proofs.YtpbiofnncdneoaaGreatDoor
open Go Go.RowKit Go.MapKept Go.MuLone
open Go.RowKit (wrap32 wrap64)

/-- Is a name ahead of another one? -/
def lessN (s t : ByteArray) : Bool := Op.bytesLess s.toList t.toList
theorem lessN_iff (s t : ByteArray) : lessN s t = true ↔ s.toList < t.toList := by unfold lessN; rw [bytesLess_eq, decide_eq_true_eq]
theorem lessN_irr (s : ByteArray) : lessN s s = false := by
 cases h : lessN s s with
 | false => rfl
 | true => exact absurd ((lessN_iff s s).1 h) (List.lt_irrefl _)
theorem lessN_tr {s t r : ByteArray} (h1 : lessN s t = true) (h2 : lessN t r = true) : lessN s r = true := (lessN_iff s r).2 (List.lt_trans ((lessN_iff s t).1 h1) ((lessN_iff t r).1 h2))
theorem toList_inj {s t : ByteArray} (h : s.toList = t.toList) : s = t := by
 rw [Lib.toList_data, Lib.toList_data] at h
 cases s; cases t
 simpa using h
theorem lessN_three {s t : ByteArray} (h1 : lessN s t = false) (h2 : lessN t s = false) : s = t := by
 refine toList_inj ?_
 have h3 : ¬ s.toList < t.toList := fun h => by rw [(lessN_iff s t).2 h] at h1; cases h1
 have h4 : ¬ t.toList < s.toList := fun h => by rw [(lessN_iff t s).2 h] at h2; cases h2
 exact List.le_antisymm (List.not_lt.1 h4) (List.not_lt.1 h3)
theorem lessN_ne {s t : ByteArray} (h : lessN s t = true) : s ≠ t := fun e => by rw [e, lessN_irr] at h; cases h
def SrtS (S : Cn) : Prop := S.Pairwise (fun p q => lessN p.1 q.1 = true)
theorem SrtS.nd {S : Cn} (h : SrtS S) : NdC S := by
 unfold NdC
 exact List.Pairwise.map _ (fun a b hab => lessN_ne hab) h
/-- What stands ahead of a name, and the rest. -/
def hd (S : Cn) (s : ByteArray) : Cn := S.takeWhile (fun p => lessN p.1 s)
def tl (S : Cn) (s : ByteArray) : Cn := S.dropWhile (fun p => lessN p.1 s)
def plc (S : Cn) (s : ByteArray) : Nat := (hd S s).length
theorem hd_tl (S : Cn) (s : ByteArray) : hd S s ++ tl S s = S := List.takeWhile_append_dropWhile
theorem plc_le (S : Cn) (s : ByteArray) : plc S s ≤ S.length := by
 have := congrArg List.length (hd_tl S s)
 rw [List.length_append] at this
 unfold plc
 omega
theorem take_plc (S : Cn) (s : ByteArray) : S.take (plc S s) = hd S s := by
 have h : ∀ T R : Cn, (T ++ R).take T.length = T := fun T R => List.take_left
 have q := h (hd S s) (tl S s)
 rw [hd_tl] at q
 exact q
theorem drop_plc (S : Cn) (s : ByteArray) : S.drop (plc S s) = tl S s := by
 have h : ∀ T R : Cn, (T ++ R).drop T.length = R := fun T R => List.drop_left
 have q := h (hd S s) (tl S s)
 rw [hd_tl] at q
 exact q
theorem hd_less {S : Cn} {s : ByteArray} {p : ByteArray × List UInt8} (h : p ∈ hd S s) : lessN p.1 s = true := by
 have := List.all_takeWhile (l := S) (p := fun p => lessN p.1 s)
 exact List.all_eq_true.1 this p h
theorem tl_head {S : Cn} {s : ByteArray} {p : ByteArray × List UInt8} {R : Cn} (h : tl S s = p :: R) : lessN p.1 s = false := by
 have := List.head?_dropWhile_not (p := fun p : ByteArray × List UInt8 => lessN p.1 s) (l := S)
 unfold tl at h
 rw [h] at this
 simpa using this
theorem get_app : ∀ (T R : Cn) (s : ByteArray), (∀ p ∈ T, p.1 ≠ s) → getC (T ++ R) s = getC R s
 | [], R, s, _ => rfl
 | p :: T, R, s, h => by
  show getC (p :: (T ++ R)) s = _
  conv => lhs; unfold getC
  rw [if_neg (h p (List.mem_cons_self ..))]
  exact get_app T R s (fun q hq => h q (List.mem_cons_of_mem _ hq))
theorem get_hd {S : Cn} {s : ByteArray} : getC S s = getC (tl S s) s := by
 conv => lhs; rw [← hd_tl S s]
 exact get_app _ _ _ (fun p hp => lessN_ne (hd_less hp))
/-- What stands at the place. -/
theorem tl_get {S : Cn} (h : SrtS S) {s : ByteArray} : (∀ p R, tl S s = p :: R → p.1 = s → getC S s = some p.2) ∧ ((∀ p R, tl S s = p :: R → p.1 ≠ s) → getC S s = none) := by
 refine ⟨fun p R hp he => ?_, fun hn => ?_⟩
 ·rw [get_hd, hp]
  unfold getC
  rw [if_pos he]
 ·rw [get_hd]
  cases hR : tl S s with
  | nil => rfl
  | cons p R =>
   have h1 := hn p R hR
   have h2 := tl_head hR
   have h3 : lessN s p.1 = true := by
    cases h4 : lessN s p.1 with
    | true => rfl
    | false => exact absurd (lessN_three h2 h4) h1
   have hs : (hd S s ++ p :: R).Pairwise (fun p q => lessN p.1 q.1 = true) := by rw [← hR, hd_tl]; exact h
   have h5 := (List.pairwise_append.1 hs).2.1
   refine get_none (fun hm => ?_)
   obtain ⟨q, hq, he⟩ := List.mem_map.1 hm
   rcases List.mem_cons.1 hq with rfl | hq
   ·exact h1 he
   ·have h6 := lessN_tr h3 ((List.pairwise_cons.1 h5).1 q hq)
    exact lessN_ne h6 he.symm
/-- Is there such a file? -/
def isAt (S : Cn) (s : ByteArray) : Bool := match tl S s with | [] => false | p :: _ => decide (p.1 = s)
theorem isAt_get {S : Cn} (h : SrtS S) (s : ByteArray) : isAt S s = (getC S s).isSome := by
 unfold isAt
 cases hR : tl S s with
 | nil => rw [(tl_get h).2 (fun p R e => by rw [hR] at e; cases e)]; rfl
 | cons p R =>
  by_cases he : p.1 = s
  ·rw [(tl_get h).1 p R hR he]; simp [he]
  ·rw [(tl_get h).2 (fun q T e => by rw [hR] at e; injection e with e _; rw [← e]; exact he)]; simp [he]
theorem del_app : ∀ (T R : Cn) (s : ByteArray), (∀ p ∈ T, p.1 ≠ s) → delC (T ++ R) s = T ++ delC R s
 | [], R, s, _ => rfl
 | p :: T, R, s, h => by
  show delC (p :: (T ++ R)) s = _
  conv => lhs; unfold delC
  rw [if_neg (h p (List.mem_cons_self ..)), del_app T R s (fun q hq => h q (List.mem_cons_of_mem _ hq))]
  rfl
theorem del_plc {S : Cn} (h : SrtS S) (s : ByteArray) : delC S s = if isAt S s = true then S.take (plc S s) ++ S.drop (plc S s + 1) else S := by
 by_cases hi : isAt S s = true
 ·rw [if_pos hi, take_plc, ← List.drop_drop, drop_plc]
  conv => lhs; rw [← hd_tl S s]
  rw [del_app _ _ _ (fun p hp => lessN_ne (hd_less hp))]
  unfold isAt at hi
  cases hR : tl S s with
  | nil => rw [hR] at hi; cases hi
  | cons p R =>
   rw [hR] at hi
   have he : p.1 = s := by simpa using hi
   unfold delC
   rw [if_pos he]
   rfl
 ·rw [if_neg hi]
  refine del_none ?_
  rw [isAt_get h] at hi
  cases hg : getC S s with
  | none => rfl
  | some x => rw [hg] at hi; exact absurd rfl hi
theorem SrtS.sub {S T : Cn} (h : SrtS S) (ht : T.Sublist S) : SrtS T := List.Pairwise.sublist ht h
theorem del_sub : ∀ (S : Cn) (s : ByteArray), (delC S s).Sublist S
 | [], _ => List.Sublist.refl _
 | p :: S, s => by
  unfold delC
  split
  ·exact List.sublist_cons_self ..
  ·exact (del_sub S s).cons_cons p
/-- A file goes to its place. -/
def insC (S : Cn) (s : ByteArray) (l : List UInt8) : Cn := hd S s ++ (s, l) :: tl S s
theorem ins_srt {S : Cn} (h : SrtS S) {s : ByteArray} (l : List UInt8) (hn : getC S s = none) : SrtS (insC S s l) := by
 unfold insC SrtS
 have hs : (hd S s ++ tl S s).Pairwise (fun p q => lessN p.1 q.1 = true) := by rw [hd_tl]; exact h
 obtain ⟨h1, h2, h3⟩ := List.pairwise_append.1 hs
 have hg : ∀ q ∈ tl S s, lessN s q.1 = true := by
  intro q hq
  cases hR : tl S s with
  | nil => rw [hR] at hq; cases hq
  | cons p R =>
   have hp : lessN s p.1 = true := by
    cases h4 : lessN s p.1 with
    | true => rfl
    | false =>
     have e := lessN_three (tl_head hR) h4
     rw [(tl_get h).1 p R hR e] at hn
     cases hn
   rw [hR] at hq h2
   rcases List.mem_cons.1 hq with rfl | hq
   ·exact hp
   ·exact lessN_tr hp ((List.pairwise_cons.1 h2).1 q hq)
 refine List.pairwise_append.2 ⟨h1, List.pairwise_cons.2 ⟨hg, h2⟩, fun a ha b hb => ?_⟩
 rcases List.mem_cons.1 hb with rfl | hb
 ·exact hd_less ha
 ·exact h3 a ha b hb
theorem ins_names (S : Cn) (s : ByteArray) (l : List UInt8) : ((insC S s l).map (·.1)).Perm (s :: S.map (·.1)) := by
 unfold insC
 rw [List.map_append, List.map_cons]
 refine List.perm_middle.trans (List.Perm.cons _ ?_)
 rw [← List.map_append, hd_tl]
theorem ins_get {S : Cn} {s : ByteArray} (l : List UInt8) (t : ByteArray) : getC (insC S s l) t = if t = s then some l else getC S t := by
 unfold insC
 by_cases e : t = s
 ·rw [if_pos e, e, get_app _ _ _ (fun p hp => lessN_ne (hd_less hp))]
  unfold getC
  rw [if_pos rfl]
 ·rw [if_neg e]
  conv => rhs; rw [← hd_tl S s]
  have : ∀ T : Cn, getC (T ++ (s, l) :: tl S s) t = getC (T ++ tl S s) t := fun T => by
   induction T with
   | nil =>
    show getC ((s, l) :: tl S s) t = getC (tl S s) t
    conv => lhs; unfold getC
    rw [if_neg (fun q => e q.symm)]
   | cons p T ih =>
    show getC (p :: (T ++ (s, l) :: tl S s)) t = getC (p :: (T ++ tl S s)) t
    unfold getC
    rw [ih]
  exact this _
/-- Sorted files are themselves. -/
theorem srt_srtS {C : Cn} (h : NdC C) : SrtS (srtC C) := by
 unfold SrtS
 have h1 : (srtC C).Pairwise (fun p q => p.1.toList ≤ q.1.toList) := by
  unfold srtC
  refine List.Pairwise.map _ (fun a b hab => ?_) (leB_sorted (C.map (fun p => p.1.data.toList)))
  rw [Lib.toList_data, Lib.toList_data]
  exact hab
 have h2 : (srtC C).Pairwise (fun p q => p.1 ≠ q.1) := List.Pairwise.of_map (·.1) (fun _ _ q => q) (srt_nd h)
 refine (h1.and h2).imp (fun {p q} hpq => ?_)
 refine (lessN_iff _ _).2 ?_
 rcases List.le_iff_lt_or_eq.1 hpq.1 with q | q
 ·exact q
 ·exact absurd (toList_inj q) hpq.2
theorem srt_self {S : Cn} (h : SrtS S) : srtC S = S := by
 have h1 := srt_srtS h.nd
 have h2 := srt_perm h.nd
 exact List.Perm.eq_of_pairwise (le := fun p q : ByteArray × List UInt8 => lessN p.1 q.1 = true) (fun a b _ _ hab hba => by
  have := lessN_tr hab hba
  rw [lessN_irr] at this
  cases this) h1 h h2
/-- What lay makes of sorted files. -/
theorem lay_srt {C : Cn} (h : NdC C) (s : ByteArray) (l : List UInt8) : insC (delC (srtC C) s) s l = srtC (setC C s l) := by
 have hS := srt_srtS h
 have hD : SrtS (delC (srtC C) s) := hS.sub (del_sub _ _)
 have hn : getC (delC (srtC C) s) s = none := by rw [get_del _ _ _ hS.nd, if_pos rfl]
 have hI := ins_srt hD l hn
 rw [← srt_self hI]
 refine srt_ext ?_ (fun t => ?_)
 ·refine (ins_names _ _ _).trans ?_
  cases hg : getC C s with
  | some x =>
   rw [set_names C s l (by rw [hg]; rfl)]
   have h1 := del_names (srtC C) s (by rw [get_srt h, hg]; rfl)
   exact h1.symm.trans (srt_names C)
  | none =>
   rw [del_none (by rw [get_srt h]; exact hg), set_new C s l hg, List.map_append]
   exact ((srt_names C).cons s).trans (List.perm_append_singleton s _).symm
 ·rw [ins_get, get_set, get_del _ _ _ hS.nd, get_srt h]
  by_cases e : t = s
  ·rw [if_pos e, if_pos e]
  ·rw [if_neg e, if_neg e, if_neg e]
theorem drop_srt {C : Cn} (h : NdC C) (s : ByteArray) : delC (srtC C) s = srtC (delC C s) := by
 have hS := srt_srtS h
 have hD : SrtS (delC (srtC C) s) := hS.sub (del_sub _ _)
 rw [← srt_self hD]
 refine srt_ext ?_ (fun t => ?_)
 ·cases hg : getC C s with
  | some x =>
   have h1 := del_names (srtC C) s (by rw [get_srt h, hg]; rfl)
   have h2 := del_names C s (by rw [hg]; rfl)
   exact List.Perm.cons_inv ((h1.symm.trans (srt_names C)).trans h2)
  | none => rw [del_none (by rw [get_srt h]; exact hg), del_none hg]; exact srt_names C
 ·rw [get_del _ _ _ hS.nd, get_del _ _ _ h, get_srt h]
end Go.Proofs.YtpbiofnncdneoaaGreatDoor

namespace Go.Proofs.YtpbiofnncdneoaaGreatDoor
open Go Go.RowKit Go.MapKept Go.MuLone
open Go.RowKit (wrap32 wrap64)

def rkc (A : Ab) (sv : Value) : List Value := [.int .i64 A.room, sv, .int .i64 A.ar, .int .i64 A.kp, .bool A.off, .int .i64 A.wr]
/-- The reference's disk at block b. -/
structure Rk (w : World) (B b : Nat) (A : Ab) (sv : Value) (E : List Fl) : Prop where
 blk : Blk w b (rkc A sv) 113
 row : OutF B w sv E
 con : cont E = A.C
 srt : SrtS A.C
 low : B ≤ b
 ok : A.ok
/-- What it has of its own. -/
def Rfp (b : Nat) (sv : Value) (E : List Fl) (k : Nat) : Prop := k = b ∨ sv.ownBlock = some k ∨ ∃ f ∈ E, f.v.ownBlock = some k
variable {w w' : World} {B b : Nat} {A : Ab} {P : Nat → Prop} {sv : Value} {E : List Fl}
theorem Rk.keep (h : Rk w B b A sv E) (hg : w.grownBy w' none) : Rk w' B b A sv E := ⟨h.blk.keep hg, h.row.keep hg, h.con, h.srt, h.low, h.ok⟩
theorem plc_less {S : Cn} {s : ByteArray} {i : Nat} (h : i < plc S s) : ∃ hi : i < S.length, lessN (S[i]).1 s = true := by
 have hi : i < S.length := Nat.lt_of_lt_of_le h (plc_le S s)
 refine ⟨hi, hd_less (S := S) ?_⟩
 have h2 : (S.take (plc S s))[i]? = some S[i] := by rw [List.getElem?_take, if_pos h, List.getElem?_eq_getElem hi]
 rw [take_plc] at h2
 exact List.mem_of_getElem? h2
theorem plc_at {S : Cn} {s : ByteArray} (h : plc S s < S.length) : lessN (S[plc S s]).1 s = false ∧ isAt S s = decide ((S[plc S s]).1 = s) := by
 have h1 := List.drop_eq_getElem_cons h
 rw [drop_plc] at h1
 refine ⟨tl_head h1, ?_⟩
 unfold isAt
 rw [h1]
theorem plc_end {S : Cn} {s : ByteArray} (h : ¬ plc S s < S.length) : isAt S s = false := by
 have h1 := drop_plc S s
 rw [List.drop_eq_nil_of_le (by omega)] at h1
 unfold isAt
 rw [← h1]
set_option maxRecDepth 100000 in
set_option maxHeartbeats 1600000 in
theorem place_any (h : Rk w B b A sv E) (s : ByteArray) : Calls Tryz.prog 41 #[.pointer (some ⟨b, 0, none⟩), .string s] w fun e w' => e = .returned (.tuple #[.int .i64 (plc A.C s : Nat), .bool (isAt A.C s)]) ∧ w.grownBy w' none := by
 obtain ⟨a, g, c, rfl, hA⟩ := h.row.ar
 rw [h.con] at hA h
 have y1 : w.cell? ⟨b, 1, none⟩ = some (.slice a A.C.length c) := h.blk.cell 1
 have HA := hid hA
 have hln : A.C.length ≤ 64 := h.ok.len
 obtain ⟨S, hS⟩ : ∃ x, A.C = x := ⟨_, rfl⟩
 rw [hS] at HA y1 hln ⊢
 obtain ⟨n, HN⟩ : ∃ n, Hid (S.length = n) := ⟨_, hid rfl⟩
 rw [HN.out] at y1 hln
 obtain ⟨q, Hq⟩ : ∃ q, Hid (plc S s = q) := ⟨_, hid rfl⟩
 obtain ⟨D, HD⟩ : ∃ D, Hid (isAt S s = D) := ⟨_, hid rfl⟩
 have hqn : q ≤ n := by rw [← Hq.out, ← HN.out]; exact plc_le S s
 rw [Hq.out, HD.out]
 clear hA h hS
 go_enter Tryz.func41, Tryz.ntmps41
 go_upto_region 2 with fail
 go_loopw [6] (fun iv wr => ∃ i : Nat, iv = .int .i64 i ∧ i ≤ q ∧ Hid (wr = w)) (fun iv _ => q - (intOf iv).toNat)
 case atStart => exact ⟨0, rfl, Nat.zero_le _, hid rfl⟩
 case round =>
  obtain ⟨i, rfl, hi, HW⟩ := hrel
  have hw := HW.out
  subst hw
  by_cases hlt : i < q
  ·as_aux_lemma =>
   obtain ⟨hiS, hless⟩ := plc_less (S := S) (s := s) (i := i) (by rw [Hq.out]; exact hlt)
   obtain ⟨rfl, -⟩ := HA.out.at_ (by omega)
   have hc := (HA.out.each i hiS).1
   rw [Nat.zero_add] at hc
   have hin : (i : Int) < (n : Int) := by omega
   obtain ⟨t, ht⟩ : ∃ t, (S[i]).1 = t := ⟨_, rfl⟩
   rw [ht] at hc hless
   have hb : Op.bytesLess t.toList s.toList = true := hless
   clear ht hless
   go_wp2_with fail
   go_roundw
   case rel => exact ⟨i + 1, by go_num, by omega, hid trivial⟩
   case measure => simp [intOf]; omega
  ·have e : i = q := by omega
   subst e
   by_cases hin : i < n
   ·have hin' : (i : Int) < (n : Int) := by omega
    have hiS : i < S.length := by rw [HN.out]; exact hin
    have hp : lessN (S[i]).1 s = false ∧ D = decide ((S[i]).1 = s) := by
     have q := plc_at (S := S) (s := s) (by rw [Hq.out]; exact hiS)
     simp only [Hq.out] at q
     rw [HD.out] at q
     exact q
    obtain ⟨rfl, -⟩ := HA.out.at_ (by omega)
    have hc := (HA.out.each i hiS).1
    rw [Nat.zero_add] at hc
    obtain ⟨t, ht⟩ : ∃ t, (S[i]).1 = t := ⟨_, rfl⟩
    rw [ht] at hc hp
    have hb : Op.bytesLess t.toList s.toList = false := hp.1
    by_cases he : t = s
    ·as_aux_lemma =>
     have hD : D = true := by rw [hp.2, decide_eq_true he]
     subst hD
     have hq : (t.toList == s.toList) = true := by rw [ba_dec, decide_eq_true he]
     clear ht hp he
     go_upto_region 4 with fail
     go_quiet (fail)
     go_wp2_with fail
     refine bodyPost_ret (results_tmp2 rfl _ _ _) rfl ?_
     exact ⟨rfl, gdrewN _ _ _⟩
    ·as_aux_lemma =>
     have hD : D = false := by rw [hp.2, decide_eq_false he]
     subst hD
     have hq : (t.toList == s.toList) = false := by rw [ba_dec, decide_eq_false he]
     clear ht hp he
     go_upto_region 4 with fail
     go_quiet (fail)
     go_wp2_with fail
     refine bodyPost_ret (results_tmp2 rfl _ _ _) rfl ?_
     exact ⟨rfl, gdrewN _ _ _⟩
   ·as_aux_lemma =>
    have hin' : ¬ (i : Int) < (n : Int) := by omega
    have hD : D = false := by rw [← HD.out]; exact plc_end (by rw [Hq.out, HN.out]; exact hin)
    subst hD
    go_upto_region 4 with fail
    go_quiet (fail)
    go_wp2_with fail
    refine bodyPost_ret (results_tmp2 rfl _ _ _) rfl ?_
    exact ⟨rfl, gdrewN _ _ _⟩
theorem used_take {L : Cn} {i : Nat} (h : i < L.length) : usedC (L.take (i + 1)) = usedC (L.take i) + (L[i]).2.length := by
 unfold usedC
 rw [List.take_succ_eq_append_getElem h, List.map_append, List.sum_append]
 simp
theorem used_take_le (L : Cn) (i : Nat) : usedC (L.take i) ≤ usedC L := by
 have h : usedC L = usedC (L.take i) + usedC (L.drop i) := by
  unfold usedC
  rw [← List.sum_append, ← List.map_append, List.take_append_drop]
 omega
set_option maxRecDepth 100000 in
set_option maxHeartbeats 1600000 in
theorem rused_any (h : Rk w B b A sv E) : Calls Tryz.prog 43 #[.pointer (some ⟨b, 0, none⟩)] w fun e w' => e = .returned (.int .i64 (usedC A.C : Nat)) ∧ w' = w := by
 obtain ⟨a, g, c, rfl, hA⟩ := h.row.ar
 rw [h.con] at hA h
 have y1 : w.cell? ⟨b, 1, none⟩ = some (.slice a A.C.length c) := h.blk.cell 1
 have HA := hid hA
 have hU : usedC A.C ≤ 268435456 := by have := h.ok.used; have := h.ok.room; omega
 obtain ⟨S, hS⟩ : ∃ x, A.C = x := ⟨_, rfl⟩
 have hln : A.C.length ≤ 64 := h.ok.len
 rw [hS] at HA y1 hU hln ⊢
 obtain ⟨n, HN⟩ : ∃ n, Hid (S.length = n) := ⟨_, hid rfl⟩
 rw [HN.out] at y1 hln
 clear hA h hS
 go_enter Tryz.func43, Tryz.ntmps43
 go_upto_region 3 with fail
 go_loopw [4, 3] (fun iv zv wr => ∃ i : Nat, iv = .int .i64 i ∧ zv = .int .i64 (usedC (S.take i) : Nat) ∧ i ≤ n ∧ Hid (wr = w)) (fun iv _ _ => n - (intOf iv).toNat)
 case atStart => exact ⟨0, rfl, rfl, Nat.zero_le _, hid rfl⟩
 case round =>
  obtain ⟨i, rfl, rfl, hi, HW⟩ := hrel
  have hw := HW.out
  subst hw
  by_cases hlt : i < n
  ·have hlt' : (i : Int) < (n : Int) := by omega
   have hiS : i < S.length := by rw [HN.out]; exact hlt
   obtain ⟨rfl, -⟩ := HA.out.at_ (by omega)
   obtain ⟨v, hv1, hv2⟩ := (HA.out.each i hiS).2
   rw [Nat.zero_add] at hv1
   have HT := hid (used_take hiS)
   have HT2 := hid (used_take_le S (i + 1))
   obtain ⟨x, hx⟩ : ∃ x, (S[i]).2 = x := ⟨_, rfl⟩
   rw [hx] at hv2 HT
   obtain ⟨xa, -, -, xc, rfl, -⟩ := hv2
   obtain ⟨xn, hxn⟩ : ∃ y, x.length = y := ⟨_, rfl⟩
   rw [hxn] at hv1 HT
   obtain ⟨z, hz⟩ : ∃ z, usedC (S.take i) = z := ⟨_, rfl⟩
   rw [hz] at HT ⊢
   have hzx : z + xn ≤ 268435456 := by have := HT.out; have := HT2.out; omega
   clear hx hxn hz
   go_wp2_with fail
   go_roundw
   case rel => exact ⟨i + 1, by go_num, by rw [HT.out]; go_num, by omega, hid trivial⟩
   case measure => simp [intOf]; omega
  ·have hlt' : ¬ (i : Int) < (n : Int) := by omega
   have e : i = n := by omega
   have hf : S.take i = S := List.take_of_length_le (by rw [HN.out]; omega)
   rw [hf]
   go_wp2_with fail
   go_ret
   exact ⟨rfl, rfl⟩
end Go.Proofs.YtpbiofnncdneoaaGreatDoor

namespace Go.Proofs.YtpbiofnncdneoaaGreatDoor
open Go Go.RowKit Go.MapKept Go.MuLone
open Go.RowKit (wrap32 wrap64)

set_option maxRecDepth 100000 in
set_option maxHeartbeats 4000000 in
theorem named_any (s : ByteArray) (hs : s.size ≤ 140737488355328) (w : World) : Calls Tryz.prog 42 #[.string s] w fun e w' => e = .returned (.bool (goodN s)) ∧ w' = w := by
 obtain ⟨R, HR⟩ : ∃ x, Hid (goodN s = x) := ⟨_, hid rfl⟩
 rw [HR.out]
 go_enter Tryz.func42, Tryz.ntmps42
 go_upto_region 2 with fail
 go_loopw [3] (fun iv wr => ∃ i : Nat, iv = .int .i64 i ∧ i ≤ s.size ∧ Hid (∀ j (hj : j < s.size), j < i → gbI (s[j].toNat) = true) ∧ Hid (wr = w)) (fun iv _ => s.size - (intOf iv).toNat)
 case atStart => exact ⟨0, rfl, by omega, hid (fun j hj h => by omega), hid rfl⟩
 case round =>
  obtain ⟨i, rfl, hi, HA, HW⟩ := hrel
  have hw := HW.out
  subst hw
  by_cases hlt : i < s.size
  ·have hlt' : (i : Int) < (s.size : Int) := by omega
   have HNx : Hid (gbI (s[i].toNat) = true → ∀ j (hj : j < s.size), j < i + 1 → gbI (s[j].toNat) = true) := hid (fun hb j hj h => by
    by_cases e : j = i
    ·subst e; exact hb
    ·exact HA.out j hj (by omega))
   have HNo : Hid (gbI (s[i].toNat) = false → R = false) := hid (fun hb => by rw [← HR.out]; exact goodN_no hlt hb)
   obtain ⟨X, hX⟩ : ∃ X : Int, ((s[i].toNat : Nat) : Int) = X := ⟨_, rfl⟩
   rw [hX] at HNx HNo
   by_cases a1 : 97 ≤ X
   ·by_cases a2 : X ≤ 122
    ·as_aux_lemma =>
     have hr : gbI X = true := decide_eq_true (by omega)
     have HN2 := hid (HNx.out hr)
     go_wp2_with fail
     go_roundw
     case rel => exact ⟨i + 1, by go_num, by omega, HN2, hid trivial⟩
     case measure => simp [intOf]; omega
    ·as_aux_lemma =>
     have a3 : 48 ≤ X := by omega
     have a4 : ¬ X ≤ 57 := by omega
     have hr : gbI X = false := decide_eq_false (by omega)
     have hR := HNo.out hr
     subst hR
     have b5 : (X == 46) = false := beq_eq_false_iff_ne.2 (by omega)
     have b6 : (X == 45) = false := beq_eq_false_iff_ne.2 (by omega)
     have b7 : (X == 95) = false := beq_eq_false_iff_ne.2 (by omega)
     have a5 : ¬ X = 46 := by omega
     have a6 : ¬ X = 45 := by omega
     have a7 : ¬ X = 95 := by omega
     go_wp2_with fail
     go_ret
     exact ⟨rfl, rfl⟩
   ·by_cases a3 : 48 ≤ X
    ·by_cases a4 : X ≤ 57
     ·as_aux_lemma =>
      have hr : gbI X = true := decide_eq_true (by omega)
      have HN2 := hid (HNx.out hr)
      go_wp2_with fail
      go_roundw
      case rel => exact ⟨i + 1, by go_num, by omega, HN2, hid trivial⟩
      case measure => simp [intOf]; omega
     ·by_cases a7 : X = 95
      ·as_aux_lemma =>
       have hr : gbI X = true := decide_eq_true (by omega)
       have HN2 := hid (HNx.out hr)
       have b5 : (X == 46) = false := beq_eq_false_iff_ne.2 (by omega)
       have b6 : (X == 45) = false := beq_eq_false_iff_ne.2 (by omega)
       have b7 : (X == 95) = true := beq_iff_eq.2 a7
       have a5 : ¬ X = 46 := by omega
       have a6 : ¬ X = 45 := by omega
       go_wp2_with fail
       go_roundw
       case rel => exact ⟨i + 1, by go_num, by omega, HN2, hid trivial⟩
       case measure => simp [intOf]; omega
      ·as_aux_lemma =>
       have hr : gbI X = false := decide_eq_false (by omega)
       have hR := HNo.out hr
       subst hR
       have b5 : (X == 46) = false := beq_eq_false_iff_ne.2 (by omega)
       have b6 : (X == 45) = false := beq_eq_false_iff_ne.2 (by omega)
       have b7 : (X == 95) = false := beq_eq_false_iff_ne.2 (by omega)
       have a5 : ¬ X = 46 := by omega
       have a6 : ¬ X = 45 := by omega
       go_wp2_with fail
       go_ret
       exact ⟨rfl, rfl⟩
    ·by_cases a5 : X = 46
     ·as_aux_lemma =>
      have hr : gbI X = true := decide_eq_true (by omega)
      have HN2 := hid (HNx.out hr)
      have b5 : (X == 46) = true := beq_iff_eq.2 a5
      go_wp2_with fail
      go_roundw
      case rel => exact ⟨i + 1, by go_num, by omega, HN2, hid trivial⟩
      case measure => simp [intOf]; omega
     ·by_cases a6 : X = 45
      ·as_aux_lemma =>
       have hr : gbI X = true := decide_eq_true (by omega)
       have HN2 := hid (HNx.out hr)
       have b5 : (X == 46) = false := beq_eq_false_iff_ne.2 (by omega)
       have b6 : (X == 45) = true := beq_iff_eq.2 a6
       go_wp2_with fail
       go_roundw
       case rel => exact ⟨i + 1, by go_num, by omega, HN2, hid trivial⟩
       case measure => simp [intOf]; omega
      ·as_aux_lemma =>
       have hr : gbI X = false := decide_eq_false (by omega)
       have hR := HNo.out hr
       subst hR
       have b5 : (X == 46) = false := beq_eq_false_iff_ne.2 (by omega)
       have b6 : (X == 45) = false := beq_eq_false_iff_ne.2 (by omega)
       have b7 : (X == 95) = false := beq_eq_false_iff_ne.2 (by omega)
       have a7 : ¬ X = 95 := by omega
       go_wp2_with fail
       go_ret
       exact ⟨rfl, rfl⟩
  ·as_aux_lemma =>
   have hlt' : ¬ (i : Int) < (s.size : Int) := by omega
   by_cases h1 : 1 ≤ s.size
   ·by_cases h2 : s.size ≤ 64
    ·have hR : R = true := by rw [← HR.out]; exact goodN_yes h1 h2 (fun j hj => HA.out j hj (by omega))
     subst hR
     have h1' : (1 : Int) ≤ (s.size : Int) := by omega
     have h2' : (s.size : Int) ≤ 64 := by omega
     clear h1 h2 hi hlt
     go_wp2_with fail
     go_ret
     exact ⟨rfl, rfl⟩
    ·have hR : R = false := by rw [← HR.out]; unfold goodN; rw [decide_eq_false h2]; simp
     subst hR
     have h1' : (1 : Int) ≤ (s.size : Int) := by omega
     have h2' : ¬ (s.size : Int) ≤ 64 := by omega
     clear h1 h2 hi hlt
     go_wp2_with fail
     go_ret
     exact ⟨rfl, rfl⟩
   ·have hR : R = false := by rw [← HR.out]; unfold goodN; rw [decide_eq_false h1]; rfl
    subst hR
    have h1' : ¬ (1 : Int) ≤ (s.size : Int) := by omega
    clear h1 hi hlt
    go_wp2_with fail
    go_ret
    exact ⟨rfl, rfl⟩
variable {w w' : World} {B b : Nat} {A : Ab} {P : Nat → Prop} {sv : Value} {E : List Fl}
set_option maxRecDepth 100000 in
theorem refused_any (h : Rk w B b A sv E) (s : ByteArray) (hs : s.size ≤ 140737488355328) : Calls Tryz.prog 120 #[.pointer (some ⟨b, 0, none⟩), .string s] w fun e w' => e = .returned (.int .i64 (refE A.off s)) ∧ w' = w := by
 have y4 : w.cell? ⟨b, 4, none⟩ = some (.bool A.off) := h.blk.cell 4
 have HN : Hid (∀ u : World, Calls Tryz.prog 42 #[.string s] u fun e w' => e = .returned (.bool (goodN s)) ∧ w' = u) := hid (fun u => named_any s hs u)
 unfold refE
 obtain ⟨o, ho⟩ : ∃ o, A.off = o := ⟨_, rfl⟩
 obtain ⟨q, hq⟩ : ∃ q, goodN s = q := ⟨_, rfl⟩
 rw [ho] at y4 ⊢
 rw [hq] at HN ⊢
 clear ho hq h hs
 cases o with
 | true =>
  go_enter Tryz.func120, Tryz.ntmps120
  go_wp2_with fail
  go_ret
  exact ⟨rfl, rfl⟩
 | false =>
  cases q with
  | true =>
   go_enter Tryz.func120, Tryz.ntmps120
   go_wp2_with (go_at_call 42; (with_reducible refine (HN.out _).mono ?_); rintro e w5 ⟨rfl, hw5⟩; have hw5' := hw5.symm; clear hw5; subst hw5')
   go_ret
   exact ⟨rfl, rfl⟩
  | false =>
   go_enter Tryz.func120, Tryz.ntmps120
   go_wp2_with (go_at_call 42; (with_reducible refine (HN.out _).mono ?_); rintro e w5 ⟨rfl, hw5⟩; have hw5' := hw5.symm; clear hw5; subst hw5')
   go_ret
   exact ⟨rfl, rfl⟩
set_option maxRecDepth 100000 in
theorem missing_any (h : Rk w B b A sv E) (s : ByteArray) (hs : s.size ≤ 140737488355328) : Calls Tryz.prog 113 #[.pointer (some ⟨b, 0, none⟩), .string s] w fun e w' => e = .returned (.int .i64 (A.fndE s)) ∧ w.grownBy w' none := by
 have HR := hid (refused_any h s hs)
 have HP := hid (place_any h s)
 have hI := isAt_get h.srt s
 obtain ⟨r, hr⟩ : ∃ r, refE A.off s = r := ⟨_, rfl⟩
 obtain ⟨p, hp⟩ : ∃ p, plc A.C s = p := ⟨_, rfl⟩
 obtain ⟨D, hD⟩ : ∃ D, isAt A.C s = D := ⟨_, rfl⟩
 have hF : A.fndE s = if r = 0 then (if D = true then 0 else 92) else r := by unfold Ab.fndE; rw [hr, ← hI, hD]
 rw [hF]
 rw [hr] at HR
 rw [hp, hD] at HP
 clear h hs hI hr hp hD hF
 by_cases hr0 : r = 0
 ·subst hr0
  cases D with
  | true =>
   go_enter Tryz.func113, Tryz.ntmps113
   go_wp2_with (first
    | (go_at_call 120; (with_reducible refine HR.out.mono ?_); rintro e w5 ⟨rfl, hw5⟩; have hw5' := hw5.symm; clear hw5; subst hw5')
    | (go_at_call 41; (with_reducible refine HP.out.mono ?_); rintro e w6 ⟨rfl, hg⟩; have HG := hid hg; clear hg))
   go_ret
   exact ⟨rfl, HG.out⟩
  | false =>
   go_enter Tryz.func113, Tryz.ntmps113
   go_wp2_with (first
    | (go_at_call 120; (with_reducible refine HR.out.mono ?_); rintro e w5 ⟨rfl, hw5⟩; have hw5' := hw5.symm; clear hw5; subst hw5')
    | (go_at_call 41; (with_reducible refine HP.out.mono ?_); rintro e w6 ⟨rfl, hg⟩; have HG := hid hg; clear hg))
   go_ret
   exact ⟨rfl, HG.out⟩
 ·rw [if_neg hr0]
  have hb : (r == 0) = false := beq_eq_false_iff_ne.2 hr0
  go_enter Tryz.func113, Tryz.ntmps113
  go_wp2_with (first
   | (go_at_call 120; (with_reducible refine HR.out.mono ?_); rintro e w5 ⟨rfl, hw5⟩; have hw5' := hw5.symm; clear hw5; subst hw5')
   | (go_at_call 41; (with_reducible refine HP.out.mono ?_); rintro e w6 ⟨rfl, hg⟩; have HG := hid hg; clear hg))
  go_ret
  exact ⟨rfl, HG.out⟩
theorem roff_any (t : Bool) (w : World) : Calls Tryz.prog 117 #[.bool t] w fun e w' => e = .returned (.int .i64 (if t = true then 94 else 0)) ∧ w' = w := by
 cases t with
 | true =>
  go_enter Tryz.func117, Tryz.ntmps117
  go_wp2
  go_ret
  exact ⟨rfl, rfl⟩
 | false =>
  go_enter Tryz.func117, Tryz.ntmps117
  go_wp2
  go_ret
  exact ⟨rfl, rfl⟩
/-- The disk's own block is written. -/
theorem Rk.put {A' : Ab} (h : Rk w B b A sv E) (hb : Blk w' b (rkc A' sv) 113) (hg : w.grownBy w' (some b)) (hC : A'.C = A.C) (ho : A'.ok) : Rk w' B b A' sv E :=
 ⟨hb, h.row.on hg (fun k hk => by
  injection hk with hk
  subst hk
  refine ⟨fun e => ?_, fun f hf e => out_ne (h.row.own f hf) h.blk (by decide) e⟩
  rcases h.row.row.2 with ⟨h1, _⟩ | ⟨g', cap, cur, hv, hB, hgg, _⟩
  ·rw [h1] at e; cases e
  ·rw [hv] at e
   injection e with e
   have e' : g' = b := e
   subst e'
   have h9 := h.blk
   unfold Blk at h9
   rw [hgg] at h9
   injection h9 with h9
   injection h9 with _ h9
   cases h9), by rw [hC]; exact h.con, by rw [hC]; exact h.srt, h.low, ho⟩
def Ab.tore (A : Ab) : Ab := A.did A.C
set_option maxRecDepth 100000 in
set_option maxHeartbeats 1600000 in
theorem torn_any (h : Rk w B b A sv E) (hoff : A.off = false) (hw : A.wr ≤ 4611686018427387904) : Calls Tryz.prog 116 #[.pointer (some ⟨b, 0, none⟩)] w fun e w' => e = .returned (.bool (decide (A.ar = 1))) ∧ Rk w' B b A.tore sv E ∧ w.grownBy w' (some b) := by
 have H := hid h
 have hwr := h.ok.wr
 have har := h.ok.ar
 obtain ⟨room, off, wr, ar, kp, C⟩ := A
 replace hoff : off = false := hoff
 subst hoff
 replace hw : wr ≤ 4611686018427387904 := hw
 replace hwr : 0 ≤ wr := hwr
 replace har : 0 ≤ ar ∧ ar ≤ 9223372036854775807 := har
 have hB : Blk w b [.int .i64 room, sv, .int .i64 ar, .int .i64 kp, .bool false, .int .i64 wr] 113 := h.blk
 clear h
 have HB := hid hB
 have c2 := hB.cell 2
 have c4 := hB.cell 4
 have c5 := hB.cell 5
 have f2 := hB.frozen 2
 have f4 := hB.frozen 4
 have f5 := hB.frozen 5
 clear hB
 have HK : Hid (∀ (w' : World) (A' : Ab), Blk w' b (rkc A' sv) 113 → w.grownBy w' (some b) → A'.C = C → A'.ok → Rk w' B b A' sv E) := hid (fun w' A' h1 h2 h3 h4 => H.out.put h1 h2 h3 h4)
 have HO : Hid ((⟨room, false, wr, ar, kp, C⟩ : Ab).tore.ok) := hid (H.out.ok.did H.out.ok.used H.out.ok.len H.out.ok.nms)
 by_cases h0 : ar = 0
 ·as_aux_lemma =>
  subst h0
  go_enter Tryz.func116, Tryz.ntmps116
  go_wp2_with fail
  go_ret
  have hg := gset w ⟨b, 5, none⟩ (.int .i64 (wr + 1))
  refine ⟨rfl, HK.out _ _ ?_ hg rfl HO.out, hg⟩
  exact HB.out.set 5 (.int .i64 (wr + 1))
 ·by_cases h1 : ar = 1
  ·as_aux_lemma =>
   subst h1
   go_enter Tryz.func116, Tryz.ntmps116
   go_wp2_with fail
   go_ret
   have hg : w.grownBy (((w.setCell ⟨b, 5, none⟩ (.int .i64 (wr + 1))).setCell ⟨b, 2, none⟩ (.int .i64 0)).setCell ⟨b, 4, none⟩ (.bool true)) (some b) := gtrans (gtrans (gset w ⟨b, 5, none⟩ _) (gset _ ⟨b, 2, none⟩ _)) (gset _ ⟨b, 4, none⟩ _)
   refine ⟨rfl, HK.out _ _ ?_ hg rfl HO.out, hg⟩
   exact ((HB.out.set 5 (.int .i64 (wr + 1))).set 2 (.int .i64 0)).set 4 (.bool true)
  ·as_aux_lemma =>
   have h2 : ¬ ar - 1 = 0 := by omega
   have h3 : ((ar - 1) == 0) = false := beq_eq_false_iff_ne.2 h2
   have h4 : (ar == 0) = false := beq_eq_false_iff_ne.2 h0
   rw [decide_eq_false h1]
   go_enter Tryz.func116, Tryz.ntmps116
   go_wp2_with fail
   go_ret
   have hg : w.grownBy (((w.setCell ⟨b, 5, none⟩ (.int .i64 (wr + 1))).setCell ⟨b, 2, none⟩ (.int .i64 (ar - 1))).setCell ⟨b, 4, none⟩ (.bool false)) (some b) := gtrans (gtrans (gset w ⟨b, 5, none⟩ _) (gset _ ⟨b, 2, none⟩ _)) (gset _ ⟨b, 4, none⟩ _)
   refine ⟨rfl, HK.out _ _ ?_ hg rfl HO.out, hg⟩
   have e1 : (⟨room, false, wr, ar, kp, C⟩ : Ab).tore = ⟨room, false, wr + 1, ar - 1, kp, C⟩ := by
    unfold Ab.tore Ab.did wO wA
    rw [if_neg h1, if_neg h1]
    show Ab.mk room false (wr + 1) (max (ar - 1) 0) kp C = _
    rw [Int.max_eq_left (by omega)]
   rw [e1]
   exact ((HB.out.set 5 (.int .i64 (wr + 1))).set 2 (.int .i64 (ar - 1))).set 4 (.bool false)
end Go.Proofs.YtpbiofnncdneoaaGreatDoor
