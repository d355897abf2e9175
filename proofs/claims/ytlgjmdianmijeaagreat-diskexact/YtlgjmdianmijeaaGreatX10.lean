/- The names, sorted. -/
import Derived.Test.YtlgjmdianmijeaaGreatX09
import Derived.Test.YtlgjmdianmijeaaGreatX08
namespace Go.Proofs.YtlgjmdianmijeaaGreat
open Go Go.RowKit Go.MapKept Go.MuLone
open Go.WideElems (Fit rd rg)
open Go.WideShapes (sorted_perm)
open Go.RowKit (wrap32 wrap64)

/-- The names of files, sorted. -/
def nmL (F : List Fl) : List (List UInt8) := F.map (fun f => f.nm.data.toList)
def srtL (l : List (List UInt8)) : List (List UInt8) := l.mergeSort leB
def rTr : Value → Option (DataW Unit × List MemPlace) := fun _ => some (.lit (.bool true), [])
variable {w w' : World} {B b m : Nat} {lk room : Int} {off : Bool} {wr ar kp : Int} {F : List Fl}
theorem keyOf_9 (s : ByteArray) (h : s.size ≤ 64) : keyOf Tryz.prog 9 (.string s) = some (.string s.data.toList) := by
  simp only [keyOf, Tryz.underlying9, mapKey]
  have h' : s.size ≤ maxLen := Nat.le_trans h (by decide)
  simp [h']
set_option maxRecDepth 100000 in
theorem MapAt.owns (h : MapAt w m F) (hl : F.length ≤ 64) (hn : ∀ f ∈ F, f.nm.size ≤ 64) : ∃ D : DataW Unit, w.ownsMap Tryz.prog 9 rTr m F.length D ∧ (strKeys D).Perm (nmL F) ∧ Maps.size D = F.length := by
  obtain ⟨es, clock, hb, hst, hF⟩ := h
  have hlen : es.size = F.length := by have := congrArg List.length hF; simpa using this
  have hk : ∀ x ∈ es.toList, ∃ f ∈ F, x.key = .string f.nm := fun x hx => by
    have : kv x ∈ F.map entF := by rw [← hF]; exact List.mem_map.2 ⟨x, hx, rfl⟩
    obtain ⟨f, hf, he⟩ := List.mem_map.1 this
    exact ⟨f, hf, (congrArg Prod.fst he).symm⟩
  have hrd : ∀ x ∈ es.toList, ∀ s : ByteArray, x.key = .string s → s.size ≤ 64 → rd Tryz.prog 9 rTr x = some (.string s.data.toList, .lit (.bool true)) := fun x hx s hs hz => by
    unfold rd
    rw [hs, keyOf_9 s hz]
    rfl
  refine ⟨_, ⟨es, clock, hb, ⟨by rw [hlen]; exact Nat.le_trans hl (by decide), hst, fun x hx => ?_⟩, Nat.le_of_eq hlen, rfl⟩, ?_, ?_⟩
  · obtain ⟨f, hf, he⟩ := hk x hx
    exact ⟨_, hrd x hx f.nm he (hn f hf)⟩
  · refine (List.Perm.map _ (sorted_perm _)).trans (List.Perm.of_eq ?_)
    rw [List.map_map]
    have h1 : es.toList.map ((fun p : Lit × DataW Unit => strOf p.1) ∘ rg Tryz.prog 9 rTr) = (es.toList.map kv).map (fun p => match p.1 with | .string s => s.data.toList | _ => []) := by
      rw [List.map_map]
      refine List.map_congr_left fun x hx => ?_
      obtain ⟨f, hf, he⟩ := hk x hx
      show strOf (rg Tryz.prog 9 rTr x).1 = (match x.key with | .string s => s.data.toList | _ => [])
      unfold rg
      rw [hrd x hx f.nm he (hn f hf)]

      rw [he, Option.getD_some]
      rfl
    rw [h1, hF, List.map_map]
    rfl
  · rw [Maps.size_eq, length_sorted]
    simp [hlen]
theorem leB_sorted (l : List (List UInt8)) : (srtL l).Pairwise (fun x y => x ≤ y) := by
  have tr : ∀ a b c : List UInt8, leB a b = true → leB b c = true → leB a c = true := fun a b c h1 h2 => by simp only [leB, decide_eq_true_eq] at *; exact List.le_trans h1 h2
  have to : ∀ a b : List UInt8, (leB a b || leB b a) = true := fun a b => by simp only [leB, Bool.or_eq_true, decide_eq_true_eq]; exact List.le_total a b
  exact (List.pairwise_mergeSort tr to l).imp (fun h => by simpa [leB] using h)
theorem below_grown {n : Nat} (h : Below n w w') (hn : w.heap.size ≤ n) : w.grownBy w' none := ⟨h.os, h.tape, h.output, h.size, fun k hk _ => h.block k (by omega)⟩
theorem owns_base {B B' e q n : Nat} {v : Value} {xs : List Value} (h : w.ownsRow B e q v n xs) (hb : B' ≤ B) : w.ownsRow B' e q v n xs := by
  refine ⟨h.1, ?_⟩
  rcases h.2 with h1 | ⟨g, cap, cur, h1, h2, h3⟩
  · exact .inl h1
  · exact .inr ⟨g, cap, cur, h1, by omega, h3⟩
theorem keys_call (mb : Option Nat) (W : World) : Calls Tryz.prog 150 #[.map mb] W fun e w' => e = .returned (.func (.func 164) #[] #[.pointer (some ⟨W.heap.size, 0, none⟩)]) ∧ w' = W.alloc (.cells #[.map mb] 114) := callsIn_wide.1 (Tryz.maps_Keys_51 mb W)
theorem sort_call (h : MapAt w m F) (hl : F.length ≤ 64) (hn : ∀ f ∈ F, f.nm.size ≤ 64) : Calls Tryz.prog 149 #[.func (.func 164) #[] #[.pointer (some ⟨w.heap.size, 0, none⟩)]] (w.alloc (.cells #[.map (some m)] 114)) fun e w' => ∃ v, e = .returned v ∧ w'.ownsRow w.heap.size 9 1 v F.length ((srtL (nmL F)).map encStr) ∧ w.grownBy w' none := by
  obtain ⟨D, h1, h2, h3⟩ := h.owns hl hn
  have hc := callsIn_wide.1 (Tryz.slices_Sorted_keys_50_51 m F.length D rTr w h1 (by rw [h3]; exact Nat.le_trans hl (by decide)) (by rw [h3]; omega))
  refine hc.mono fun e w' ⟨v, ss, he, hp, ho, _, hb⟩ => ⟨v, he, ?_, gtrans (galloc w _ none) (below_grown hb (Nat.le_refl _))⟩
  have hperm := hp.trans h2
  have hss : ss.mergeSort (fun x y => decide (x ≤ y)) = srtL (nmL F) := mergeSort_of_perm hperm
  rw [hss] at ho
  have hlen : ss.length = F.length := by rw [hperm.length_eq]; simp [nmL]
  rw [hlen] at ho
  exact owns_base ho (by simp)
theorem sorted_any (h : Dk w B b m lk room off wr ar kp F) (hl : F.length ≤ 64) (hn : ∀ f ∈ F, f.nm.size ≤ 64) : Calls Tryz.prog 111 #[.pointer (some ⟨b, 0, none⟩)] w fun e w' => ∃ v, e = .returned v ∧ w'.ownsRow w.heap.size 9 1 v F.length ((srtL (nmL F)).map encStr) ∧ w.grownBy w' none := by
  have hb := h.blk
  have hm := h.map
  have c1 := fun W => keys_call (some m) W
  have c2 := sort_call hm hl hn
  have y3 := h.c.2.2.1
  have C1 := hid c1
  have C2 := hid c2
  clear c1 c2 hb hm h
  go_enter Tryz.func111, Tryz.ntmps111
  go_wp2_with first | (go_at_call 150; refine (C1.out _).mono ?_; rintro e w1 ⟨rfl, rfl⟩) | (go_at_call 149; refine C2.out.mono ?_; rintro e w1 ⟨v, rfl, ho, hg⟩)
  go_ret
  exact ⟨v, rfl, ho, hg⟩
end Go.Proofs.YtlgjmdianmijeaaGreat

namespace Go.Proofs.YtlgjmdianmijeaaGreat
open Go Go.RowKit Go.MuLone
open Go.RowKit (wrap32 wrap64)

/-- Files that are handed in: one behind the other, two cells each. -/
structure ArF (w : World) (Fr : Nat → Prop) (a : Option Addr) (b o : Nat) (L : Cn) : Prop where
  at_ : 0 < L.length → a = some ⟨b, o, none⟩ ∧ b < w.heap.size ∧ Fr b
  each : ∀ i (h : i < L.length), w.cell? ⟨b, o + i * 2, none⟩ = some (.string (L[i]).1) ∧ ∃ v, w.cell? ⟨b, o + i * 2 + 1, none⟩ = some v ∧ Rd w Fr v (L[i]).2
theorem ArF.on {w w' : World} {Fr : Nat → Prop} {a : Option Addr} {b o : Nat} {L : Cn} {row : Option Nat} (h : ArF w Fr a b o L) (hg : w.grownBy w' row) (hr : ∀ k, row = some k → ¬ Fr k) : ArF w' Fr a b o L := by
  refine ⟨fun h0 => ⟨(h.at_ h0).1, Nat.lt_of_lt_of_le (h.at_ h0).2.1 hg.size, (h.at_ h0).2.2⟩, fun i hi => ?_⟩
  have hb := h.at_ (by omega)
  have hne : row ≠ some b := fun e => hr b e hb.2.2
  obtain ⟨h1, v, h2, h3⟩ := h.each i hi
  exact ⟨(cell_at hg hb.2.1 hne).trans h1, v, (cell_at hg hb.2.1 hne).trans h2, h3.on hg hr⟩
theorem ArF.keep {w w' : World} {Fr : Nat → Prop} {a : Option Addr} {b o : Nat} {L : Cn} (h : ArF w Fr a b o L) (hg : w.grownBy w' none) : ArF w' Fr a b o L := h.on hg (fun k hk => by cases hk)
theorem ld9 (b i : Nat) (s : ByteArray) (u : World) (h : u.cell? ⟨b, i, none⟩ = some (.string s)) : (Instr.loadAt 9 (.pointer (some ⟨b, i, none⟩))).run Tryz.prog u = .ok (.string s) u := by go_simp
theorem ld33 (b i n c : Nat) (a : Option Addr) (u : World) (h : u.cell? ⟨b, i, none⟩ = some (.slice a n c)) : (Instr.loadAt 58 (.pointer (some ⟨b, i, none⟩))).run Tryz.prog u = .ok (.slice a n c) u := by go_simp
/-- What Load makes of files, one behind the other; none: it is refused. -/
def loadC (room : Int) : Cn → Cn → Option Cn
  | C, [] => some C
  | C, p :: L => if goodN p.1 = true ∧ (getC C p.1).isSome = false ∧ C.length < 64 ∧ (p.2.length : Int) ≤ room - (usedC C : Nat) then loadC room (setC C p.1 p.2) L else none
theorem loadC_ok {room : Int} : ∀ {L C C' : Cn}, loadC room C L = some C' → (usedC C : Int) ≤ room → C.length ≤ 64 → (∀ p ∈ C, goodN p.1 = true) → (usedC C' : Int) ≤ room ∧ C'.length ≤ 64 ∧ ∀ p ∈ C', goodN p.1 = true
  | [], C, C', h, h1, h2, h3 => by
    injection h with h
    subst h
    exact ⟨h1, h2, h3⟩
  | p :: L, C, C', h, h1, h2, h3 => by
    unfold loadC at h
    by_cases hc : goodN p.1 = true ∧ (getC C p.1).isSome = false ∧ C.length < 64 ∧ (p.2.length : Int) ≤ room - (usedC C : Nat)
    · rw [if_pos hc] at h
      refine loadC_ok h ?_ ?_ (fun q hq => ?_)
      · have h4 := used_set C p.1 p.2
        have h5 : getC C p.1 = none := by
          cases hg : getC C p.1 with
          | none => rfl
          | some x => rw [hg] at hc; simp at hc
        rw [h5] at h4
        simp at h4
        omega
      · rw [len_set]
        have := hc.2.2.1
        split <;> omega
      · rcases mem_setC hq with rfl | hq
        · exact hc.1
        · exact h3 q hq
    · rw [if_neg hc] at h
      cases h
theorem Tryz.zero130 : (Tryz.prog.info? 130).map (fun i => i.zero) = some (some (.agg [Value.string ⟨#[]⟩, .slice none 0 0].toArray)) := by kernel_rfl
theorem Tryz.size130 : (Tryz.prog.info? 130).map (·.size) = some 2 := by kernel_rfl
theorem file_one (s : ByteArray) (a : Option Addr) (n c : Nat) : ∀ v ∈ [Value.string s, .slice a n c], v.oneCell' = true := fun v hv => by
  rcases List.mem_cons.1 hv with rfl | hv
  · rfl
  · rw [List.mem_singleton.1 hv]; rfl
set_option maxRecDepth 100000 in
set_option maxHeartbeats 8000000 in
theorem load_any (w : World) (Fr : Nat → Prop) (a : Option Addr) (fb fo fc : Nat) (L : Cn) (room : Int) (hA : ArF w Fr a fb fo L) (hL : L.length ≤ 1000000) (hb : ∀ p ∈ L, p.2.length ≤ 140737488355328) (hr : 1 ≤ room ∧ room ≤ 268435456) :
    Calls Tryz.prog 76 #[.slice a L.length fc, .int .i64 room] w fun e w' => w.grownBy w' none ∧ ((loadC room [] L = none ∧ e = .returned (.tuple #[.pointer none, .int .i64 96])) ∨ ∃ C b, loadC room [] L = some C ∧ e = .returned (.tuple #[.pointer (some ⟨b, 0, none⟩), .int .i64 0]) ∧ DkP w' w.heap.size b ⟨room, false, 0, 0, 0, C⟩ (fun k => w.heap.size ≤ k ∧ k < w'.heap.size)) := by
  have HNw := hid (new_ok w room hr.1 hr.2)
  have HAr : Hid (∀ u, w.grownBy u none → ArF u Fr a fb fo L) := hid (fun u hu => hA.keep hu)
  have HBl := hid hb
  have HRo := hid hr
  obtain ⟨n, HN⟩ : ∃ n, Hid (L.length = n) := ⟨_, hid rfl⟩
  obtain ⟨R, HR⟩ : ∃ x, Hid (loadC room [] L = x) := ⟨_, hid rfl⟩
  rw [HN.out] at hL ⊢
  rw [HR.out]
  clear hA hb hr
  go_enter Tryz.func76, Tryz.ntmps76
  go_upto_region 5 with (go_at_call 11; refine HNw.out.mono ?_; rintro e w1 ⟨b, rfl, hd, hg⟩; have HP1 := hid hd; have HG1 := hid hg; clear hd hg)
  have HD1 : Hid (∃ m, Dk w1 w.heap.size b m 0 room false 0 0 0 []) := hid (by
    obtain ⟨_, m, F, h2, h3, _⟩ := HP1.out
    have : F = [] := List.map_eq_nil_iff.1 h3
    subst this
    exact ⟨m, h2⟩)
  clear HP1
  obtain ⟨m, HDm⟩ : ∃ m, Hid (Dk w1 w.heap.size b m 0 room false 0 0 0 []) := by obtain ⟨m, h⟩ := HD1.out; exact ⟨m, hid h⟩
  clear HD1
  go_loopw [20] (fun iv wr => ∃ (i : Nat) (F : List Fl), iv = .int .i64 i ∧ i ≤ n ∧ Hid (R = loadC room (cont F) (L.drop i) ∧ (usedC (cont F) : Int) ≤ room ∧ (cont F).length ≤ 64 ∧ (∀ p ∈ cont F, goodN p.1 = true)) ∧ Hid (Dk wr w.heap.size b m 0 room false 0 0 0 F) ∧ Hid (w.grownBy wr none)) (fun iv _ => n - (intOf iv).toNat)
  case atStart => exact ⟨0, [], rfl, by omega, hid ⟨HR.out.symm, by show (0 : Int) ≤ room; have := HRo.out; omega, by show 0 ≤ 64; omega, (fun p hp => by cases hp)⟩, HDm, HG1⟩
  case round =>
    obtain ⟨i, F, rfl, hi, HI, HD, HG⟩ := hrel
    obtain ⟨w0, hw0⟩ : ∃ x : World, x = wr := ⟨_, rfl⟩
    rw [← hw0] at HD HG ⊢
    clear hw0 HDm HG1 HNw
    by_cases hlt : i < n
    · as_aux_lemma =>
      have hlt' : (i : Int) < (n : Int) := by omega
      have hiL : i < L.length := by rw [HN.out]; exact hlt
      obtain ⟨rfl, -⟩ := (HAr.out w0 HG.out).at_ (by omega)
      obtain ⟨q, Hq⟩ : ∃ x, Hid (L[i] = x) := ⟨_, hid rfl⟩
      obtain ⟨s, l⟩ := q
      have HC : Hid (w0.cell? ⟨fb, fo + i * 2, none⟩ = some (.string s) ∧ ∃ v, w0.cell? ⟨fb, fo + i * 2 + 1, none⟩ = some v ∧ Rd w0 Fr v l) := hid (by have := (HAr.out w0 HG.out).each i hiL; rw [Hq.out] at this; exact this)
      have HLl : Hid (l.length ≤ 140737488355328) := hid (HBl.out (s, l) (by rw [← Hq.out]; exact List.getElem_mem _))
      have HDr : Hid (R = loadC room (cont F) ((s, l) :: L.drop (i + 1))) := hid (by rw [HI.out.1, List.drop_eq_getElem_cons hiL, Hq.out])
      obtain ⟨v, hv1, hv2⟩ := HC.out.2
      have HV := hid hv2
      obtain ⟨ba, -, -, bc, rfl, -⟩ := hv2
      obtain ⟨bn, HBn⟩ : ∃ x, Hid (l.length = x) := ⟨_, hid rfl⟩
      rw [HBn.out] at HV hv1
      have HRg : Hid (w0.rangeAt fb (fo + i * 2) [.string s, .slice ba bn bc]) := hid (fun j x hx => by
        rcases (show j = 0 ∨ j = 1 ∨ 2 ≤ j by omega) with rfl | rfl | h2
        · injection hx with hx; subst hx; exact HC.out.1
        · injection hx with hx; subst hx; exact hv1
        · have : ([Value.string s, .slice ba bn bc] : List Value)[j]? = none := by simp; omega
          rw [this] at hx; cases hx)
      have HFtb : Hid (usedF F ≤ 1099511627776 ∧ (0 ≤ room ∧ room ≤ 1099511627776)) := hid (by have := HI.out.2.1; have := HRo.out; rw [used_cont]; omega)
      clear hv1 HC Hq
      go_upto_region 7 with (first
        | (with_reducible refine wpList_load_part (by with_unfolding_all rfl) 130 _ (by with_unfolding_all rfl) fb (fo + i * 2) [.string s, .slice ba bn bc] _ (by with_unfolding_all rfl) HRg.out Tryz.underlying130 (by with_unfolding_all rfl) (by with_unfolding_all exact Tryz.size130) ?_)
        | ((with_reducible refine wpList_store_all (by with_unfolding_all rfl) 130 _ _ (by with_unfolding_all rfl) _ [.string ⟨#[]⟩, .slice none 0 0] [.string s, .slice ba bn bc] 130 (by with_unfolding_all rfl) (by with_unfolding_all rfl) HB2.out (by with_unfolding_all rfl) (by with_unfolding_all exact Tryz.size130) (file_one _ _ _ _) ?_); intro w3 BB hg ss; have HB3' := hid BB; have HU3 := hid (HU2.out.andThen hg (fun j hj => .inl (by injection hj with hj; omega))); clear BB hg ss)
        | ((with_reducible refine wpList_alloc_row (by with_unfolding_all rfl) 130 (by with_unfolding_all rfl) [.string ⟨#[]⟩, .slice none 0 0] Tryz.zero130 ?_); intro w2 BB ss hg; have HB2 := hid BB; have HU2 := hid hg; clear BB ss hg))
      obtain ⟨p9, hp9⟩ : ∃ x, w0.heap.size = x := ⟨_, rfl⟩
      rw [hp9] at HB3' ⊢
      have HD3 := hid (HD.out.keep HU3.out)
      have HG3 := hid (gtrans HG.out HU3.out)
      have HV3 := hid (HV.out.keep HU3.out)
      have HB3 : Hid (w.heap.size ≤ w3.heap.size) := hid HG3.out.size
      have HS9 : Hid (∀ u, w3.grownBy u none → u.cell? ⟨p9, 0, none⟩ = some (.string s) ∧ u.cell? ⟨p9, 1, none⟩ = some (.slice ba bn bc)) := hid (fun u hu => ⟨(HB3'.out.keep hu).cell 0, (HB3'.out.keep hu).cell 1⟩)
      clear hp9 HB2 HU2 HU3 HD HG HV HRg
      have HGn : Hid (∀ u : World, Calls Tryz.prog 118 #[.string s] u fun e w' => e = .returned (.bool (goodN s)) ∧ u.grownBy w' none) := hid (fun u => goodName_any s u)
      have HHs : Hid (∀ u, w3.grownBy u none → Calls Tryz.prog 119 #[.pointer (some ⟨b, 0, none⟩), .string s] u fun e w' => e = .returned (.bool (hasF F s)) ∧ w' = u) := hid (fun u hu => has_any (HD3.out.keep hu) s)
      have HFt : Hid (∀ u, w3.grownBy u none → Calls Tryz.prog 46 #[.pointer (some ⟨b, 0, none⟩), .string s, .int .i64 (bn : Nat)] u fun e w' => e = .returned (.bool (fitsF room F s bn)) ∧ u.grownBy w' none) := hid (fun u hu => fits_any (HD3.out.keep hu) s bn HFtb.out.1 HFtb.out.2)
      have z0 := (HS9.out w3 (grefl _ _)).1
      cases hgn : goodN s with
      | false =>
        rw [hgn] at HGn
        have HRn : Hid (R = none) := hid (by rw [HDr.out]; unfold loadC; rw [if_neg (fun q => by rw [hgn] at q; cases q.1)])
        go_wp2_with (go_at_call 118; refine (HGn.out _).mono ?_; rintro e w4 ⟨rfl, hg⟩; have HU4 := hid hg; clear hg)
        refine bodyPost_ret (results_tmp2 rfl _ _ _) rfl ?_
        exact ⟨gtrans HG3.out HU4.out, .inl ⟨HRn.out, rfl⟩⟩
      | true =>
        rw [hgn] at HGn
        cases hha : hasF F s with
        | true =>
          rw [hha] at HHs
          have HRn : Hid (R = none) := hid (by rw [HDr.out]; unfold loadC; rw [if_neg (fun q => by rw [← has_cont, hha] at q; cases q.2.1)])
          go_wp2_with (first
            | (go_at_call 118; refine (HGn.out _).mono ?_; rintro e w4 ⟨rfl, hg⟩; have HU4 := hid hg; have z4 := (HS9.out w4 hg).1; clear hg)
            | (go_at_call 119; refine (HHs.out _ HU4.out).mono ?_; rintro e w5 ⟨rfl, rfl⟩))
          refine bodyPost_ret (results_tmp2 rfl _ _ _) rfl ?_
          exact ⟨gtrans HG3.out HU4.out, .inl ⟨HRn.out, rfl⟩⟩
        | false =>
          rw [hha] at HHs
          have HfE : Hid (fitsF room F s bn = (decide ((cont F).length < 64) && decide ((l.length : Int) ≤ room - (usedC (cont F) : Nat)))) := hid (by unfold fitsF; rw [hha, Bool.false_or, len_cont, used_cont, HBn.out])
          cases hfi : fitsF room F s bn with
          | false =>
            rw [hfi] at HFt
            have HRn : Hid (R = none) := hid (by
              rw [HDr.out]
              unfold loadC
              rw [if_neg (fun q => by
                have := HfE.out
                rw [hfi, decide_eq_true q.2.2.1, decide_eq_true q.2.2.2] at this
                cases this)])
            go_wp2_with (first
              | (go_at_call 118; refine (HGn.out _).mono ?_; rintro e w4 ⟨rfl, hg⟩; have HU4 := hid hg; have z4 := (HS9.out w4 hg).1; have y4 := (HS9.out w4 hg).2; clear hg)
              | (go_at_call 119; refine (HHs.out _ HU4.out).mono ?_; rintro e w5 ⟨rfl, hw5⟩; subst hw5)
              | (go_at_call 46; refine (HFt.out _ HU4.out).mono ?_; rintro e w6 ⟨rfl, hg⟩; have HU6 := hid (gtrans HU4.out hg); clear hg))
            refine bodyPost_ret (results_tmp2 rfl _ _ _) rfl ?_
            exact ⟨gtrans HG3.out HU6.out, .inl ⟨HRn.out, rfl⟩⟩
          | true =>
            rw [hfi] at HFt
            have HcA : Hid (goodN s = true ∧ (getC (cont F) s).isSome = false ∧ (cont F).length < 64 ∧ (l.length : Int) ≤ room - (usedC (cont F) : Nat)) := hid (by
              have h1 := HfE.out
              rw [hfi] at h1
              have h2 := h1.symm
              simp only [Bool.and_eq_true, decide_eq_true_eq] at h2
              exact ⟨hgn, by rw [← has_cont]; exact hha, h2.1, h2.2⟩)
            have HSz : Hid (s.size ≤ 64) := hid (by
              have hg := hgn
              unfold goodN at hg
              simp only [Bool.and_eq_true, decide_eq_true_eq] at hg
              exact hg.2.1)
            have HNx : Hid (∀ v, Hid (R = loadC room (cont (setF F s v l)) (L.drop (i + 1)) ∧ (usedC (cont (setF F s v l)) : Int) ≤ room ∧ (cont (setF F s v l)).length ≤ 64 ∧ (∀ p ∈ cont (setF F s v l), goodN p.1 = true))) := hid (fun v => by
              have h1 : loadC room (cont F) [(s, l)] = some (setC (cont F) s l) := by unfold loadC; rw [if_pos HcA.out]; rfl
              have h2 := loadC_ok h1 HI.out.2.1 HI.out.2.2.1 HI.out.2.2.2
              rw [set_cont]
              refine hid ⟨?_, h2⟩
              rw [HDr.out]
              conv => lhs; unfold loadC
              rw [if_pos HcA.out])
            go_upto_region 9 with (first
              | (go_at_call 118; refine (HGn.out _).mono ?_; rintro e w4 ⟨rfl, hg⟩; have HU4 := hid hg; have z4 := (HS9.out w4 hg).1; have y4 := (HS9.out w4 hg).2; clear hg)
              | (go_at_call 119; refine (HHs.out _ HU4.out).mono ?_; rintro e w5 ⟨rfl, hw5⟩; subst hw5)
              | (go_at_call 46; refine (HFt.out _ HU4.out).mono ?_; rintro e w6 ⟨rfl, hg⟩; have HU6 := hid (gtrans HU4.out hg); clear hg))
            have HD3b := hid (HD3.out.keep HU6.out)
            have HG3b := hid (gtrans HG3.out HU6.out)
            have HV3b := hid (HV3.out.keep HU6.out)
            have HS9b : Hid (∀ u, w6.grownBy u none → u.cell? ⟨p9, 0, none⟩ = some (.string s) ∧ u.cell? ⟨p9, 1, none⟩ = some (.slice ba bn bc)) := hid (fun u hu => HS9.out u (gtrans HU6.out hu))
            have HB3b : Hid (w.heap.size ≤ w6.heap.size) := hid HG3b.out.size
            clear HD3 HG3 HV3 HS9 HB3 HHs HFt HU4 HU6 z0 z4 y4
            have HCl : Hid (∀ u, w6.grownBy u none → Calls Tryz.prog 50 #[.slice ba bn bc] u fun e w' => ∃ v, e = .returned v ∧ u.grownBy w' none ∧ ∃ va vc, v = Value.slice va bn vc ∧ Out w6.heap.size w' (Value.slice va bn vc) l) := hid (fun u hu => (bclone_any u _ Fr l (HV3b.out.keep hu) HLl.out).mono fun e w' ⟨v, h1, h2, h3⟩ => by
              obtain ⟨va, vc, rfl⟩ := h2.len
              rw [HBn.out] at h1 h2
              exact ⟨_, h1, h3, va, vc, rfl, h2.below hu.size⟩)
            refine wp_region_listX (by kernel_rfl) [fun v _ => v = (Value.pointer (some ⟨b, 0, none⟩)), fun v _ => v = (Value.pointer (some ⟨p9, 0, none⟩)), fun v _ => v = (Value.string s), fun v _ => v = (Value.pointer (some ⟨p9, 1, none⟩)), fun v _ => v = (Value.slice ba bn bc), fun v u => ∃ va vc, v = Value.slice va bn vc ∧ Out w6.heap.size u (Value.slice va bn vc) l] (none) (fun _ => none) 6 (by kernel_rfl) (by kernel_rfl) (by kernel_rfl) (by kernel_rfl) (by decide) noRow_one (fun _ => .inl rfl) ⟨fun i v u u' hki h hg => h, fun i v u u' hki h hg => h, fun i v u u' hki h hg => h, fun i v u u' hki h hg => h, fun i v u u' hki h hg => h, fun i v u u' hki h hg => (by obtain ⟨va, vc, e, h⟩ := h; exact ⟨va, vc, e, h.keep hg⟩), trivial⟩ ⟨?_, ?_, ?_, ?_, ?_, ?_, trivial⟩ ?_
            · intro A u hu hpu hsz hout hdeps
              have e6 : A.eval (.tmp 6) = (.pointer (some ⟨b, 0, none⟩)) := (hout 6 (by kernel_rfl)).trans rfl
              refine ifw_none rfl ?_
              with_reducible refine shown_q (Value.pointer (some ⟨b, 0, none⟩)) ?qq_1l1_0 (fun _ _ => ?qr_1l1_0)
              case qr_1l1_0 => exact (rfl : (Value.pointer (some ⟨b, 0, none⟩)) = (Value.pointer (some ⟨b, 0, none⟩)))
              with_reducible refine quietAt_mv (.tmp 6) (Value.pointer (some ⟨b, 0, none⟩)) ?h0_1l1_0 ?h1_1l1_0
              case h0_1l1_0 => rfl
              case h1_1l1_0 => exact e6
            · intro A u hu hpu hsz hout hdeps
              have e9 : A.eval (.tmp 9) = (.pointer (some ⟨p9, 0, none⟩)) := (hout 9 (by kernel_rfl)).trans rfl
              refine ifw_none rfl ?_
              with_reducible refine shown_q (Value.pointer (some ⟨p9, 0, none⟩)) ?qq_1l1_1 (fun _ _ => ?qr_1l1_1)
              case qr_1l1_1 => exact (rfl : (Value.pointer (some ⟨p9, 0, none⟩)) = (Value.pointer (some ⟨p9, 0, none⟩)))
              with_reducible refine quietAt_field 130 (.tmp 9) 0 ?h0_1l1_1 ⟨p9, 0, none⟩ ⟨p9, 0, none⟩ ?h1_1l1_1 ?h2_1l1_1
              case h0_1l1_1 => rfl
              case h1_1l1_1 => exact e9
              case h2_1l1_1 => kernel_rfl
            · intro A u hu hpu hsz hout hdeps
              have e45 : A.eval (.tmp 45) = (.pointer (some ⟨p9, 0, none⟩)) := by have h := depL hdeps 1 (by kernel_rfl) 45 (by kernel_rfl); exact h
              refine ifw_none rfl ?_
              with_reducible refine shown_q (Value.string s) ?qq_1l1_2 (fun _ _ => ?qr_1l1_2)
              case qr_1l1_2 => exact (rfl : (Value.string s) = (Value.string s))
              with_reducible refine quietAt_ld 9 (.tmp 45) (Value.pointer (some ⟨p9, 0, none⟩)) (Value.string s) ?h0_1l1_2 ?h1_1l1_2 ?h2_1l1_2
              case h0_1l1_2 => rfl
              case h1_1l1_2 => exact e45
              case h2_1l1_2 => exact ld9 p9 0 s u (HS9b.out u hu).1
            · intro A u hu hpu hsz hout hdeps
              have e9 : A.eval (.tmp 9) = (.pointer (some ⟨p9, 0, none⟩)) := (hout 9 (by kernel_rfl)).trans rfl
              refine ifw_none rfl ?_
              with_reducible refine shown_q (Value.pointer (some ⟨p9, 1, none⟩)) ?qq_1l1_3 (fun _ _ => ?qr_1l1_3)
              case qr_1l1_3 => exact (rfl : (Value.pointer (some ⟨p9, 1, none⟩)) = (Value.pointer (some ⟨p9, 1, none⟩)))
              with_reducible refine quietAt_field 130 (.tmp 9) 1 ?h0_1l1_3 ⟨p9, 0, none⟩ ⟨p9, 1, none⟩ ?h1_1l1_3 ?h2_1l1_3
              case h0_1l1_3 => rfl
              case h1_1l1_3 => exact e9
              case h2_1l1_3 => kernel_rfl
            · intro A u hu hpu hsz hout hdeps
              have e47 : A.eval (.tmp 47) = (.pointer (some ⟨p9, 1, none⟩)) := by have h := depL hdeps 3 (by kernel_rfl) 47 (by kernel_rfl); exact h
              refine ifw_none rfl ?_
              with_reducible refine shown_q (Value.slice ba bn bc) ?qq_1l1_4 (fun _ _ => ?qr_1l1_4)
              case qr_1l1_4 => exact (rfl : (Value.slice ba bn bc) = (Value.slice ba bn bc))
              with_reducible refine quietAt_ld 58 (.tmp 47) (Value.pointer (some ⟨p9, 1, none⟩)) (Value.slice ba bn bc) ?h0_1l1_4 ?h1_1l1_4 ?h2_1l1_4
              case h0_1l1_4 => rfl
              case h1_1l1_4 => exact e47
              case h2_1l1_4 => exact ld33 p9 1 bn bc ba u (HS9b.out u hu).2
            · intro A u hu hpu hsz hout hdeps
              have e48 : A.eval (.tmp 48) = (.slice ba bn bc) := by have h := depL hdeps 4 (by kernel_rfl) 48 (by kernel_rfl); exact h
              refine ifw_none rfl ?_
              with_reducible refine shown_call 50 Tryz.f50 ?h0_1l1_5 ?h1_1l1_5 ?h2_1l1_5 #[.tmp 48] #[58] ?h3_1l1_5 #[(Value.slice ba bn bc)] ?h4_1l1_5 ?h5_1l1_5
              case h0_1l1_5 => exact Tryz.func50
              case h1_1l1_5 => kernel_rfl
              case h2_1l1_5 => kernel_rfl
              case h3_1l1_5 => rfl
              case h4_1l1_5 => exact map1 _ _ _ e48
              case h5_1l1_5 => exact HCl.out u hu
            · intro A u8 listed hh hall
              have hA := hh.frame
              have HU := hid hh.grown
              obtain ⟨x44, hx44⟩ : ∃ x, A.eval (.tmp 44) = x := ⟨_, rfl⟩
              have f44 : (fun v _ => v = (Value.pointer (some ⟨b, 0, none⟩))) x44 u8 := by rw [← hx44]; exact hh.got 0 _ 44 rfl rfl (hall 0 (by decide))
              obtain ⟨x45, hx45⟩ : ∃ x, A.eval (.tmp 45) = x := ⟨_, rfl⟩
              have f45 : (fun v _ => v = (Value.pointer (some ⟨p9, 0, none⟩))) x45 u8 := by rw [← hx45]; exact hh.got 1 _ 45 rfl rfl (hall 1 (by decide))
              obtain ⟨x46, hx46⟩ : ∃ x, A.eval (.tmp 46) = x := ⟨_, rfl⟩
              have f46 : (fun v _ => v = (Value.string s)) x46 u8 := by rw [← hx46]; exact hh.got 2 _ 46 rfl rfl (hall 2 (by decide))
              obtain ⟨x47, hx47⟩ : ∃ x, A.eval (.tmp 47) = x := ⟨_, rfl⟩
              have f47 : (fun v _ => v = (Value.pointer (some ⟨p9, 1, none⟩))) x47 u8 := by rw [← hx47]; exact hh.got 3 _ 47 rfl rfl (hall 3 (by decide))
              obtain ⟨x48, hx48⟩ : ∃ x, A.eval (.tmp 48) = x := ⟨_, rfl⟩
              have f48 : (fun v _ => v = (Value.slice ba bn bc)) x48 u8 := by rw [← hx48]; exact hh.got 4 _ 48 rfl rfl (hall 4 (by decide))
              obtain ⟨x49, hx49⟩ : ∃ x, A.eval (.tmp 49) = x := ⟨_, rfl⟩
              have f49 : (fun v u => ∃ va vc, v = Value.slice va bn vc ∧ Out w6.heap.size u (Value.slice va bn vc) l) x49 u8 := by rw [← hx49]; exact hh.got 5 _ 49 rfl rfl (hall 5 (by decide))
              obtain ⟨x50, hx50⟩ : ∃ x, A.eval (.tmp 50) = x := ⟨_, rfl⟩
              dsimp only [wrote, List.foldl] at hA
              rw [hx44, hx45, hx46, hx47, hx48, hx49, hx50] at hA
              clear hh hall hx44 hx45 hx46 hx47 hx48 hx49 hx50
              replace f44 := (f44 : x44 = (.pointer (some ⟨b, 0, none⟩)))
              subst f44
              replace f45 := (f45 : x45 = (.pointer (some ⟨p9, 0, none⟩)))
              subst f45
              replace f46 := (f46 : x46 = (.string s))
              subst f46
              replace f47 := (f47 : x47 = (.pointer (some ⟨p9, 1, none⟩)))
              subst f47
              replace f48 := (f48 : x48 = (.slice ba bn bc))
              subst f48
              obtain ⟨va, vc, e49, hL⟩ := f49
              subst e49
              subst hA
              show wpList _ _ _ [_] _ _
              simp only [Act.put, List.setIfInBounds_toArray, List.set_cons_succ, List.set_cons_zero]
              have HO8 := hid hL
              have HD8 := hid (HD3b.out.keep HU.out)
              have HP8 := hid (put_any s (HD8.out.toW s) va bn vc l HSz.out (HO8.out.below (by have := HB3b.out; omega)) (fun f hf _ => by
                cases hk : (Value.slice va bn vc).ownBlock with
                | none => exact .inl rfl
                | some k => exact .inr (fun e => by have := HO8.out.block k hk; have := ((HD3b.out.own f hf).lt k e.symm).2; omega)))
              clear hL
              go_wp2_with (go_at_call 48; refine HP8.out.mono ?_; rintro e w9 ⟨rfl, hd, hg⟩; have HD9 := hid hd; have HG9 := hid hg; clear hd hg)
              go_roundw
              case rel => exact ⟨i + 1, setF F s (.slice va bn vc) l, by go_num, by omega, HNx.out _, HD9, hid ((gtrans HG3b.out HU.out).andThen HG9.out (fun j hj => .inl (by injection hj with hj; have := HD3b.out.low.2; omega)))⟩
              case measure => simp [intOf]; omega
    · as_aux_lemma =>
      have hlt' : ¬ (i : Int) < (n : Int) := by omega
      have HRs : Hid (R = some (cont F)) := hid (by rw [HI.out.1, List.drop_of_length_le (by rw [HN.out]; omega)]; rfl)
      go_wp2_with fail
      refine bodyPost_ret (results_tmp2 rfl _ _ _) rfl ?_
      exact ⟨HG.out, .inr ⟨cont F, HRs.out, b, rfl, ⟨HRo.out, by show (0 : Int) ≤ 0; omega, by show (0 : Int) ≤ 0 ∧ (0 : Int) ≤ 9223372036854775807; omega, HI.out.2.1, HI.out.2.2.1, HI.out.2.2.2⟩, m, F, HD.out, rfl, fun k hk => HD.out.lt hk⟩⟩
end Go.Proofs.YtlgjmdianmijeaaGreat
