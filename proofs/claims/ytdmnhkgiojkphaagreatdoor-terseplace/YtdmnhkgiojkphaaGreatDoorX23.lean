/- The reference's sorted and twice, walked. -/
import Derived.Test.YtdmnhkgiojkphaaGreatDoorX22
import Derived.Test.YtdmnhkgiojkphaaGreatDoorMem
import Derived.Test.YtdmnhkgiojkphaaGreatDoorX12
namespace Go.Proofs.YtdmnhkgiojkphaaGreatDoor
open Go Go.RowKit
open Go.RowKit (wrap32 wrap64)

theorem Tryz.info9s : (Tryz.prog.info? 9).map (fun i => (i.zero, i.size, i.bytes)) = some (some (.string ⟨#[]⟩), 1, 16) := by kernel_rfl
theorem cell_new0 (w : World) (v : Value) (ty : TypeId) : (w.alloc (.cells #[v] ty)).cell? ⟨w.heap.size, 0, none⟩ = some v := by
  unfold World.cell?
  rw [heap_alloc_new]
  rfl
set_option maxRecDepth 100000 in
/-- append of one text. -/
theorem wpList_append_str {w : World} {ops : Array Oper} {rest : List Oper} {o : Oper} {a : Act} {Q : Exit → Act → World → Prop} (hgd : o.guard = none) (s x : Operand)
    (ho : o.op = .call { callee := .builtin .append, args := #[s, x], argTypes := #[24, 24] })
    (B L : Nat) (l : List ByteArray) (t : ByteArray) (hown : w.ownsRow B 9 1 (a.eval s) l.length (l.map .string)) (hx : a.eval x = .slice (some ⟨L, 0, none⟩) 1 1) (hL : w.cell? ⟨L, 0, none⟩ = some (.string t)) (hn : l.length ≤ 1099511627776) (hB : B ≤ w.heap.size)
    (h : ∀ v' w', w'.ownsRow B 9 1 v' (l ++ [t]).length ((l ++ [t]).map .string) → w.grownBy w' (a.eval s).ownBlock → wpList Tryz.prog ops Q rest (a.put o.dst v') w') : wpList Tryz.prog ops Q (o :: rest) a w := by
  obtain ⟨inf, hi, hz0, hz1, hz2⟩ := info_parts Tryz.info9s
  refine wpList_append_own w hgd s x 24 ho B 9 inf (.string ⟨#[]⟩) 1 16 Tryz.underlying24 hi hz0 hz1 hz2 rfl (by decide) _ _ _ rfl hown ⟨L, 0, none⟩ 1 1 [.string t] hx rfl ?_ ?_ (by unfold maxLen; omega) (by omega) hB ?_
  · intro j u hu
    have : j = 0 := by have := (List.getElem?_eq_some_iff.1 hu).1; simpa using this
    subst this
    have : u = .string t := by simpa using hu.symm
    subst this
    exact hL
  · intro u hu
    have : u = .string t := by simpa using hu
    subst this
    rfl
  · intro v' w' h1 h2 h3
    refine h v' w' ?_ h2
    rw [List.map_append, List.length_append]
    exact h1
theorem RdK.part {w : World} {F : Nat → Prop} {ks : List ByteArray} {g o c : Nat} {a : Option Addr} (h : RdK w F ks (.slice a ks.length c)) (ha : a = some ⟨g, o, none⟩ ∧ ∀ (i : Nat) k, ks[i]? = some k → w.cell? ⟨g, o + i, none⟩ = some (.string k)) (n : Nat) (hn : n ≤ ks.length) (hg : g < w.heap.size) :
    RdK w (fun _ => True) (ks.take n) (.slice a n c) := by
  obtain ⟨a', c', e, hc, hk⟩ := h
  injection e with e1 e2 e3
  subst e1 e3
  refine ⟨a, c, by rw [List.length_take, Nat.min_eq_left hn], by rw [List.length_take, Nat.min_eq_left hn]; omega, fun _ => ⟨g, o, ha.1, hg, trivial, fun i k hi => ?_⟩⟩
  rw [List.getElem?_take] at hi
  split at hi
  · exact ha.2 i k hi
  · cases hi
theorem RdK.rest {w : World} {F : Nat → Prop} {ks : List ByteArray} {g o c : Nat} {a : Option Addr} (h : RdK w F ks (.slice a ks.length c)) (ha : a = some ⟨g, o, none⟩ ∧ ∀ (i : Nat) k, ks[i]? = some k → w.cell? ⟨g, o + i, none⟩ = some (.string k)) (n : Nat) (hn : n ≤ ks.length) (hg : g < w.heap.size) :
    RdK w (fun _ => True) (ks.drop n) (.slice (some ⟨g, o + n, none⟩) (ks.length - n) (c - n)) := by
  obtain ⟨a', c', e, hc, hk⟩ := h
  injection e with e1 e2 e3
  subst e1 e3
  refine ⟨some ⟨g, o + n, none⟩, c - n, by rw [List.length_drop], by rw [List.length_drop]; omega, fun _ => ⟨g, o + n, rfl, hg, trivial, fun i k hi => ?_⟩⟩
  rw [List.getElem?_drop] at hi
  rw [Nat.add_assoc]
  exact ha.2 (n + i) k hi
theorem RdK.atS {w : World} {F : Nat → Prop} {ks : List ByteArray} {a : Option Addr} {n c : Nat} (h : RdK w F ks (.slice a n c)) (i : Nat) (hi : i < ks.length) :
    ∃ g o, a = some ⟨g, o, none⟩ ∧ n ≤ c ∧ ∀ u : World, w.grownBy u none → u.cell? ⟨g, o + i, none⟩ = some (.string ks[i]) := by
  obtain ⟨a', c', e, hc, hk⟩ := h
  injection e with e1 e2 e3
  subst e1 e3
  obtain ⟨g, o, rfl, hg, -, hcell⟩ := hk (by omega)
  refine ⟨g, o, rfl, by omega, fun u hu => ?_⟩
  rw [World.cell?_of_block (w := w) (a := ⟨g, o + i, none⟩) (hu.block g hg (by simp))]
  exact hcell i _ (List.getElem?_eq_getElem hi)
theorem own_on {w w' : World} {B e z n : Nat} {v : Value} {xs : List Value} (h : w.ownsRow B e z v n xs) (hg : w.grownBy w' none) : w'.ownsRow B e z v n xs := h.kept hg (by cases v.ownBlock <;> simp)
/-- What sorted promises. -/
def SortedOk (m : Nat) : Prop := ∀ (ks : List ByteArray), ks.length ≤ m → ∀ (w : World) (F : Nat → Prop) (v : Value), RdK w F ks v →
  Calls Tryz.prog 176 #[v] w fun e w' => ∃ v' o, e = .returned v' ∧ RdK w' (fun _ => True) o v' ∧ o.Perm ks ∧ InO o ∧ w.grownBy w' none
theorem RdK.slice {w : World} {F : Nat → Prop} {ks : List ByteArray} {v : Value} (h : RdK w F ks v) : ∃ a c, v = .slice a ks.length c := by obtain ⟨a, c, e, _⟩ := h; exact ⟨a, c, e⟩
theorem own_rdK {w : World} {B : Nat} {ks : List ByteArray} {v : Value} (h : w.ownsRow B 9 1 v ks.length (ks.map .string)) : RdK w (fun _ => True) ks v := keys_of h (fun _ _ => trivial)
set_option maxRecDepth 100000 in
set_option maxHeartbeats 4000000 in
theorem sorted_any : ∀ (m : Nat), m ≤ 1099511627776 → SortedOk m
  | 0, _, ks, hks, w, F, v, hv => by
    obtain ⟨a, c, rfl⟩ := hv.slice
    have h0 : ks = [] := List.eq_nil_of_length_eq_zero (by omega)
    subst h0
    have HV := hid (hv.kept (Stays.refl F w) (fun _ _ _ => trivial) : RdK w (fun _ => True) [] _)
    clear hv
    simp only [List.length_nil]
    go_enter Tryz.func176, Tryz.ntmps176
    go_wp2_with fail
    go_ret
    exact ⟨_, [], rfl, HV.out, List.Perm.refl _, List.Pairwise.nil, grefl _ _⟩
  | m + 1, hm, ks, hks, w, F, v, hv => by
    have HIH := hid (sorted_any m (by omega))
    obtain ⟨a, c, rfl⟩ := hv.slice
    by_cases h2 : ks.length < 2
    · have HV := hid (hv.kept (Stays.refl F w) (fun _ _ _ => trivial) : RdK w (fun _ => True) ks _)
      have HI : Hid (InO ks) := hid (by
        match ks, h2 with
        | [], _ => exact List.Pairwise.nil
        | [x], _ => exact List.pairwise_singleton _ _)
      obtain ⟨n, HN⟩ : ∃ n, Hid (ks.length = n) := ⟨_, hid rfl⟩
      rw [HN.out] at h2 HV ⊢
      have h2i : (n : Int) < 2 := by omega
      clear hv hks HIH
      go_enter Tryz.func176, Tryz.ntmps176
      go_wp2_with fail
      go_ret
      exact ⟨_, ks, rfl, HV.out, List.Perm.refl _, HI.out, grefl _ _⟩
    · obtain ⟨a', c', e, hcc, hk⟩ := id hv
      injection e with e1 e2 e3
      subst e1 e3
      obtain ⟨g, o, ea, hg, -, hcell⟩ := hk (by omega)
      subst ea
      have hA0 := hv.part ⟨rfl, hcell⟩ (ks.length / 2) (by omega) hg
      have hB0 := hv.rest ⟨rfl, hcell⟩ (ks.length / 2) (by omega) hg
      have hpd : (ks.take (ks.length / 2) ++ ks.drop (ks.length / 2)).Perm ks := by rw [List.take_append_drop]
      have hla : (ks.take (ks.length / 2)).length ≤ m := by rw [List.length_take]; omega
      have hlb : (ks.drop (ks.length / 2)).length ≤ m := by rw [List.length_drop]; omega
      obtain ⟨n, HN⟩ : ∃ n, Hid (ks.length = n) := ⟨_, hid rfl⟩
      rw [HN.out] at hA0 hB0 hpd hla hlb h2 hks hcc ⊢
      obtain ⟨h, Hh⟩ : ∃ h, Hid (n / 2 = h) := ⟨_, hid rfl⟩
      rw [Hh.out] at hA0 hB0 hpd hla hlb
      have hq : (n : Int).tdiv 2 = (h : Int) := by rw [Int.tdiv_eq_ediv_of_nonneg (by omega)]; have := Hh.out; omega
      have hhn : h ≤ n := by have := Hh.out; omega
      have hhni : (h : Int) ≤ (n : Int) := by omega
      have hhci : (h : Int) ≤ (c : Int) := by omega
      have hcne : ¬ c = h := by have := Hh.out; omega
      have h2i : ¬ (n : Int) < 2 := by omega
      have hnh : ((n - h : Nat) : Int) = (n : Int) - (h : Int) := by omega
      have hch : ((c - h : Nat) : Int) = (c : Int) - (h : Int) := by omega
      obtain ⟨la0, Hla⟩ : ∃ l, Hid (ks.take h = l) := ⟨_, hid rfl⟩
      obtain ⟨lb0, Hlb⟩ : ∃ l, Hid (ks.drop h = l) := ⟨_, hid rfl⟩
      rw [Hla.out] at hA0 hla hpd
      rw [Hlb.out] at hB0 hlb hpd
      have HA : Hid (∀ u : World, w.grownBy u none → Calls Tryz.prog 176 #[.slice (some ⟨g, o, none⟩) h c] u fun e w' => ∃ v' q, e = .returned v' ∧ RdK w' (fun _ => True) q v' ∧ q.Perm la0 ∧ InO q ∧ u.grownBy w' none) := hid (fun u hu => HIH.out la0 hla u _ _ (hA0.kept (Stays.grown hu (fun _ _ => by simp)) (fun _ _ _ => trivial)))
      have HB : Hid (∀ u : World, w.grownBy u none → Calls Tryz.prog 176 #[.slice (some ⟨g, o + h, none⟩) (n - h) (c - h)] u fun e w' => ∃ v' q, e = .returned v' ∧ RdK w' (fun _ => True) q v' ∧ q.Perm lb0 ∧ InO q ∧ u.grownBy w' none) := hid (fun u hu => HIH.out lb0 hlb u _ _ (hB0.kept (Stays.grown hu (fun _ _ => by simp)) (fun _ _ _ => trivial)))
      have HPD := hid hpd
      have HLA := hid hla
      have HLB := hid hlb
      clear hA0 hB0 hpd hla hlb hk hcell HIH hv hcc hg
      go_enter Tryz.func176, Tryz.ntmps176
      go_wp2_with (first
        | (go_at_call 176; with_reducible refine (HA.out _ (grefl _ _)).mono ?_; rintro e w1 ⟨va, la, rfl, hra, hpa, hoa, hga⟩; obtain ⟨pa, ca, rfl⟩ := hra.slice; have HRA := hid hra; have HPA := hid hpa; have HOA := hid hoa; have HGA := hid hga; clear hra hpa hoa hga)
        | (go_at_call 176; with_reducible refine (HB.out _ HGA.out).mono ?_; rintro e w2 ⟨vb, lb, rfl, hrb, hpb, hob, hgb⟩; obtain ⟨pb, cb, rfl⟩ := hrb.slice; have HRB := hid hrb; have HPB := hid hpb; have HOB := hid hob; have HGB := hid hgb; clear hrb hpb hob hgb))
      obtain ⟨an, HAN⟩ : ∃ x, Hid (la.length = x) := ⟨_, hid rfl⟩
      obtain ⟨bn, HBN⟩ : ∃ x, Hid (lb.length = x) := ⟨_, hid rfl⟩
      have hba : an ≤ m := by have := HAN.out; have := HPA.out.length_eq; have := HLA.out; omega
      have hbb : bn ≤ m := by have := HBN.out; have := HPB.out.length_eq; have := HLB.out; omega
      have hab : an + bn ≤ 1099511627776 := by have h1 := HAN.out; have h2 := HBN.out; have h3 := (HPA.out.append HPB.out).trans HPD.out; have h4 := h3.length_eq; rw [List.length_append, HN.out] at h4; omega
      rw [HAN.out] at HRA ⊢
      rw [HBN.out] at HRB ⊢
      have HRA2 : Hid (RdK w2 (fun _ => True) la (.slice pa an ca)) := hid (HRA.out.kept (Stays.grown HGB.out (fun _ _ => by simp)) (fun _ _ _ => trivial))
      have HG2 : Hid (w.grownBy w2 none) := hid (gtrans HGA.out HGB.out)
      clear HRA HGA HGB HA HB HLA HLB
      go_loopw [6, 7, 8] (fun ov iv kv wr => ∃ (i k : Nat) (q : List ByteArray), iv = .int .i64 i ∧ kv = .int .i64 k ∧ i ≤ an ∧ k ≤ bn ∧ Hid (Mg la lb i k q) ∧ Hid (wr.ownsRow w2.heap.size 9 1 ov q.length (q.map .string)) ∧ Hid (w2.grownBy wr none)) (fun _ iv kv _ => an + bn - (intOf iv).toNat - (intOf kv).toNat)
      case atStart => exact ⟨0, 0, [], rfl, rfl, Nat.zero_le _, Nat.zero_le _, hid (Mg.nil _ _), hid (World.ownsRow_nil _ _ _ _), hid (grefl _ _)⟩
      case round =>
        obtain ⟨i, k, q, rfl, rfl, hi, hk, HM, HO, HG⟩ := hrel
        have hln : q.length = i + k := HM.out.len (by rw [HAN.out]; exact hi) (by rw [HBN.out]; exact hk)
        by_cases hia : i < an
        · by_cases hkb : k < bn
          · cases hle : leS (la[i]'(by rw [HAN.out]; exact hia)) (lb[k]'(by rw [HBN.out]; exact hkb)) with
            | true =>
              as_aux_lemma =>
              have hii1 : (i : Int) < (an : Int) := by omega
              have hkk1 : (k : Int) < (bn : Int) := by omega
              have hek : ((k : Int) == (bn : Int)) = false := by rw [beq_eq_false_iff_ne]; omega
              obtain ⟨g1, o1, rfl, hca, hc1⟩ := (HRA2.out.kept (Stays.grown HG.out (fun _ _ => by simp)) (fun _ _ _ => trivial) : RdK wr (fun _ => True) la (.slice pa an ca)).atS i (by rw [HAN.out]; exact hia)
              obtain ⟨x, HX⟩ : ∃ x, Hid (la[i]'(by rw [HAN.out]; exact hia) = x) := ⟨_, hid rfl⟩
              obtain ⟨g2, o2, rfl, hcb, hc2⟩ := (HRB.out.kept (Stays.grown HG.out (fun _ _ => by simp)) (fun _ _ _ => trivial) : RdK wr (fun _ => True) lb (.slice pb bn cb)).atS k (by rw [HBN.out]; exact hkb)
              obtain ⟨y, HY⟩ : ∃ y, Hid (lb[k]'(by rw [HBN.out]; exact hkb) = y) := ⟨_, hid rfl⟩
              have HM' : Hid (Mg la lb (i + 1) k (q ++ [x])) := hid (by rw [← HX.out]; exact HM.out.left HOA.out HOB.out (by rw [HAN.out]; exact hia) (.inr ⟨by rw [HBN.out]; exact hkb, hle⟩))
              rw [HX.out, HY.out] at hle
              unfold leS at hle
              rw [HX.out] at hc1
              have HC1 := hid hc1
              have z1 := hc1 wr (grefl _ _)
              rw [HY.out] at hc2
              have HC2 := hid hc2
              have z2 := hc2 wr (grefl _ _)
              clear hc1 hc2 HM
              go_wp2_with fail
              go_quiet (fail)
              have hgq : wr.grownBy (wr.drewN nq) none := gdrew wr nq none
              generalize wr.drewN nq = wq at hgq ⊢
              have y1 := HC1.out wq hgq
              have HGQ := hid hgq
              clear hgq z1 z2
              go_wp2_with (at_builtin; refine wpList_append_str rfl _ _ rfl w2.heap.size wq.heap.size q x (own_on (own_on HO.out HGQ.out) (galloc _ _ _)) rfl (cell_new0 _ _ _) (by omega) (by have := HG.out.size; have := HGQ.out.size; simp; omega) ?_; intro v4 w4 hO4 hg4; have HO4 := hid hO4; have HG4 : Hid (w2.grownBy w4 none) := hid ((gtrans (gtrans HG.out HGQ.out) (galloc _ _ _)).andThen hg4 (fun j hj => .inl (HO.out.lt j hj).1)); clear hO4 hg4)
              go_roundw
              case rel => exact ⟨i + 1, k, q ++ [x], by go_num, by first | rfl | rw [hkk], by omega, by omega, HM', HO4, HG4⟩
              case measure => simp [intOf]; omega
            | false =>
              as_aux_lemma =>
              have hii1 : (i : Int) < (an : Int) := by omega
              have hkk1 : (k : Int) < (bn : Int) := by omega
              have hek : ((k : Int) == (bn : Int)) = false := by rw [beq_eq_false_iff_ne]; omega
              obtain ⟨g1, o1, rfl, hca, hc1⟩ := (HRA2.out.kept (Stays.grown HG.out (fun _ _ => by simp)) (fun _ _ _ => trivial) : RdK wr (fun _ => True) la (.slice pa an ca)).atS i (by rw [HAN.out]; exact hia)
              obtain ⟨x, HX⟩ : ∃ x, Hid (la[i]'(by rw [HAN.out]; exact hia) = x) := ⟨_, hid rfl⟩
              obtain ⟨g2, o2, rfl, hcb, hc2⟩ := (HRB.out.kept (Stays.grown HG.out (fun _ _ => by simp)) (fun _ _ _ => trivial) : RdK wr (fun _ => True) lb (.slice pb bn cb)).atS k (by rw [HBN.out]; exact hkb)
              obtain ⟨y, HY⟩ : ∃ y, Hid (lb[k]'(by rw [HBN.out]; exact hkb) = y) := ⟨_, hid rfl⟩
              have HM' : Hid (Mg la lb i (k + 1) (q ++ [y])) := hid (by rw [← HY.out]; exact HM.out.right HOA.out HOB.out (by rw [HBN.out]; exact hkb) (.inr ⟨by rw [HAN.out]; exact hia, hle⟩))
              rw [HX.out, HY.out] at hle
              unfold leS at hle
              rw [HX.out] at hc1
              have HC1 := hid hc1
              have z1 := hc1 wr (grefl _ _)
              rw [HY.out] at hc2
              have HC2 := hid hc2
              have z2 := hc2 wr (grefl _ _)
              clear hc1 hc2 HM
              go_wp2_with fail
              go_quiet (fail)
              have hgq : wr.grownBy (wr.drewN nq) none := gdrew wr nq none
              generalize wr.drewN nq = wq at hgq ⊢
              have y2 := HC2.out wq hgq
              have HGQ := hid hgq
              clear hgq z1 z2
              go_wp2_with (at_builtin; refine wpList_append_str rfl _ _ rfl w2.heap.size wq.heap.size q y (own_on (own_on HO.out HGQ.out) (galloc _ _ _)) rfl (cell_new0 _ _ _) (by omega) (by have := HG.out.size; have := HGQ.out.size; simp; omega) ?_; intro v4 w4 hO4 hg4; have HO4 := hid hO4; have HG4 : Hid (w2.grownBy w4 none) := hid ((gtrans (gtrans HG.out HGQ.out) (galloc _ _ _)).andThen hg4 (fun j hj => .inl (HO.out.lt j hj).1)); clear hO4 hg4)
              go_roundw
              case rel => exact ⟨i, k + 1, q ++ [y], by first | rfl | rw [hii], by go_num, by omega, by omega, HM', HO4, HG4⟩
              case measure => simp [intOf]; omega
          · --A
            as_aux_lemma =>
            have hii1 : (i : Int) < (an : Int) := by omega
            have hkk1 : ¬ (k : Int) < (bn : Int) := by omega
            have hek : ((k : Int) == (bn : Int)) = true := by rw [beq_iff_eq]; omega
            have hkk : k = bn := by omega
            obtain ⟨g1, o1, rfl, hca, hc1⟩ := (HRA2.out.kept (Stays.grown HG.out (fun _ _ => by simp)) (fun _ _ _ => trivial) : RdK wr (fun _ => True) la (.slice pa an ca)).atS i (by rw [HAN.out]; exact hia)
            obtain ⟨x, HX⟩ : ∃ x, Hid (la[i]'(by rw [HAN.out]; exact hia) = x) := ⟨_, hid rfl⟩
            have HM' : Hid (Mg la lb (i + 1) k (q ++ [x])) := hid (by rw [← HX.out]; exact HM.out.left HOA.out HOB.out (by rw [HAN.out]; exact hia) (.inl (by rw [HBN.out]; exact hkk)))
            rw [HX.out] at hc1
            have HC1 := hid hc1
            have z1 := hc1 wr (grefl _ _)
            clear hc1  HM
            go_wp2_with fail
            go_quiet (fail)
            have hgq : wr.grownBy (wr.drewN nq) none := gdrew wr nq none
            generalize wr.drewN nq = wq at hgq ⊢
            have y1 := HC1.out wq hgq
            have HGQ := hid hgq
            clear hgq z1 
            go_wp2_with (at_builtin; refine wpList_append_str rfl _ _ rfl w2.heap.size wq.heap.size q x (own_on (own_on HO.out HGQ.out) (galloc _ _ _)) rfl (cell_new0 _ _ _) (by omega) (by have := HG.out.size; have := HGQ.out.size; simp; omega) ?_; intro v4 w4 hO4 hg4; have HO4 := hid hO4; have HG4 : Hid (w2.grownBy w4 none) := hid ((gtrans (gtrans HG.out HGQ.out) (galloc _ _ _)).andThen hg4 (fun j hj => .inl (HO.out.lt j hj).1)); clear hO4 hg4)
            go_roundw
            case rel => exact ⟨i + 1, k, q ++ [x], by go_num, by first | rfl | rw [hkk], by omega, by omega, HM', HO4, HG4⟩
            case measure => simp [intOf]; omega
        · by_cases hkb : k < bn
          · --B
            as_aux_lemma =>
            have hii1 : ¬ (i : Int) < (an : Int) := by omega
            have hkk1 : (k : Int) < (bn : Int) := by omega
            have hek : ((k : Int) == (bn : Int)) = false := by rw [beq_eq_false_iff_ne]; omega
            have hii : i = an := by omega
            obtain ⟨g2, o2, rfl, hcb, hc2⟩ := (HRB.out.kept (Stays.grown HG.out (fun _ _ => by simp)) (fun _ _ _ => trivial) : RdK wr (fun _ => True) lb (.slice pb bn cb)).atS k (by rw [HBN.out]; exact hkb)
            obtain ⟨y, HY⟩ : ∃ y, Hid (lb[k]'(by rw [HBN.out]; exact hkb) = y) := ⟨_, hid rfl⟩
            have HM' : Hid (Mg la lb i (k + 1) (q ++ [y])) := hid (by rw [← HY.out]; exact HM.out.right HOA.out HOB.out (by rw [HBN.out]; exact hkb) (.inl (by rw [HAN.out]; exact hii)))
            rw [HY.out] at hc2
            have HC2 := hid hc2
            have z2 := hc2 wr (grefl _ _)
            clear  hc2 HM
            go_wp2_with fail
            go_quiet (fail)
            have hgq : wr.grownBy (wr.drewN nq) none := gdrew wr nq none
            generalize wr.drewN nq = wq at hgq ⊢
            have y2 := HC2.out wq hgq
            have HGQ := hid hgq
            clear hgq  z2
            go_wp2_with (at_builtin; refine wpList_append_str rfl _ _ rfl w2.heap.size wq.heap.size q y (own_on (own_on HO.out HGQ.out) (galloc _ _ _)) rfl (cell_new0 _ _ _) (by omega) (by have := HG.out.size; have := HGQ.out.size; simp; omega) ?_; intro v4 w4 hO4 hg4; have HO4 := hid hO4; have HG4 : Hid (w2.grownBy w4 none) := hid ((gtrans (gtrans HG.out HGQ.out) (galloc _ _ _)).andThen hg4 (fun j hj => .inl (HO.out.lt j hj).1)); clear hO4 hg4)
            go_roundw
            case rel => exact ⟨i, k + 1, q ++ [y], by first | rfl | rw [hii], by go_num, by omega, by omega, HM', HO4, HG4⟩
            case measure => simp [intOf]; omega
          · have hii : i = an := by omega
            have hkk : k = bn := by omega
            have hdi : decide ((i : Int) < (an : Int)) = false := by rw [decide_eq_false_iff_not]; omega
            have hdk : decide ((k : Int) < (bn : Int)) = false := by rw [decide_eq_false_iff_not]; omega
            have HD : Hid (q.Perm ks ∧ InO q) := hid (by
              have h1 := HM.out
              rw [hii, hkk, ← HAN.out, ← HBN.out] at h1
              have h2 := h1.done
              exact ⟨h2.1.trans ((HPA.out.append HPB.out).trans HPD.out), h2.2⟩)
            clear hii hkk HM
            go_wp2_with fail
            go_ret
            exact ⟨_, q, rfl, own_rdK HO.out, HD.out.1, HD.out.2, gtrans HG2.out HG.out⟩
end Go.Proofs.YtdmnhkgiojkphaaGreatDoor

namespace Go.Proofs.YtdmnhkgiojkphaaGreatDoor
open Go Go.RowKit
open Go.RowKit (wrap32 wrap64)

theorem bytes_eq (x y : ByteArray) : (x.toList == y.toList) = decide (x = y) := by
  by_cases h : x = y
  · subst h; simp
  · rw [decide_eq_false h, beq_eq_false_iff_ne]
    intro e
    apply h
    rw [Lib.toList_data, Lib.toList_data] at e
    cases x; cases y
    simpa using e
set_option maxRecDepth 100000 in
set_option maxHeartbeats 2000000 in
theorem twice_any (ks : List ByteArray) (hn : ks.length ≤ 1099511627776) (w : World) (F : Nat → Prop) (v : Value) (hv : RdK w F ks v) :
    Calls Tryz.prog 129 #[v] w fun e w' => e = .returned (.bool (!nodup ks)) ∧ w.grownBy w' none := by
  have HC := hid (sorted_any 1099511627776 (Nat.le_refl _) ks hn w F v hv)
  obtain ⟨N, HNd⟩ : ∃ N, Hid (nodup ks = N) := ⟨_, hid rfl⟩
  rw [HNd.out]
  clear hv
  go_enter Tryz.func129, Tryz.ntmps129
  go_wp2_with (go_at_call 176; with_reducible refine HC.out.mono ?_; rintro e w1 ⟨v1, m, rfl, hr, hp, ho, hg⟩; obtain ⟨pa, ca, rfl⟩ := hr.slice; have HR := hid hr; have HP := hid hp; have HO := hid ho; have HG1 := hid hg; clear hr hp ho hg)
  have hml : m.length ≤ 1099511627776 := by rw [HP.out.length_eq]; exact hn
  obtain ⟨n, HN⟩ : ∃ n, Hid (m.length = n) := ⟨_, hid rfl⟩
  rw [HN.out] at hml HR ⊢
  clear HC
  go_loopw [4] (fun iv wr => ∃ i : Nat, iv = .int .i64 i ∧ 1 ≤ i ∧ (i ≤ n ∨ i = 1) ∧ Hid (∀ (j : Nat) (h : j + 1 < m.length), j + 1 < i → m[j + 1] ≠ m[j]) ∧ Hid (w1.grownBy wr none)) (fun iv _ => n + 1 - (intOf iv).toNat)
  case atStart => exact ⟨1, rfl, Nat.le_refl _, .inr rfl, hid (fun j h h2 => by omega), hid (grefl _ _)⟩
  case round =>
    obtain ⟨i, rfl, h1, hi, HD, HG⟩ := hrel
    by_cases hlt : i < n
    · as_aux_lemma =>
      have hlti : (i : Int) < (n : Int) := by omega
      have hRw : RdK wr (fun _ => True) m (.slice pa n ca) := HR.out.kept (Stays.grown HG.out (fun _ _ => by simp)) (fun _ _ _ => trivial)
      obtain ⟨g, o, rfl, hca, hc1⟩ := hRw.atS i (by rw [HN.out]; exact hlt)
      obtain ⟨g', o', e', -, hc2⟩ := hRw.atS (i - 1) (by rw [HN.out]; omega)
      injection e' with e'
      injection e' with e1 e2 e3
      subst e1 e2
      obtain ⟨x, HX⟩ : ∃ x, Hid (m[i]'(by rw [HN.out]; exact hlt) = x) := ⟨_, hid rfl⟩
      obtain ⟨y, HY⟩ : ∃ y, Hid (m[i - 1]'(by rw [HN.out]; omega) = y) := ⟨_, hid rfl⟩
      rw [HX.out] at hc1
      rw [HY.out] at hc2
      have z1 := hc1 wr (grefl _ _)
      have z2 := hc2 wr (grefl _ _)
      have hi1 : (i : Int) - 1 = ((i - 1 : Nat) : Int) := by omega
      have hi2 : IntKind.i64.wrap ((i : Int) - 1) = ((i - 1 : Nat) : Int) := by rw [IntKind.wrap_i64]; omega
      have hin : ((i - 1 : Nat) : Int) < (n : Int) := by omega
      clear hc1 hc2 hRw e3
      by_cases hxy : x = y
      · have hq : (x.toList == y.toList) = true := by rw [bytes_eq]; exact decide_eq_true hxy
        have HE : Hid (N = false) := hid (by
          rw [← HNd.out]
          refine (twice_near HP.out HO.out).2 ⟨i - 1, by rw [HN.out]; omega, ?_⟩
          have e : i - 1 + 1 = i := by omega
          simp only [e]
          rw [HX.out, HY.out]; exact hxy)
        clear hxy HD
        go_wp2_with fail
        go_quiet (fail)
        have hgq : wr.grownBy (wr.drewN nq) none := gdrew wr nq none
        generalize wr.drewN nq = wq at hgq ⊢
        have HGQ := hid hgq
        clear hgq
        go_wp2_with fail
        go_ret
        exact ⟨by rw [HE.out]; rfl, gtrans HG1.out (gtrans HG.out HGQ.out)⟩
      · have hq : (x.toList == y.toList) = false := by rw [bytes_eq]; exact decide_eq_false hxy
        have HD2 : Hid (∀ (j : Nat) (h : j + 1 < m.length), j + 1 < i + 1 → m[j + 1] ≠ m[j]) := hid (fun j h h2 => by
          by_cases e : j + 1 = i
          · have e2 : j = i - 1 := by omega
            subst e2
            have e : i - 1 + 1 = i := by omega
            simp only [e]
            rw [HX.out, HY.out]; exact hxy
          · exact HD.out j h (by omega))
        clear hxy HD
        go_wp2_with fail
        go_quiet (fail)
        have hgq : wr.grownBy (wr.drewN nq) none := gdrew wr nq none
        generalize wr.drewN nq = wq at hgq ⊢
        have HGQ := hid hgq
        clear hgq
        go_wp2_with fail
        go_roundw
        case rel => exact ⟨i + 1, by go_num, by omega, .inl (by omega), HD2, hid (gtrans HG.out HGQ.out)⟩
        case measure => simp [intOf]; omega
    · as_aux_lemma =>
      have hlti : ¬ (i : Int) < (n : Int) := by omega
      have HE : Hid (N = true) := hid (by
        rw [← HNd.out]
        cases hc : nodup ks with
        | true => rfl
        | false =>
          obtain ⟨j, hj, he⟩ := (twice_near HP.out HO.out).1 hc
          exact absurd he (HD.out j hj (by rw [HN.out] at hj; omega)))
      clear HD
      go_wp2_with fail
      go_ret
      exact ⟨by rw [HE.out]; rfl, gtrans HG1.out HG.out⟩
end Go.Proofs.YtdmnhkgiojkphaaGreatDoor
