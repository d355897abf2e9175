/- The reference's Kill. -/
import Derived.Test.YtlgjmhemgfjgnaaGreatXE
import Derived.Test.YtlgjmhemgfjgnaaGreatRvQ
import Derived.Test.YtlgjmhemgfjgnaaGreatX04
namespace Go.Proofs.YtlgjmhemgfjgnaaGreat
open Go Go.RowKit
open Go.RowKit (wrap32 wrap64)

/-- the time of a grant's whole entry. -/
def expK (l : List Ky) (g : Nat) (e : Int) : Int := l.foldl (fun e r => if r.g = g then (if r.wh = true then mx r.ex e else e) else e) e
theorem expK_append (a b : List Ky) (g : Nat) (e : Int) : expK (a ++ b) g e = expK b g (expK a g e) := by unfold expK; rw [List.foldl_append]
theorem expK_none (g : Nat) : ∀ (l : List Ky) (e : Int), (∀ r ∈ l, r.g = g → r.wh = false) → expK l g e = e
  | [], _, _ => rfl
  | r :: l, e, h => by
    have ih := fun e => expK_none g l e (fun q hq => h q (List.mem_cons_of_mem _ hq))
    show expK l g (if r.g = g then (if r.wh = true then mx r.ex e else e) else e) = e
    by_cases hg : r.g = g
    · rw [if_pos hg, h r List.mem_cons_self hg, if_neg (by decide)]; exact ih e
    · rw [if_neg hg]; exact ih e
theorem lay_true (x : Ky) : ∀ (l : List Ky), layL x true l = l
  | [] => rfl
  | r :: l => by
    show (if (!true && ahd2 x r) = true then _ else r :: layL x true l) = _
    rw [if_neg (by simp), lay_true x l]
theorem lay_split (x : Ky) : ∀ (A B : List Ky), (∀ r ∈ A, ahd2 x r = false) → (∀ r ∈ B, ahd2 x r = true) → layL x false (A ++ B) = A ++ x :: B
  | [], [], _, _ => rfl
  | [], r :: B, _, h => by
    show (if (!false && ahd2 x r) = true then x :: r :: layL x true B else r :: layL x false B) = _
    rw [h r List.mem_cons_self, if_pos (by decide), lay_true]
    rfl
  | r :: A, B, h, k => by
    show (if (!false && ahd2 x r) = true then x :: r :: layL x true (A ++ B) else r :: layL x false (A ++ B)) = _
    rw [h r List.mem_cons_self, if_neg (by decide), lay_split x A B (fun q hq => h q (List.mem_cons_of_mem _ hq)) k]
    rfl
theorem ahd2_lt {x r : Ky} (h : x.g < r.g) : ahd2 x r = true := by unfold ahd2; rw [if_neg (by omega)]; exact decide_eq_true h
theorem ahd2_gt {x r : Ky} (h : r.g < x.g) : ahd2 x r = false := by unfold ahd2; rw [if_neg (by omega)]; exact decide_eq_false (by omega)
theorem kill_ref {l : List Ky} (h : chk l = true) (g : Nat) (ex : Int) : layL ⟨true, g, z16, expK l g ex⟩ false (l.filter (fun r => !(r.g == g))) = killL l g ex := by
  have hf : l.filter (fun r => !(r.g == g)) = lo l g ++ hi l g := by
    conv => lhs; rw [chk_split h g]
    rw [List.filter_append, List.filter_append, List.filter_eq_self.2 (fun r hr => by have := (lo_mem hr).2; simp; omega), List.filter_eq_nil_iff.2 (fun r hr => by have := (own_mem hr).2; simp [this]), List.filter_eq_self.2 (fun r hr => by have := (hi_mem hr).2; simp; omega), List.nil_append]
  have he : expK l g ex = if wholeIn l g = true then timeOf (own l g) ex else ex := by
    conv => lhs; rw [chk_split h g]
    rw [expK_append, expK_append, expK_none g (lo l g) ex (fun r hr e => by have := (lo_mem hr).2; omega), expK_none g (hi l g) _ (fun r hr e => by have := (hi_mem hr).2; omega)]
    by_cases hw : wholeIn l g = true
    · obtain ⟨r, e, hr, hrg, -, -⟩ := own_one h hw
      rw [if_pos hw, e]
      show (if r.g = g then (if r.wh = true then mx r.ex ex else ex) else ex) = mx r.ex ex
      rw [if_pos hrg, if_pos hr]
    · rw [if_neg hw]
      refine expK_none g _ ex (fun r hr _ => ?_)
      have hw' : wholeIn l g = false := by simpa using hw
      unfold wholeIn at hw'
      have := List.any_eq_false.1 hw' r hr
      simpa using this
  rw [hf, he]
  unfold killL
  rw [if_pos h]
  exact lay_split _ _ _ (fun r hr => ahd2_gt (lo_mem hr).2) (fun r hr => ahd2_lt (hi_mem hr).2)
theorem mx_le {a b : Int} (ha : -9223372036854775808 ≤ a ∧ a ≤ 9223372036854775807) (hb : -9223372036854775808 ≤ b ∧ b ≤ 9223372036854775807) : -9223372036854775808 ≤ mx a b ∧ mx a b ≤ 9223372036854775807 := by
  unfold mx
  split <;> assumption
theorem expK_le (g : Nat) : ∀ (l : List Ky) (e : Int), okL l → (-9223372036854775808 ≤ e ∧ e ≤ 9223372036854775807) → -9223372036854775808 ≤ expK l g e ∧ expK l g e ≤ 9223372036854775807
  | [], e, _, h => h
  | r :: l, e, hk, h => by
    refine expK_le g l _ (fun q hq => hk q (List.mem_cons_of_mem _ hq)) ?_
    have hr := (hk r List.mem_cons_self).2.2
    show (-9223372036854775808 : Int) ≤ (if r.g = g then (if r.wh = true then mx r.ex e else e) else e) ∧ (if r.g = g then (if r.wh = true then mx r.ex e else e) else e) ≤ 9223372036854775807
    split
    · split
      · exact mx_le hr h
      · exact h
    · exact h
set_option maxRecDepth 100000 in
set_option maxHeartbeats 6400000 in
theorem rkill_any (w : World) (v : Value) (F : Nat → Prop) (l : List Ky) (g : Nat) (ex : Int) (hv : RdK w F v l) (hl : l.length ≤ 1000000) (hg : g < 18446744073709551616) (hex : -9223372036854775808 ≤ ex ∧ ex ≤ 9223372036854775807) :
    Calls Tryz.prog 22 #[v, .int .u64 g, .int .i64 ex] w fun e w' => ∃ v', e = .returned v' ∧ OutK w.heap.size w' v' (killL l g ex) ∧ w.grownBy w' none := by
  obtain ⟨ho, a, b, off, c, rfl, hc, Ha, Hc⟩ := hv.open
  have HCk : Hid (∀ u, w.grownBy u none → Calls Tryz.prog 18 #[.slice a l.length c] u fun e w' => e = .returned (.int .i64 (if chk l = true then 0 else 140)) ∧ u.grownBy w' none) := hid (fun u hu => rcheck_any u _ F l (hv.keep hu) (by omega))
  obtain ⟨n, HN⟩ : ∃ n, Hid (l.length = n) := ⟨_, hid rfl⟩
  have HO := hid ho
  have HLn : Hid (n ≤ 1000000) := hid (by rw [← HN.out]; exact hl)
  have HA : Hid (0 < n → a = some ⟨b, off, none⟩) := hid (fun h => (Ha.out (by rw [HN.out]; exact h)).1)
  rw [HN.out] at HCk hl ⊢
  have HPt : Hid (chk l = true → layL ⟨true, g, z16, expK (l.take n) g ex⟩ false ((l.take n).filter (fun r => !(r.g == g))) = killL l g ex) := hid (fun h => by rw [List.take_of_length_le (by rw [HN.out]; omega)]; exact kill_ref h g ex)
  have HPf : Hid (chk l = false → killL l g ex = []) := hid (fun h => by unfold killL; rw [h, if_neg (by decide)])
  have HBb : Hid (∀ E : Int, Tryz.prog.built 85 [(0, .bool true), (1, .int .u64 (g : Int)), (3, .int .i64 E)] = some (Ky.mk true g z16 E).cells.toArray) := hid (fun E => built_kill g E)
  have HEo : Hid (∀ i, (Ky.mk true g z16 (expK (l.take i) g ex)).ok) := hid (fun i => ⟨hg, rfl, expK_le g _ ex (fun q hq => HO.out q (List.mem_of_mem_take hq)) hex⟩)
  have HLa : Hid (∀ (u : World) (y : Value) (acc : List Ky) (i : Nat), OutK w.heap.size u y acc → acc.length ≤ 1000000 → Calls Tryz.prog 37 #[y, .agg (Ky.mk true g z16 (expK (l.take i) g ex)).cells.toArray] u fun e w' => ∃ v', e = .returned v' ∧ OutK u.heap.size w' v' (layL (Ky.mk true g z16 (expK (l.take i) g ex)) false acc) ∧ u.grownBy w' none) := hid (fun u y acc i h hl => rlaid_any u y _ acc _ h.rd (HEo.out i) hl)
  obtain ⟨T, HT⟩ : ∃ T, Hid (killL l g ex = T) := ⟨_, hid rfl⟩
  rw [HT.out] at HPt HPf ⊢
  obtain ⟨R, HR⟩ : ∃ R, Hid (chk l = R) := ⟨_, hid rfl⟩
  rw [HR.out] at HPt HPf HCk
  clear hv hc ho Ha HT HR hg hex
  cases R with
  | false =>
    have HC0 : Hid (∀ u, w.grownBy u none → Calls Tryz.prog 18 #[.slice a n c] u fun e w' => e = .returned (.int .i64 140) ∧ u.grownBy w' none) := hid (fun u hu => HCk.out u hu)
    have hT := HPf.out rfl
    subst hT
    clear HPt HPf HCk
    go_enter Tryz.func22, Tryz.ntmps22
    go_wp2_with (go_at_call 18; (with_reducible refine (HC0.out _ (grefl _ _)).mono ?_); rintro e w1 ⟨rfl, gg⟩; have HG1 := hid gg; clear gg)
    go_ret
    exact ⟨_, rfl, OutK.nil _ _, HG1.out⟩
  | true =>
    have HC0 : Hid (∀ u, w.grownBy u none → Calls Tryz.prog 18 #[.slice a n c] u fun e w' => e = .returned (.int .i64 0) ∧ u.grownBy w' none) := hid (fun u hu => HCk.out u hu)
    have HP := hid (HPt.out rfl)
    clear HPt HPf HCk
    go_enter Tryz.func22, Tryz.ntmps22
    go_wp2_with (go_at_call 18; (with_reducible refine (HC0.out _ (grefl _ _)).mono ?_); rintro e w1 ⟨rfl, gg⟩; have HG1 := hid gg; clear gg)
    go_loopw [2, 7, 8] (fun ev sv iv wr => ∃ (y : Value) (i : Nat) (e : Int) (acc : List Ky), y = sv ∧ ev = .int .i64 e ∧ iv = .int .i64 i ∧ i ≤ n ∧ Hid (OutK w.heap.size wr y acc) ∧ Hid (acc = (l.take i).filter (fun r => !(r.g == g))) ∧ Hid (e = expK (l.take i) g ex) ∧ Hid (w.grownBy wr none)) (fun _ _ iv _ => n - (intOf iv).toNat)
    case atStart => exact ⟨_, 0, ex, [], rfl, rfl, rfl, Nat.zero_le _, hid (OutK.nil _ _), hid rfl, hid rfl, HG1⟩
    case round =>
      obtain ⟨y, i, e, acc, rfl, rfl, rfl, hi, HS, HAc, HEe, HG⟩ := hrel
      obtain ⟨w0, hw0⟩ : ∃ x, x = wr := ⟨_, rfl⟩
      subst hw0
      by_cases hlt : i < n
      · have hil : i < l.length := by rw [HN.out]; exact hlt
        have hlt' : (i : Int) < (n : Int) := by omega
        obtain rfl : a = some ⟨b, off, none⟩ := HA.out (by omega)
        have hko := HO.out _ (List.getElem_mem hil)
        have HKq := hid (Hc.out w0 HG.out i hil).1
        have HKL : Hid ((Tryz.prog.info? 85).map (·.size) = some l[i].cells.length) := hid (by rw [Ky.cells_length hko.2.1]; exact Tryz.size85)
        have hq0 : w0.cell? ⟨b, off + i * 19, none⟩ = some (.bool l[i].wh) := HKq.out 0 _ (Ky.c0 _)
        have hq1 : w0.cell? ⟨b, off + i * 19 + 1, none⟩ = some (.int .u64 l[i].g) := HKq.out 1 _ (Ky.c1 _)
        have hq18 : w0.cell? ⟨b, off + i * 19 + 18, none⟩ = some (.int .i64 l[i].ex) := HKq.out 18 _ (Ky.c18 hko.2.1)
        have HAl : Hid (acc.length ≤ i) := hid (by rw [HAc.out]; exact Nat.le_trans (List.length_filter_le _ _) (by rw [List.length_take]; omega))
        have HNx : Hid ((l.take (i + 1)).filter (fun r => !(r.g == g)) = acc ++ (if l[i].g = g then [] else [l[i]])) := hid (by
          rw [List.take_succ_eq_append_getElem hil, List.filter_append, ← HAc.out]
          by_cases h : l[i].g = g
          · rw [if_pos h, List.filter_cons_of_neg (by simpa using h)]; rfl
          · rw [if_neg h, List.filter_cons_of_pos (by simpa using h)]; rfl)
        have HNe : Hid (expK (l.take (i + 1)) g ex = if l[i].g = g then (if l[i].wh = true then mx l[i].ex e else e) else e) := hid (by
          rw [List.take_succ_eq_append_getElem hil, expK_append, ← HEe.out]
          rfl)
        clear HKq
        have HKr := hid (fun u (hu : w0.grownBy u none) => (Hc.out u (gtrans HG.out hu) i hil).1)
        have HQo := hid hko
        have HQl : Hid (l[i].id.length = 16) := hid hko.2.1
        obtain ⟨q, hq⟩ : ∃ q, l[i] = q := ⟨_, rfl⟩
        rw [hq] at HKr HKL hq0 hq1 hq18 HNx HNe HQo HQl
        obtain ⟨qx, hqx⟩ : ∃ x, q.ex = x := ⟨_, rfl⟩
        obtain ⟨qg, hqg⟩ : ∃ x, q.g = x := ⟨_, rfl⟩
        obtain ⟨qw, hqw⟩ : ∃ x, q.wh = x := ⟨_, rfl⟩
        rw [hqx, hqg, hqw] at HNe
        rw [hqg] at HNx hq1
        rw [hqx] at hq18
        rw [hqw] at hq0
        obtain ⟨K, HKe⟩ : ∃ x, Hid (q.cells = x) := ⟨_, hid rfl⟩
        rw [HKe.out] at HKr HKL
        have HIn := hid hlt
        clear hq hqx hqg hqw hko hil hi hlt
        by_cases hgg : qg = g
        · have HNy : Hid ((l.take (i + 1)).filter (fun r => !(r.g == g)) = acc) := hid (by rw [HNx.out, if_pos hgg, List.append_nil])
          rw [if_pos hgg] at HNe
          have hgb : ((qg : Int) != (g : Int)) = false := by simp; omega
          subst hgg
          clear HNx
          cases qw with
          | true =>
            as_aux_lemma =>
            have HNz : Hid (mx qx e = expK (l.take (i + 1)) qg ex) := hid (by rw [HNe.out]; rfl)
            go_wp2_with (go_at_call 36; (with_reducible refine (greater_any _ _ _).mono ?_); rintro e2 w2 ⟨rfl, hw2⟩; have hw2' := hw2.symm; clear hw2; subst hw2')
            go_roundw
            case rel => exact ⟨_, i + 1, _, acc, rfl, rfl, by go_num, by have := HIn.out; omega, HS, hid HNy.out.symm, HNz, HG⟩
            case measure => have := HIn.out; simp [intOf]; omega
          | false =>
            as_aux_lemma =>
            have HNz : Hid (e = expK (l.take (i + 1)) qg ex) := hid (by rw [HNe.out]; rfl)
            go_wp2_with fail
            go_roundw
            case rel => exact ⟨_, i + 1, _, acc, rfl, rfl, by go_num, by have := HIn.out; omega, HS, hid HNy.out.symm, HNz, HG⟩
            case measure => have := HIn.out; simp [intOf]; omega
        · as_aux_lemma =>
          have HNy : Hid ((l.take (i + 1)).filter (fun r => !(r.g == g)) = acc ++ [q]) := hid (by rw [HNx.out, if_neg hgg])
          have HNz : Hid (e = expK (l.take (i + 1)) g ex) := hid (by rw [HNe.out, if_neg hgg])
          have hgb : ((qg : Int) != (g : Int)) = true := by simp; omega
          have hgb2 : ¬ (qg : Int) = (g : Int) := by omega
          clear HNx HNe
          go_wp2_with (first
          | (have hb9 := HK9q.out; clear HK9q; at_builtin; refine wpList_append_keys rfl _ _ rfl w.heap.size (fun _ => True) acc [q] (HS.out.keep HG9q.out) (one_rd HQo.out hb9 _ trivial) (by have := HAl.out; have := HLn.out; have := HIn.out; simp only [List.length_cons, List.length_nil] at *; omega) (Nat.le_trans HG.out.size HG9q.out.size) ?_; intro v10q w0q hO10 hg10; have HO10q := hid hO10; have HG10q : Hid (w.grownBy w0q none) := hid ((gtrans HG.out HG9q.out).andThen hg10 (fun j hj => .inl (HS.out.block j hj))); clear hO10 hg10)
          | ((with_reducible refine wpList_slice1 (by with_unfolding_all rfl) _ (by with_unfolding_all rfl) q HQl.out (by rw [HKe.out]; with_unfolding_all rfl) ?_); intro w9q B9 s9 g9; have HK9q := hid B9; have HG9q := hid g9; clear B9 s9 g9)
          | (with_reducible refine wpList_load_part (by with_unfolding_all rfl) 85 _ (by with_unfolding_all rfl) b (off + i * 19) K _ (by with_unfolding_all rfl) (HKr.out _ (grefl _ _)) Tryz.under48 (by with_unfolding_all rfl) HKL.out ?_))
          go_roundw
          case rel => exact ⟨_, i + 1, _, _, rfl, rfl, by go_num, by have := HIn.out; omega, HO10q, hid HNy.out.symm, HNz, HG10q⟩
          case measure => have := HIn.out; simp [intOf]; omega
      · have hlt' : ¬ (i : Int) < (n : Int) := by omega
        obtain rfl : i = n := by omega
        have HL2 : Hid (acc.length ≤ 1000000) := hid (by rw [HAc.out]; exact Nat.le_trans (List.length_filter_le _ _) (by rw [List.length_take]; have := HLn.out; omega))
        have HLb := hid (HLa.out w0 y acc i HS.out HL2.out)
        rw [← HEe.out] at HLb HP
        rw [← HAc.out] at HP
        have HB1 := hid (HBb.out e)
        obtain ⟨M, HM⟩ : ∃ x, Hid (Ky.mk true g z16 e = x) := ⟨_, hid rfl⟩
        rw [HM.out] at HLb HP HB1
        obtain ⟨KM, HKM⟩ : ∃ x, Hid (M.cells = x) := ⟨_, hid rfl⟩
        rw [HKM.out] at HLb HB1
        clear HBb HLa HEo HA HO
        go_wp2_with (first
          | (go_at_call 37; (with_reducible refine HLb.out.mono ?_); rintro e2 w2 ⟨v2, rfl, ho2, hg2⟩; have HO2 := hid ho2; have HG2 := hid (gtrans HG.out hg2); clear ho2 hg2)
          | (with_reducible refine wpList_build_of (by with_unfolding_all rfl) 85 _ (by with_unfolding_all rfl) [(0, .bool true), (1, .int .u64 g), (3, .int .i64 e)] (by with_unfolding_all rfl) KM HB1.out ?_))
        go_ret
        exact ⟨_, rfl, by have := HO2.out.below HG.out.size; rw [HP.out] at this; exact this, HG2.out⟩
end Go.Proofs.YtlgjmhemgfjgnaaGreat
