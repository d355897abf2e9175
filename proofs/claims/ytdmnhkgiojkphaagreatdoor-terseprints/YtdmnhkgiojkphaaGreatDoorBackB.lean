/- Much: walked. -/
import Derived.Test.YtdmnhkgiojkphaaGreatDoorEqA
import Derived.Test.YtdmnhkgiojkphaaGreatDoorValB
namespace Go.Proofs.YtdmnhkgiojkphaaGreatDoor
open Go Go.RowKit
open Go.RowKit (wrap32 wrap64)

def keyQ : List ByteArray → Nat
  | [] => 0
  | k :: r => k.size / 64 + keyQ r
mutual
/-- How many parts a value has, texts by 64 bytes. -/
def muchT : Tree → Nat
  | .mk _ _ _ t ks is => 1 + ks.length + t.size / 64 + keyQ ks + muchL is
def muchL : List Tree → Nat
  | [] => 0
  | t :: r => muchT t + muchL r
end
theorem muchT_eq (t : Tree) : muchT t = 1 + t.keys.length + t.text.size / 64 + keyQ t.keys + muchL t.items := by cases t with | mk => rw [muchT]; rfl
theorem keyQ_append (a b : List ByteArray) : keyQ (a ++ b) = keyQ a + keyQ b := by
  induction a with
  | nil => simp [keyQ]
  | cons k r ih => simp only [List.cons_append, keyQ, ih]; omega
theorem muchL_append (a b : List Tree) : muchL (a ++ b) = muchL a + muchL b := by
  induction a with
  | nil => simp [muchL]
  | cons k r ih => simp only [List.cons_append, muchL, ih]; omega
theorem keyN_Q (ks : List ByteArray) : keyN ks ≤ 64 * keyQ ks + 64 * ks.length := by
  induction ks with
  | nil => simp [keyN]
  | cons k r ih => simp only [keyN, keyQ, List.length_cons]; omega
mutual
theorem cntT_much : ∀ t : Tree, cntT t ≤ 64 * muchT t
  | .mk _ _ _ t ks is => by
    rw [cntT, muchT]
    have h1 := cntL_much is
    have h2 := keyN_Q ks
    omega
theorem cntL_much : ∀ l : List Tree, cntL l ≤ 64 * muchL l
  | [] => by simp [cntL]
  | t :: r => by
    rw [cntL, muchL]
    have h1 := cntT_much t
    have h2 := cntL_much r
    omega
end
/-- An item in memory, by its fields. -/
theorem RdIs.parts {w wr : World} {F : Nat → Prop} {g o : Nat} {l : List Tree} (h : RdIs w F g o l) (hs : Stays F w wr) (hF : F g) (hg : g < w.heap.size) (i : Nat) (hi : i < l.length) :
    ∃ (ka : Option Addr) (kc : Nat) (ia : Option Addr) (ic : Nat), wr.cell? ⟨g, o + i * 6, none⟩ = some (.int .i64 l[i].kind) ∧ wr.cell? ⟨g, o + i * 6 + 1, none⟩ = some (.bool l[i].flag) ∧ wr.cell? ⟨g, o + i * 6 + 2, none⟩ = some (.int .i64 l[i].n) ∧ wr.cell? ⟨g, o + i * 6 + 3, none⟩ = some (.string l[i].text) ∧ wr.cell? ⟨g, o + i * 6 + 4, none⟩ = some (.slice ka l[i].keys.length kc) ∧ wr.cell? ⟨g, o + i * 6 + 5, none⟩ = some (.slice ia l[i].items.length ic) ∧ RdK wr F l[i].keys (.slice ka l[i].keys.length kc) ∧ RdS wr F l[i].items (.slice ia l[i].items.length ic) ∧ l[i].keys.length ≤ kc ∧ l[i].items.length ≤ ic := by
  obtain ⟨a, b, c, d, e, f, h0, h1, h2, h3, h4, h5, hT⟩ := h.at hs hF hg i hi
  obtain ⟨kv, iv, ev, hk, hi⟩ := RdT_split hT
  have hk' := hk
  have hi' := hi
  obtain ⟨pk, ck, rfl, q1, _⟩ := hk
  obtain ⟨pi, ci, rfl, q2, _⟩ := hi
  simp only [Value.agg.injEq, Array.mk.injEq, List.cons.injEq, and_true] at ev
  obtain ⟨rfl, rfl, rfl, rfl, rfl, rfl⟩ := ev
  exact ⟨_, _, _, _, h0, h1, h2, h3, h4, h5, hk', hi', q1, q2⟩

set_option maxRecDepth 100000 in
set_option maxHeartbeats 4000000 in
theorem much_any : ∀ (n : Nat) (l : List Tree), cntL l ≤ n → BndL l → l.length ≤ 140737488355328 → ∀ (most : Nat), most ≤ 40000 → ∀ (w : World) (F : Nat → Prop) (a : Value), RdS w F l a →
    Calls Tryz.prog 9 #[a, .int .i64 most] w fun e w' => ∃ r : Nat, e = .returned (.int .i64 r) ∧ w.grownBy w' none ∧ ((r = muchL l ∧ r ≤ most) ∨ (most < r ∧ r ≤ most + 562949953421312))
  | n, l, hn, hbl, hll, most, hmost, w, F, a, ha => by
    have HIH : Hid (∀ m, m < n → ∀ (l : List Tree), cntL l ≤ m → BndL l → l.length ≤ 140737488355328 → ∀ (most : Nat), most ≤ 40000 → ∀ (w : World) (F : Nat → Prop) (a : Value), RdS w F l a →
      Calls Tryz.prog 9 #[a, .int .i64 most] w fun e w' => ∃ r : Nat, e = .returned (.int .i64 r) ∧ w.grownBy w' none ∧ ((r = muchL l ∧ r ≤ most) ∨ (most < r ∧ r ≤ most + 562949953421312))) := fun m hm => much_any m
    obtain ⟨pa, ca, rfl, hca, hka⟩ := ha
    obtain ⟨A, HA⟩ : ∃ A, Hid (l.length = A) := ⟨_, hid rfl⟩
    rw [HA.out] at hll hca ⊢
    have HKA := hid hka
    have HN := hid hn
    have HBL := hid hbl
    clear hka hn hbl
    go_enter Tryz.func9, Tryz.ntmps9
    go_wp2_with fail
    go_loopw [5, 6] (fun nv iv wr => ∃ (i m : Nat), iv = .int .i64 i ∧ nv = .int .i64 m ∧ i ≤ A ∧ Hid (w.grownBy wr none) ∧ Hid ((m = muchL (l.take i) ∧ m ≤ most) ∨ (most < m ∧ m ≤ most + 562949953421312))) (fun _ iv _ => A - (intOf iv).toNat)
    case atStart => exact ⟨0, 0, rfl, rfl, Nat.zero_le _, grefl _ _, hid (.inl ⟨by simp [muchL], Nat.zero_le _⟩)⟩
    case round =>
      obtain ⟨i, m, rfl, rfl, hi, HG, HD⟩ := hrel
      by_cases hlt : i < A
      · have hd : decide ((i : Int) < (A : Int)) = true := decide_eq_true (by omega)
        by_cases hmm : m ≤ most
        · have hd2 : decide ((m : Int) ≤ (most : Int)) = true := decide_eq_true (by omega)
          have hme : m = muchL (l.take i) := by
            rcases HD.out with h | h
            · exact h.1
            · omega
          have HME := hid hme
          have hit : i < l.length := by have := HA.out; omega
          obtain ⟨g, o, rfl, hg, hF, hr⟩ := HKA.out (by omega)
          obtain ⟨ka, kc, ia, ic, z0, z1, z2, z3, z4, z5, hK, hI, hkc, hic⟩ := hr.parts (Stays.none HG.out) hF hg i hit
          have hB := BndL_mem HBL.out _ (List.getElem_mem hit)
          rw [BndT_eq] at hB
          obtain ⟨b1, b2, b3, b4, b5⟩ := hB
          have HST : Hid (muchL (l.take (i + 1)) = muchL (l.take i) + muchT l[i]) := by
            rw [List.take_succ_eq_append_getElem hit, muchL_append]
            simp only [muchL]
            exact rfl
          rw [muchT_eq] at HST
          have HCN : Hid (cntL l[i].items < n) := by
            have h1 := cntL_mem (List.getElem_mem hit)
            have h2 := HN.out
            rw [cntT_eq] at h1
            exact (show cntL l[i].items < n by omega)
          obtain ⟨t, HT⟩ : ∃ t, Hid (l[i] = t) := ⟨_, hid rfl⟩
          rw [HT.out] at z0 z1 z2 z3 z4 z5 hK hI hkc hic b1 b2 b3 b4 b5 HST HCN
          obtain ⟨KN, HKN⟩ : ∃ A, Hid (t.keys.length = A) := ⟨_, hid rfl⟩
          obtain ⟨IL, HIL⟩ : ∃ A, Hid (t.items.length = A) := ⟨_, hid rfl⟩
          obtain ⟨tx, HTX⟩ : ∃ A, Hid (t.text = A) := ⟨_, hid rfl⟩
          rw [HKN.out] at z4 hK hkc b2 HST
          rw [HIL.out] at z5 hI hic b4
          rw [HTX.out] at z3 b1 HST
          obtain ⟨Q, HQ⟩ : ∃ Q, Hid (tx.size / 64 = Q) := ⟨_, hid rfl⟩
          rw [HQ.out] at HST
          have hQ : Q ≤ 2199023255552 := by have := HQ.out; omega
          have q1 : (tx.size : Int) / 64 = (Q : Int) := by have := HQ.out; omega
          have q2 : (tx.size : Int).tdiv 64 = (Q : Int) := by rw [Int.tdiv_eq_ediv_of_nonneg (by omega)]; exact q1
          have HK := hid hK
          have HI := hid hI
          have HB3 := hid b3
          have HB5 := hid b5
          have w1 : IntKind.i64.wrap ((m : Int) + 1 + (KN : Int) + (Q : Int)) = (m : Int) + 1 + (KN : Int) + (Q : Int) := by rw [IntKind.wrap_i64]; omega
          have hir : (i : Int) < (A : Int) := by omega
          clear hK hI hr b3 b5 hme
          go_wp2_with fail
          go_quiet (fail)
          have hgq : wr.grownBy (wr.drewN nq) none := gdrew wr nq none
          generalize wr.drewN nq = wq at hgq ⊢
          go_wp2_with fail
          have hgr : g < wr.heap.size := Nat.lt_of_lt_of_le hg HG.out.size
          have HZ : Hid (∀ u : World, wr.grownBy u none → u.cell? ⟨g, o + i * 6 + 4, none⟩ = some (.slice ka KN kc) ∧ u.cell? ⟨g, o + i * 6 + 5, none⟩ = some (.slice ia IL ic)) := fun u hu => by
            rw [World.cell?_of_block (w := wr) (a := ⟨g, o + i * 6 + 4, none⟩) (hu.block g hgr (by simp)), World.cell?_of_block (w := wr) (a := ⟨g, o + i * 6 + 5, none⟩) (hu.block g hgr (by simp))]
            exact ⟨z4, z5⟩
          have HGQ := hid hgq
          clear z0 z1 z2 z3 z4 z5 w1 q1 q2 hgq
          obtain ⟨M0, hM0⟩ : ∃ M0, m + 1 + KN + Q = M0 := ⟨_, rfl⟩
          have hM0i : (m : Int) + 1 + (KN : Int) + (Q : Int) = (M0 : Int) := by omega
          rw [hM0i]
          have HM0 := hid hM0
          have hM0b : M0 ≤ most + 142936511610881 := by omega
          clear hM0 hM0i hQ
          obtain ⟨wo, hwo⟩ : ∃ x : World, x = wr := ⟨_, rfl⟩
          subst hwo
          go_loopw [5, 7] (fun nv kv wr => ∃ (k m2 : Nat), kv = .int .i64 k ∧ nv = .int .i64 m2 ∧ k ≤ KN ∧ Hid (wo.grownBy wr none) ∧ Hid ((m2 = M0 + keyQ (t.keys.take k) ∧ m2 ≤ most) ∨ (most < m2 ∧ m2 ≤ most + 281474976710656))) (fun _ kv _ => KN - (intOf kv).toNat)
          case atStart =>
            refine ⟨0, M0, rfl, rfl, Nat.zero_le _, HGQ, hid ?_⟩
            by_cases h : M0 ≤ most
            · exact .inl ⟨by simp [keyQ], h⟩
            · exact .inr ⟨by omega, by omega⟩
          case round =>
            obtain ⟨k, m2, rfl, rfl, hk, HG2, HD2⟩ := hrel
            obtain ⟨y4, y5⟩ := HZ.out wr HG2.out
            by_cases hm2 : m2 ≤ most
            · have hd3 : decide ((m2 : Int) ≤ (most : Int)) = true := decide_eq_true (by omega)
              have HE2 : Hid (m2 = M0 + keyQ (t.keys.take k)) := by
                rcases HD2.out with h | h
                · exact h.1
                · omega
              by_cases hkl : k < KN
              · have hd4 : decide ((k : Int) < (KN : Int)) = true := decide_eq_true (by omega)
                have hki : (k : Int) < (KN : Int) := by omega
                have hkk : k < t.keys.length := by have := HKN.out; omega
                obtain ⟨a', c', e', hle', hcell⟩ := HK.out
                obtain ⟨g2, o2, rfl, hg2, _, hc2⟩ := hcell (by omega)
                simp only [Value.slice.injEq] at e'
                obtain ⟨rfl, _, rfl⟩ := e'
                have y := hc2 k _ (List.getElem?_eq_getElem hkk)
                rw [← World.cell?_of_block (w := wo) (a := ⟨g2, o2 + k, none⟩) (HG2.out.block g2 hg2 (by simp))] at y
                have hKb := HB3.out _ (List.getElem_mem hkk)
                have HSK : Hid (keyQ (t.keys.take (k + 1)) = keyQ (t.keys.take k) + t.keys[k].size / 64) := by
                  rw [List.take_succ_eq_append_getElem hkk, keyQ_append]
                  simp only [keyQ]
                  exact rfl
                obtain ⟨K, HKK⟩ : ∃ K, Hid (t.keys[k] = K) := ⟨_, hid rfl⟩
                rw [HKK.out] at y hKb HSK
                obtain ⟨Q2, HQ2⟩ : ∃ Q, Hid (K.size / 64 = Q) := ⟨_, hid rfl⟩
                rw [HQ2.out] at HSK
                have hQ2 : Q2 ≤ 2199023255552 := by have := HQ2.out; omega
                have q1 : (K.size : Int) / 64 = (Q2 : Int) := by have := HQ2.out; omega
                have q2 : (K.size : Int).tdiv 64 = (Q2 : Int) := by rw [Int.tdiv_eq_ediv_of_nonneg (by omega)]; exact q1
                clear hc2 hcell
                go_wp2_with fail
                refine ⟨⟨k + 1, m2 + Q2, rfl, by push_cast; rfl, by omega, HG2, hid ?_⟩, by simp only [intOf]; omega⟩
                by_cases h : m2 + Q2 ≤ most
                · exact .inl ⟨by rw [HSK.out, HE2.out]; omega, h⟩
                · exact .inr ⟨by omega, by omega⟩
              · have hd4 : decide ((k : Int) < (KN : Int)) = false := decide_eq_false (by omega)
                have htk : t.keys.take k = t.keys := List.take_of_length_le (by have := HKN.out; omega)
                have HE3 : Hid (m2 = M0 + keyQ t.keys) := by have := HE2.out; rw [htk] at this; exact this
                have HC : Hid (∀ u : World, wo.grownBy u none → Calls Tryz.prog 9 #[.slice ia IL ic, .int .i64 ((most : Int) - (m2 : Int))] u fun e w' => ∃ r : Nat, e = .returned (.int .i64 r) ∧ wo.grownBy w' none ∧ ((r = muchL t.items ∧ r ≤ most - m2) ∨ (most - m2 < r ∧ r ≤ most - m2 + 562949953421312))) := fun u hu => by
                  have := HIH.out (cntL t.items) HCN.out t.items (Nat.le_refl _) HB5.out (by have := HIL.out; omega) (most - m2) (by omega) u F _ (HI.out.on (Stays.none hu))
                  rw [show ((most - m2 : Nat) : Int) = (most : Int) - (m2 : Int) by omega] at this
                  refine this.mono ?_
                  rintro e w' ⟨r, h1, h2, h3⟩
                  exact ⟨r, h1, gtrans hu h2, h3⟩
                clear htk
                go_wp2_with (go_at_call 9; refine (HC.out _ HG2.out).mono ?_; rintro e w5 ⟨r, rfl, hg5, hr5⟩; have HR5 := hid hr5; have hr6 : r ≤ 562949953461312 := (by rcases hr5 with h | h <;> omega); clear hr5)
                refine ⟨⟨i + 1, m2 + r, rfl, by push_cast; rfl, by omega, hid (gtrans HG.out hg5), hid ?_⟩, by simp only [intOf]; omega⟩
                rcases HR5.out with h | h
                · refine .inl ⟨?_, by omega⟩
                  rw [HST.out]
                  have h1 := HE3.out
                  have h2 := HM0.out
                  have h3 := HME.out
                  omega
                · exact .inr ⟨by omega, by omega⟩
            · have hd3 : decide ((m2 : Int) ≤ (most : Int)) = false := decide_eq_false (by omega)
              have hb2 : m2 ≤ most + 281474976710656 := by
                rcases HD2.out with h | h
                · omega
                · exact h.2
              by_cases hkl : k < KN
              · have hd4 : decide ((k : Int) < (KN : Int)) = true := decide_eq_true (by omega)
                go_wp2_with fail
                exact ⟨⟨i + 1, m2, rfl, rfl, by omega, hid (gtrans HG.out HG2.out), hid (.inr ⟨by omega, by omega⟩)⟩, by simp only [intOf]; omega⟩
              · have hd4 : decide ((k : Int) < (KN : Int)) = false := decide_eq_false (by omega)
                go_wp2_with fail
                exact ⟨⟨i + 1, m2, rfl, rfl, by omega, hid (gtrans HG.out HG2.out), hid (.inr ⟨by omega, by omega⟩)⟩, by simp only [intOf]; omega⟩
        · have hd2 : decide ((m : Int) ≤ (most : Int)) = false := decide_eq_false (by omega)
          have HR : Hid (most < m ∧ m ≤ most + 562949953421312) := by
            rcases HD.out with h | h
            · exact absurd h.2 hmm
            · exact h
          go_wp2_with fail
          go_ret
          exact ⟨m, rfl, HG.out, .inr HR.out⟩
      · have hd : decide ((i : Int) < (A : Int)) = false := decide_eq_false (by omega)
        have hli : l.take i = l := List.take_of_length_le (by have := HA.out; omega)
        have HR : Hid ((m = muchL l ∧ m ≤ most) ∨ (most < m ∧ m ≤ most + 562949953421312)) := by
          have := HD.out
          rw [hli] at this
          exact this
        clear hli
        go_wp2_with fail
        go_ret
        exact ⟨m, rfl, HG.out, HR.out⟩
  termination_by n => n
end Go.Proofs.YtdmnhkgiojkphaaGreatDoor
