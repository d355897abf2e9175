/- Lend and Intact of rows up to 4 MiB; Over. -/
import Derived.Test.YtfalgjdhdgkbfaaGreatDoorX11
import Derived.Test.YtfalgjdhdgkbfaaGreatDoorX03
import Derived.Test.YtfalgjdhdgkbfaaGreatDoorX05
namespace Go.Proofs.YtfalgjdhdgkbfaaGreatDoor.Bk
open Go Go.RowKit
open Go.RowKit (wrap32 wrap64)

set_option maxRecDepth 100000 in
set_option maxHeartbeats 1600000 in
theorem lend4_any (w : World) (b : Value) (l : List UInt8) (hb : Rd w b l) (hl : l.length ≤ 4194304) :
    Calls Tryz.prog 11 #[b] w fun e w' => ∃ v, e = .returned v ∧ Lent w' w.heap.size v l ∧ Below w.heap.size w w' := by
  obtain ⟨inf, hi, hz0, hz1, hz2⟩ := info_parts Tryz.info5
  have R := hid hb
  obtain ⟨ab, bb, offb, cbb, hbv, _⟩ := hb
  subst hbv
  obtain ⟨m, HM⟩ : ∃ m : Nat, Hid (l.length = m) := ⟨_, hid rfl⟩
  rw [HM.out] at hl ⊢
  have HR := R
  rw [HM.out] at HR
  clear R
  go_enter Tryz.func11, Tryz.ntmps11
  go_wp2_with (at_make; refine wpList_make_own _ rfl _ _ 28 rfl w.heap.size 5 inf (.int .u8 0) 1 Tryz.underlying28 hi hz0 hz1 _ _ _ (m + 70) rfl rfl (by omega) (by rw [hz2]; omega) (by unfold maxLen; omega) (Nat.le_refl _) ?_)
  intro w1 hown1 hg1
  have hb1 : Below w.heap.size w w1 := (Below.refl _ _).grown hg1 (Nat.le_refl _) (fun k h => by cases h)
  have R1 := hid (HR.out.below hb1)
  have HB1 := hid hb1
  have hs1 := hb1.size
  clear hb1 hg1 HR
  go_wp2_with (at_builtin; refine wpList_append_rd rfl (.tmp 9) (.tmp 10) rfl w.heap.size _ 0 _ rfl hown1 l R1.out (by have := HM.out; omega) hs1 ?_)
  intro v2 w2 hown2 hg2
  have HO : Hid (w2.ownsRow w.heap.size 5 1 v2 (m + 0) (cb (l ++ mkL 0))) := hid (by
    have h9 := hown2
    rw [HM.out] at h9
    simpa [mkL, Nat.add_comm] using h9)
  have HB : Hid (Below w.heap.size w w2) := hid (HB1.out.grown hg2 hs1 (fun k hk => (hown1.lt k hk).1))
  clear hown1 hown2 hg2 R1 HB1 hs1
  go_wp2
  go_loopw [3, 4] (fun tv iv wr => ∃ i : Nat, iv = .int .i64 i ∧ i ≤ 70 ∧ Hid (wr.ownsRow w.heap.size 5 1 tv (m + i) (cb (l ++ mkL i))) ∧ Hid (Below w.heap.size w wr)) (fun _ iv _ => 70 - (intOf iv).toNat)
  case atStart => exact ⟨0, rfl, by omega, HO, HB⟩
  case round =>
    as_aux_lemma =>
    clear HO HB
    obtain ⟨i, rfl, hi70, HO, HB⟩ := hrel
    by_cases hlt : i < 70
    · have hlt' : (i : Int) < 70 := by omega
      have hat := fun w => markAt_any i w hlt
      obtain ⟨u, HU⟩ : ∃ u : UInt8, Hid (mkA i = u) := ⟨_, hid rfl⟩
      rw [HU.out] at hat
      have HAT := hid hat
      have hown := HO.out
      have hsz := HB.out.size
      clear hat
      go_wp2_with (first | (go_at_call 49; refine (HAT.out _).mono ?_; rintro e w' ⟨rfl, hw⟩; have hw' := hw.symm; clear hw; subst hw') | (at_builtin; refine wpList_append_own _ rfl _ _ 28 rfl w.heap.size 5 inf (.int .u8 0) 1 1 Tryz.underlying28 hi hz0 hz1 hz2 rfl (by decide) u3 (m + i) _ rfl (hown.alloc _) ⟨wr.heap.size, 0, none⟩ 1 1 (cb [u]) rfl rfl ?hnews ?hone ?h63 ?hbytes ?hbase ?_))
      case hnews => exact fun j u hu => news_new wr _ _ j u hu
      case hone => intro u hu; simp [cb] at hu; rcases hu with rfl; rfl
      case h63 => unfold maxLen; omega
      case hbytes => omega
      case hbase => simp; omega
      intro v' w3 hown3 hg3 hnil
      go_wp2
      refine ⟨⟨i + 1, by go_num, by omega, hid ?_, hid ((HB.out.alloc hsz _).grown hg3 (by simp; omega) (fun j hj => (hown.lt j hj).1))⟩, by simp [intOf]; omega⟩
      rw [mkL_succ, ← List.append_assoc, cb_append, HU.out]
      exact hown3
    · have hge : (70 : Int) ≤ i := by omega
      have he : i = 70 := by omega
      subst he
      obtain ⟨b, cap, cur, hv, hBb, hg, hle, hmx, hs, ht⟩ : ∃ b cap cur, u3 = .slice (some ⟨b, 0, none⟩) (m + 70) cap ∧ w.heap.size ≤ b ∧ wr.heap[b]? = some (.cells cur 5 (0, 0)) ∧ m + 70 ≤ cap ∧ cap ≤ maxLen ∧ cur.size = cap * 1 ∧ cur.toList.take ((m + 70) * 1) = cb (l ++ mkL 70) := by
        rcases HO.out.2 with ⟨_, h9⟩ | h9
        · omega
        · exact h9
      subst hv
      have hcm : (m : Int) ≤ (cap : Int) := by omega
      have HF := hid (And.intro hBb (And.intro hg (And.intro hle (And.intro hmx (And.intro hs ht)))))
      clear hBb hg hmx hs ht
      go_wp2
      go_ret
      obtain ⟨hBb, hg, hle, hmx, hs, ht⟩ := HF.out
      refine ⟨.slice (some ⟨b, 0, none⟩) m cap, rfl, ⟨b, cap, by rw [HM.out], hBb, cur, hg, by omega, by rw [HM.out]; exact hle, hmx, ?_⟩, HB.out⟩
      rw [HM.out]
      rw [Nat.mul_one] at ht
      exact ht

set_option maxRecDepth 100000 in
set_option maxHeartbeats 1600000 in
theorem intact4_any (w : World) (B : Nat) (v b : Value) (l : List UInt8) (hv : Lent w B v l) (hb : Rd w b l) (hl : l.length ≤ 4194304) :
    Calls Tryz.prog 14 #[v, b] w fun e w' => e = .returned (.bool true) ∧ ∃ k, w' = w.drewN k := by
  have k1 := hv.rd.convert
  have k2 := hb.convert
  obtain ⟨s, HS⟩ : ∃ s, Hid ((⟨l.toArray⟩ : ByteArray) = s) := ⟨_, hid rfl⟩
  rw [HS.out] at k1 k2
  obtain ⟨bb, c, rfl, hbb, hc, hm⟩ := hv.mark
  obtain ⟨m, HM⟩ : ∃ m : Nat, Hid (l.length = m) := ⟨_, hid rfl⟩
  rw [HM.out] at hl hc hm k1 ⊢
  have HMK := hid hm
  have hc' : (m : Int) + 70 ≤ (c : Int) := by omega
  clear hm hv hb
  go_enter Tryz.func14, Tryz.ntmps14
  go_wp2
  go_loopw [6] (fun iv wr => ∃ i : Nat, iv = .int .i64 i ∧ i ≤ 70 ∧ ∃ k, Hid (wr = w.drewN k)) (fun iv _ => 70 - (intOf iv).toNat)
  case atStart => exact ⟨0, rfl, by omega, 0, hid rfl⟩
  case round =>
    as_aux_lemma =>
    obtain ⟨i, rfl, hi, d, HD⟩ := hrel
    by_cases hlt : i < 70
    · have hlt' : (i : Int) < 70 := by omega
      have q : wr.cell? ⟨bb, m + i, none⟩ = some (.int .u8 (mkA i).toNat) := by rw [HD.out]; exact HMK.out i hlt
      have hat := fun w => markAt_any i w hlt
      obtain ⟨y, HY⟩ : ∃ y : Int, Hid (((mkA i).toNat : Int) = y) := ⟨_, hid rfl⟩
      rw [HY.out] at q hat
      have HAT := hid hat
      have rb : bb < wr.heap.size := by rw [HD.out]; exact hbb
      clear hat
      go_wp2
      go_quiet ((go_at_call 49; exact Calls.quiet_of_same (HAT.out _)))
      rename_i nq
      go_wp2
      refine ⟨⟨i + 1, by go_num, by omega, d + nq, hid (by rw [HD.out, World.drewN_drewN])⟩, by simp [intOf]; omega⟩
    · have hge : (70 : Int) ≤ i := by omega
      go_wp2
      go_ret
      exact ⟨rfl, d, HD.out⟩
theorem idx28 (b o n c i : Nat) (h : i < n) (u : World) : (Instr.indexAt 28 (.slice (some ⟨b, o, none⟩) n c) (.int .i64 (i : Nat))).run Tryz.prog u = .ok (.pointer (some ⟨b, o + i, none⟩)) u := by
  have h' : (i : Int) < (n : Int) := by omega
  go_simp
set_option maxRecDepth 100000 in
theorem over_any (w : World) (B : Nat) (v : Value) (l : List UInt8) (hv : Lent w B v l) (hl : l.length ≤ 4194304) :
    Calls Tryz.prog 15 #[v] w fun e w' => e = .returned (.tuple #[]) ∧ ∃ q, v.ownBlock = some q ∧ But w w' q := by
  obtain ⟨b, c, rfl, hB, cs, hb, hs, hc, hm, ht⟩ := hv
  have HB0 := hid hb
  have HS0 := hid hs
  obtain ⟨n, hn⟩ : ∃ n, l.length = n := ⟨_, rfl⟩
  rw [hn] at hc hl ⊢
  clear hb ht hs hn
  go_enter Tryz.func15, Tryz.ntmps15
  go_wp2_with fail
  go_loopw [2] (fun iv wr => ∃ i : Nat, iv = .int .i64 i ∧ i ≤ n ∧ Hid (∃ cs' : Array Value, wr.heap[b]? = some (.cells cs' 5 (0, 0)) ∧ cs'.size = c) ∧ Hid (But w wr b)) (fun iv _ => n - (intOf iv).toNat)
  case atStart => exact ⟨0, rfl, Nat.zero_le _, hid ⟨cs, HB0.out, HS0.out⟩, hid (But.refl _ _)⟩
  case round =>
    obtain ⟨i, rfl, hi, HC, HBt⟩ := hrel
    by_cases hlt : i < n
    · have hlt' : (i : Int) < (n : Int) := by omega
      obtain ⟨cs', hh, hsz⟩ := HC.out
      obtain ⟨y, hcell⟩ : ∃ y, wr.cell? ⟨b, i, none⟩ = some y := ⟨cs'[i]'(by omega), by simp [World.cell?, hh]⟩
      have hfz : wr.frozen? ⟨b, i, none⟩ = false := by simp [World.frozen?, hh]
      have HC2 : Hid (∃ cs' : Array Value, (wr.setCell ⟨b, i, none⟩ (.int .u8 238)).heap[b]? = some (.cells cs' 5 (0, 0)) ∧ cs'.size = c) := hid ⟨cs'.setIfInBounds i (.int .u8 238), by simp [World.setCell, Array.getElem?_modify, hh], by simpa using hsz⟩
      have HB2 : Hid (But w (wr.setCell ⟨b, i, none⟩ (.int .u8 238)) b) := hid (HBt.out.trans (But.setCell _ _ _ _))
      clear hh hsz
      go_wp2_with fail
      go_roundw
      case rel => exact ⟨i + 1, by go_num, by omega, HC2, HB2⟩
      case measure => simp [intOf]; omega
    · have hlt' : ¬ (i : Int) < (n : Int) := by omega
      go_wp2_with fail
      go_end0
      exact ⟨rfl, b, rfl, HBt.out⟩
end Go.Proofs.YtfalgjdhdgkbfaaGreatDoor.Bk

namespace Go.Proofs.YtfalgjdhdgkbfaaGreatDoor
open Go Go.RowKit
open Go.RowKit (wrap32 wrap64)

def Rv (w : World) (b : Nat) (F : Nat → Prop) (l : List UInt8) (bad : Nat) : Prop :=
  ∃ v, w.heap[b]? = some (.cells #[v, .int .i64 (bad : Int)] 114 (0, 0)) ∧ Rd w F v l ∧ ¬ F b ∧ l.length ≤ 140737488355328
theorem Rv.lt {w : World} {b : Nat} {F : Nat → Prop} {l : List UInt8} {bad : Nat} (h : Rv w b F l bad) : b < w.heap.size := by
  obtain ⟨v, hh, _⟩ := h
  exact (Array.getElem?_eq_some_iff.1 hh).1
theorem Rv.on {w w' : World} {b : Nat} {F : Nat → Prop} {l : List UInt8} {bad : Nat} {row : Option Nat} (h : Rv w b F l bad) (hg : w.grownBy w' row) (hb : row ≠ some b) (hr : ∀ k, row = some k → ¬ F k) : Rv w' b F l bad := by
  obtain ⟨v, hh, hv, hF, hl⟩ := h
  exact ⟨v, heap_at hg hb hh, hv.on hg hr, hF, hl⟩
theorem Rv.keep {w w' : World} {b : Nat} {F : Nat → Prop} {l : List UInt8} {bad : Nat} (h : Rv w b F l bad) (hg : w.grownBy w' none) : Rv w' b F l bad := h.on hg (by simp) (fun k hk => by cases hk)
theorem Rv.mono {w : World} {b : Nat} {F G : Nat → Prop} {l : List UInt8} {bad : Nat} (h : Rv w b F l bad) (hf : ∀ k, k < w.heap.size → F k → G k) (hG : ¬ G b) : Rv w b G l bad := by
  obtain ⟨v, hh, hv, _, hl⟩ := h
  exact ⟨v, hh, hv.mono hf, hG, hl⟩
theorem Rv.setLeft {w : World} {b : Nat} {F : Nat → Prop} {l l' : List UInt8} {bad : Nat} {v : Value} (h : Rv w b F l bad) (hv : Rd w F v l') (hl : l'.length ≤ l.length) : Rv (w.setCell ⟨b, 0, none⟩ v) b F l' bad := by
  obtain ⟨u, hh, _, hF, hll⟩ := h
  exact ⟨v, set0 hh, hv.on (gset _ _ _) (notb hF), hF, by omega⟩
theorem Rv.setBad {w : World} {d : Nat} {F : Nat → Prop} {l : List UInt8} {bad e : Nat} (h : Rv w d F l bad) : Rv (w.setCell ⟨d, 1, none⟩ (.int .i64 (e : Int))) d F l e := by
  obtain ⟨u, hh, hv, hF, hll⟩ := h
  exact ⟨u, set1 hh, hv.on (gset _ _ _) (notb hF), hF, hll⟩
theorem Rd.head {w : World} {F : Nat → Prop} {a : Option Addr} {b off c : Nat} {l : List UInt8} (hlc : l.length ≤ c) (hnn : a = none → c = 0) (ha : 0 < l.length → a = some ⟨b, off, none⟩ ∧ b < w.heap.size ∧ F b) (hcell : ∀ i (h : i < l.length), w.cell? ⟨b, off + i, none⟩ = some (.int .u8 l[i].toNat)) (n : Nat) (hn : n ≤ l.length) : Rd w F (.slice a n c) (l.take n) := by
  have hl : (l.take n).length = n := by rw [List.length_take]; omega
  refine ⟨a, b, off, c, by rw [hl], by rw [hl]; omega, hnn, fun h0 => ha (by rw [hl] at h0; omega), fun i hi => ?_⟩
  rw [hl] at hi
  rw [hcell i (by omega)]
  simp
set_option maxRecDepth 100000 in
set_option maxHeartbeats 1000000 in
theorem rvtake_any (w : World) (d : Nat) (F : Nat → Prop) (l : List UInt8) (bad n : Nat) (h : Rv w d F l bad) (hn : n ≤ l.length) :
    Calls Tryz.prog 115 #[.pointer (some ⟨d, 0, none⟩), .int .i64 n] w fun r w' => ∃ v, r = .returned v ∧ Rd w' F v (l.take n) ∧ Rv w' d F (l.drop n) bad ∧ w.grownBy w' (some d) := by
  have HR := hid h
  obtain ⟨v, hh, hv, hF, hl⟩ := h
  obtain ⟨c0, c1, fz⟩ := cells2 hh
  obtain ⟨a, b', off, c, rfl, hlc, hnn, ha, hcell⟩ := hv
  have HP := hid (Rd.head hlc hnn ha hcell n hn)
  have HREST : Hid (∀ p, (n < l.length → p = some ⟨b', off + n, none⟩) → (p = none → c - n = 0) → Rd w F (.slice p (l.length - n) (c - n)) (l.drop n)) := hid (fun p hp hq => Rd.rest ha hcell hlc n hn p hp hq)
  have HDL : Hid ((l.drop n).length ≤ l.length) := hid (by rw [List.length_drop]; omega)
  have HA : Hid (0 < l.length → a = some ⟨b', off, none⟩) := hid (fun h => (ha h).1)
  clear hh ha hcell
  cases a with
  | none =>
    have c00 := hnn rfl
    subst c00
    have hl0 : l.length = 0 := by omega
    have hn0 : n = 0 := by omega
    subst hn0
    rw [hl0] at c0 HREST
    clear hl0 hlc hnn hn HA
    go_enter Tryz.func115, Tryz.ntmps115
    go_wp2_with fail
    go_ret
    exact ⟨_, rfl, HP.out.on (gset _ _ _) (notb hF), HR.out.setLeft (HREST.out none (fun h => by omega) (fun _ => by trivial)) HDL.out, gset _ _ _⟩
  | some q =>
    clear hnn
    by_cases hcn : c = n
    · have hLn : l.length = n := by omega
      have HLn := hid hLn
      subst hcn
      rw [hLn] at c0 HREST
      clear hLn hlc hn HA
      go_enter Tryz.func115, Tryz.ntmps115
      go_wp2_with fail
      go_ret
      refine ⟨_, rfl, HP.out.on (gset _ _ _) (notb hF), HR.out.setLeft ?_ HDL.out, gset _ _ _⟩
      have := HREST.out (some q) (fun h => by omega) (fun h => by cases h)
      rw [Nat.sub_self] at this
      exact this
    · have d1 : ¬ c - n = 0 := by omega
      have d2 : ¬ c ≤ n := by omega
      have d3 : ¬ n = c := by omega
      go_enter Tryz.func115, Tryz.ntmps115
      go_wp2_with fail
      go_ret
      refine ⟨_, rfl, HP.out.on (gset _ _ _) (notb hF), HR.out.setLeft ?_ HDL.out, gset _ _ _⟩
      exact HREST.out _ (fun h => by have := HA.out (by omega); injection this with this; rw [this]; exact congrArg some (Addr.add_lit ..)) (fun h => by cases h)

/-- The error, in a reference's Num: the first refusal stays. -/
theorem rb_bad {l : List UInt8} {bad n : Nat} (h : bad ≠ 0) : rb l bad n = bad ∧ rt l bad n = [] ∧ rl l bad n = l := by
  have e : rb l bad n = bad := by unfold rb ref; rw [if_neg h]; split <;> rfl
  refine ⟨e, ?_, ?_⟩
  · unfold rt; rw [e, if_neg h]
  · unfold rl; rw [e, if_neg h]
theorem rb_short {l : List UInt8} {n : Nat} (h : l.length < n) : rb l 0 n = 30 ∧ rt l 0 n = [] ∧ rl l 0 n = l := by
  have e : rb l 0 n = 30 := by unfold rb ref; rw [if_pos h, if_pos rfl]
  refine ⟨e, ?_, ?_⟩
  · unfold rt; rw [e, if_neg (by decide)]
  · unfold rl; rw [e, if_neg (by decide)]
theorem rb_good {l : List UInt8} {n : Nat} (h : n ≤ l.length) : rb l 0 n = 0 ∧ rt l 0 n = l.take n ∧ rl l 0 n = l.drop n := by
  have e : rb l 0 n = 0 := by unfold rb; rw [if_neg (by omega)]
  refine ⟨e, ?_, ?_⟩
  · unfold rt; rw [e, if_pos rfl]
  · unfold rl; rw [e, if_pos rfl]
theorem Rv.open {w : World} {d : Nat} {F : Nat → Prop} {l : List UInt8} {bad : Nat} (h : Rv w d F l bad) : ∃ (a : Option Addr) (c : Nat), w.cell? ⟨d, 0, none⟩ = some (.slice a l.length c) ∧ w.cell? ⟨d, 1, none⟩ = some (.int .i64 (bad : Int)) ∧ (∀ o, w.frozen? ⟨d, o, none⟩ = false) := by
  obtain ⟨v, hh, hv, hF, hl⟩ := h
  obtain ⟨c0, c1, fz⟩ := cells2 hh
  obtain ⟨a, b', off, c, rfl, hlc, hnn, ha, hcell⟩ := hv
  exact ⟨a, c, c0, c1, fz⟩
set_option maxRecDepth 100000 in
set_option maxHeartbeats 1000000 in
theorem rvnum_no (w : World) (d : Nat) (F : Nat → Prop) (l : List UInt8) (bad : Nat) (x : Int) (h : Rv w d F l bad) (hx : ¬ (1 ≤ x ∧ x ≤ 8)) :
    Calls Tryz.prog 52 #[.pointer (some ⟨d, 0, none⟩), .int .i64 x] w fun r w' => r = .returned (.int .u64 0) ∧ Rv w' d F l (ref bad 34) ∧ w.grownBy w' (some d) := by
  have HR := hid h
  obtain ⟨a, c, c0, c1, fz⟩ := h.open
  clear h
  by_cases hb : bad = 0
  · subst hb
    rw [show ref 0 34 = 34 from rfl]
    by_cases h1 : x < 1
    · clear hx
      go_enter Tryz.func52, Tryz.ntmps52
      go_wp2_with fail
      go_ret
      exact ⟨rfl, HR.out.setBad, gset _ _ _⟩
    · have h2 : 8 < x := by omega
      clear hx
      go_enter Tryz.func52, Tryz.ntmps52
      go_wp2_with fail
      go_ret
      exact ⟨rfl, HR.out.setBad, gset _ _ _⟩
  · rw [show ref bad 34 = bad by unfold ref; rw [if_neg hb]]
    have hb' : ¬ (bad : Int) = 0 := by omega
    clear hx
    go_enter Tryz.func52, Tryz.ntmps52
    go_wp2_with fail
    go_ret
    exact ⟨rfl, HR.out, grefl _ _⟩
set_option maxRecDepth 100000 in
set_option maxHeartbeats 1000000 in
theorem rvnum_ok (w : World) (d : Nat) (F : Nat → Prop) (l : List UInt8) (bad n : Nat) (h : Rv w d F l bad) (h1 : 1 ≤ n) (h8 : n ≤ 8) :
    Calls Tryz.prog 52 #[.pointer (some ⟨d, 0, none⟩), .int .i64 n] w fun r w' => r = .returned (.int .u64 (numL (rt l bad n))) ∧ Rv w' d F (rl l bad n) (rb l bad n) ∧ w.grownBy w' (some d) := by
  have HR := hid h
  obtain ⟨a, c, c0, c1, fz⟩ := h.open
  have g1 : ¬ (n : Int) < 1 := by omega
  have g2 : ¬ 8 < (n : Int) := by omega
  by_cases hb : bad = 0
  · subst hb
    by_cases hs : l.length < n
    · obtain ⟨e1, e2, e3⟩ := rb_short hs
      rw [e1, e2, e3]
      show Calls Tryz.prog 52 _ w fun r w' => r = .returned (.int .u64 0) ∧ _
      have hs' : (l.length : Int) < (n : Int) := by omega
      clear h e1 e2 e3
      go_enter Tryz.func52, Tryz.ntmps52
      go_wp2_with fail
      go_ret
      exact ⟨rfl, HR.out.setBad, gset _ _ _⟩
    · obtain ⟨e1, e2, e3⟩ := rb_good (l := l) (n := n) (by omega)
      rw [e1, e2, e3]
      have hs' : ¬ (l.length : Int) < (n : Int) := by omega
      have HT := hid (rvtake_any w d F l 0 n h (by omega))
      have HO : Hid (∀ u v, Rd u F v (l.take n) → Calls Tryz.prog 114 #[v] u fun e w' => e = .returned (.int .u64 (numL (l.take n))) ∧ u.grownBy w' none) := hid (fun u v hv => ofC (by rw [List.length_take]; omega) hv u (grefl _ _))
      obtain ⟨N, hN⟩ : ∃ N : Nat, numL (l.take n) = N := ⟨_, rfl⟩
      rw [hN] at HO ⊢
      clear h e1 e2 e3 hN
      go_enter Tryz.func52, Tryz.ntmps52
      go_wp2_with fail
      refine (HT.out).mono ?_
      rintro e w1 ⟨v1, rfl, hv1, hR1, hg1⟩
      have HR1 := hid hR1
      have HG1 := hid hg1
      have HO1 := hid (HO.out _ _ hv1)
      clear hv1 hR1 hg1
      go_wp2_with fail
      refine (HO1.out).mono ?_
      rintro e w2 ⟨rfl, hg2⟩
      have HR2 := hid (HR1.out.keep hg2)
      have HG2 := hid (gtrans HG1.out (gsome hg2 _))
      clear hg2
      go_wp2_with fail
      go_ret
      exact ⟨rfl, HR2.out, HG2.out⟩
  · obtain ⟨e1, e2, e3⟩ := rb_bad (l := l) (n := n) hb
    rw [e1, e2, e3]
    show Calls Tryz.prog 52 _ w fun r w' => r = .returned (.int .u64 0) ∧ _
    have hb' : ¬ (bad : Int) = 0 := by omega
    clear h e1 e2 e3
    go_enter Tryz.func52, Tryz.ntmps52
    go_wp2_with fail
    go_ret
    exact ⟨rfl, HR.out, grefl _ _⟩
end Go.Proofs.YtfalgjdhdgkbfaaGreatDoor

namespace Go.Proofs.YtfalgjdhdgkbfaaGreatDoor
open Go Go.RowKit
open Go.RowKit (wrap32 wrap64)

set_option maxRecDepth 100000 in
theorem rvint_any (w : World) (d : Nat) (F : Nat → Prop) (l : List UInt8) (bad : Nat) (h : Rv w d F l bad) :
    Calls Tryz.prog 54 #[.pointer (some ⟨d, 0, none⟩)] w fun r w' => r = .returned (.int .i64 (u64i (numL (rt l bad 8)))) ∧ Rv w' d F (rl l bad 8) (rb l bad 8) ∧ w.grownBy w' (some d) := by
  have HN : Hid (Calls Tryz.prog 52 #[.pointer (some ⟨d, 0, none⟩), .int .i64 8] w fun r w' => r = .returned (.int .u64 (numL (rt l bad 8))) ∧ Rv w' d F (rl l bad 8) (rb l bad 8) ∧ w.grownBy w' (some d)) := rvnum_ok w d F l bad 8 h (by decide) (by decide)
  have hrl := (rt_length l bad 8).1
  have hlt : numL (rt l bad 8) < 18446744073709551616 := by
    have := numL_lt _ (rt l bad 8) rfl
    have h2 : (256 : Nat) ^ (rt l bad 8).length ≤ 256 ^ 8 := Nat.pow_le_pow_right (by decide) hrl
    have h3 : (256 : Nat) ^ 8 = 18446744073709551616 := by decide
    omega
  clear h hrl
  generalize numL (rt l bad 8) = N at HN hlt ⊢
  have e1 : IntKind.i64.wrap (N : Int) = u64i N := by rw [IntKind.wrap_i64]; unfold u64i; split <;> omega
  generalize u64i N = X at e1 ⊢
  go_enter Tryz.func54, Tryz.ntmps54
  go_wp2_with (go_at_call 52; refine (HN.out).mono ?_; rintro e w1 ⟨rfl, hR1, hg1⟩; have HR1 := hid hR1; have HG1 := hid hg1; clear hR1 hg1)
  go_ret
  exact ⟨rfl, HR1.out, HG1.out⟩
theorem rvleft_any (w : World) (d : Nat) (F : Nat → Prop) (l : List UInt8) (bad : Nat) (h : Rv w d F l bad) :
    Calls Tryz.prog 18 #[.pointer (some ⟨d, 0, none⟩)] w fun r w' => r = .returned (.int .i64 (l.length : Int)) ∧ w' = w := by
  obtain ⟨a, c, c0, c1, fz⟩ := h.open
  clear h
  go_enter Tryz.func18, Tryz.ntmps18
  go_wp2
  go_ret
  exact ⟨rfl, rfl⟩
theorem rvend_any (w : World) (d : Nat) (F : Nat → Prop) (l : List UInt8) (bad : Nat) (h : Rv w d F l bad) :
    Calls Tryz.prog 21 #[.pointer (some ⟨d, 0, none⟩)] w fun r w' => r = .returned (.int .i64 (endE l bad : Int)) ∧ w' = w := by
  obtain ⟨a, c, c0, c1, fz⟩ := h.open
  clear h
  by_cases hb : bad = 0
  · subst hb
    by_cases hl : 0 < l.length
    · have e : endE l 0 = 33 := by unfold endE; rw [if_pos ⟨rfl, hl⟩]
      have hl' : 0 < (l.length : Int) := by omega
      rw [e]
      clear e
      go_enter Tryz.func21, Tryz.ntmps21
      go_wp2
      go_ret
      exact ⟨rfl, rfl⟩
    · have e : endE l 0 = 0 := by unfold endE; rw [if_neg (fun h => hl h.2)]
      have hl' : ¬ 0 < (l.length : Int) := by omega
      rw [e]
      clear e
      go_enter Tryz.func21, Tryz.ntmps21
      go_wp2
      go_ret
      exact ⟨rfl, rfl⟩
  · have e : endE l bad = bad := by unfold endE; rw [if_neg (fun h => hb h.1)]
    have hb' : ¬ (bad : Int) = 0 := by omega
    rw [e]
    clear e
    go_enter Tryz.func21, Tryz.ntmps21
    go_wp2
    go_ret
    exact ⟨rfl, rfl⟩
set_option maxRecDepth 100000 in
set_option maxHeartbeats 1000000 in
theorem rvflag_any (w : World) (d : Nat) (F : Nat → Prop) (l : List UInt8) (bad : Nat) (h : Rv w d F l bad) :
    Calls Tryz.prog 56 #[.pointer (some ⟨d, 0, none⟩)] w fun r w' => r = .returned (.bool (numL (rt l (fb l bad) 1) == 1)) ∧ Rv w' d F (rl l (fb l bad) 1) (rb l (fb l bad) 1) ∧ w.grownBy w' (some d) := by
  have HR := hid h
  have HD : ∀ N : Nat, (N == 1) = ((N : Int) == 1) := fun N => by rw [Bool.eq_iff_iff, beq_iff_eq, beq_iff_eq]; omega
  have HN : Hid (∀ u bd, Rv u d F l bd → Calls Tryz.prog 52 #[.pointer (some ⟨d, 0, none⟩), .int .i64 1] u fun r w' => r = .returned (.int .u64 (numL (rt l bd 1))) ∧ Rv w' d F (rl l bd 1) (rb l bd 1) ∧ u.grownBy w' (some d)) := hid (fun u bd hu => rvnum_ok u d F l bd 1 hu (by decide) (by decide))
  by_cases hb : bad = 0
  · subst hb
    cases l with
    | nil =>
      have e : fb [] 0 = 30 := by decide
      rw [e]
      have e1 : rb [] 30 1 = 30 := by decide
      have e2 : rl [] 30 1 = [] := by decide
      have e3 : rt [] 30 1 = [] := by decide
      rw [e1, e2, e3]
      have HN0 := hid (HN.out w 0 h)
      rw [show rt [] 0 1 = [] by decide, show rl [] 0 1 = [] by decide, show rb [] 0 1 = 30 by decide] at HN0
      obtain ⟨a, c, c0, c1, fz⟩ := h.open
      clear h HN e e1 e2 e3 HD
      show Calls Tryz.prog 56 _ w fun r w' => r = .returned (.bool false) ∧ _
      go_enter Tryz.func56, Tryz.ntmps56
      go_wp2_with fail
      refine HN0.out.mono ?_
      rintro e w1 ⟨rfl, hR1, hg1⟩
      have HR1 := hid hR1
      have HG1 := hid hg1
      clear hR1 hg1
      go_wp2_with fail
      go_ret
      exact ⟨rfl, HR1.out, HG1.out⟩
    | cons x r =>
      have ex : rt (x :: r) 0 1 = [x] := (rb_good (l := x :: r) (n := 1) (by simp)).2.1
      have eb : rb (x :: r) 0 1 = 0 := (rb_good (l := x :: r) (n := 1) (by simp)).1
      have enx : numL [x] = x.toNat := by simp [numL]
      obtain ⟨v, hh, hv, hF, hl⟩ := h
      obtain ⟨c0, c1, fz⟩ := cells2 hh
      obtain ⟨a, b', off, c, rfl, hlc, hnn, ha, hcell⟩ := hv
      obtain ⟨rfl, hb', _⟩ := ha (by simp)
      have cx := hcell 0 (by simp)
      rw [Nat.add_zero] at cx
      have hx0 := u8_bd x
      obtain ⟨n, hn⟩ : ∃ n, (x :: r).length = n := ⟨_, rfl⟩
      have hn0 : 0 < n := by rw [← hn]; simp
      have cx2 : w.cell? ⟨b', off, none⟩ = some (.int .u8 (x.toNat : Int)) := cx
      rw [hn] at c0 hl
      clear hh hcell ha hnn hlc cx hl
      by_cases hx : 1 < x.toNat
      · have e : fb (x :: r) 0 = 34 := by unfold fb; rw [ex, eb, enx, if_pos hx]; rfl
        rw [e]
        have HN1 := hid (HN.out (w.setCell ⟨d, 1, none⟩ (.int .i64 34)) 34 HR.out.setBad)
        have hx' : 1 < (x.toNat : Int) := by omega
        have HDD := HD (numL (rt (x :: r) 34 1))
        rw [HDD]
        clear HN e HDD HD
        generalize numL (rt (x :: r) 34 1) = N1 at *
        go_enter Tryz.func56, Tryz.ntmps56
        go_wp2_with fail
        refine HN1.out.mono ?_
        rintro e w1 ⟨rfl, hR1, hg1⟩
        have HR1 := hid hR1
        have HG1 := hid (gtrans (gset w ⟨d, 1, none⟩ (.int .i64 34)) hg1)
        clear hR1 hg1
        go_wp2_with fail
        go_ret
        exact ⟨rfl, HR1.out, HG1.out⟩
      · have e : fb (x :: r) 0 = 0 := by unfold fb; rw [ex, eb, enx, if_neg hx]
        rw [e]
        have HN1 := hid (HN.out w 0 HR.out)
        have hx' : ¬ 1 < (x.toNat : Int) := by omega
        have HDD := HD (numL (rt (x :: r) 0 1))
        rw [HDD]
        clear HN e HDD HD ex eb
        generalize numL (rt (x :: r) 0 1) = N1 at *
        go_enter Tryz.func56, Tryz.ntmps56
        go_wp2_with fail
        refine HN1.out.mono ?_
        rintro e w1 ⟨rfl, hR1, hg1⟩
        have HR1 := hid hR1
        have HG1 := hid hg1
        clear hR1 hg1
        go_wp2_with fail
        go_ret
        exact ⟨rfl, HR1.out, HG1.out⟩
  · have e : fb l bad = bad := by
      unfold fb
      rw [(rb_bad (l := l) (n := 1) hb).2.1, if_neg (by decide), (rb_bad (l := l) (n := 1) hb).1]
    rw [e]
    have HN1 := hid (HN.out w bad h)
    have hb' : ¬ (bad : Int) = 0 := by omega
    obtain ⟨a, c, c0, c1, fz⟩ := h.open
    have HDD := HD (numL (rt l bad 1))
    rw [HDD]
    clear h HN e HDD HD
    generalize numL (rt l bad 1) = N1 at *
    go_enter Tryz.func56, Tryz.ntmps56
    go_wp2_with fail
    refine HN1.out.mono ?_
    rintro e w1 ⟨rfl, hR1, hg1⟩
    have HR1 := hid hR1
    have HG1 := hid hg1
    clear hR1 hg1
    go_wp2_with fail
    go_ret
    exact ⟨rfl, HR1.out, HG1.out⟩
theorem built114 (a : Option Addr) (n c : Nat) : Tryz.prog.built 114 [(0, .slice a n c)] = some [Value.slice a n c, .int .i64 0].toArray := by kernel_rfl
set_option maxRecDepth 100000 in
theorem rvfrom_any (w : World) (F : Nat → Prop) (v : Value) (l : List UInt8) (hv : Rd w F v l) (hl : l.length ≤ 17592186044416) :
    Calls Tryz.prog 13 #[v] w fun r w' => ∃ d, r = .returned (.pointer (some ⟨d, 0, none⟩)) ∧ w.heap.size ≤ d ∧ Rv w' d (fun g => w.heap.size ≤ g ∧ g ≠ d) l 0 ∧ w.grownBy w' none := by
  have HC := hid (copyC hl hv w (grefl _ _))
  clear hv
  go_enter Tryz.func13, Tryz.ntmps13
  go_wp2_with (go_at_call 51; refine (HC.out).mono ?_; rintro e w1 ⟨v1, rfl, hO1, hg1⟩; have HO1 := hid hO1; have HG1 := hid hg1; obtain ⟨a1, b1, o1, c1, rfl, -⟩ := hO1.rd; clear hO1 hg1)
  go_ret
  refine ⟨_, rfl, HG1.out.size, ⟨_, heap_new _ _ _, ?_, (fun h => h.2 rfl), by omega⟩, gtrans HG1.out (galloc _ _ _)⟩
  exact (HO1.out.rd.mono (G := fun g => w.heap.size ≤ g ∧ g ≠ w1.heap.size) (fun k hk h => ⟨h, by omega⟩)).keep (galloc _ _ _)
theorem Out.low {B B' : Nat} {w : World} {v : Value} {l : List UInt8} (h : Out B w v l) (hb : B' ≤ B) : Out B' w v l := by
  refine ⟨h.1, ?_⟩
  rcases h.2 with h5 | ⟨g, cap, cur, hv, hg, r⟩
  · exact Or.inl h5
  · exact Or.inr ⟨g, cap, cur, hv, Nat.le_trans hb hg, r⟩
theorem row_bad {l : List UInt8} {bad : Nat} (h : bad ≠ 0) : rowT l bad = [] ∧ rowL l bad = l ∧ rowE l bad = bad := by
  have e : rowB l bad = bad := by
    unfold rowB
    rw [(rb_bad (l := l) (n := 4) h).2.1, if_neg (by decide), (rb_bad (l := l) (n := 4) h).1]
  unfold rowT rowL rowE
  rw [e, (rb_bad (l := l) (n := rowN l bad) h).1, (rb_bad (l := l) (n := rowN l bad) h).2.1, (rb_bad (l := l) (n := rowN l bad) h).2.2]
  exact ⟨rfl, rfl, rfl⟩
theorem row_of {l : List UInt8} {B : Nat} (hB : rowB l 0 = B) (h : B ≠ 0) : rowT l 0 = [] ∧ rowL l 0 = l ∧ rowE l 0 = B := by
  unfold rowT rowL rowE
  rw [hB, (rb_bad (l := l) (n := rowN l 0) h).1, (rb_bad (l := l) (n := rowN l 0) h).2.1, (rb_bad (l := l) (n := rowN l 0) h).2.2]
  exact ⟨rfl, rfl, rfl⟩
theorem row_short {l : List UInt8} (h : l.length < 4) : rowT l 0 = [] ∧ rowL l 0 = l ∧ rowE l 0 = 30 :=
  row_of (by unfold rowB; rw [(rb_short h).2.1, if_neg (by decide), (rb_short h).1]) (by decide)
theorem row_long {l : List UInt8} (h : 4 ≤ l.length) (hn : 1048576 < numL (l.take 4)) : rowT l 0 = [] ∧ rowL l 0 = l ∧ rowE l 0 = 31 :=
  row_of (by unfold rowB; rw [(rb_good h).2.1, if_pos hn, (rb_good h).1]; rfl) (by decide)
theorem row_lack {l : List UInt8} (h : 4 ≤ l.length) (hn : ¬ 1048576 < numL (l.take 4)) (hl : l.length < 4 + numL (l.take 4)) : rowT l 0 = [] ∧ rowL l 0 = l ∧ rowE l 0 = 30 := by
  have e : rowB l 0 = 0 := by unfold rowB; rw [(rb_good h).2.1, if_neg hn, (rb_good h).1]
  have e2 : rowN l 0 = 4 + numL (l.take 4) := by unfold rowN; rw [(rb_good h).2.1]
  unfold rowT rowL rowE
  rw [e, e2, (rb_short hl).1, (rb_short hl).2.1, (rb_short hl).2.2]
  exact ⟨rfl, rfl, rfl⟩
theorem row_good {l : List UInt8} (h : 4 ≤ l.length) (hn : ¬ 1048576 < numL (l.take 4)) (hl : 4 + numL (l.take 4) ≤ l.length) : rowT l 0 = (l.drop 4).take (numL (l.take 4)) ∧ rowL l 0 = (l.drop 4).drop (numL (l.take 4)) ∧ rowE l 0 = 0 := by
  have e : rowB l 0 = 0 := by unfold rowB; rw [(rb_good h).2.1, if_neg hn, (rb_good h).1]
  have e2 : rowN l 0 = 4 + numL (l.take 4) := by unfold rowN; rw [(rb_good h).2.1]
  unfold rowT rowL rowE
  rw [e, e2, (rb_good hl).1, (rb_good hl).2.1, (rb_good hl).2.2]
  refine ⟨?_, ?_, rfl⟩
  · rw [List.drop_take, Nat.add_sub_cancel_left]
  · rw [List.drop_drop]
set_option maxRecDepth 100000 in
set_option maxHeartbeats 2000000 in
theorem rvbytes_any (w : World) (d : Nat) (F : Nat → Prop) (l : List UInt8) (bad : Nat) (h : Rv w d F l bad) :
    Calls Tryz.prog 58 #[.pointer (some ⟨d, 0, none⟩)] w fun r w' => ∃ v, r = .returned v ∧ Out w.heap.size w' v (rowT l bad) ∧ Rv w' d F (rowL l bad) (rowE l bad) ∧ w.grownBy w' (some d) := by
  have HR := hid h
  by_cases hb : bad = 0
  · subst hb
    by_cases h4 : l.length < 4
    · obtain ⟨e1, e2, e3⟩ := row_short h4
      rw [e1, e2, e3]
      have h4' : (l.length : Int) < 4 := by omega
      obtain ⟨a, c, c0, c1, fz⟩ := h.open
      clear h e1 e2 e3
      go_enter Tryz.func58, Tryz.ntmps58
      go_wp2_with fail
      go_ret
      exact ⟨_, rfl, Out.nil _ _, HR.out.setBad, gset _ _ _⟩
    · have h4n : 4 ≤ l.length := by omega
      have HOf : Hid (∀ v, Rd w F v (l.take 4) → Calls Tryz.prog 114 #[v] w fun e w' => e = .returned (.int .u64 (numL (l.take 4))) ∧ w.grownBy w' none) := hid (fun v hv => ofC (by rw [List.length_take]; omega) hv w (grefl _ _))
      have hN : numL (l.take 4) < 4294967296 := by
        have := numL_lt 4 (l.take 4) (by rw [List.length_take]; omega)
        exact this
      obtain ⟨v, hh, hv, hF, hl⟩ := h
      obtain ⟨c0, c1, fz⟩ := cells2 hh
      obtain ⟨a, b', off, c, rfl, hlc, hnn, ha, hcell⟩ := hv
      have HOf2 := hid (HOf.out _ (Rd.head hlc hnn ha hcell 4 h4n))
      obtain ⟨rfl, hb', hFb⟩ := ha (by omega)
      have h4' : ¬ (l.length : Int) < 4 := by omega
      have h4'' : 4 ≤ c := by omega
      have h4c : (4 : Int) ≤ (c : Int) := by omega
      clear hh ha hcell hnn HOf
      have HS1 : Hid (1048576 < numL (l.take 4) → rowT l 0 = [] ∧ rowL l 0 = l ∧ rowE l 0 = 31) := hid (row_long h4n)
      have HS2 : Hid (¬ 1048576 < numL (l.take 4) → l.length < 4 + numL (l.take 4) → rowT l 0 = [] ∧ rowL l 0 = l ∧ rowE l 0 = 30) := hid (row_lack h4n)
      have HS3 : Hid (¬ 1048576 < numL (l.take 4) → 4 + numL (l.take 4) ≤ l.length → rowT l 0 = (l.drop 4).take (numL (l.take 4)) ∧ rowL l 0 = (l.drop 4).drop (numL (l.take 4)) ∧ rowE l 0 = 0) := hid (row_good h4n)
      generalize numL (l.take 4) = N at *
      by_cases hx : 1048576 < N
      · obtain ⟨e1, e2, e3⟩ := HS1.out hx
        rw [e1, e2, e3]
        have hx' : 1048576 < (N : Int) := by omega
        clear e1 e2 e3 HS1 HS2 HS3 hlc hN
        go_enter Tryz.func58, Tryz.ntmps58
        go_wp2_with fail
        refine HOf2.out.mono ?_
        rintro e w1 ⟨rfl, hg1⟩
        have HR1 := hid (HR.out.keep hg1)
        have HG1 := hid hg1
        obtain ⟨a1, k1, d0, d1, dz⟩ := HR1.out.open
        clear hg1
        go_wp2_with fail
        go_ret
        exact ⟨_, rfl, Out.nil _ _, HR1.out.setBad, gtrans (gsome HG1.out _) (gset _ _ _)⟩
      · have hx' : ¬ 1048576 < (N : Int) := by omega
        by_cases hy : l.length < 4 + N
        · obtain ⟨e1, e2, e3⟩ := HS2.out hx hy
          rw [e1, e2, e3]
          have hy' : (l.length : Int) - 4 < (N : Int) := by omega
          have hl5 : (l.length : Int) ≤ 140737488355328 := by omega
          have hl6 : 4 ≤ (l.length : Int) := by omega
          clear e1 e2 e3 HS1 HS2 HS3 hlc hN
          go_enter Tryz.func58, Tryz.ntmps58
          go_wp2_with fail
          refine HOf2.out.mono ?_
          rintro e w1 ⟨rfl, hg1⟩
          have HR1 := hid (HR.out.keep hg1)
          have HG1 := hid hg1
          obtain ⟨a1, k1, d0, d1, dz⟩ := HR1.out.open
          clear hg1
          generalize (l.length : Int) = LL at *
          go_wp2_with fail
          go_ret
          exact ⟨_, rfl, Out.nil _ _, HR1.out.setBad, gtrans (gsome HG1.out _) (gset _ _ _)⟩
        · obtain ⟨e1, e2, e3⟩ := HS3.out hx (by omega)
          rw [e1, e2, e3]
          have hy' : ¬ (l.length : Int) - 4 < (N : Int) := by omega
          have hl5 : (l.length : Int) ≤ 140737488355328 := by omega
          have hl6 : 4 ≤ (l.length : Int) := by omega
          have HT4 : Hid (∀ u, Rv u d F l 0 → Calls Tryz.prog 115 #[.pointer (some ⟨d, 0, none⟩), .int .i64 4] u fun r w' => ∃ v, r = .returned v ∧ Rd w' F v (l.take 4) ∧ Rv w' d F (l.drop 4) 0 ∧ u.grownBy w' (some d)) := hid (fun u hu => rvtake_any u d F l 0 4 hu h4n)
          have HTN : Hid (∀ u, Rv u d F (l.drop 4) 0 → Calls Tryz.prog 115 #[.pointer (some ⟨d, 0, none⟩), .int .i64 (N : Int)] u fun r w' => ∃ v, r = .returned v ∧ Rd w' F v ((l.drop 4).take N) ∧ Rv w' d F ((l.drop 4).drop N) 0 ∧ u.grownBy w' (some d)) := hid (fun u hu => rvtake_any u d F (l.drop 4) 0 N hu (by rw [List.length_drop]; omega))
          have HCp : Hid (∀ u v, Rd u F v ((l.drop 4).take N) → Calls Tryz.prog 51 #[v] u fun e w' => ∃ v', e = .returned v' ∧ Out u.heap.size w' v' ((l.drop 4).take N) ∧ u.grownBy w' none) := hid (fun u v hv => copyC (by rw [List.length_take]; omega) hv u (grefl _ _))
          clear e1 e2 e3 HS1 HS2 HS3 hlc
          go_enter Tryz.func58, Tryz.ntmps58
          go_wp2_with fail
          refine HOf2.out.mono ?_
          rintro e w1 ⟨rfl, hg1⟩
          have HR1 := hid (HR.out.keep hg1)
          have HG1 := hid hg1
          obtain ⟨a1, k1, d0, d1, dz⟩ := HR1.out.open
          clear hg1
          generalize (l.length : Int) = LL at *
          go_wp2_with fail
          refine (HT4.out _ HR1.out).mono ?_
          rintro e w2 ⟨v2, rfl, hv2, hR2, hg2⟩
          have HR2 := hid hR2
          have HG2 := hid (gtrans (gsome HG1.out (some d)) hg2)
          clear hv2 hR2 hg2 d0 d1 dz
          go_wp2_with fail
          refine (HTN.out _ HR2.out).mono ?_
          rintro e w3 ⟨v3, rfl, hv3, hR3, hg3⟩
          have HR3 := hid hR3
          have HG3 := hid (gtrans HG2.out hg3)
          have HC3 := hid (HCp.out _ _ hv3)
          clear hv3 hR3 hg3
          go_wp2_with fail
          refine HC3.out.mono ?_
          rintro e w4 ⟨v4, rfl, hO4, hg4⟩
          have HR4 := hid (HR3.out.keep hg4)
          have HO4 := hid (Out.low hO4 HG3.out.size)
          have HG4 := hid (gtrans HG3.out (gsome hg4 _))
          clear hO4 hg4
          go_wp2_with fail
          go_ret
          exact ⟨_, rfl, HO4.out, HR4.out, HG4.out⟩
  · obtain ⟨e1, e2, e3⟩ := row_bad (l := l) hb
    rw [e1, e2, e3]
    have hb' : ¬ (bad : Int) = 0 := by omega
    obtain ⟨a, c, c0, c1, fz⟩ := h.open
    clear h e1 e2 e3
    go_enter Tryz.func58, Tryz.ntmps58
    go_wp2_with fail
    go_ret
    exact ⟨_, rfl, Out.nil _ _, HR.out, grefl _ _⟩
set_option maxRecDepth 100000 in
theorem rvtext_any (w : World) (d : Nat) (F : Nat → Prop) (l : List UInt8) (bad : Nat) (h : Rv w d F l bad) :
    Calls Tryz.prog 59 #[.pointer (some ⟨d, 0, none⟩)] w fun r w' => r = .returned (.string (str (rowT l bad))) ∧ Rv w' d F (rowL l bad) (rowE l bad) ∧ w.grownBy w' (some d) := by
  have HB := hid (rvbytes_any w d F l bad h)
  clear h
  go_enter Tryz.func59, Tryz.ntmps59
  go_wp2_with (go_at_call 58; refine (HB.out).mono ?_; rintro e w1 ⟨v1, rfl, hO1, hR1, hg1⟩; have HR1 := hid hR1; have HG1 := hid hg1; have k1 := hO1.rd.convert; clear hO1 hR1 hg1)
  go_ret
  exact ⟨rfl, HR1.out, HG1.out⟩
end Go.Proofs.YtfalgjdhdgkbfaaGreatDoor
