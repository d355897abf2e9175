/- The walks of the Reader's methods. -/
import Derived.Test.YtfalgjdhdgkbfaaGreatDoorWalkE
import Derived.Test.YtfalgjdhdgkbfaaGreatDoorWalkC
namespace Go.Proofs.YtfalgjdhdgkbfaaGreatDoor
open Go Go.RowKit
open Go.RowKit (wrap32 wrap64)

/-- A Reader: what is left, its refusal. -/
def Rr (w : World) (b : Nat) (F : Nat → Prop) (l : List UInt8) (bad : Nat) : Prop :=
  ∃ v, w.heap[b]? = some (.cells #[v, .int .i64 (bad : Int)] 113 (0, 0)) ∧ Rd w F v l ∧ ¬ F b ∧ l.length ≤ 140737488355328
theorem Rr.lt {w : World} {b : Nat} {F : Nat → Prop} {l : List UInt8} {bad : Nat} (h : Rr w b F l bad) : b < w.heap.size := by
  obtain ⟨v, hh, _⟩ := h
  exact (Array.getElem?_eq_some_iff.1 hh).1
theorem Rr.on {w w' : World} {b : Nat} {F : Nat → Prop} {l : List UInt8} {bad : Nat} {row : Option Nat} (h : Rr w b F l bad) (hg : w.grownBy w' row) (hb : row ≠ some b) (hr : ∀ k, row = some k → ¬ F k) : Rr w' b F l bad := by
  obtain ⟨v, hh, hv, hF, hl⟩ := h
  exact ⟨v, heap_at hg hb hh, hv.on hg hr, hF, hl⟩
theorem Rr.keep {w w' : World} {b : Nat} {F : Nat → Prop} {l : List UInt8} {bad : Nat} (h : Rr w b F l bad) (hg : w.grownBy w' none) : Rr w' b F l bad := h.on hg (by simp) (fun k hk => by cases hk)
theorem Rr.mono {w : World} {b : Nat} {F G : Nat → Prop} {l : List UInt8} {bad : Nat} (h : Rr w b F l bad) (hf : ∀ k, k < w.heap.size → F k → G k) (hG : ¬ G b) : Rr w b G l bad := by
  obtain ⟨v, hh, hv, _, hl⟩ := h
  exact ⟨v, hh, hv.mono hf, hG, hl⟩
theorem cells2 {w : World} {k : Nat} {a b : Value} {t : TypeId} (h : w.heap[k]? = some (.cells #[a, b] t (0, 0))) : w.cell? ⟨k, 0, none⟩ = some a ∧ w.cell? ⟨k, 1, none⟩ = some b ∧ ∀ o, w.frozen? ⟨k, o, none⟩ = false :=
  ⟨by simp [World.cell?, h], by simp [World.cell?, h], fun o => by simp [World.frozen?, h]⟩
theorem set1 {w : World} {k : Nat} {a b c : Value} {t : TypeId} (h : w.heap[k]? = some (.cells #[a, b] t (0, 0))) : (w.setCell ⟨k, 1, none⟩ c).heap[k]? = some (.cells #[a, c] t (0, 0)) := by
  simp [World.setCell, Array.getElem?_modify, h]
theorem set0 {w : World} {k : Nat} {a b c : Value} {t : TypeId} (h : w.heap[k]? = some (.cells #[a, b] t (0, 0))) : (w.setCell ⟨k, 0, none⟩ c).heap[k]? = some (.cells #[c, b] t (0, 0)) := by
  simp [World.setCell, Array.getElem?_modify, h]
theorem notb {F : Nat → Prop} {b : Nat} (h : ¬ F b) : ∀ k, some b = some k → ¬ F k := fun k e => by injection e with e; rw [← e]; exact h

set_option maxHeartbeats 400000 in
theorem rrefuse_any (w : World) (b : Nat) (F : Nat → Prop) (l : List UInt8) (bad e : Nat) (h : Rr w b F l bad) :
    Calls Tryz.prog 107 #[.pointer (some ⟨b, 0, none⟩), .int .i64 e] w fun r w' => r = .returned (.tuple #[]) ∧ Rr w' b F l (ref bad e) ∧ w.grownBy w' (some b) := by
  have HR := hid h
  obtain ⟨v, hh, hv, hF, hl⟩ := h
  obtain ⟨c0, c1, fz⟩ := cells2 hh
  have hlt := HR.out.lt
  have HH := hid hh
  have HV := hid hv
  clear hh hv
  by_cases hb : bad = 0
  · subst hb
    rw [show ref 0 e = e from rfl]
    go_enter Tryz.func107, Tryz.ntmps107
    go_wp2_with fail
    go_end0
    exact ⟨rfl, ⟨v, set1 HH.out, HV.out.on (gset _ _ _) (notb hF), hF, hl⟩, gset _ _ _⟩
  · have hd : ((bad : Int) == 0) = false := by simpa using hb
    have hd2 : (bad == 0) = false := by simpa using hb
    rw [show ref bad e = bad from if_neg hb]
    clear hb
    go_enter Tryz.func107, Tryz.ntmps107
    go_wp2_with fail
    go_end0
    exact ⟨rfl, HR.out, grefl _ _⟩

/-- What front finds: the refusal behind it, and the field. -/
def rb (l : List UInt8) (bad size : Nat) : Nat := if l.length < size then ref bad 30 else bad
def rt (l : List UInt8) (bad size : Nat) : List UInt8 := if rb l bad size = 0 then l.take size else []
theorem rb_zero {l : List UInt8} {bad size : Nat} (h : rb l bad size = 0) : bad = 0 ∧ size ≤ l.length := by
  unfold rb ref at h
  split at h
  · split at h
    · cases h
    · omega
  · omega
theorem rt_length (l : List UInt8) (bad size : Nat) : (rt l bad size).length ≤ size ∧ (rt l bad size).length ≤ l.length := by
  unfold rt
  split
  · rw [List.length_take]; omega
  · simp

set_option maxRecDepth 100000 in
set_option maxHeartbeats 1000000 in
theorem front_bad (w : World) (b : Nat) (F : Nat → Prop) (l : List UInt8) (bad : Nat) (x : Int) (h : Rr w b F l bad) (hb : bad ≠ 0) :
    Calls Tryz.prog 116 #[.pointer (some ⟨b, 0, none⟩), .int .i64 x] w fun r w' => r = .returned (.slice none 0 0) ∧ Rr w' b F l bad ∧ w.grownBy w' (some b) := by
  have HF : Hid (Calls Tryz.prog 107 #[.pointer (some ⟨b, 0, none⟩), .int .i64 30] w fun r w' => r = .returned (.tuple #[]) ∧ Rr w' b F l bad ∧ w.grownBy w' (some b)) := by
    have := rrefuse_any w b F l bad 30 h
    rw [show ref bad 30 = bad from if_neg hb] at this
    exact this
  have HR := hid h
  obtain ⟨v, hh, hv, hF, hl⟩ := h
  obtain ⟨c0, c1, fz⟩ := cells2 hh
  have hlt := HR.out.lt
  obtain ⟨a, b', off, c, rfl, -⟩ := hv
  have hd : ((bad : Int) != 0) = true := by simpa using hb
  have hd2 : (bad != 0) = true := by simpa using hb
  clear hh hb
  by_cases hx : (l.length : Int) < x
  · go_enter Tryz.func116, Tryz.ntmps116
    go_wp2_with (go_at_call 107; refine (HF.out).mono ?_; rintro e w1 ⟨rfl, hR1, hg1⟩; have HR1 := hid hR1; have HG1 := hid hg1; clear hg1; obtain ⟨v1, hh1, _⟩ := hR1; obtain ⟨d0, d1, dz⟩ := cells2 hh1; clear hh1)
    go_ret
    exact ⟨rfl, HR1.out, HG1.out⟩
  · go_enter Tryz.func116, Tryz.ntmps116
    go_wp2_with fail
    go_ret
    exact ⟨rfl, HR.out, grefl _ _⟩

set_option maxRecDepth 100000 in
set_option maxHeartbeats 1000000 in
theorem front_any (w : World) (b : Nat) (F : Nat → Prop) (l : List UInt8) (bad n : Nat) (h : Rr w b F l bad) (h1 : 1 ≤ n) (hn : n ≤ 140737488355328) :
    Calls Tryz.prog 116 #[.pointer (some ⟨b, 0, none⟩), .int .i64 n] w fun r w' => ∃ v, r = .returned v ∧ Rd w' F v (rt l bad n) ∧ Rr w' b F l (rb l bad n) ∧ w.grownBy w' (some b) := by
  by_cases hb : bad = 0
  · subst hb
    by_cases hs : l.length < n
    · have e1 : rb l 0 n = 30 := by unfold rb ref; rw [if_pos hs]; rfl
      have e2 : rt l 0 n = [] := by unfold rt; rw [e1, if_neg (by decide)]
      rw [e1, e2]
      have HF := hid (rrefuse_any w b F l 0 30 h)
      rw [show ref 0 30 = 30 from rfl] at HF
      have HR := hid h
      obtain ⟨v, hh, hv, hF, hl⟩ := h
      obtain ⟨c0, c1, fz⟩ := cells2 hh
      obtain ⟨a, b', off, c, rfl, -⟩ := hv
      have hi : (l.length : Int) < (n : Int) := by omega
      clear hh
      go_enter Tryz.func116, Tryz.ntmps116
      go_wp2_with (go_at_call 107; refine (HF.out).mono ?_; rintro e w1 ⟨rfl, hR1, hg1⟩; have HR1 := hid hR1; have HG1 := hid hg1; clear hg1; obtain ⟨v1, hh1, _⟩ := hR1; obtain ⟨d0, d1, dz⟩ := cells2 hh1; clear hh1)
      go_ret
      exact ⟨_, rfl, Rd.nil _ _, HR1.out, HG1.out⟩
    · have e1 : rb l 0 n = 0 := by unfold rb; rw [if_neg hs]
      have e2 : rt l 0 n = l.take n := by unfold rt; rw [e1, if_pos rfl]
      rw [e1, e2]
      have HR := hid h
      obtain ⟨v, hh, hv, hF, hl⟩ := h
      obtain ⟨c0, c1, fz⟩ := cells2 hh
      obtain ⟨a, b', off, c, rfl, hlc, hnn, ha, hcell⟩ := hv
      have hp := Rd.part ha hcell 0 n n (by omega) (by omega) (Nat.le_refl _)
      rw [List.drop_zero, Nat.add_zero] at hp
      have HP := hid hp
      obtain ⟨rfl, hb', hFb⟩ := ha (by omega)
      have hi : ¬ (l.length : Int) < (n : Int) := by omega
      clear hh ha hcell hnn hp
      generalize l.length = L at *
      go_enter Tryz.func116, Tryz.ntmps116
      go_wp2_with fail
      go_ret
      exact ⟨_, rfl, HP.out, HR.out, grefl _ _⟩
  · have e1 : rb l bad n = bad := by unfold rb ref; rw [if_neg hb]; split <;> rfl
    have e2 : rt l bad n = [] := by unfold rt; rw [e1, if_neg hb]
    rw [e1, e2]
    refine (front_bad w b F l bad n h hb).mono ?_
    rintro e w' ⟨rfl, hR, hg⟩
    exact ⟨_, rfl, Rd.nil _ _, hR, hg⟩

theorem Rd.rest {w : World} {F : Nat → Prop} {a : Option Addr} {b off c : Nat} {l : List UInt8} (ha : 0 < l.length → a = some ⟨b, off, none⟩ ∧ b < w.heap.size ∧ F b) (hcell : ∀ i (h : i < l.length), w.cell? ⟨b, off + i, none⟩ = some (.int .u8 l[i].toNat)) (hc : l.length ≤ c)
    (n : Nat) (h : n ≤ l.length) (p : Option Addr) (hp : n < l.length → p = some ⟨b, off + n, none⟩) (hn : p = none → c - n = 0) : Rd w F (.slice p (l.length - n) (c - n)) (l.drop n) := by
  have hl : (l.drop n).length = l.length - n := List.length_drop ..
  refine ⟨p, b, off + n, c - n, by rw [hl], by rw [hl]; omega, hn, fun h0 => ⟨hp (by omega), (ha (by omega)).2⟩, fun j hj => ?_⟩
  rw [hl] at hj
  have := hcell (n + j) (by omega)
  rw [show off + n + j = off + (n + j) by omega, this]
  simp
theorem Rr.setLeft {w : World} {b : Nat} {F : Nat → Prop} {l l' : List UInt8} {bad : Nat} {v : Value} (h : Rr w b F l bad) (hv : Rd w F v l') (hl : l'.length ≤ l.length) : Rr (w.setCell ⟨b, 0, none⟩ v) b F l' bad := by
  obtain ⟨u, hh, _, hF, hll⟩ := h
  exact ⟨v, set0 hh, hv.on (gset _ _ _) (notb hF), hF, by omega⟩

set_option maxRecDepth 100000 in
set_option maxHeartbeats 1000000 in
theorem take_bad (w : World) (b : Nat) (F : Nat → Prop) (l : List UInt8) (bad : Nat) (x : Int) (h : Rr w b F l bad) (hb : bad ≠ 0) :
    Calls Tryz.prog 109 #[.pointer (some ⟨b, 0, none⟩), .int .i64 x] w fun r w' => r = .returned (.slice none 0 0) ∧ Rr w' b F l bad ∧ w.grownBy w' (some b) := by
  have HF := hid (front_bad w b F l bad x h hb)
  clear h
  go_enter Tryz.func109, Tryz.ntmps109
  go_wp2_with fail
  refine (HF.out).mono ?_
  rintro e w1 ⟨rfl, hR1, hg1⟩
  have HR1 := hid hR1
  have HG1 := hid hg1
  clear hg1
  obtain ⟨v, hh, hv, hF, hl⟩ := hR1
  obtain ⟨c0, c1, fz⟩ := cells2 hh
  have hlt := HR1.out.lt
  have HV := hid hv
  obtain ⟨a, b', off, c, rfl, hlc, hnn, -⟩ := hv
  clear hh
  cases a with
  | none =>
    have c00 := hnn rfl
    subst c00
    have hl0 : l.length = 0 := by omega
    rw [hl0] at c0 HV
    go_wp2_with fail
    go_ret
    exact ⟨rfl, HR1.out.setLeft HV.out (Nat.le_refl _), gtrans HG1.out (gset _ _ _)⟩
  | some q =>
    obtain ⟨qb, qo, qs⟩ := q
    generalize hL : l.length = L at *
    have HL := hid hL
    clear hL hnn
    go_wp2_with fail
    all_goals
      go_ret
      exact ⟨rfl, HR1.out.setLeft HV.out (Nat.le_refl _), gtrans HG1.out (gset _ _ _)⟩

/-- What is left behind a field. -/
def rl (l : List UInt8) (bad size : Nat) : List UInt8 := if rb l bad size = 0 then l.drop size else l

set_option maxRecDepth 100000 in
set_option maxHeartbeats 1000000 in
theorem take_any (w : World) (b : Nat) (F : Nat → Prop) (l : List UInt8) (bad n : Nat) (h : Rr w b F l bad) (h1 : 1 ≤ n) (hn : n ≤ 140737488355328) :
    Calls Tryz.prog 109 #[.pointer (some ⟨b, 0, none⟩), .int .i64 n] w fun r w' => ∃ v, r = .returned v ∧ Rd w' F v (rt l bad n) ∧ Rr w' b F (rl l bad n) (rb l bad n) ∧ w.grownBy w' (some b) := by
  have HF := hid (front_any w b F l bad n h h1 hn)
  clear h
  go_enter Tryz.func109, Tryz.ntmps109
  go_wp2_with fail
  refine (HF.out).mono ?_
  rintro e w1 ⟨v1, rfl, hv1, hR1, hg1⟩
  have HR1 := hid hR1
  have HG1 := hid hg1
  have HV1 := hid hv1
  clear hg1 HF
  obtain ⟨v, hh, hv, hF, hl⟩ := hR1
  obtain ⟨c0, c1, fz⟩ := cells2 hh
  have hlt := HR1.out.lt
  have HV := hid hv
  obtain ⟨a, b', off, c, rfl, hlc, hnn, ha, hcell⟩ := hv
  clear hh
  by_cases hz : rb l bad n = 0
  · obtain ⟨hb0, hnl⟩ := rb_zero hz
    have e1 : rt l bad n = l.take n := by unfold rt; rw [if_pos hz]
    have e2 : rl l bad n = l.drop n := by unfold rl; rw [if_pos hz]
    have e3 : (rt l bad n).length = n := by rw [e1, List.length_take]; omega
    have HREST : Hid (∀ p, (n < l.length → p = some ⟨b', off + n, none⟩) → (p = none → c - n = 0) → Rd w1 F (.slice p (l.length - n) (c - n)) (rl l bad n)) := hid (fun p hp hq => by rw [e2]; exact Rd.rest ha hcell hlc n hnl p hp hq)
    have hdl : (rl l bad n).length ≤ l.length := by rw [e2, List.length_drop]; omega
    obtain ⟨rfl, hb', hFb⟩ := ha (by omega)
    obtain ⟨a2, b2, off2, c2, rfl, -⟩ := hv1
    rw [e3] at HV1 ⊢
    have HDL := hid hdl
    clear ha hcell hnn e1 e2 e3 hdl HV
    by_cases hcn : c = n
    · have hLn : l.length = n := by omega
      have HLn := hid hLn
      subst hcn
      rw [HLn.out] at c0 HREST
      clear hLn
      go_wp2_with fail
      go_ret
      refine ⟨_, rfl, HV1.out.on (gset _ _ _) (notb hF), HR1.out.setLeft ?_ HDL.out, gtrans HG1.out (gset _ _ _)⟩
      have := HREST.out (some ⟨b', off, none⟩) (fun h => by omega) (fun h => by cases h)
      rw [Nat.sub_self] at this
      exact this
    · have d1 : ¬ c - n = 0 := by omega
      have d2 : ¬ c ≤ n := by omega
      have d3 : ¬ n = c := by omega
      go_wp2_with fail
      go_ret
      refine ⟨_, rfl, HV1.out.on (gset _ _ _) (notb hF), HR1.out.setLeft ?_ HDL.out, gtrans HG1.out (gset _ _ _)⟩
      exact HREST.out _ (fun _ => rfl) (fun h => by cases h)
  · have e1 : rt l bad n = [] := by unfold rt; rw [if_neg hz]
    have e2 : rl l bad n = l := by unfold rl; rw [if_neg hz]
    have HE1 := hid e1
    have HE2 := hid e2
    rw [e1] at HV1 hv1
    obtain ⟨a2, b2, off2, c2, rfl, -⟩ := hv1
    clear ha hcell e1 e2 hz
    cases a with
    | none =>
      have c00 := hnn rfl
      subst c00
      have hl0 : l.length = 0 := by omega
      rw [hl0] at c0 HV
      go_wp2_with fail
      go_ret
      exact ⟨_, rfl, by rw [HE1.out]; exact HV1.out.on (gset _ _ _) (notb hF), by rw [HE2.out]; exact HR1.out.setLeft HV.out (Nat.le_refl _), gtrans HG1.out (gset _ _ _)⟩
    | some q =>
      obtain ⟨qb, qo, qs⟩ := q
      generalize hL : l.length = L at *
      have HL := hid hL
      clear hL hnn
      go_wp2_with fail
      all_goals
        go_ret
        exact ⟨_, rfl, by rw [HE1.out]; exact HV1.out.on (gset _ _ _) (notb hF), by rw [HE2.out]; exact HR1.out.setLeft HV.out (Nat.le_refl _), gtrans HG1.out (gset _ _ _)⟩
end Go.Proofs.YtfalgjdhdgkbfaaGreatDoor
