/- A log whose end may be torn: its states, and Open. -/
import Derived.Test.YtpbiofnncdneoaaDoorWh
namespace Go.Proofs.YtpbiofnncdneoaaDoor
open Go Go.RowKit Go.MapKept Go.MuLone
open Go.RowKit (wrap32 wrap64)

/-- What a torn write may leave. -/
def TL (t : List UInt8) : Prop := t = [] ∨ (t ≠ [] ∧ unfrE t = 30)
theorem TL.nz {t : List UInt8} (h : TL t) : t ≠ [] → unfrE t ≠ 0 := fun hn => by
  rcases h with h | h
  · exact absurd h hn
  · rw [h.2]; decide
/-- The log of the name s: records, and what is behind them. -/
structure Lgd (A : Ab) (s m n : ByteArray) (R U : Nat) (ws : List (List UInt8)) (t : List UInt8) : Prop where
  live : Live A R U m n
  nm : s = m ∨ s = n
  good : goodN s = true
  old : A.old s = flat ws ++ t
  tl : TL t
  each : ∀ r ∈ ws, r.length ≤ 16777216
  num : ws.length ≤ 1000000
variable {A : Ab} {s m n : ByteArray} {R U : Nat} {ws : List (List UInt8)} {t : List UInt8}
theorem Lgd.fil (h : Lgd A s m n R U ws t) (h0 : A.off = false) : Fil A s ws t := fil_on h0 h.good h.old h.each h.num h.tl.nz
theorem Lgd.arm (h : Lgd A s m n R U ws t) (x y : Int) : Lgd (A.arm x y) s m n R U ws t := ⟨h.live.arm x y, h.nm, h.good, h.old, h.tl, h.each, h.num⟩
theorem Lgd.on (h : Lgd A s m n R U ws t) : Lgd A.on s m n R U ws t := ⟨h.live.on, h.nm, h.good, h.old, h.tl, h.each, h.num⟩
theorem Lgd.size (h : Lgd A s m n R U ws t) (h0 : A.off = false) (ht : t ≠ []) : A.fndE s = 0 ∧ flen ws ≤ (A.old s).length := by
  have := fil_cut (h.fil h0) ht
  exact ⟨this.1, this.2.2⟩
/-- A record more. -/
theorem Lgd.app (h : Lgd A s m n R U ws []) (h0 : A.off = false) (har : A.ar ≠ 1) {l : List UInt8} (hU : U + (l.length + 13) ≤ R) (hl : l.length ≤ 16777216) (hn : ws.length < 1000000) :
    A.appE s (frameL l) = 0 ∧ Lgd (A.app s (frameL l)) s m n R (U + (l.length + 13)) (ws ++ [l]) [] ∧ (A.app s (frameL l)).off = false ∧ (A.app s (frameL l)).ar = max (A.ar - 1) 0 ∧ (A.app s (frameL l)).wr = A.wr + 1 ∧ (A.app s (frameL l)).kp = A.kp ∧ ∀ x, x ≠ s → (A.app s (frameL l)).old x = A.old x := by
  have hl' : (frameL l).length = l.length + 13 := frameL_length l
  obtain ⟨q1, q2, q3⟩ := h.live.app (s := s) (l := frameL l) h0 h.nm h.good (by rw [hl']; exact hU) har (by rw [hl']; omega)
  rw [hl'] at q3
  refine ⟨q1, ⟨q3, h.nm, h.good, ?_, .inl rfl, fun r hr => ?_, by rw [List.length_append, List.length_singleton]; omega⟩, by rw [q2], by rw [q2], by rw [q2], by rw [q2], fun x hx => ?_⟩
  · rw [q2, old_set, flat_app, flat_one, h.old, List.append_nil, List.append_nil]
  · rcases List.mem_append.1 hr with hr | hr
    · exact h.each r hr
    · rw [List.mem_singleton.1 hr]; exact hl
  · rw [q2, old_other _ _ _ _ _ _ hx]; rfl
/-- A torn one: it stands just if all of it was kept. -/
theorem Lgd.torn (h : Lgd A s m n R U ws []) (h0 : A.off = false) (har : A.ar = 1) {l : List UInt8} (hU : U + (l.length + 13) ≤ R) (hl : l.length ≤ 16777216) (hn : ws.length < 1000000) :
    A.appE s (frameL l) = 94 ∧ (A.app s (frameL l)).off = true ∧ (A.app s (frameL l)).ar = 0 ∧ (A.app s (frameL l)).wr = A.wr + 1 ∧ (∀ x, x ≠ s → (A.app s (frameL l)).old x = A.old x) ∧
    ((l.length + 13 : Nat) ≤ A.kp → Lgd (A.app s (frameL l)) s m n R (U + (l.length + 13)) (ws ++ [l]) []) ∧ (A.kp < (l.length + 13 : Nat) → ∃ t, Lgd (A.app s (frameL l)) s m n R (U + (l.length + 13)) ws t) := by
  have hl' : (frameL l).length = l.length + 13 := frameL_length l
  obtain ⟨q1, q2, q3, q4, q5, q6, q7⟩ := h.live.torn (s := s) (l := frameL l) h0 h.nm h.good (by rw [hl']; exact hU) har
  rw [hl'] at q2 q6
  refine ⟨q1, q3, q4, q5, q7, fun hk => ?_, fun hk => ?_⟩
  · refine ⟨q2, h.nm, h.good, ?_, .inl rfl, fun r hr => ?_, by rw [List.length_append, List.length_singleton]; omega⟩
    · have e : (min A.kp ((l.length + 13 : Nat) : Int)).toNat = l.length + 13 := by omega
      rw [q6, e, List.take_of_length_le (by rw [hl']; omega), flat_app, flat_one, h.old, List.append_nil, List.append_nil]
    · rcases List.mem_append.1 hr with hr | hr
      · exact h.each r hr
      · rw [List.mem_singleton.1 hr]; exact hl
  · obtain ⟨k, hk1⟩ : ∃ k, (min A.kp ((l.length + 13 : Nat) : Int)).toNat = k := ⟨_, rfl⟩
    have hk2 : k < l.length + 13 := by omega
    rw [hk1] at q6
    refine ⟨(frameL l).take k, q2, h.nm, h.good, by rw [q6, h.old, List.append_nil], ?_, h.each, h.num⟩
    by_cases he : (frameL l).take k = []
    · exact .inl he
    · exact .inr ⟨he, unfr_short l hl k hk2⟩
variable {w u : World} {b lb : Nat} {P : Nat → Prop}
/-- Open of a log that isn't armed. -/
theorem lgd_open (h : Sd w u b A P) (hT : Tab w) (hc : Lgd A s m n R U ws t) (h0 : A.off = false) (har : A.ar ≠ 1) (hs : s.size ≤ 64) (hw : A.wr ≤ 4611686018427387904) :
    Calls Tryd.prog 11 #[.pointer (some ⟨b, 0, none⟩), .string s] u fun e u' => ∃ lb v P' A', e = .returned (.tuple #[.pointer (some ⟨lb, 0, none⟩), v, .int .i64 0]) ∧ OutS u.heap.size 0 u' v ws ∧ Sd w u' b A' P' ∧ LgP w u' lb b s (flen ws) false P' ∧ DF u u' P ∧ (∀ k, P' k → P k ∨ u.heap.size ≤ k) ∧ Lgd A' s m n R U ws [] ∧ A'.off = false ∧ (A.ar = 0 → A'.ar = 0) ∧ A'.wr ≤ A.wr + 1 ∧ ∀ x, x ≠ s → A'.old x = A.old x := by
  by_cases ht : t = []
  · subst ht
    exact (sd_whole h hT hs (hc.fil h0)).mono fun e u' ⟨lb, v, q1, q2, q3, q4, q5⟩ => ⟨lb, v, P, A, q1, q2, q3, q4, DF.of q5, fun k hk => .inl hk, hc, h0, id, by omega, fun _ _ => rfl⟩
  · have ht3 : unfrE t = 30 := by
      rcases hc.tl with q | q
      · exact absurd q ht
      · exact q.2
    obtain ⟨c1, c2, c3⟩ := hc.live.cut (s := s) (k := flen ws) h0 hc.nm (hc.size h0 ht).1 (hc.size h0 ht).2 har
    refine (sd_torn h hT hs (hc.fil h0) ht ht3 hw c1).mono fun e u' ⟨lb, v, P', q1, q2, q3, q4, q5, q6⟩ => ⟨lb, v, P', _, q1, q2, q3, q4, q5, q6, ⟨c3, hc.nm, hc.good, ?_, .inl rfl, hc.each, hc.num⟩, by rw [c2], fun e => by rw [c2, e]; rfl, by rw [c2]; exact Int.le_refl _, fun x hx => ?_⟩
    · rw [c2, old_set, hc.old, List.append_nil]
      exact List.take_left ..
    · rw [c2, old_other _ _ _ _ _ _ hx]; rfl
/-- .. of one whose next write is torn. -/
theorem lgd_fell (h : Sd w u b A P) (hT : Tab w) (hc : Lgd A s m n R U ws t) (h0 : A.off = false) (har : A.ar = 1) (hs : s.size ≤ 64) (hw : A.wr ≤ 4611686018427387904) (ht : t ≠ []) :
    Calls Tryd.prog 11 #[.pointer (some ⟨b, 0, none⟩), .string s] u fun e u' => ∃ P' A' t', e = .returned (.tuple #[.pointer none, .slice none 0 0, .int .i64 94]) ∧ Sd w u' b A' P' ∧ DF u u' P ∧ (∀ k, P' k → P k ∨ u.heap.size ≤ k) ∧ Lgd A' s m n R U ws t' ∧ A'.off = true ∧ A'.wr ≤ A.wr + 1 := by
  have ht3 : unfrE t = 30 := by
    rcases hc.tl with q | q
    · exact absurd q ht
    · exact q.2
  obtain ⟨c1, c2, c3, c4, c5, c6⟩ := hc.live.cutTorn (s := s) (k := flen ws) hc.nm (hc.size h0 ht).1 (hc.size h0 ht).2 har
  refine (sd_fell h hT hs (hc.fil h0) ht ht3 hw (by rw [c1]; decide)).mono fun e u' ⟨P', q1, q2, q3, q4⟩ => ?_
  rw [c1] at q1
  rcases c6 with c6 | c6
  · refine ⟨P', _, [], q1, q2, q3, q4, ⟨c2, hc.nm, hc.good, ?_, .inl rfl, hc.each, hc.num⟩, c3, by rw [c5]; exact Int.le_refl _⟩
    rw [c6, hc.old, List.append_nil]
    exact List.take_left ..
  · exact ⟨P', _, t, q1, q2, q3, q4, ⟨c2, hc.nm, hc.good, by rw [c6, hc.old], hc.tl, hc.each, hc.num⟩, c3, by rw [c5]; exact Int.le_refl _⟩
theorem Lgd.new (R : Nat) (hne : m ≠ n) (hg : goodN m = true) : Lgd (Ab.new R) m m n R 0 [] [] := ⟨Live.new R hne, .inl rfl, hg, rfl, .inl rfl, (fun r hr => by cases hr), by decide⟩
end Go.Proofs.YtpbiofnncdneoaaDoor
