/- Plain facts for WalBegins. -/
import Derived.Test.YtpbiofnncdneoaaDoorWk
namespace Go.Proofs.YtpbiofnncdneoaaDoor
open Go Go.RowKit Go.MapKept Go.MuLone
open Go.RowKit (wrap32 wrap64)

theorem RowS.take {w : World} {F : Nat → Prop} {a : Option Addr} {g off : Nat} {ls : List (List UInt8)} (h : RowS w F a g off ls) (j : Nat) : RowS w F a g off (ls.take j) :=
  ⟨fun h0 => h.at_ (by rw [List.length_take] at h0; omega), fun i hi => by
    have hi' : i < ls.length := by rw [List.length_take] at hi; omega
    obtain ⟨v, h1, h2⟩ := h.each i hi'
    exact ⟨v, h1, by rw [List.getElem_take]; exact h2⟩⟩
/-- The front of a slice, cut off behind. -/
theorem Rd.first {w : World} {F : Nat → Prop} {a : Option Addr} {n c : Nat} {l : List UInt8} (h : Rd w F (.slice a n c) l) (k : Nat) (hk : k ≤ l.length) : Rd w F (.slice a k k) (l.take k) := by
  obtain ⟨a', b, off, c', e, hc, hn, ha, hcell⟩ := h
  injection e with e1 e2 e3
  have hl : (l.take k).length = k := by rw [List.length_take]; omega
  refine ⟨a, b, off, k, by rw [hl], by rw [hl]; exact Nat.le_refl _, (fun h => by have := hn (by rw [← e1]; exact h); omega), fun h0 => ?_, fun i hi => ?_⟩
  · obtain ⟨h1, h2⟩ := ha (by omega)
    exact ⟨by rw [e1]; exact h1, h2⟩
  · have := hcell i (by omega)
    rw [this]
    simp
/-- A beginning of a file of frames. -/
theorem begin_parts (ks : List (List UInt8)) (he : ∀ r ∈ ks, r.length ≤ 16777216) (m k : Nat) (hm : m ≤ ks.length) (h1 : flen (ks.take m) ≤ k) (h2 : m = ks.length ∨ k < flen (ks.take (m + 1))) (hk : k ≤ flen ks) :
    ∃ t, (flat ks).take k = flat (ks.take m) ++ t ∧ TL t := by
  by_cases e : m = ks.length
  · subst e
    rw [List.take_length] at h1 ⊢
    have : k = (flat ks).length := by unfold flen at h1 hk; omega
    subst this
    exact ⟨[], by rw [List.take_length, List.append_nil], .inl rfl⟩
  · have hm' : m < ks.length := by omega
    have h3 : k < flen (ks.take (m + 1)) := h2.resolve_left e
    rw [flen_at hm'] at h3
    have hs := flat_split hm'
    refine ⟨(frameL ks[m]).take (k - flen (ks.take m)), ?_, ?_⟩
    · unfold flen at h1 h3 ⊢
      rw [hs, List.take_append, List.take_of_length_le h1, List.take_append]
      have : k - (flat (ks.take m)).length - (frameL ks[m]).length = 0 := by rw [frameL_length]; omega
      rw [this, List.take_zero, List.append_nil]
    · by_cases h0 : (frameL ks[m]).take (k - flen (ks.take m)) = []
      · exact .inl h0
      · exact .inr ⟨h0, unfr_short _ (he _ (List.getElem_mem _)) _ (by omega)⟩
variable {A : Ab} {s m n : ByteArray} {R U : Nat} {ws : List (List UInt8)} {t : List UInt8} {w u : World} {b lb : Nat} {P : Nat → Prop}
/-- Open of a log whose file is there: what Size tells behind it. -/
theorem lgd_open2 (h : Sd w u b A P) (hT : Tab w) (hc : Lgd A s m n R U ws t) (h0 : A.off = false) (har : A.ar ≠ 1) (hs : s.size ≤ 64) (hw : A.wr ≤ 4611686018427387904) (hsm : (getC A.C s).isSome = true) :
    Calls Tryd.prog 11 #[.pointer (some ⟨b, 0, none⟩), .string s] u fun e u' => ∃ lb v P' A', e = .returned (.tuple #[.pointer (some ⟨lb, 0, none⟩), v, .int .i64 0]) ∧ OutS u.heap.size 0 u' v ws ∧ Sd w u' b A' P' ∧ LgP w u' lb b s (flen ws) false P' ∧ A'.fndE s = 0 ∧ (A'.fndB s).length = flen ws := by
  have key : ∀ A' : Ab, A'.off = false → A'.old s = flat ws → (getC A'.C s).isSome = true → A'.fndE s = 0 ∧ (A'.fndB s).length = flen ws := fun A' q1 q2 q3 => by
    have e : A'.fndE s = 0 := by unfold Ab.fndE; rw [ref_on q1 hc.good, if_pos rfl, if_pos q3]
    refine ⟨e, ?_⟩
    rw [(fnd_on q1 hc.good).1, q2]
    rfl
  by_cases ht : t = []
  · subst ht
    refine (sd_whole h hT hs (hc.fil h0)).mono fun e u' ⟨lb, v, q1, q2, q3, q4, q5⟩ => ?_
    have := key A h0 (by have := hc.old; rw [List.append_nil] at this; exact this) hsm
    exact ⟨lb, v, P, A, q1, q2, q3, q4, this.1, this.2⟩
  · have ht3 : unfrE t = 30 := by
      rcases hc.tl with q | q
      · exact absurd q ht
      · exact q.2
    obtain ⟨c1, c2, c3⟩ := hc.live.cut (s := s) (k := flen ws) h0 hc.nm (hc.size h0 ht).1 (hc.size h0 ht).2 har
    refine (sd_torn h hT hs (hc.fil h0) ht ht3 hw c1).mono fun e u' ⟨lb, v, P', q1, q2, q3, q4, q5, q6⟩ => ?_
    have := key (A.cut s (flen ws : Nat)) (by rw [c2]) (by rw [c2, old_set, hc.old]; exact List.take_left ..) (by rw [c2]; show (getC (setC A.C s _) s).isSome = true; rw [get_set, if_pos rfl]; rfl)
    exact ⟨lb, v, P', _, q1, q2, q3, q4, this.1, this.2⟩
end Go.Proofs.YtpbiofnncdneoaaDoor
