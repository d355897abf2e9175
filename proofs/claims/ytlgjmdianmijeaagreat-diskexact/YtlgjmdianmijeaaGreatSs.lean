/- What one call leaves of the stage: read, names, files, fresh, load. -/
import Derived.Test.YtlgjmdianmijeaaGreatX26
namespace Go.Proofs.YtlgjmdianmijeaaGreat
open Go Go.RowKit Go.MapKept Go.MuLone
open Go.RowKit (wrap32 wrap64)

variable {w u u' : World} {col col' : Nat → Nat} {b c : Nat → Nat} {A D : Nat → Ab} {A' D' : Ab} {sb bk sk ob : Nat} {tn sp : Int} {oc : List Value}
theorem ArF.mono {w : World} {F G : Nat → Prop} {a : Option Addr} {g off : Nat} {L : Cn} (h : ArF w F a g off L) (hf : ∀ k, F k → G k) : ArF w G a g off L := by
  refine ⟨fun h0 => ⟨(h.at_ h0).1, (h.at_ h0).2.1, hf _ (h.at_ h0).2.2⟩, fun i hi => ?_⟩
  obtain ⟨h1, v, h2, h3⟩ := h.each i hi
  obtain ⟨q1, q2, q3, q4, q5, q6, q7, q8, q9⟩ := h3
  exact ⟨h1, v, h2, q1, q2, q3, q4, q5, q6, q7, fun h0 => ⟨(q8 h0).1, (q8 h0).2.1, hf _ (q8 h0).2.2⟩, q9⟩
/-- What a call of the play leaves. -/
def PEnd (w : World) (sb bk sk : Nat) (tn sp M : Int) (u : World) : Prop := ∃ col b c A tn', Stg w u col sb bk sk b c A (fun j => (A j).sr) tn' sp ∧ (tn' = tn ∨ tn' = tn + 1) ∧ ∀ k, k < 2 → (A k).wr ≤ M + 1
theorem stc_d {b c : Nat → Nat} {m : Bool} {k : Nat} (hk : k < 2) : (stc (b 0) (b 1) (c 0) (c 1) bk sk m tn sp)[k]? = some (.pointer (some ⟨b k, 0, none⟩)) := by
  rcases (show k = 0 ∨ k = 1 by omega) with rfl | rfl <;> rfl
theorem stc_w {b c : Nat → Nat} {m : Bool} {k : Nat} (hk : k < 2) : (stc (b 0) (b 1) (c 0) (c 1) bk sk m tn sp)[2 + k]? = some (.pointer (some ⟨c k, 0, none⟩)) := by
  rcases (show k = 0 ∨ k = 1 by omega) with rfl | rfl <;> rfl
theorem stc_up {b c : Nat → Nat} {m : Bool} {k d q : Nat} (hk : k < 2) : updS k (stc (b 0) (b 1) (c 0) (c 1) bk sk m tn sp) d q = stc (up b k d 0) (up b k d 1) (up c k q 0) (up c k q 1) bk sk m tn sp := by
  rcases (show k = 0 ∨ k = 1 by omega) with rfl | rfl <;> rfl
theorem and_one (x : Int) : ∃ k : Nat, k < 2 ∧ bits .and .i64 x 1 = (k : Int) := by
  have h : (BitVec.ofInt 64 x &&& BitVec.ofInt 64 1).toNat < 2 := by
    rw [BitVec.toNat_and, show (BitVec.ofInt 64 1).toNat = 1 by decide, Nat.and_one_is_mod]
    omega
  refine ⟨_, h, ?_⟩
  show IntKind.i64.wrap ((BitVec.ofInt 64 x &&& BitVec.ofInt 64 1).toNat : Int) = _
  obtain ⟨r, hr⟩ : ∃ r, (BitVec.ofInt 64 x &&& BitVec.ofInt 64 1).toNat = r := ⟨_, rfl⟩
  rw [hr] at h ⊢
  rcases (show r = 0 ∨ r = 1 by omega) with rfl | rfl <;> rfl
theorem Stg.pend (h : Stg w u col sb bk sk b c A (fun j => (A j).sr) tn sp) {M : Int} (hM : ∀ k, k < 2 → (A k).wr ≤ M) (hg : u.grownBy u' none) : PEnd w sb bk sk tn sp M u' :=
  ⟨_, b, c, A, tn, h.keep hg, .inl rfl, fun k hk => by have := hM k hk; omega⟩
theorem x_read (h : Stg w u col sb bk sk b c A (fun j => (A j).sr) tn sp) {k : Nat} (hk : k < 2) (s : ByteArray) (hs : s.size ≤ 140737488355328) : Calls Tryz.prog 31 #[.pointer (some ⟨sb, 0, none⟩), .int .i64 (k : Nat), .string s] u fun e w' => e = .returned (.bool true) ∧ u.grownBy w' none := by
  have hx := (h.d.x k hk).dk
  have hy := h.d.y k hk
  have hnd := hx.nd
  obtain ⟨e1, e2, -, -⟩ := used_sr hnd s
  refine read_law h.s.blk hk (stc_d hk) (stc_w hk) rfl s (A := A k) (hid fun v hv => read_p (hx.keep hv) s) (hid fun v hv => ?_) (hid fun v hv => size_p (hx.keep hv) s) (hid fun v hv => ?_)
  · have := sr_read (hy.keep hv) s hs
    rw [e1, e2] at this
    exact this.mono fun e w' ⟨a, c', q1, q2, q3⟩ => ⟨_, q1, q2, q3⟩
  · have := sr_size (hy.keep hv) s hs
    rw [e1, e2] at this
    exact this
theorem nmT_len (A : Ab) (h : A.ok) : A.nmT.length ≤ 1000000 := by
  unfold Ab.nmT
  split
  · simp
  · rw [List.length_map, srtC_len]
    have := h.len
    omega
theorem x_names (h : Stg w u col sb bk sk b c A (fun j => (A j).sr) tn sp) {k : Nat} (hk : k < 2) : Calls Tryz.prog 32 #[.pointer (some ⟨sb, 0, none⟩), .int .i64 (k : Nat)] u fun e w' => e = .returned (.bool true) ∧ u.grownBy w' none := by
  have hx := (h.d.x k hk).dk
  have hy := h.d.y k hk
  exact names_law h.s.blk hk (stc_d hk) (stc_w hk) rfl (A k).nmE (A k).nmT (nmT_len _ hx.1) (hid fun v hv => names_p (hx.keep hv)) (hid fun v hv => sr_names (hy.keep hv))
theorem x_files (h : Stg w u col sb bk sk b c A (fun j => (A j).sr) tn sp) {k : Nat} (hk : k < 2) : Calls Tryz.prog 10 #[.pointer (some ⟨sb, 0, none⟩), .int .i64 (k : Nat)] u fun e w' => e = .returned (.bool true) ∧ u.grownBy w' none := by
  have hx := (h.d.x k hk).dk
  have hy := h.d.y k hk
  have hok := hx.1
  have hnd := hx.nd
  have hl : ∀ p ∈ srtC (A k).C, p.2.length ≤ 140737488355328 := fun p hp => by
    have h1 := get_mem (srt_nd hnd) hp
    have h2 := get_used (srtC (A k).C) p.1
    rw [h1, used_srt hnd] at h2
    have h3 := hok.used
    have h4 := hok.room
    simp only [Option.getD_some] at h2
    omega
  refine files_law h.s.blk hk (stc_d hk) (stc_w hk) rfl (srtC (A k).C) (srtC (A k).C).length (A k).off (A k).wr (A k).room (hid fun v hv => ?_) (hid fun v hv => ?_) (hid fun v a a' g g' c1 c2 q1 q2 => eqFiles_same v _ _ a a' g 0 c1 g' 0 c2 _ q1 q2 (by rw [srtC_len]; have := hok.len; omega) hl) (hid fun v hv => off_p (hx.keep hv)) (hid fun v hv => writes_p (hx.keep hv)) (hid fun v hv => room_p (hx.keep hv)) (hid fun v hv => ?_)
  · exact (files_p (hx.keep hv)).mono fun e w' ⟨⟨a, g, c', q1, q2⟩, q3⟩ => ⟨a, g, c', q1, q2.mono (fun _ _ => trivial), q3⟩
  · exact (sr_files (hy.keep hv)).mono fun e w' ⟨⟨a, g, c', q1, q2⟩, q3⟩ => ⟨a, g, c', q1, q2.mono (fun _ _ => trivial), q3⟩
  · obtain ⟨sv, E, q, _⟩ := (hy.keep hv).dk
    exact ⟨q.blk.cell 0, q.blk.cell 4, q.blk.cell 5⟩
theorem x_new (h : Stg w u col sb bk sk b c A (fun j => (A j).sr) tn sp) {k m d q : Nat} {A1 : Ab} {M : Int} (hk : k < 2) (hM : ∀ k, k < 2 → (A k).wr ≤ M) (hw : A1.wr ≤ M) (h1 : u.heap.size ≤ m) (h2 : m ≤ u'.heap.size) (hd : DkP u' u.heap.size d A1 (fun j => u.heap.size ≤ j ∧ j < m))
    (hr : ∃ sv E, Rk u' m q A1.sr sv E ∧ ∀ j, Rfp q sv E j → m ≤ j ∧ j < u'.heap.size) (hb : Blk u' sb (updS k (stc (b 0) (b 1) (c 0) (c 1) bk sk false tn sp) d q) 78) (hg : u.grownBy u' (some sb)) : PEnd w sb bk sk tn sp M u' := by
  have hc : ∀ x, x < u.heap.size → dye2 u col m (1 + k) (3 + k) x = col x := fun x hx => by unfold dye2; rw [if_pos hx]
  refine ⟨dye2 u col m (1 + k) (3 + k), up b k d, up c k q, up A k A1, tn, ⟨?_, ⟨?_, co_same h.s.co hg.size hc⟩, ⟨?_, co_same h.k.co hg.size hc⟩⟩, .inl rfl, fun j hj => ?_⟩
  · rw [up_map Ab.sr A k A1]
    refine h.d.renew hk h.s.co h1 h2 hd hr hg hc (fun x q1 q2 => ?_) (fun x q1 q2 => ?_)
    · unfold dye2
      rw [if_neg (by omega), if_pos q2]
    · unfold dye2
      rw [if_neg (by omega), if_neg (by omega)]
  · rw [← stc_up hk]
    exact hb
  · exact h.k.blk.df (DF.one hg h.s.co) (co_ne (by decide) _ h.k.co)
  · by_cases e : j = k
    · rw [e, up_at]
      omega
    · rw [up_ne e]
      have := hM j hj
      omega
theorem sr_new_self (room : Int) : (Ab.new room).sr = Ab.new room := by
  show (⟨room, false, 0, 0, 0, srtC []⟩ : Ab) = ⟨room, false, 0, 0, 0, []⟩
  rw [show srtC [] = ([] : Cn) from srt_self List.Pairwise.nil]
theorem x_fresh (h : Stg w u col sb bk sk b c A (fun j => (A j).sr) tn sp) {k : Nat} {M : Int} (hk : k < 2) (hM : ∀ k, k < 2 → (A k).wr ≤ M) (hM0 : 0 ≤ M) (room : Int) : Calls Tryz.prog 7 #[.pointer (some ⟨sb, 0, none⟩), .int .i64 (k : Nat), .int .i64 room] u fun e u' => e = .returned (.bool true) ∧ PEnd w sb bk sk tn sp M u' := by
  by_cases hr : room < 1 ∨ 268435456 < room
  · exact (fresh_no u room hr).mono fun e u' ⟨q1, q2⟩ => ⟨q1, h.pend hM q2⟩
  · refine (fresh_ok u room h.s.blk rfl hk (by omega) (by omega)).mono fun e u' ⟨q1, d, c', m, q2, q3, q4, q5, q6, q7⟩ => ⟨q1, x_new h hk hM hM0 q2 q3 q4 ?_ q6 q7⟩
    rw [sr_new_self]
    exact q5
theorem x_load (h : Stg w u col sb bk sk b c A (fun j => (A j).sr) tn sp) {k : Nat} {M : Int} (hk : k < 2) (hM : ∀ k, k < 2 → (A k).wr ≤ M) (hM0 : 0 ≤ M) (room : Int) (F : Nat → Prop) (a : Option Addr) (g off c' : Nat) (L : Cn) (hA : ArF u F a g off L) (hL : L.length ≤ 100000) (hb : ∀ p ∈ L, p.2.length ≤ 1000000000) (hs : ∀ p ∈ L, p.1.size ≤ 140737488355328) :
    Calls Tryz.prog 35 #[.pointer (some ⟨sb, 0, none⟩), .int .i64 (k : Nat), .slice a L.length c', .int .i64 room] u fun e u' => e = .returned (.bool true) ∧ PEnd w sb bk sk tn sp M u' := by
  have hb' : ∀ p ∈ L, p.2.length ≤ 140737488355328 := fun p hp => by have := hb p hp; omega
  by_cases hr : room < 1 ∨ 268435456 < room
  · exact (load_refused u F a g off c' L 90 room hA hL hb (hid fun v x b0 c0 Fx _ => (load_no v x _ c0 room hr).mono fun e w' ⟨q1, q2⟩ => ⟨q1, by rw [q2]; exact grefl _ _⟩) (hid fun v _ => (rload_no v a _ c' room hr).mono fun e w' ⟨q1, q2⟩ => ⟨q1, by rw [q2]; exact grefl _ _⟩)).mono fun e u' ⟨q1, q2⟩ => ⟨q1, h.pend hM q2⟩
  · have hr1 : 1 ≤ room := by omega
    have hr2 : room ≤ 268435456 := by omega
    cases hl : loadC room [] L with
    | none =>
      refine (load_refused u F a g off c' L 96 room hA hL hb (hid fun v x b0 c0 Fx hv => ?_) (hid fun v hv => ?_)).mono fun e u' ⟨q1, q2⟩ => ⟨q1, h.pend hM q2⟩
      · refine (load_any v Fx x b0 0 c0 L room hv (by omega) hb' ⟨hr1, hr2⟩).mono fun e w' ⟨q1, q2⟩ => ?_
        rcases q2 with ⟨_, q3⟩ | ⟨C, _, q3, _⟩
        · exact ⟨q3, q1⟩
        · rw [hl] at q3; cases q3
      · refine (rload_any v F a g off c' L room hv hb' hs (by omega) hr1 hr2).mono fun e w' ⟨q1, q2⟩ => ?_
        rcases q2 with ⟨_, q3⟩ | ⟨_, _, q3, _⟩
        · exact ⟨q3, q1⟩
        · rw [hl] at q3; cases q3
    | some C =>
      obtain ⟨hC, hnd⟩ := load_inv L [] C List.nodup_nil hl
      rw [List.nil_append] at hC
      subst hC
      refine (load_taken (A := ⟨room, false, 0, 0, 0, C⟩) (D := ⟨room, false, 0, 0, 0, srtC C⟩) u F a g off c' C room h.s.blk rfl hk hA hL hb (hid fun v x b0 c0 Fx hv => ?_) (hid fun v hv => ?_)).mono fun e u' ⟨q1, d, c', m, q2, q3, q4, q5, q6, q7⟩ => ⟨q1, x_new h hk hM hM0 q2 q3 q4 q5 q6 q7⟩
      · refine (load_any v Fx x b0 0 c0 C room hv (by omega) hb' ⟨hr1, hr2⟩).mono fun e w' ⟨q1, q2⟩ => ?_
        rcases q2 with ⟨q3, _⟩ | ⟨C', d, q3, q4, q5⟩
        · rw [hl] at q3; cases q3
        · rw [hl] at q3
          injection q3 with q3
          subst q3
          exact ⟨d, q4, q5, q1⟩
      · refine (rload_any v F a g off c' C room hv hb' hs (by omega) hr1 hr2).mono fun e w' ⟨q1, q2⟩ => ?_
        rcases q2 with ⟨q3, _⟩ | ⟨d, q3, _, q5⟩
        · rw [hl] at q3; cases q3
        · exact ⟨d, q3, q5, q1⟩
end Go.Proofs.YtlgjmdianmijeaaGreat
