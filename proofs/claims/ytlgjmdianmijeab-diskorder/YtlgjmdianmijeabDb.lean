/- A disk in memory; refusal, has, find, write. -/
import Derived.Test.YtlgjmdianmijeabDa
namespace Go.Proofs.Ytlgjmdianmijeab
open Go Go.RowKit
open Go.RowKit (wrap32 wrap64)

/-- The disk's cells. -/
def dkc (lk room : Int) (m : Nat) (off : Bool) (wr ar kp : Int) : List Value := [.int .i32 lk, .int .u32 0, .int .i64 room, .map (some m), .bool off, .int .i64 wr, .int .i64 ar, .int .i64 kp]
/-- No two files share memory. -/
def ApF (F : List Fl) : Prop := F.Pairwise (fun f g => f.v.ownBlock = none ∨ f.v.ownBlock ≠ g.v.ownBlock)
/-- What a disk has of its own: its block, its map, its files' rows. -/
def Fp (b m : Nat) (F : List Fl) (k : Nat) : Prop := k = b ∨ k = m ∨ ∃ f ∈ F, f.v.ownBlock = some k
/-- A disk at block b. -/
structure Dk (w : World) (B b m : Nat) (lk room : Int) (off : Bool) (wr ar kp : Int) (F : List Fl) : Prop where
  blk : Blk w b (dkc lk room m off wr ar kp) 64
  map : MapAt w m F
  own : ∀ f ∈ F, Out B w f.v f.bs
  apart : ApF F
  low : B ≤ b ∧ B ≤ m
/-- All blocks stay but those of P. -/
structure DF (w w' : World) (P : Nat → Prop) : Prop where
  os : w'.os = w.os
  tape : w'.tape = w.tape
  output : w'.output = w.output
  size : w.heap.size ≤ w'.heap.size
  block : ∀ k, k < w.heap.size → ¬ P k → w'.heap[k]? = w.heap[k]?
theorem DF.of {w w' : World} {P : Nat → Prop} (h : w.grownBy w' none) : DF w w' P := ⟨h.os, h.tape, h.output, h.size, fun k hk _ => h.block k hk (by simp)⟩
theorem DF.one {w w' : World} {P : Nat → Prop} {b : Nat} (h : w.grownBy w' (some b)) (hb : P b) : DF w w' P := ⟨h.os, h.tape, h.output, h.size, fun k hk hp => h.block k hk (fun e => hp (by injection e with e; rw [e]; exact hb))⟩
theorem DF.opt {w w' : World} {P : Nat → Prop} {r : Option Nat} (h : w.grownBy w' r) (hb : ∀ k, r = some k → P k) : DF w w' P := ⟨h.os, h.tape, h.output, h.size, fun k hk hp => h.block k hk (fun e => hp (hb k e.symm))⟩
theorem DF.trans {w w1 w2 : World} {P Q : Nat → Prop} (h : DF w w1 P) (k : DF w1 w2 Q) (hq : ∀ x, x < w.heap.size → Q x → P x) : DF w w2 P :=
  ⟨k.os.trans h.os, k.tape.trans h.tape, k.output.trans h.output, Nat.le_trans h.size k.size, fun x hx hp => (k.block x (Nat.lt_of_lt_of_le hx h.size) (fun q => hp (hq x hx q))).trans (h.block x hx hp)⟩
theorem DF.grown {w w' : World} {P : Nat → Prop} (h : DF w w' P) (hp : ∀ x, P x → w.heap.size ≤ x) : w.grownBy w' none := ⟨h.os, h.tape, h.output, h.size, fun k hk _ => h.block k hk (fun q => by have := hp k q; omega)⟩
theorem Blk.df {w w' : World} {P : Nat → Prop} {b : Nat} {cs : List Value} {t : TypeId} (h : Blk w b cs t) (hd : DF w w' P) (hp : ¬ P b) : Blk w' b cs t := (hd.block b h.lt hp).trans h
theorem Out.df {w w' : World} {P : Nat → Prop} {B : Nat} {v : Value} {l : List UInt8} (h : Out B w v l) (hd : DF w w' P) (hp : ∀ k, v.ownBlock = some k → ¬ P k) : Out B w' v l := by
  refine ⟨h.1, ?_⟩
  rcases h.2 with h1 | ⟨g, cap, cur, hv, hB, hg, hle, hm, hs, ht⟩
  · exact .inl h1
  · refine .inr ⟨g, cap, cur, hv, hB, ?_, hle, hm, hs, ht⟩
    rw [hd.block g (Array.getElem?_eq_some_iff.1 hg).1 (hp g (by rw [hv]; rfl))]
    exact hg
theorem MapAt.df {w w' : World} {P : Nat → Prop} {m : Nat} {F : List Fl} (h : MapAt w m F) (hd : DF w w' P) (hp : ¬ P m) : MapAt w' m F := by
  obtain ⟨es, clock, hb, hst, hF⟩ := h
  exact ⟨es, clock, (hd.block m (Array.getElem?_eq_some_iff.1 hb).1 hp).trans hb, hst, hF⟩
theorem Rd.df {w w' : World} {P F : Nat → Prop} {v : Value} {l : List UInt8} (h : Rd w F v l) (hd : DF w w' P) (hp : ∀ k, F k → ¬ P k) : Rd w' F v l := by
  obtain ⟨a, b, off, c, hv, hc, hn, ha, hcell⟩ := h
  refine ⟨a, b, off, c, hv, hc, hn, fun hl => ⟨(ha hl).1, Nat.lt_of_lt_of_le (ha hl).2.1 hd.size, (ha hl).2.2⟩, fun i hi => ?_⟩
  rw [← hcell i hi]
  have := hd.block b (ha (by omega)).2.1 (hp b (ha (by omega)).2.2)
  simp only [World.cell?, this]
variable {w w' : World} {B b m : Nat} {lk room : Int} {off : Bool} {wr ar kp : Int} {F : List Fl}
theorem Dk.keep (h : Dk w B b m lk room off wr ar kp F) (hg : w.grownBy w' none) : Dk w' B b m lk room off wr ar kp F :=
  ⟨h.blk.keep hg, h.map.keep hg, fun f hf => (h.own f hf).keep hg, h.apart, h.low⟩
theorem Dk.df {P : Nat → Prop} (h : Dk w B b m lk room off wr ar kp F) (hd : DF w w' P) (hp : ∀ k, Fp b m F k → ¬ P k) : Dk w' B b m lk room off wr ar kp F :=
  ⟨Blk.df h.blk hd (hp b (.inl rfl)), MapAt.df h.map hd (hp m (.inr (.inl rfl))), fun f hf => Out.df (h.own f hf) hd (fun k hk => hp k (.inr (.inr ⟨f, hf, hk⟩))), h.apart, h.low⟩
/-- The disk's own block is written. -/
theorem Dk.blk' {lk' room' : Int} {off' : Bool} {wr' ar' kp' : Int} (h : Dk w B b m lk room off wr ar kp F) (hg : w.grownBy w' (some b)) (hb : Blk w' b (dkc lk' room' m off' wr' ar' kp') 64) : Dk w' B b m lk' room' off' wr' ar' kp' F :=
  ⟨hb, h.map.on hg (fun e => by injection e with e; exact h.map.ne h.blk e.symm), fun f hf => (h.own f hf).on hg (fun k hk e => by
    injection hk with hk
    subst hk
    rcases (h.own f hf).2 with ⟨h1, _⟩ | ⟨g, cap, cur, hv, hB, hgg, _⟩
    · rw [h1] at e; cases e
    · rw [hv] at e
      injection e with e
      have e' : g = b := e
      subst e'
      have h9 := h.blk
      unfold Blk at h9
      rw [hgg] at h9
      injection h9 with h9
      injection h9 with _ h9
      cases h9), h.apart, h.low⟩
theorem Dk.lt (h : Dk w B b m lk room off wr ar kp F) {k : Nat} (hk : Fp b m F k) : B ≤ k ∧ k < w.heap.size := by
  rcases hk with rfl | rfl | ⟨f, hf, hk⟩
  · exact ⟨h.low.1, h.blk.lt⟩
  · exact ⟨h.low.2, h.map.lt⟩
  · exact ⟨(h.own f hf).block k hk, ((h.own f hf).lt k hk).2⟩
theorem Dk.c (h : Dk w B b m lk room off wr ar kp F) : w.cell? ⟨b, 0, none⟩ = some (.int .i32 lk) ∧ w.cell? ⟨b, 2, none⟩ = some (.int .i64 room) ∧ w.cell? ⟨b, 3, none⟩ = some (.map (some m)) ∧ w.cell? ⟨b, 4, none⟩ = some (.bool off) ∧ w.cell? ⟨b, 5, none⟩ = some (.int .i64 wr) ∧ w.cell? ⟨b, 6, none⟩ = some (.int .i64 ar) ∧ w.cell? ⟨b, 7, none⟩ = some (.int .i64 kp) :=
  ⟨h.blk.cell 0, h.blk.cell 2, h.blk.cell 3, h.blk.cell 4, h.blk.cell 5, h.blk.cell 6, h.blk.cell 7⟩
set_option maxRecDepth 100000 in
theorem has_any (h : Dk w B b m lk room off wr ar kp F) (s : ByteArray) : Calls Try.prog 24 #[.pointer (some ⟨b, 0, none⟩), .string s] w fun e w' => e = .returned (.bool (hasF F s)) ∧ w' = w := by
  have y3 := h.c.2.2.1
  have hl := run_look2 h.map s
  obtain ⟨V, hV⟩ : ∃ x, lookV F s = x := ⟨_, rfl⟩
  obtain ⟨H, hH⟩ : ∃ x, hasF F s = x := ⟨_, rfl⟩
  rw [hV, hH] at hl
  rw [hH]
  clear hV hH h
  go_enter Try.func24, Try.ntmps24
  go_wp2
  go_ret
  exact ⟨rfl, rfl⟩
/-- Why a call is refused ahead of a look at the files. -/
def refE (off : Bool) (s : ByteArray) : Int := if off then 94 else if goodN s then 0 else 91
set_option maxRecDepth 100000 in
theorem refusal_any (h : Dk w B b m lk room off wr ar kp F) (s : ByteArray) : Calls Try.prog 35 #[.pointer (some ⟨b, 0, none⟩), .string s] w fun e w' => e = .returned (.int .i64 (refE off s)) ∧ w.grownBy w' none := by
  have y4 := h.c.2.2.2.1
  have HG : Hid (Calls Try.prog 23 #[.string s] w fun e w' => e = .returned (.bool (goodN s)) ∧ w.grownBy w' none) := goodName_any s w
  obtain ⟨H, hH⟩ : ∃ x, goodN s = x := ⟨_, rfl⟩
  unfold refE
  rw [hH] at HG ⊢
  clear hH h
  cases off with
  | true =>
    go_enter Try.func35, Try.ntmps35
    go_wp2_with fail
    go_ret
    exact ⟨rfl, grefl _ _⟩
  | false =>
    cases H with
    | true =>
      go_enter Try.func35, Try.ntmps35
      go_wp2_with (go_at_call 23; refine HG.out.mono ?_; rintro e w' ⟨rfl, hg⟩)
      go_ret
      exact ⟨rfl, hg⟩
    | false =>
      go_enter Try.func35, Try.ntmps35
      go_wp2_with (go_at_call 23; refine HG.out.mono ?_; rintro e w' ⟨rfl, hg⟩)
      go_ret
      exact ⟨rfl, hg⟩
/-- .. and where a file is wanted. -/
def findE (off : Bool) (F : List Fl) (s : ByteArray) : Int := if refE off s = 0 then (if hasF F s then 0 else 92) else refE off s
def findV (off : Bool) (F : List Fl) (s : ByteArray) : Value := if findE off F s = 0 then lookV F s else .slice none 0 0
theorem refE_or (off : Bool) (s : ByteArray) : refE off s = 0 ∨ refE off s = 91 ∨ refE off s = 94 := by
  unfold refE
  cases off <;> cases goodN s <;> simp
set_option maxRecDepth 100000 in
theorem find_any (h : Dk w B b m lk room off wr ar kp F) (s : ByteArray) : Calls Try.prog 33 #[.pointer (some ⟨b, 0, none⟩), .string s] w fun e w' => e = .returned (.tuple #[findV off F s, .int .i64 (findE off F s)]) ∧ w.grownBy w' none := by
  have HR : Hid (Calls Try.prog 35 #[.pointer (some ⟨b, 0, none⟩), .string s] w fun e w' => e = .returned (.int .i64 (refE off s)) ∧ w.grownBy w' none) := refusal_any h s
  have HH : Hid (∀ u, w.grownBy u none → Calls Try.prog 24 #[.pointer (some ⟨b, 0, none⟩), .string s] u fun e w' => e = .returned (.bool (hasF F s)) ∧ w' = u) := fun u hu => has_any (h.keep hu) s
  have HL : Hid (∀ u, w.grownBy u none → (Instr.lookup 62 (.map (some m)) (.string s) false).run Try.prog u = .ok (lookV F s) u) := hid (fun u hu => run_look1 (h.keep hu).map s)
  have HY : Hid (∀ u, w.grownBy u none → u.cell? ⟨b, 3, none⟩ = some (.map (some m))) := hid (fun u hu => (h.keep hu).c.2.2.1)
  have hor := refE_or off s
  unfold findV findE
  obtain ⟨E, hE⟩ : ∃ x, refE off s = x := ⟨_, rfl⟩
  obtain ⟨H, hH⟩ : ∃ x, hasF F s = x := ⟨_, rfl⟩
  obtain ⟨V, hV⟩ : ∃ x, lookV F s = x := ⟨_, rfl⟩
  rw [hE] at HR hor ⊢
  rw [hH] at HH ⊢
  rw [hV] at HL ⊢
  clear hE hH hV h
  by_cases e0 : E = 0
  · subst e0
    clear hor
    cases H with
    | true =>
      go_enter Try.func33, Try.ntmps33
      go_wp2_with (first
        | (go_at_call 35; refine HR.out.mono ?_; rintro e w2 ⟨rfl, hg⟩; have HG := hid hg; have hl := HL.out _ hg; have hy := HY.out _ hg; clear hg)
        | (go_at_call 24; refine (HH.out _ HG.out).mono ?_; rintro e w3 ⟨rfl, rfl⟩))
      refine bodyPost_ret (results_tmp2 rfl _ _ _) rfl ?_
      exact ⟨rfl, HG.out⟩
    | false =>
      go_enter Try.func33, Try.ntmps33
      go_wp2_with (first
        | (go_at_call 35; refine HR.out.mono ?_; rintro e w2 ⟨rfl, hg⟩; have HG := hid hg; clear hg)
        | (go_at_call 24; refine (HH.out _ HG.out).mono ?_; rintro e w3 ⟨rfl, rfl⟩))
      refine bodyPost_ret (results_tmp2 rfl _ _ _) rfl ?_
      exact ⟨rfl, HG.out⟩
  · have e1 : (E == 0) = false := beq_eq_false_iff_ne.2 e0
    have HE : Hid ((if E = 0 then (if H = true then (0 : Int) else 92) else E) = E) := hid (if_neg e0)
    have HF : Hid ((if E = 0 then V else Value.slice none 0 0) = Value.slice none 0 0) := hid (if_neg e0)
    rw [HE.out, HF.out]
    clear hor HE HF
    go_enter Try.func33, Try.ntmps33
    go_wp2_with (go_at_call 35; refine HR.out.mono ?_; rintro e w2 ⟨rfl, hg⟩; have HG := hid hg; clear hg)
    refine bodyPost_ret (results_tmp2 rfl _ _ _) rfl ?_
    exact ⟨rfl, HG.out⟩
theorem dkc_set {lk room : Int} {m : Nat} {off : Bool} {wr ar kp : Int} : (∀ x : Int, (dkc lk room m off wr ar kp).set 0 (.int .i32 x) = dkc x room m off wr ar kp) ∧ (∀ x : Bool, (dkc lk room m off wr ar kp).set 4 (.bool x) = dkc lk room m x wr ar kp) ∧ (∀ x : Int, (dkc lk room m off wr ar kp).set 5 (.int .i64 x) = dkc lk room m off x ar kp) ∧ (∀ x : Int, (dkc lk room m off wr ar kp).set 6 (.int .i64 x) = dkc lk room m off wr x kp) ∧ (∀ x : Int, (dkc lk room m off wr ar kp).set 7 (.int .i64 x) = dkc lk room m off wr ar x) :=
  ⟨fun _ => rfl, fun _ => rfl, fun _ => rfl, fun _ => rfl, fun _ => rfl⟩
end Go.Proofs.Ytlgjmdianmijeab
