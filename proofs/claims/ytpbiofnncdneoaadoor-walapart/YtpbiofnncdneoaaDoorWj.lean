/- A disk, its log and a row of slices beside one another. -/
import Derived.Test.YtpbiofnncdneoaaDoorWi
namespace Go.Proofs.YtpbiofnncdneoaaDoor
open Go Go.RowKit Go.MapKept Go.MuLone
open Go.RowKit (wrap32 wrap64)

variable {C : Nat} {w u u' : World} {v v' : Value} {ls ws : List (List UInt8)} {b lb : Nat} {A : Ab} {P : Nat → Prop} {s : ByteArray} {z : Nat} {off : Bool}
theorem OutW.ne_lg (h : OutW C u v ls) (hl : Lg u lb b s z off) : v.ownBlock ≠ some lb := fun e => by
  obtain ⟨vs, h1, -⟩ := h.ex
  rcases h1.2 with ⟨e1, e2⟩ | ⟨g, cap, cur, e1, hB, hg, _⟩
  · rw [e1] at e; cases e
  · rw [e1] at e
    injection e with e
    have e' : g = lb := e
    subst e'
    unfold Lg Blk at hl
    rw [hg] at hl
    injection hl with hl
    injection hl with _ hl
    exact absurd hl (by decide)
theorem Sd.row {r : Option Nat} (h : Sd w u b A P) (hg : u.grownBy u' r) (hr : ∀ k, r = some k → ¬ P k ∧ w.heap.size ≤ k) : Sd w u' b A P := by
  have hd : DF u u' (fun k => r = some k) := DF.opt hg (fun k hk => hk)
  exact h.step (h.dk.df hd (fun k _ hk e => (hr k e).1 hk)) (fun k hk => Nat.lt_of_lt_of_le (h.lt k hk) hg.size) (fun k hk => .inl hk) hd (fun k hk => (hr k hk).2)
theorem LgP.row {r : Option Nat} (h : LgP w u lb b s z off P) (hg : u.grownBy u' r) (hr : r ≠ some lb) : LgP w u' lb b s z off P := ⟨Blk.on h.lg hg hr, h.ap, h.ge⟩
/-- Append of a record to the log. -/
theorem ts_app (h : Sd w u b A P) (hl : LgP w u lb b s z false P) (ho : OutW w.heap.size u v ws) (hap : ∀ k, v.ownBlock = some k → ¬ P k) (hT : Tab w) (hw : A.wr ≤ 4611686018427387904) (hz : z ≤ 1099511627776) (F : Nat → Prop) (x : Value) (l : List UInt8) (hr : Rd u F x l) (hln : l.length ≤ 16777216) :
    Calls Tryd.prog 15 #[.pointer (some ⟨lb, 0, none⟩), x] u fun e u' => ∃ P', e = .returned (.int .i64 (A.appE s (frameL l))) ∧ Sd w u' b (A.app s (frameL l)) P' ∧ LgP w u' lb b s (lgZ A s z l) (decide (A.appE s (frameL l) ≠ 0)) P' ∧ OutW w.heap.size u' v ws ∧ (∀ k, v.ownBlock = some k → ¬ P' k) :=
  (sd_app h hl hT hw hz F x l hr hln).mono fun e u' ⟨P', q1, q2, q3, q4, q5⟩ => ⟨P', q1, q2, q3, ho.df q4 (fun k hk hq => hq.elim (hap k hk) (fun e => ho.ne_lg hl.lg (by rw [hk, e]))) (fun k hk hq => hq.elim (fun q => by have := h.ge k q; omega) (fun e => by have := hl.ge; omega)), fun k hk hq => (q5 k hq).elim (hap k hk) (fun q => by have := ho.lt k hk; omega)⟩
/-- The row is appended to. -/
theorem ts_row {x : Obj} (h : Sd w u b A P) (ho : OutW w.heap.size u v ws) (hap : ∀ k, v.ownBlock = some k → ¬ P k) (hg : (u.alloc x).grownBy u' v.ownBlock) (hb : v'.ownBlock = v.ownBlock ∨ v'.ownBlock = some (u.alloc x).heap.size) :
    Sd w u' b A P ∧ (∀ k, v'.ownBlock = some k → ¬ P k) ∧ ∀ {lb s z off}, LgP w u lb b s z off P → LgP w u' lb b s z off P := by
  have h1 := h.keep (galloc u x none)
  refine ⟨h1.row hg (fun k hk => ⟨hap k hk, ho.low k hk⟩), fun k hk hp => ?_, fun hl => (hl.keep (galloc u x none)).row hg (ho.ne_lg hl.lg)⟩
  rcases hb with hb | hb
  · exact hap k (by rw [← hb]; exact hk) hp
  · rw [hb] at hk
    injection hk with hk
    have := h1.lt k hp
    omega
end Go.Proofs.YtpbiofnncdneoaaDoor
