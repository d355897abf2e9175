/- Two readers of each kind: what is kept. -/
import Derived.Test.YtfalgjdhdgkbfaaGreatDoorTk
import Derived.Test.YtfalgjdhdgkbfaaGreatDoorFxF
import Derived.Laws.Bits128
namespace Go.Proofs.YtfalgjdhdgkbfaaGreatDoor.Bk
open Go Go.RowKit
open Go.RowKit (wrap32 wrap64)

theorem i64_and1 (n : Int) : bits .and .i64 n 1 = n % 2 := by
  have h3 : (BitVec.ofInt 64 1).toNat = 2 ^ 1 - 1 := by decide
  have key : (BitVec.ofInt 64 n &&& BitVec.ofInt 64 1).toNat = (n % ((2 ^ 64 : Nat) : Int)).toNat % 2 ^ 1 := by
    rw [BitVec.toNat_and, BitVec.toNat_ofInt, h3, Nat.and_two_pow_sub_one_eq_mod]
  show IntKind.i64.wrap ((BitVec.ofInt 64 n &&& BitVec.ofInt 64 1).toNat : Nat) = n % 2
  rw [key, IntKind.wrap_i64]
  omega
theorem KB.cell {w w' : World} {B b d : Nat} (h : KB w w' B b d) {p o : Nat} (hp : p < B) (h1 : p ≠ b) (h2 : p ≠ d) : w'.cell? ⟨p, o, none⟩ = w.cell? ⟨p, o, none⟩ := by
  simp only [World.cell?, h.block p hp h1 h2]
theorem KB.range {w w' : World} {B b d : Nat} (h : KB w w' B b d) {p o : Nat} {cs : List Value} (hp : p < B) (h1 : p ≠ b) (h2 : p ≠ d) (hr : w.rangeAt p o cs) : w'.rangeAt p o cs := fun j v hv => by
  rw [h.cell hp h1 h2]; exact hr j v hv
theorem KB.blk {w w' : World} {B b d p : Nat} {cs : List Value} {t : TypeId} (h : KB w w' B b d) (hp : p < B) (h1 : p ≠ b) (h2 : p ≠ d) (hb : Blk w p cs t) : Blk w' p cs t := (h.block p hp h1 h2).trans hb
theorem KB.below {w w' : World} {B b d N : Nat} (h : KB w w' B b d) (hN : N ≤ B) (h1 : N ≤ b) (h2 : N ≤ d) : Below N w w' := ⟨h.os, h.tape, h.output, h.size, fun k hk => h.block k (by omega) (by omega) (by omega)⟩
theorem KB.mono {w w' : World} {B B' b d : Nat} (h : KB w w' B b d) (hB : B' ≤ B) : KB w w' B' b d := ⟨h.os, h.tape, h.output, h.size, fun k h1 h2 h3 => h.block k (by omega) h2 h3⟩
theorem Rd.kb {w w' : World} {B b d : Nat} {F : Nat → Prop} {v : Value} {l : List UInt8} (h : Go.Proofs.YtfalgjdhdgkbfaaGreatDoor.Rd w F v l) (k : KB w w' B b d) (hF : ∀ k, F k → k < B ∧ k ≠ b ∧ k ≠ d) : Go.Proofs.YtfalgjdhdgkbfaaGreatDoor.Rd w' F v l := by
  obtain ⟨a, b', off, c, hv, hc, hn, ha, hcell⟩ := h
  refine ⟨a, b', off, c, hv, hc, hn, fun hl => ⟨(ha hl).1, Nat.lt_of_lt_of_le (ha hl).2.1 k.size, (ha hl).2.2⟩, fun i hi => ?_⟩
  have hFb := hF b' (ha (by omega)).2.2
  rw [k.cell hFb.1 hFb.2.1 hFb.2.2]
  exact hcell i hi
/-- Readers of l, whose blocks lie from lo on, below hi. -/
structure RQ (w : World) (lo hi b d : Nat) (F G : Nat → Prop) (l : List UInt8) (bad : Nat) : Prop where
  r : Rr w b F l bad
  v : Rv w d G l bad
  b1 : lo ≤ b ∧ b < hi
  d1 : lo ≤ d ∧ d < hi
  f : ∀ k, F k → lo ≤ k ∧ k < hi
  g : ∀ k, G k → lo ≤ k ∧ k < hi
  fd : ¬ F d
  gb : ¬ G b
  ne : b ≠ d
theorem RQ.kb {w w' : World} {lo hi b d B x y : Nat} {F G : Nat → Prop} {l : List UInt8} {bad : Nat} (h : RQ w lo hi b d F G l bad) (k : KB w w' B x y) (hB : hi ≤ B) (hx : x < lo ∨ hi ≤ x) (hy : y < lo ∨ hi ≤ y) : RQ w' lo hi b d F G l bad := by
  refine ⟨?_, ?_, h.b1, h.d1, h.f, h.g, h.fd, h.gb, h.ne⟩
  · obtain ⟨v, hh, hv, hF, hl⟩ := h.r
    exact ⟨v, (k.block b (by have := h.b1; omega) (by have := h.b1; omega) (by have := h.b1; omega)).trans hh, Rd.kb hv k (fun q hq => by have := h.f q hq; omega), hF, hl⟩
  · obtain ⟨v, hh, hv, hF, hl⟩ := h.v
    exact ⟨v, (k.block d (by have := h.d1; omega) (by have := h.d1; omega) (by have := h.d1; omega)).trans hh, Rd.kb hv k (fun q hq => by have := h.g q hq; omega), hF, hl⟩
theorem RQ.rp {w : World} {lo hi b d B : Nat} {F G : Nat → Prop} {l : List UInt8} {bad : Nat} (h : RQ w lo hi b d F G l bad) (hB : hi ≤ B) : RP w B b d F G l bad :=
  ⟨h.r, h.v, by have := h.b1; omega, by have := h.d1; omega, fun k hk => by have := h.f k hk; omega, fun k hk => by have := h.g k hk; omega, h.fd, h.gb, h.ne⟩
theorem RQ.of {w : World} {lo hi b d B : Nat} {F G : Nat → Prop} {l : List UInt8} {bad : Nat} {w0 : World} {l0 : List UInt8} {bad0 : Nat} (h0 : RQ w0 lo hi b d F G l0 bad0) (h : RP w B b d F G l bad) : RQ w lo hi b d F G l bad :=
  ⟨h.r, h.v, h0.b1, h0.d1, h0.f, h0.g, h0.fd, h0.gb, h0.ne⟩
end Go.Proofs.YtfalgjdhdgkbfaaGreatDoor.Bk
