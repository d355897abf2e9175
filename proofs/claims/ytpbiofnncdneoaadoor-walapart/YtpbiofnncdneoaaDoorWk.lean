/- One byte changed; a file handed in. -/
import Derived.Test.YtpbiofnncdneoaaDoorWj
import Derived.Deep.CutBlock
import Derived.Lib.SmallJoins
namespace Go.Proofs.YtpbiofnncdneoaaDoor
open Go Go.RowKit Go.MapKept Go.MuLone
open Go.RowKit (wrap32 wrap64)

theorem Out.form {B : Nat} {w : World} {v : Value} {l : List UInt8} (h : Out B w v l) (h0 : 0 < l.length) : ∃ g c, v = .slice (some ⟨g, 0, none⟩) l.length c ∧ l.length ≤ c ∧ B ≤ g ∧ g < w.heap.size ∧ ∀ i (hi : i < l.length), w.cell? ⟨g, i, none⟩ = some (.int .u8 l[i].toNat) := by
  have hcs := fun (g : Nat) (hg : v.ownBlock = some g) => h.cells (g := g) hg
  have hlt := fun (g : Nat) (hg : v.ownBlock = some g) => (h.lt g hg).2
  rcases h.2 with ⟨rfl, h1⟩ | ⟨g, cap, cur, rfl, hb, hg, hle, hm, hs, ht⟩
  · omega
  · refine ⟨g, cap, rfl, hle, hb, hlt g rfl, fun i hi => ?_⟩
    have := hcs g rfl i (.int .u8 l[i].toNat) (by simp [Lib.byteCells, List.getElem?_eq_getElem hi])
    rw [Addr.add_lit, Nat.zero_add] at this
    exact this
theorem wrap_small (r : Nat) (h : (r : Int) < 255) : IntKind.u8.wrap (IntKind.i64.wrap (1 + (r : Int))) = 1 + (r : Int) := by
  rw [IntKind.wrap_i64, IntKind.wrap_u8]; omega
theorem xorb (x : UInt8) (r : Nat) (h : r < 255) : bits .xor .u8 (x.toNat : Int) (1 + (r : Int)) = ((x ^^^ UInt8.ofNat (1 + r)).toNat : Int) ∧ x ^^^ UInt8.ofNat (1 + r) ≠ x := by
  have hx := x.toNat_lt
  have h1 := u8_xor_nat x.toNat (1 + r) (by omega) (by omega)
  have e : (UInt8.ofNat (1 + r)).toNat = 1 + r := by rw [UInt8.toNat_ofNat']; exact Nat.mod_eq_of_lt (by omega)
  refine ⟨?_, fun h2 => ?_⟩
  · rw [UInt8.toNat_xor, e, ← h1]; push_cast; rfl
  · have h3 := congrArg UInt8.toNat h2
    rw [UInt8.toNat_xor, e] at h3
    have : x.toNat ^^^ (1 + r) = x.toNat ^^^ 0 := by rw [h3, Nat.xor_zero]
    have := xor_cancel_left this
    omega
theorem Out.free {B : Nat} {w : World} {g n c : Nat} {l : List UInt8} (h : Out B w (.slice (some ⟨g, 0, none⟩) n c) l) (i : Nat) : w.frozen? ⟨g, i, none⟩ = false := by
  rcases h.2 with ⟨e, _⟩ | ⟨g', cap, cur, e, hb, hg, _⟩
  · cases e
  · injection e with e1 e2 e3
    injection e1 with e1
    injection e1 with e1 _ _
    subst e1
    simp [World.frozen?, hg]
theorem Out.set {B : Nat} {w : World} {g n c : Nat} {l : List UInt8} (h : Out B w (.slice (some ⟨g, 0, none⟩) n c) l) (i : Nat) (x : UInt8) : Out B (w.setCell ⟨g, i, none⟩ (.int .u8 x.toNat)) (.slice (some ⟨g, 0, none⟩) n c) (l.set i x) := by
  rcases h.2 with ⟨e, _⟩ | ⟨g', cap, cur, e, hb, hg, hle, hm, hs, ht⟩
  · cases e
  · injection e with e1 e2 e3
    injection e1 with e1
    injection e1 with e1 _ _
    subst e1
    subst e3
    refine ⟨by rw [byteCells_length, Nat.mul_one], .inr ⟨g, c, cur.setIfInBounds i (.int .u8 x.toNat), by rw [List.length_set, e2], hb, ?_, by rw [List.length_set]; exact hle, hm, by simpa using hs, ?_⟩⟩
    · exact Go.Joins.block_setCell hg _
    · rw [Array.toList_setIfInBounds, List.length_set]
      rw [List.take_set, ht]
      unfold Lib.byteCells
      rw [List.map_set]
theorem built47 (s : ByteArray) (a : Option Addr) (n c : Nat) : Tryd.prog.built 47 [(0, .string s), (1, .slice a n c)] = some [Value.string s, .slice a n c].toArray := by kernel_rfl
theorem files_arg {u w' : World} {s : ByteArray} {a : Option Addr} {n c : Nat} {l : List UInt8} {Fr : Nat → Prop} (hr : Rd u Fr (.slice a n c) l) (hb : Blk w' u.heap.size [.string s, .slice a n c] 47) (hg : u.grownBy w' none) : ArF w' (fun _ => True) (some ⟨u.heap.size, 0, none⟩) u.heap.size 0 [(s, l)] := by
  refine ⟨fun _ => ⟨rfl, hb.lt, trivial⟩, fun i hi => ?_⟩
  have : i = 0 := by simp at hi; exact hi
  subst this
  exact ⟨hb.cell 0, _, hb.cell 1, (hr.keep hg).wide (fun _ _ => trivial)⟩
theorem load_one {room : Int} {s : ByteArray} {l : List UInt8} (hg : goodN s = true) (hl : (l.length : Int) ≤ room) : loadC room [] [(s, l)] = some [(s, l)] := by
  unfold loadC
  rw [if_pos ⟨hg, rfl, by decide, by simp [usedC]; exact hl⟩]
  unfold loadC setC
  rfl
/-- A disk that is loaded with one file. -/
theorem sd_load {w u : World} {s : ByteArray} {a : Option Addr} {n c : Nat} {l : List UInt8} {Fr : Nat → Prop} (hr : Rd w Fr (.slice a n c) l) (hb : Blk u w.heap.size [.string s, .slice a n c] 47) (hg : w.grownBy u none) (hgd : goodN s = true) (R : Nat) (hl : l.length ≤ R) (hR : 1 ≤ R) (hR2 : R ≤ 268435456) :
    Calls Tryd.prog 22 #[.slice (some ⟨w.heap.size, 0, none⟩) 1 1, .int .i64 (R : Nat)] u fun e u' => ∃ b P, e = .returned (.tuple #[.pointer (some ⟨b, 0, none⟩), .int .i64 0]) ∧ Sd u u' b ⟨(R : Nat), false, 0, 0, 0, [(s, l)]⟩ P := by
  have q := load_any u _ _ _ _ 1 [(s, l)] (R : Nat) (files_arg hr hb hg) (by simp) (fun p hp => by rw [List.mem_singleton.1 hp]; show l.length ≤ _; omega) ⟨by omega, by omega⟩
  refine q.mono fun e u' ⟨q1, q2⟩ => ?_
  rw [load_one hgd (by omega)] at q2
  rcases q2 with ⟨h, _⟩ | ⟨C, b, h1, h2, h3⟩
  · cases h
  · injection h1 with h1
    subst h1
    exact ⟨b, _, h2, h3, fun k hk => hk.2, fun k hk => hk.1, q1⟩
theorem idx36 (b n c i : Nat) (h : i < n) (u : World) : (Instr.indexAt 36 (.slice (some ⟨b, 0, none⟩) n c) (.int .i64 (i : Nat))).run Tryd.prog u = .ok (.pointer (some ⟨b, i, none⟩)) u := by
  have h' : (i : Int) < (n : Int) := by omega
  go_simp
theorem ld5 (b i : Nat) (z : Int) (u : World) (h : u.cell? ⟨b, i, none⟩ = some (.int .u8 z)) : (Instr.loadAt 5 (.pointer (some ⟨b, i, none⟩))).run Tryd.prog u = .ok (.int .u8 z) u := by go_simp
/-- What Within tells. -/
def wthn (x : Int) (n : Nat) : Nat := if x.tmod n < 0 then (x.tmod n + n).toNat else (x.tmod n).toNat
theorem wthn_lt (x : Int) (n : Nat) (h0 : 0 < n) : wthn x n < n := by
  have h1 := Int.tmod_lt_of_pos x (show (0 : Int) < (n : Int) by omega)
  have h2 := Int.lt_tmod_of_pos x (show (0 : Int) < (n : Int) by omega)
  unfold wthn
  split <;> omega
theorem within_is (x : Int) (n : Nat) (h0 : 0 < n) (hn : n ≤ 1152921504606846976) (w : World) : Calls Tryd.prog 12 #[.int .i64 x, .int .i64 n] w fun e w' => e = .returned (.int .i64 (wthn x n)) ∧ w' = w := by
  have h1 := Int.tmod_lt_of_pos x (show (0 : Int) < (n : Int) by omega)
  have h2 := Int.lt_tmod_of_pos x (show (0 : Int) < (n : Int) by omega)
  have h3 : ¬ (n : Int) = 0 := by omega
  go_enter Tryd.func12, Tryd.ntmps12
  go_wp2
  · go_ret
    refine ⟨?_, rfl⟩
    unfold wthn
    rw [if_pos (by omega)]
    exact ret_int (by omega)
  · go_ret
    refine ⟨?_, rfl⟩
    unfold wthn
    rw [if_neg (by omega)]
    exact ret_int (by omega)
/-- A byte of a file of frames is changed. -/
theorem hurt_parts : ∀ (ws : List (List UInt8)) (p : Nat) (y : UInt8), (∀ r ∈ ws, r.length ≤ 16777216) → ∀ (hp : p < (flat ws).length), y ≠ (flat ws)[p] → ∃ js t, (flat ws).set p y = flat js ++ t ∧ t ≠ [] ∧ (unfrE t = 32 ∨ unfrE t = 34) ∧ (∀ r ∈ js, r.length ≤ 16777216) ∧ js.length ≤ ws.length
  | [], p, y, _, hp, _ => by cases hp
  | r :: ws, p, y, he, hp, hy => by
    have e : flat (r :: ws) = frameL r ++ flat ws := rfl
    by_cases h : p < (frameL r).length
    · refine ⟨[], (frameL r).set p y ++ flat ws, ?_, ?_, ?_, (fun r hr => by cases hr), Nat.zero_le _⟩
      · rw [e, List.set_append_left _ _ h]
        rfl
      · intro q
        have := congrArg List.length q
        rw [List.length_append, List.length_set, frameL_length] at this
        simp at this
      · refine unfr_bent r (flat ws) (he r (List.mem_cons_self ..)) p y h ?_
        intro q
        refine hy ?_
        rw [q]
        simp only [e]
        rw [List.getElem_append_left h]
    · have hp2 : p - (frameL r).length < (flat ws).length := by rw [e, List.length_append] at hp; omega
      obtain ⟨js, t, q1, q2, q3, q4, q5⟩ := hurt_parts ws (p - (frameL r).length) y (fun x hx => he x (List.mem_cons_of_mem _ hx)) hp2 (by
        intro q
        refine hy ?_
        rw [q]
        simp only [e]
        rw [List.getElem_append_right (by omega)])
      refine ⟨r :: js, t, ?_, q2, q3, fun x hx => ?_, by simp; exact q5⟩
      · rw [e, List.set_append_right _ _ (by omega), q1]
        show _ = (frameL r ++ flat js) ++ t
        rw [List.append_assoc]
      · rcases List.mem_cons.1 hx with rfl | hx
        · exact he _ (List.mem_cons_self ..)
        · exact q4 x hx
end Go.Proofs.YtpbiofnncdneoaaDoor
