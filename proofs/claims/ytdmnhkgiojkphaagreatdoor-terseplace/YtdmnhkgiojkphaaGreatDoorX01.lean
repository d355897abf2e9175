/- The walks of the reader's small methods. -/
import Derived.Test.YtdmnhkgiojkphaaGreatDoorProg
import Derived.Test.YtdmnhkgiojkphaaGreatDoorTree
import Derived.WalkKit
import Derived.WalkSpells
import Derived.WalkLawsBesides
import Derived.WalkMore
import Derived.KernelRfl
import Derived.Deep.AppendLies
import Derived.Deep.QuietTactic
import Derived.BigQuiet
import Derived.Laws.NewBlocks
import Derived.Maps.RangeWalk
import Derived.Lib.OthersKept
import Derived.Lib.ValidAsc
import Derived.BigCall
namespace Go.Proofs.YtdmnhkgiojkphaaGreatDoor
open Go Go.RowKit
open Go.RowKit (wrap32 wrap64)

theorem hid {p : Prop} (h : p) : Hid p := h

/-! ### worlds -/
theorem gtrans {a b c : World} {row : Option Nat} (h : a.grownBy b row) (k : b.grownBy c row) : a.grownBy c row :=
  ⟨k.os.trans h.os, k.tape.trans h.tape, k.output.trans h.output, Nat.le_trans h.size k.size, fun i hi hr => (k.block i (Nat.lt_of_lt_of_le hi h.size) hr).trans (h.block i hi hr)⟩
theorem grefl (w : World) (row : Option Nat) : w.grownBy w row := ⟨rfl, rfl, rfl, Nat.le_refl _, fun _ _ _ => rfl⟩
theorem gset (w : World) (a : Addr) (u : Value) : w.grownBy (w.setCell a u) (some a.block) :=
  ⟨rfl, rfl, rfl, by simp [World.setCell], fun k _ hk => Below.heap_setCell _ _ _ _ (fun e => hk (by rw [e]))⟩
theorem gdrew (w : World) (n : Nat) (row : Option Nat) : w.grownBy (w.drewN n) row := ⟨rfl, rfl, rfl, Nat.le_refl _, fun _ _ _ => rfl⟩
theorem gof {w w' : World} (h : Below w.heap.size w w') (row : Option Nat) : w.grownBy w' row := ⟨h.os, h.tape, h.output, h.size, fun k hk _ => h.block k hk⟩
theorem gbelow {w w' : World} (h : w.grownBy w' none) : Below w.heap.size w w' := ⟨h.os, h.tape, h.output, h.size, fun k hk => h.block k hk (by simp)⟩

/-- A reader: its text, where it stands, its depth. -/
def Rdr (w : World) (b : Nat) (s : ByteArray) (at_ d : Int) : Prop := w.heap[b]? = some (.cells #[.string s, .int .i64 at_, .int .i64 d] 111 (0, 0))
theorem Rdr.lt {w : World} {b : Nat} {s : ByteArray} {p d : Int} (h : Rdr w b s p d) : b < w.heap.size := (Array.getElem?_eq_some_iff.1 h).1
theorem Rdr.text {w : World} {b : Nat} {s : ByteArray} {p d : Int} (h : Rdr w b s p d) : w.cell? ⟨b, 0, none⟩ = some (.string s) := by unfold Rdr at h; simp [World.cell?, h]
theorem Rdr.at_ {w : World} {b : Nat} {s : ByteArray} {p d : Int} (h : Rdr w b s p d) : w.cell? ⟨b, 1, none⟩ = some (.int .i64 p) := by unfold Rdr at h; simp [World.cell?, h]
theorem Rdr.depth {w : World} {b : Nat} {s : ByteArray} {p d : Int} (h : Rdr w b s p d) : w.cell? ⟨b, 2, none⟩ = some (.int .i64 d) := by unfold Rdr at h; simp [World.cell?, h]
theorem Rdr.free {w : World} {b : Nat} {s : ByteArray} {p d : Int} (h : Rdr w b s p d) : w.frozen? ⟨b, 1, none⟩ = false := by unfold Rdr at h; simp [World.frozen?, h]
theorem Rdr.set {w : World} {b : Nat} {s : ByteArray} {p d : Int} (h : Rdr w b s p d) (q : Int) : Rdr (w.setCell ⟨b, 1, none⟩ (.int .i64 q)) b s q d := by
  unfold Rdr at h ⊢
  simp [World.setCell, Array.getElem?_modify, h]
theorem Rdr.kept {w w' : World} {b : Nat} {s : ByteArray} {p d : Int} (h : Rdr w b s p d) (hg : w.grownBy w' none) : Rdr w' b s p d := by
  unfold Rdr at h ⊢
  rw [hg.block b (Array.getElem?_eq_some_iff.1 h).1 (by simp), h]

/-- What is left of a text from a place on. -/
def from_ (s : ByteArray) (p : Nat) : List UInt8 := s.data.toList.drop p
theorem from_lt (s : ByteArray) (k : Nat) (h : k < s.size) : from_ s k = s[k] :: from_ s (k + 1) := by
  unfold from_
  rw [List.drop_eq_getElem_cons (by simpa using h)]; rfl
theorem from_ge (s : ByteArray) (k : Nat) (h : s.size ≤ k) : from_ s k = [] := by
  unfold from_
  exact List.drop_eq_nil_of_le (by rw [Array.length_toList]; exact h)
theorem from_length (s : ByteArray) (k : Nat) : (from_ s k).length = s.size - k := by
  unfold from_
  rw [List.length_drop, Array.length_toList]; rfl
theorem u8_bd (x : UInt8) : 0 ≤ (x.toNat : Int) ∧ (x.toNat : Int) < 256 := by have := x.toNat_lt; omega
theorem u8_eq (x : UInt8) (k : Nat) (hk : k < 256) : ((x.toNat : Int) == (k : Int)) = (x == UInt8.ofNat k) := by
  by_cases h : x = UInt8.ofNat k
  · subst h
    simp
    omega
  · rw [beq_eq_false_iff_ne.2 h, beq_eq_false_iff_ne]
    intro e
    apply h
    have : x.toNat = k := by omega
    rw [← this]
    simp

set_option maxHeartbeats 400000 in
theorem isBlank_any (c : UInt8) (w : World) : Calls Tryz.prog 138 #[.int .u8 c.toNat] w fun e w' => e = .returned (.bool (isBlank c)) ∧ w' = w := by
  have e1 : ((c.toNat : Int) == 32) = (c == 32) := u8_eq c 32 (by omega)
  have e2 : ((c.toNat : Int) == 9) = (c == 9) := u8_eq c 9 (by omega)
  have e3 : ((c.toNat : Int) == 10) = (c == 10) := u8_eq c 10 (by omega)
  have e4 : ((c.toNat : Int) == 13) = (c == 13) := u8_eq c 13 (by omega)
  have HK : Hid (isBlank c = (((c.toNat : Int) == 32) || ((c.toNat : Int) == 9) || ((c.toNat : Int) == 10) || ((c.toNat : Int) == 13))) := by
    rw [e1, e2, e3, e4]; exact rfl
  clear e1 e2 e3 e4
  go_enter Tryz.func138, Tryz.ntmps138
  go_wp2
  all_goals
    go_ret
    exact ⟨by rw [HK.out]; simp [*], rfl⟩

/-- The value of a panic by a fault. -/
def faultV (code at_ : Int) : Value := .iface 69 (.agg #[.int .i64 code, .int .i64 at_])

set_option maxHeartbeats 400000 in
theorem fault_any (w : World) (b : Nat) (s : ByteArray) (p d code : Int) (h : Rdr w b s p d) : Calls Tryz.prog 81 #[.pointer (some ⟨b, 0, none⟩), .int .i64 code] w fun e w' => e = .returned (.agg #[.int .i64 code, .int .i64 p]) ∧ w.grownBy w' none := by
  have h1 := h.at_
  have hlt := h.lt
  have hne : ¬ b = w.heap.size := by omega
  go_enter Tryz.func81, Tryz.ntmps81
  go_wp2
  exact bodyPost_ret (v := .agg #[.int .i64 code, .int .i64 p]) (by simp [results, Tryz.results81, go_sem]) rfl ⟨rfl, ⟨rfl, rfl, rfl, by simp, fun k hk _ => Below.heap_alloc _ _ _ hk⟩⟩

/-- Where the reader stands, out of the world. -/
def atOf (w : World) (b : Nat) : Nat := (intOf ((w.cell? ⟨b, 1, none⟩).getD undef)).toNat
theorem Rdr.atOf {w : World} {b p : Nat} {s : ByteArray} {d : Int} (h : Rdr w b s p d) : atOf w b = p := by
  unfold YtdmnhkgiojkphaaGreatDoor.atOf
  rw [h.at_]
  simp [intOf]
theorem Rdr.drew {w : World} {b : Nat} {s : ByteArray} {p d : Int} (h : Rdr w b s p d) (n : Nat) : Rdr (w.drewN n) b s p d := h.kept (gdrew w n none)

set_option maxHeartbeats 400000 in
/-- first: to the next token; its first byte, or a blank. -/
theorem first_any (w : World) (b : Nat) (s : ByteArray) (p : Nat) (d : Int) (h : Rdr w b s p d) (hp : p ≤ s.size) (hs : s.size ≤ 1099511627776) :
    Calls Tryz.prog 75 #[.pointer (some ⟨b, 0, none⟩)] w fun e w' => ∃ (q : Nat) (c : UInt8), e = .returned (.int .u8 c.toNat) ∧ skip (from_ s p) = from_ s q ∧ q ≤ s.size ∧ ((q < s.size ∧ from_ s q = c :: from_ s (q + 1)) ∨ (from_ s q = [] ∧ c = 32)) ∧ Rdr w' b s q d ∧ w.grownBy w' (some b) := by
  go_enter Tryz.func75, Tryz.ntmps75
  go_wp2
  go_loopw [] (fun wr => ∃ q : Nat, q ≤ s.size ∧ Hid (skip (from_ s p) = skip (from_ s q)) ∧ Rdr wr b s q d ∧ w.grownBy wr (some b)) (fun wr => s.size - atOf wr b)
  case atStart => exact ⟨p, hp, hid rfl, h, grefl _ _⟩
  case round =>
    obtain ⟨q, hq, HS, hr, hg⟩ := hrel
    have h0 := hr.text
    have h1 := hr.at_
    have hf := hr.free
    have hlt := hr.lt
    have HR := hid hr
    have HG := hid hg
    clear hr hg h
    by_cases hqs : q < s.size
    · have hqi : (q : Int) < (s.size : Int) := by omega
      have hb := u8_bd s[q]
      have HF : Hid (from_ s q = s[q] :: from_ s (q + 1)) := from_lt s q hqs
      cases hbl : isBlank s[q] with
      | true =>
        have hcall := fun w => isBlank_any s[q] w
        rw [hbl] at hcall
        have HC := hid hcall
        clear hcall
        go_wp2
        go_quiet ((go_at_call 138; exact Calls.quiet_of_same (HC.out _)))
        rename_i nq
        go_wp2
        have hR2 : Rdr ((wr.drewN nq).setCell ⟨b, 1, none⟩ (.int .i64 ((q : Int) + 1))) b s ((q + 1 : Nat) : Int) d := by
          rw [show ((q + 1 : Nat) : Int) = (q : Int) + 1 by omega]
          exact (HR.out.drew nq).set _
        refine ⟨⟨q + 1, hqs, ?_, hR2, ?_⟩, ?_⟩
        · rw [HF.out] at HS
          have : skip (s[q] :: from_ s (q + 1)) = skip (from_ s (q + 1)) := by
            unfold skip
            rw [List.dropWhile_cons, if_pos hbl]
          rw [this] at HS
          exact HS
        · exact gtrans HG.out (gtrans (gdrew _ nq _) (gset _ _ _))
        · rw [hR2.atOf, HR.out.atOf]
          omega
      | false =>
        have hcall := fun w => isBlank_any s[q] w
        rw [hbl] at hcall
        have HC := hid hcall
        have hne : ((q : Int) == (s.size : Int)) = false := by simp; omega
        clear hcall
        go_wp2
        go_quiet ((go_at_call 138; exact Calls.quiet_of_same (HC.out _)))
        rename_i nq
        go_wp2
        go_quiet (fail)
        go_wp2
        go_quiet (fail)
        go_wp2
        go_ret
        refine ⟨q, s[q], rfl, ?_, hq, .inl ⟨hqs, HF.out⟩, ?_, ?_⟩
        · have hsk : skip (from_ s q) = from_ s q := by
            rw [HF.out]
            unfold skip
            rw [List.dropWhile_cons, if_neg (by simp [hbl])]
          rw [← hsk]
          exact HS.out
        · first | exact HR.out.drew _ | exact (HR.out.drew _).drew _ | exact ((HR.out.drew _).drew _).drew _
        · first | exact gtrans HG.out (gdrew _ _ _) | exact gtrans HG.out (gtrans (gdrew _ _ _) (gdrew _ _ _)) | exact gtrans HG.out (gtrans (gdrew _ _ _) (gtrans (gdrew _ _ _) (gdrew _ _ _)))
    · have hqi : decide ((q : Int) < (s.size : Int)) = false := by simp; omega
      have hne : ((q : Int) == (s.size : Int)) = true := by simp; omega
      have HF : Hid (from_ s q = []) := from_ge s q (by omega)
      go_wp2
      go_quiet (fail)
      rename_i nq
      go_wp2
      go_quiet (fail)
      go_wp2
      go_ret
      refine ⟨q, 32, rfl, ?_, hq, .inr ⟨HF.out, rfl⟩, ?_, ?_⟩
      · rw [HF.out] at HS ⊢
        exact HS.out
      · first | exact HR.out.drew _ | exact (HR.out.drew _).drew _
      · first | exact gtrans HG.out (gdrew _ _ _) | exact gtrans HG.out (gtrans (gdrew _ _ _) (gdrew _ _ _))

theorem u8_ne {c m : UInt8} (h : c ≠ m) : ((c.toNat : Int) != (m.toNat : Int)) = true := by
  rw [bne_iff_ne]
  intro e
  apply h
  rw [← UInt8.toNat_inj]
  omega

set_option maxHeartbeats 400000 in
/-- takes: a mark, if it is the next token. -/
theorem takes_any (w : World) (b : Nat) (s : ByteArray) (p : Nat) (d : Int) (m : UInt8) (hm : m ≠ 32) (h : Rdr w b s p d) (hp : p ≤ s.size) (hs : s.size ≤ 1099511627776) :
    Calls Tryz.prog 139 #[.pointer (some ⟨b, 0, none⟩), .int .u8 m.toNat] w fun e w' => ∃ q : Nat, q ≤ s.size ∧ Rdr w' b s q d ∧ w.grownBy w' (some b) ∧
      ((e = .returned (.bool true) ∧ skip (from_ s p) = m :: from_ s q) ∨ (e = .returned (.bool false) ∧ skip (from_ s p) = from_ s q ∧ (from_ s q).head? ≠ some m)) := by
  go_enter Tryz.func139, Tryz.ntmps139
  go_wp2_with fail
  refine (first_any w b s p d h hp hs).mono ?_
  rintro e w1 ⟨q, c, rfl, hsk, hq, hc, hr, hg⟩
  have HS := hid hsk
  have HR := hid hr
  have HG := hid hg
  have HC := hid hc
  have h1 := hr.at_
  have hf := hr.free
  have hlt := hr.lt
  clear hsk hr hg h hc
  by_cases hd : c = m
  · subst hd
    go_wp2
    go_ret
    rcases HC.out with ⟨hqs, hc⟩ | ⟨_, hc⟩
    · have hR2 : Rdr (w1.setCell ⟨b, 1, none⟩ (.int .i64 ((q : Int) + 1))) b s ((q + 1 : Nat) : Int) d := by
        rw [show ((q + 1 : Nat) : Int) = (q : Int) + 1 by omega]
        exact HR.out.set _
      exact ⟨q + 1, hqs, hR2, gtrans HG.out (gset _ _ _), .inl ⟨rfl, by rw [HS.out]; exact hc⟩⟩
    · exact absurd hc hm
  · have hne := u8_ne hd
    have HD := hid hd
    clear hd
    go_wp2
    go_ret
    refine ⟨q, hq, HR.out, HG.out, .inr ⟨rfl, HS.out, ?_⟩⟩
    rcases HC.out with ⟨hqs, hc⟩ | ⟨hc, _⟩
    · rw [hc]
      simp only [List.head?_cons, ne_eq, Option.some.injEq]
      exact HD.out
    · rw [hc]
      simp

/-- A panic by a fault. -/
def faulted (code : Int) (q : Nat) : Ending := .panicked [{ v := faultV code q, recovered := false }]

set_option maxHeartbeats 400000 in
/-- wants: a mark, or a fault. -/
theorem wants_any (w : World) (b : Nat) (s : ByteArray) (p : Nat) (d : Int) (m : UInt8) (hm : m ≠ 32) (h : Rdr w b s p d) (hp : p ≤ s.size) (hs : s.size ≤ 1099511627776) :
    Calls Tryz.prog 140 #[.pointer (some ⟨b, 0, none⟩), .int .u8 m.toNat] w fun e w' => ∃ q : Nat, q ≤ s.size ∧ Rdr w' b s q d ∧ w.grownBy w' (some b) ∧
      ((e = .returned (.tuple #[]) ∧ skip (from_ s p) = m :: from_ s q) ∨ (e = faulted 22 q ∧ skip (from_ s p) = from_ s q ∧ (from_ s q).head? ≠ some m)) := by
  go_enter Tryz.func140, Tryz.ntmps140
  go_wp2_with fail
  refine (takes_any w b s p d m hm h hp hs).mono ?_
  rintro e w1 ⟨q, hq, hr, hg, ⟨rfl, h1⟩ | ⟨rfl, h1, h2⟩⟩
  · have HS := hid h1
    clear h1
    go_wp2
    go_end0
    exact ⟨q, hq, hr, hg, .inl ⟨rfl, HS.out⟩⟩
  · have HS := hid h1
    have HD := hid h2
    clear h1 h2
    go_wp2_with (go_at_call 81; refine (fault_any _ b s q d 22 hr).mono ?_; rintro e w2 ⟨rfl, hg2⟩)
    exact ⟨rfl, q, hq, hr.kept hg2, gtrans hg (hg2.but _), .inr ⟨rfl, HS.out, HD.out⟩⟩

set_option maxHeartbeats 400000 in
/-- enter: a bracket or a brace, where it may be. -/
theorem enter_yes (w : World) (b : Nat) (s : ByteArray) (p : Nat) (d about : Int) (h : Rdr w b s p d) (hp : p < s.size) (hs : s.size ≤ 1099511627776) (ha : about < d) :
    Calls Tryz.prog 76 #[.pointer (some ⟨b, 0, none⟩), .int .i64 about] w fun e w' => e = .returned (.tuple #[]) ∧ Rdr w' b s (p + 1 : Nat) d ∧ w.grownBy w' (some b) := by
  have h1 := h.at_
  have h2 := h.depth
  have hf := h.free
  have hlt := h.lt
  have HR := hid h
  clear h
  go_enter Tryz.func76, Tryz.ntmps76
  go_wp2
  go_end0
  refine ⟨rfl, ?_, gset _ _ _⟩
  rw [show ((p + 1 : Nat) : Int) = (p : Int) + 1 by omega]
  exact HR.out.set _
set_option maxHeartbeats 400000 in
theorem enter_no (w : World) (b : Nat) (s : ByteArray) (p : Nat) (d about : Int) (h : Rdr w b s p d) (ha : d ≤ about) :
    Calls Tryz.prog 76 #[.pointer (some ⟨b, 0, none⟩), .int .i64 about] w fun e w' => e = faulted 21 p ∧ Rdr w' b s p d ∧ w.grownBy w' (some b) := by
  have h2 := h.depth
  have hlt := h.lt
  go_enter Tryz.func76, Tryz.ntmps76
  go_wp2_with (go_at_call 81; refine (fault_any _ b s p d 21 h).mono ?_; rintro e w2 ⟨rfl, hg2⟩)
  exact ⟨rfl, rfl, h.kept hg2, hg2.but _⟩

set_option maxHeartbeats 400000 in
/-- end: nothing is left, or a fault. -/
theorem end_any (w : World) (b : Nat) (s : ByteArray) (p : Nat) (d : Int) (h : Rdr w b s p d) (hp : p ≤ s.size) (hs : s.size ≤ 1099511627776) :
    Calls Tryz.prog 47 #[.pointer (some ⟨b, 0, none⟩)] w fun e w' => ∃ q : Nat, q ≤ s.size ∧ Rdr w' b s q d ∧ w.grownBy w' (some b) ∧ skip (from_ s p) = from_ s q ∧
      ((e = .returned (.tuple #[]) ∧ from_ s q = []) ∨ (e = faulted 25 q ∧ from_ s q ≠ [])) := by
  go_enter Tryz.func47, Tryz.ntmps47
  go_wp2_with fail
  refine (first_any w b s p d h hp hs).mono ?_
  rintro e w1 ⟨q, c, rfl, hsk, hq, hc, hr, hg⟩
  have HS := hid hsk
  have HR := hid hr
  have HG := hid hg
  have h0 := hr.text
  have h1 := hr.at_
  have hlt := hr.lt
  clear hsk hr hg h hc
  by_cases hqs : q < s.size
  · have hqi : (q : Int) < (s.size : Int) := by omega
    have HF : Hid (from_ s q = s[q] :: from_ s (q + 1)) := from_lt s q hqs
    go_wp2
    go_quiet (fail)
    rename_i nq
    have hrq := HR.out.drew nq
    go_wp2_with (go_at_call 81; refine (fault_any _ b s q d 25 hrq).mono ?_; rintro e w2 ⟨rfl, hg2⟩)
    exact ⟨rfl, q, hq, hrq.kept hg2, gtrans HG.out (gtrans (gdrew _ nq _) (hg2.but _)), HS.out, .inr ⟨rfl, by rw [HF.out]; simp⟩⟩
  · have hqi : decide ((q : Int) < (s.size : Int)) = false := by simp; omega
    have HF : Hid (from_ s q = []) := from_ge s q (by omega)
    go_wp2
    go_quiet (fail)
    rename_i nq
    have hrq := HR.out.drew nq
    go_wp2
    go_end0
    exact ⟨q, hq, hrq, gtrans HG.out (gdrew _ nq _), HS.out, .inl ⟨rfl, HF.out⟩⟩
end Go.Proofs.YtdmnhkgiojkphaaGreatDoor

namespace Go.Proofs.YtdmnhkgiojkphaaGreatDoor
open Go Go.RowKit
open Go.RowKit (wrap32 wrap64)

theorem digs_cons (c : UInt8) (r : List UInt8) : digs (c :: r) = if isDig c = true then digs r + 1 else 0 := by
  unfold digs
  rw [List.takeWhile_cons]
  split <;> rfl
theorem digs_le (l : List UInt8) : digs l ≤ l.length := by
  unfold digs
  exact List.Sublist.length_le (List.takeWhile_sublist _)

set_option maxRecDepth 100000 in
set_option maxHeartbeats 1000000 in
theorem digitsAhead_any (s : ByteArray) (w : World) : Calls Tryz.prog 201 #[.string s] w fun e w' => e = .returned (.int .i64 (digs s.data.toList)) ∧ w.grownBy w' none := by
  go_enter Tryz.func201, Tryz.ntmps201
  go_wp2
  go_loopw [] (fun wr => ∃ pos : Nat, wr.heap[w.heap.size]? = some (.stringIter s pos) ∧ Below w.heap.size w wr ∧ pos ≤ s.size ∧ Hid (digs s.data.toList = pos + digs (from_ s pos))) (fun wr => s.size - wr.iterPos w.heap.size)
  case atStart =>
    refine ⟨0, ?_, (Below.refl _ w).alloc (Nat.le_refl _) _, Nat.zero_le _, hid (by unfold from_; simp)⟩
    have := World.iter_heap w s 0
    simpa using this
  case round =>
    obtain ⟨pos, hit, hbw, hps, HD⟩ := hrel
    have hsz : w.heap.size < wr.heap.size := (Array.getElem?_eq_some_iff.1 hit).1
    by_cases hp : pos < s.size
    · have hnx : ∀ ty, (Instr.next (.pointer (some ⟨w.heap.size, 0, none⟩)) true ty).run Tryz.prog wr = _ := fun ty => Lib.run_next_any_at wr w.heap.size s pos ty hit hp
      have hit2 := Lib.iterAt_heap wr w.heap.size s pos (pos + (Utf8.decode s pos).2) hit
      have hbw2 := Lib.below_iterAt hbw (k := w.heap.size) (by omega) s (pos + (Utf8.decode s pos).2)
      have HF : Hid (from_ s pos = s[pos] :: from_ s (pos + 1)) := from_lt s pos hp
      have hd := digs_cons s[pos] (from_ s (pos + 1))
      have hle := Lib.rune_le s pos
      cases hg : isDig s[pos] with
      | true =>
        have hb : 48 ≤ s[pos].toNat ∧ s[pos].toNat ≤ 57 := by unfold isDig at hg; simpa using hg
        have hdec := decode_ascii s pos hp (by omega)
        rw [hdec] at hnx hit2 hbw2
        rw [hg, if_pos rfl] at hd
        have HD2 := hid hd
        have HI := hid hit2
        have HB := hid hbw2
        have HI0 := hid hit
        clear hd hit2 hbw2 hdec hit
        have h1 : ¬ ((s[pos].toNat : Int) < 48) := by omega
        have h2 : ¬ (57 < (s[pos].toNat : Int)) := by omega
        go_wp2
        go_roundw
        case rel => 
          refine ⟨pos + 1, HI.out, HB.out, hp, ?_⟩
          refine hid ?_
          rw [HD.out, HF.out, HD2.out]
          omega
        case measure =>
          simp only [World.iterPos, HI.out, HI0.out]
          omega
      | false =>
        have hb : s[pos].toNat < 48 ∨ 57 < s[pos].toNat := by unfold isDig at hg; simp at hg; omega
        have hx : ((Utf8.decode s pos).1 : Int) < 48 ∨ 57 < ((Utf8.decode s pos).1 : Int) := by
          by_cases h128 : s[pos].toNat < 128
          · rw [decode_ascii s pos hp h128]
            simp only
            omega
          · have := (decode_high s pos hp (by omega)).1
            omega
        rw [hg, if_neg (by simp)] at hd
        have HD2 := hid hd
        have HB := hid hbw2
        clear hd hit2 hbw2 hit hb
        generalize (Utf8.decode s pos).2 = wd at *
        generalize (Utf8.decode s pos).1 = x at *
        rcases hx with hx | hx
        · go_wp2
          go_ret
          refine ⟨?_, gof HB.out none⟩
          rw [HD.out, HF.out, HD2.out]
          rfl
        · have hx1 : ¬ ((x : Int) < 48) := by omega
          go_wp2
          go_ret
          refine ⟨?_, gof HB.out none⟩
          rw [HD.out, HF.out, HD2.out]
          rfl
    · have hnx : ∀ ty, (Instr.next (.pointer (some ⟨w.heap.size, 0, none⟩)) true ty).run Tryz.prog wr = _ := fun ty => Lib.run_next_end_at wr w.heap.size s pos ty hit hp
      have HF : Hid (from_ s pos = []) := from_ge s pos (by omega)
      have hpe : pos = s.size := by omega
      have HP := hid hpe
      have HB := hid hbw
      clear hpe hbw
      go_wp2
      go_ret
      refine ⟨?_, gof HB.out none⟩
      rw [HD.out, HF.out, HP.out]
      rfl

theorem ext1 {s s1 : ByteArray} (h : s.extract 1 s.size = s1) : s1.data.toList = from_ s 1 ∧ s1.size = s.size - 1 := by
  subst h
  exact ⟨Lib.ext_list s 1, Lib.ext_size s 1⟩
theorem from_zero (s : ByteArray) : from_ s 0 = s.data.toList := by unfold from_; simp
theorem empty_iff (s : ByteArray) : s.toList.isEmpty = decide (s.size = 0) := by
  rw [ByteArray.toList_eq]
  by_cases h : s.size = 0
  · rw [decide_eq_true h]
    have : s.data.toList.length = 0 := by rw [Array.length_toList]; exact h
    simp [List.eq_nil_of_length_eq_zero this]
  · rw [decide_eq_false h]
    have : s.data.toList.length ≠ 0 := by rw [Array.length_toList]; exact h
    cases hl : s.data.toList with
    | nil => rw [hl] at this; simp at this
    | cons c r => rfl
theorem nil_iff (s : ByteArray) : s.toList = [] ↔ s.size = 0 := by
  rw [← List.isEmpty_iff, empty_iff]; simp
theorem isEmpty_data (s : ByteArray) : s.data.toList.isEmpty = decide (s.size = 0) := by rw [← ByteArray.toList_eq, empty_iff]
theorem length_data (s : ByteArray) : s.data.toList.length = s.size := by rw [Array.length_toList]; rfl
theorem noSign_of {s : ByteArray} (h : 0 < s.size) : noSign s.data.toList = if s[0].toNat = 43 ∨ s[0].toNat = 45 then from_ s 1 else s.data.toList := by
  have e : s.data.toList = s[0] :: from_ s 1 := by rw [← from_zero, from_lt s 0 h]
  rw [e]
  generalize s[0] = c
  generalize from_ s 1 = r
  by_cases h1 : c = 43
  · subst h1; rfl
  · by_cases h2 : c = 45
    · subst h2; rfl
    · rw [if_neg (by
        rintro (h | h)
        · exact h1 (by rw [← UInt8.toNat_inj]; exact h)
        · exact h2 (by rw [← UInt8.toNat_inj]; exact h))]
      unfold noSign
      split
      · rename_i h; injection h with h _; exact absurd h h1
      · rename_i h; injection h with h _; exact absurd h h2
      · rfl

theorem ret_bool {a b : Bool} (h : a = b) : Ending.returned (.bool a) = .returned (.bool b) := by rw [h]
theorem nat_beq (a b : Nat) : ((a : Int) == (b : Int)) = (a == b) := by
  by_cases h : a = b
  · subst h; simp
  · rw [beq_eq_false_iff_ne.2 h, beq_eq_false_iff_ne]; omega

set_option maxRecDepth 100000 in
set_option maxHeartbeats 1000000 in
theorem isExponent_any (s : ByteArray) (w : World) (hs : s.size ≤ 1099511627776) (h0 : 0 < s.size) : Calls Tryz.prog 203 #[.string s] w fun e w' => e = .returned (.bool (isExp s.data.toList)) ∧ w.grownBy w' none := by
  have hb := u8_bd s[0]
  have h0i : (0 : Int) < (s.size : Int) := by omega
  have hl : s.data.toList = s[0] :: from_ s 1 := by rw [← from_zero, from_lt s 0 h0]
  have hex : isExp s.data.toList = ((s[0] == 101 || s[0] == 69) && (!(noSign (from_ s 1)).isEmpty && digs (noSign (from_ s 1)) == (noSign (from_ s 1)).length)) := by rw [hl]; rfl
  obtain ⟨s1, e1⟩ : ∃ s1, s.extract 1 s.size = s1 := ⟨_, rfl⟩
  obtain ⟨hs1, hz1⟩ := ext1 e1
  rw [← hs1] at hex
  have b1 : ((s[0].toNat : Int) == 101) = (s[0] == 101) := u8_eq s[0] 101 (by omega)
  have b2 : ((s[0].toNat : Int) == 69) = (s[0] == 69) := u8_eq s[0] 69 (by omega)
  rw [← b1, ← b2] at hex
  have HX := hid hex
  have HZ := hid hz1
  clear hex hl hs1 hz1 b1 b2
  generalize hc : (s[0].toNat : Int) = c at *
  by_cases hce : c = 101 ∨ c = 69
  · have hcb : ((c == 101 || c == 69) : Bool) = true := by rcases hce with h | h <;> simp [h]
    rw [hcb, Bool.true_and] at HX
    by_cases hz : s1.size = 0
    · have g1 : s1.toList.isEmpty = true := by rw [empty_iff]; simp [hz]
      have g2 : s1.toList = [] := (nil_iff s1).2 hz
      have hfin : isExp s.data.toList = false := by
        have : s1.data.toList = [] := by rw [← ByteArray.toList_eq]; exact g2
        rw [HX.out, this]
        rfl
      have HF := hid hfin
      clear hfin HX hz
      rcases hce with rfl | rfl
      all_goals
        clear hcb
        go_enter Tryz.func203, Tryz.ntmps203
        go_wp2_with fail
        go_ret
        exact ⟨ret_bool (by rw [HF.out]), grefl _ _⟩
    · have g1 : s1.toList.isEmpty = false := by rw [empty_iff]; simp [hz]
      have g2 : ¬ s1.toList = [] := fun h => hz ((nil_iff s1).1 h)
      have hz0 : 0 < s1.size := by omega
      have hz1 : (0 : Int) < (s1.size : Int) := by omega
      have hz2 : s1.size ≤ 1099511627776 := by have := HZ.out; omega
      have hns := noSign_of hz0
      obtain ⟨s2, e2⟩ : ∃ s2, s1.extract 1 s1.size = s2 := ⟨_, rfl⟩
      obtain ⟨hs2, hz3⟩ := ext1 e2
      rw [← hs2] at hns
      have hdb := u8_bd s1[0]
      generalize hd : (s1[0].toNat : Int) = d at *
      have hdn : (s1[0].toNat = 43 ∨ s1[0].toNat = 45) ↔ (d = 43 ∨ d = 45) := by omega
      by_cases hd4 : d = 43 ∨ d = 45
      · rw [if_pos (hdn.2 hd4)] at hns
        rw [hns] at HX
        have HX2 : Hid (isExp s.data.toList = (!s2.data.toList.isEmpty && digs s2.data.toList == s2.data.toList.length)) := HX
        rw [isEmpty_data, length_data] at HX2
        have HY := hid hz3
        have H1 := hid hs2
        clear hns HX hdn hs2 hz3 hcb hz
        by_cases hq : s2.size = 0
        · have k1 : s2.toList.isEmpty = true := by rw [empty_iff]; simp [hq]
          have k2 : s2.toList = [] := (nil_iff s2).2 hq
          rw [hq] at HX2
          clear hq
          rcases hce with rfl | rfl <;> rcases hd4 with rfl | rfl
          all_goals
            go_enter Tryz.func203, Tryz.ntmps203
            go_wp2_with fail
            go_ret
            exact ⟨ret_bool (by rw [HX2.out]; rfl), grefl _ _⟩
        · have k1 : s2.toList.isEmpty = false := by rw [empty_iff]; simp [hq]
          have k2 : ¬ s2.toList = [] := fun h => hq ((nil_iff s2).1 h)
          rw [decide_eq_false hq] at HX2
          clear hq
          rcases hce with rfl | rfl <;> rcases hd4 with rfl | rfl
          all_goals
            go_enter Tryz.func203, Tryz.ntmps203
            go_wp2_with (go_at_call 201; refine (digitsAhead_any _ _).mono ?_; rintro e w1 ⟨rfl, hg⟩)
            go_ret
            exact ⟨ret_bool (by rw [HX2.out, nat_beq]; rfl), hg⟩
      · rw [if_neg (fun h => hd4 (hdn.1 h))] at hns
        rw [hns] at HX
        have HX2 : Hid (isExp s.data.toList = (!s1.data.toList.isEmpty && digs s1.data.toList == s1.data.toList.length)) := HX
        rw [isEmpty_data, length_data, decide_eq_false hz] at HX2
        have n1 : ¬ d = 43 := fun h => hd4 (.inl h)
        have n2 : ¬ d = 45 := fun h => hd4 (.inr h)
        have m1 : (d == 43) = false := by simp [n1]
        have m2 : (d == 45) = false := by simp [n2]
        clear hns HX hdn hs2 hz3 hcb hz e2 hd4
        rcases hce with rfl | rfl
        all_goals
          go_enter Tryz.func203, Tryz.ntmps203
          go_wp2_with (go_at_call 201; refine (digitsAhead_any _ _).mono ?_; rintro e w1 ⟨rfl, hg⟩)
          go_ret
          exact ⟨ret_bool (by rw [HX2.out, nat_beq]; rfl), hg⟩
  · have n1 : ¬ c = 101 := fun h => hce (.inl h)
    have n2 : ¬ c = 69 := fun h => hce (.inr h)
    have m1 : (c != 101) = true := by simp [n1]
    have m2 : (c != 69) = true := by simp [n2]
    have hcb : ((c == 101 || c == 69) : Bool) = false := by simp [n1, n2]
    rw [hcb, Bool.false_and] at HX
    clear hce hcb
    go_enter Tryz.func203, Tryz.ntmps203
    go_wp2_with fail
    go_ret
    exact ⟨ret_bool (by rw [HX.out]), grefl _ _⟩
end Go.Proofs.YtdmnhkgiojkphaaGreatDoor
