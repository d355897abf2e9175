/- The walks of the reader's small methods. -/
import Derived.Test.YtihbpkebknifdaaGreatDoorProg
import Derived.Test.YtihbpkebknifdaaGreatDoorTree
import Derived.WalkKit
import Derived.WalkSpells
import Derived.WalkLawsBesides
import Derived.WalkMore
import Derived.KernelRfl
import Derived.Deep.AppendLies
import Derived.Deep.QuietTactic
import Derived.BigQuiet
import Derived.Laws.NewBlocks
import Derived.Maps.RangeWalk
namespace Go.Proofs.YtihbpkebknifdaaGreatDoor
open Go Go.RowKit
open Go.RowKit (wrap32 wrap64)

theorem hid {p : Prop} (h : p) : Hid p := h

/-! ### worlds -/
theorem gtrans {a b c : World} {row : Option Nat} (h : a.grownBy b row) (k : b.grownBy c row) : a.grownBy c row :=
  ⟨k.os.trans h.os, k.tape.trans h.tape, k.output.trans h.output, Nat.le_trans h.size k.size, fun i hi hr => (k.block i (Nat.lt_of_lt_of_le hi h.size) hr).trans (h.block i hi hr)⟩
theorem grefl (w : World) (row : Option Nat) : w.grownBy w row := ⟨rfl, rfl, rfl, Nat.le_refl _, fun _ _ _ => rfl⟩
theorem gset (w : World) (a : Addr) (u : Value) : w.grownBy (w.setCell a u) (some a.block) :=
  ⟨rfl, rfl, rfl, by simp [World.setCell], fun k _ hk => Below.heap_setCell _ _ _ _ (fun e => hk (by rw [e]))⟩
theorem gdrew (w : World) (n : Nat) (row : Option Nat) : w.grownBy (w.drewN n) row := ⟨rfl, rfl, rfl, Nat.le_refl _, fun _ _ _ => rfl⟩
theorem gof {w w' : World} (h : Below w.heap.size w w') (row : Option Nat) : w.grownBy w' row := ⟨h.os, h.tape, h.output, h.size, fun k hk _ => h.block k hk⟩
theorem gbelow {w w' : World} (h : w.grownBy w' none) : Below w.heap.size w w' := ⟨h.os, h.tape, h.output, h.size, fun k hk => h.block k hk (by simp)⟩

/-- A reader: its text, where it stands, its depth. -/
def Rdr (w : World) (b : Nat) (s : ByteArray) (at_ d : Int) : Prop := w.heap[b]? = some (.cells #[.string s, .int .i64 at_, .int .i64 d] 48 (0, 0))
theorem Rdr.lt {w : World} {b : Nat} {s : ByteArray} {p d : Int} (h : Rdr w b s p d) : b < w.heap.size := (Array.getElem?_eq_some_iff.1 h).1
theorem Rdr.text {w : World} {b : Nat} {s : ByteArray} {p d : Int} (h : Rdr w b s p d) : w.cell? ⟨b, 0, none⟩ = some (.string s) := by unfold Rdr at h; simp [World.cell?, h]
theorem Rdr.at_ {w : World} {b : Nat} {s : ByteArray} {p d : Int} (h : Rdr w b s p d) : w.cell? ⟨b, 1, none⟩ = some (.int .i64 p) := by unfold Rdr at h; simp [World.cell?, h]
theorem Rdr.depth {w : World} {b : Nat} {s : ByteArray} {p d : Int} (h : Rdr w b s p d) : w.cell? ⟨b, 2, none⟩ = some (.int .i64 d) := by unfold Rdr at h; simp [World.cell?, h]
theorem Rdr.free {w : World} {b : Nat} {s : ByteArray} {p d : Int} (h : Rdr w b s p d) : w.frozen? ⟨b, 1, none⟩ = false := by unfold Rdr at h; simp [World.frozen?, h]
theorem Rdr.set {w : World} {b : Nat} {s : ByteArray} {p d : Int} (h : Rdr w b s p d) (q : Int) : Rdr (w.setCell ⟨b, 1, none⟩ (.int .i64 q)) b s q d := by
  unfold Rdr at h ⊢
  simp [World.setCell, Array.getElem?_modify, h]
theorem Rdr.kept {w w' : World} {b : Nat} {s : ByteArray} {p d : Int} (h : Rdr w b s p d) (hg : w.grownBy w' none) : Rdr w' b s p d := by
  unfold Rdr at h ⊢
  rw [hg.block b (Array.getElem?_eq_some_iff.1 h).1 (by simp), h]

/-- What is left of a text from a place on. -/
def from_ (s : ByteArray) (p : Nat) : List UInt8 := s.data.toList.drop p
theorem from_lt (s : ByteArray) (k : Nat) (h : k < s.size) : from_ s k = s[k] :: from_ s (k + 1) := by
  unfold from_
  rw [List.drop_eq_getElem_cons (by simpa using h)]; rfl
theorem from_ge (s : ByteArray) (k : Nat) (h : s.size ≤ k) : from_ s k = [] := by
  unfold from_
  exact List.drop_eq_nil_of_le (by rw [Array.length_toList]; exact h)
theorem from_length (s : ByteArray) (k : Nat) : (from_ s k).length = s.size - k := by
  unfold from_
  rw [List.length_drop, Array.length_toList]; rfl
theorem u8_bd (x : UInt8) : 0 ≤ (x.toNat : Int) ∧ (x.toNat : Int) < 256 := by have := x.toNat_lt; omega
theorem u8_eq (x : UInt8) (k : Nat) (hk : k < 256) : ((x.toNat : Int) == (k : Int)) = (x == UInt8.ofNat k) := by
  by_cases h : x = UInt8.ofNat k
  · subst h
    simp
    omega
  · rw [beq_eq_false_iff_ne.2 h, beq_eq_false_iff_ne]
    intro e
    apply h
    have : x.toNat = k := by omega
    rw [← this]
    simp

set_option maxHeartbeats 400000 in
theorem isBlank_any (c : UInt8) (w : World) : Calls Tryz.prog 43 #[.int .u8 c.toNat] w fun e w' => e = .returned (.bool (isBlank c)) ∧ w' = w := by
  have e1 : ((c.toNat : Int) == 32) = (c == 32) := u8_eq c 32 (by omega)
  have e2 : ((c.toNat : Int) == 9) = (c == 9) := u8_eq c 9 (by omega)
  have e3 : ((c.toNat : Int) == 10) = (c == 10) := u8_eq c 10 (by omega)
  have e4 : ((c.toNat : Int) == 13) = (c == 13) := u8_eq c 13 (by omega)
  have HK : Hid (isBlank c = (((c.toNat : Int) == 32) || ((c.toNat : Int) == 9) || ((c.toNat : Int) == 10) || ((c.toNat : Int) == 13))) := by
    rw [e1, e2, e3, e4]; exact rfl
  clear e1 e2 e3 e4
  go_enter Tryz.func43, Tryz.ntmps43
  go_wp2
  all_goals
    go_ret
    exact ⟨by rw [HK.out]; simp [*], rfl⟩

/-- The value of a panic by a fault. -/
def faultV (code at_ : Int) : Value := .iface 40 (.agg #[.int .i64 code, .int .i64 at_])

set_option maxHeartbeats 400000 in
theorem fault_any (w : World) (b : Nat) (s : ByteArray) (p d code : Int) (h : Rdr w b s p d) : Calls Tryz.prog 36 #[.pointer (some ⟨b, 0, none⟩), .int .i64 code] w fun e w' => e = .returned (.agg #[.int .i64 code, .int .i64 p]) ∧ w.grownBy w' none := by
  have h1 := h.at_
  have hlt := h.lt
  have hne : ¬ b = w.heap.size := by omega
  go_enter Tryz.func36, Tryz.ntmps36
  go_wp2
  exact bodyPost_ret (v := .agg #[.int .i64 code, .int .i64 p]) (by simp [results, Tryz.results36, go_sem]) rfl ⟨rfl, ⟨rfl, rfl, rfl, by simp, fun k hk _ => Below.heap_alloc _ _ _ hk⟩⟩

/-- Where the reader stands, out of the world. -/
def atOf (w : World) (b : Nat) : Nat := (intOf ((w.cell? ⟨b, 1, none⟩).getD undef)).toNat
theorem Rdr.atOf {w : World} {b p : Nat} {s : ByteArray} {d : Int} (h : Rdr w b s p d) : atOf w b = p := by
  unfold YtihbpkebknifdaaGreatDoor.atOf
  rw [h.at_]
  simp [intOf]
theorem Rdr.drew {w : World} {b : Nat} {s : ByteArray} {p d : Int} (h : Rdr w b s p d) (n : Nat) : Rdr (w.drewN n) b s p d := h.kept (gdrew w n none)

set_option maxHeartbeats 400000 in
/-- first: to the next token; its first byte, or a blank. -/
theorem first_any (w : World) (b : Nat) (s : ByteArray) (p : Nat) (d : Int) (h : Rdr w b s p d) (hp : p ≤ s.size) (hs : s.size ≤ 1099511627776) :
    Calls Tryz.prog 30 #[.pointer (some ⟨b, 0, none⟩)] w fun e w' => ∃ (q : Nat) (c : UInt8), e = .returned (.int .u8 c.toNat) ∧ skip (from_ s p) = from_ s q ∧ q ≤ s.size ∧ ((q < s.size ∧ from_ s q = c :: from_ s (q + 1)) ∨ (from_ s q = [] ∧ c = 32)) ∧ Rdr w' b s q d ∧ w.grownBy w' (some b) := by
  go_enter Tryz.func30, Tryz.ntmps30
  go_wp2
  go_loopw [] (fun wr => ∃ q : Nat, q ≤ s.size ∧ Hid (skip (from_ s p) = skip (from_ s q)) ∧ Rdr wr b s q d ∧ w.grownBy wr (some b)) (fun wr => s.size - atOf wr b)
  case atStart => exact ⟨p, hp, hid rfl, h, grefl _ _⟩
  case round =>
    obtain ⟨q, hq, HS, hr, hg⟩ := hrel
    have h0 := hr.text
    have h1 := hr.at_
    have hf := hr.free
    have hlt := hr.lt
    have HR := hid hr
    have HG := hid hg
    clear hr hg h
    by_cases hqs : q < s.size
    · have hqi : (q : Int) < (s.size : Int) := by omega
      have hb := u8_bd s[q]
      have HF : Hid (from_ s q = s[q] :: from_ s (q + 1)) := from_lt s q hqs
      cases hbl : isBlank s[q] with
      | true =>
        have hcall := fun w => isBlank_any s[q] w
        rw [hbl] at hcall
        have HC := hid hcall
        clear hcall
        go_wp2
        go_quiet ((go_at_call 43; exact Calls.quiet_of_same (HC.out _)))
        rename_i nq
        go_wp2
        have hR2 : Rdr ((wr.drewN nq).setCell ⟨b, 1, none⟩ (.int .i64 ((q : Int) + 1))) b s ((q + 1 : Nat) : Int) d := by
          rw [show ((q + 1 : Nat) : Int) = (q : Int) + 1 by omega]
          exact (HR.out.drew nq).set _
        refine ⟨⟨q + 1, hqs, ?_, hR2, ?_⟩, ?_⟩
        · rw [HF.out] at HS
          have : skip (s[q] :: from_ s (q + 1)) = skip (from_ s (q + 1)) := by
            unfold skip
            rw [List.dropWhile_cons, if_pos hbl]
          rw [this] at HS
          exact HS
        · exact gtrans HG.out (gtrans (gdrew _ nq _) (gset _ _ _))
        · rw [hR2.atOf, HR.out.atOf]
          omega
      | false =>
        have hcall := fun w => isBlank_any s[q] w
        rw [hbl] at hcall
        have HC := hid hcall
        have hne : ((q : Int) == (s.size : Int)) = false := by simp; omega
        clear hcall
        go_wp2
        go_quiet ((go_at_call 43; exact Calls.quiet_of_same (HC.out _)))
        rename_i nq
        go_wp2
        go_quiet (fail)
        go_wp2
        go_quiet (fail)
        go_wp2
        go_ret
        refine ⟨q, s[q], rfl, ?_, hq, .inl ⟨hqs, HF.out⟩, ?_, ?_⟩
        · have hsk : skip (from_ s q) = from_ s q := by
            rw [HF.out]
            unfold skip
            rw [List.dropWhile_cons, if_neg (by simp [hbl])]
          rw [← hsk]
          exact HS.out
        · first | exact HR.out.drew _ | exact (HR.out.drew _).drew _ | exact ((HR.out.drew _).drew _).drew _
        · first | exact gtrans HG.out (gdrew _ _ _) | exact gtrans HG.out (gtrans (gdrew _ _ _) (gdrew _ _ _)) | exact gtrans HG.out (gtrans (gdrew _ _ _) (gtrans (gdrew _ _ _) (gdrew _ _ _)))
    · have hqi : decide ((q : Int) < (s.size : Int)) = false := by simp; omega
      have hne : ((q : Int) == (s.size : Int)) = true := by simp; omega
      have HF : Hid (from_ s q = []) := from_ge s q (by omega)
      go_wp2
      go_quiet (fail)
      rename_i nq
      go_wp2
      go_quiet (fail)
      go_wp2
      go_ret
      refine ⟨q, 32, rfl, ?_, hq, .inr ⟨HF.out, rfl⟩, ?_, ?_⟩
      · rw [HF.out] at HS ⊢
        exact HS.out
      · first | exact HR.out.drew _ | exact (HR.out.drew _).drew _
      · first | exact gtrans HG.out (gdrew _ _ _) | exact gtrans HG.out (gtrans (gdrew _ _ _) (gdrew _ _ _))

theorem u8_ne {c m : UInt8} (h : c ≠ m) : ((c.toNat : Int) != (m.toNat : Int)) = true := by
  rw [bne_iff_ne]
  intro e
  apply h
  rw [← UInt8.toNat_inj]
  omega

set_option maxHeartbeats 400000 in
/-- takes: a mark, if it is the next token. -/
theorem takes_any (w : World) (b : Nat) (s : ByteArray) (p : Nat) (d : Int) (m : UInt8) (hm : m ≠ 32) (h : Rdr w b s p d) (hp : p ≤ s.size) (hs : s.size ≤ 1099511627776) :
    Calls Tryz.prog 44 #[.pointer (some ⟨b, 0, none⟩), .int .u8 m.toNat] w fun e w' => ∃ q : Nat, q ≤ s.size ∧ Rdr w' b s q d ∧ w.grownBy w' (some b) ∧
      ((e = .returned (.bool true) ∧ skip (from_ s p) = m :: from_ s q) ∨ (e = .returned (.bool false) ∧ skip (from_ s p) = from_ s q ∧ (from_ s q).head? ≠ some m)) := by
  go_enter Tryz.func44, Tryz.ntmps44
  go_wp2_with fail
  refine (first_any w b s p d h hp hs).mono ?_
  rintro e w1 ⟨q, c, rfl, hsk, hq, hc, hr, hg⟩
  have HS := hid hsk
  have HR := hid hr
  have HG := hid hg
  have HC := hid hc
  have h1 := hr.at_
  have hf := hr.free
  have hlt := hr.lt
  clear hsk hr hg h hc
  by_cases hd : c = m
  · subst hd
    go_wp2
    go_ret
    rcases HC.out with ⟨hqs, hc⟩ | ⟨_, hc⟩
    · have hR2 : Rdr (w1.setCell ⟨b, 1, none⟩ (.int .i64 ((q : Int) + 1))) b s ((q + 1 : Nat) : Int) d := by
        rw [show ((q + 1 : Nat) : Int) = (q : Int) + 1 by omega]
        exact HR.out.set _
      exact ⟨q + 1, hqs, hR2, gtrans HG.out (gset _ _ _), .inl ⟨rfl, by rw [HS.out]; exact hc⟩⟩
    · exact absurd hc hm
  · have hne := u8_ne hd
    have HD := hid hd
    clear hd
    go_wp2
    go_ret
    refine ⟨q, hq, HR.out, HG.out, .inr ⟨rfl, HS.out, ?_⟩⟩
    rcases HC.out with ⟨hqs, hc⟩ | ⟨hc, _⟩
    · rw [hc]
      simp only [List.head?_cons, ne_eq, Option.some.injEq]
      exact HD.out
    · rw [hc]
      simp

/-- A panic by a fault. -/
def faulted (code : Int) (q : Nat) : Ending := .panicked [{ v := faultV code q, recovered := false }]

set_option maxHeartbeats 400000 in
/-- wants: a mark, or a fault. -/
theorem wants_any (w : World) (b : Nat) (s : ByteArray) (p : Nat) (d : Int) (m : UInt8) (hm : m ≠ 32) (h : Rdr w b s p d) (hp : p ≤ s.size) (hs : s.size ≤ 1099511627776) :
    Calls Tryz.prog 45 #[.pointer (some ⟨b, 0, none⟩), .int .u8 m.toNat] w fun e w' => ∃ q : Nat, q ≤ s.size ∧ Rdr w' b s q d ∧ w.grownBy w' (some b) ∧
      ((e = .returned (.tuple #[]) ∧ skip (from_ s p) = m :: from_ s q) ∨ (e = faulted 22 q ∧ skip (from_ s p) = from_ s q ∧ (from_ s q).head? ≠ some m)) := by
  go_enter Tryz.func45, Tryz.ntmps45
  go_wp2_with fail
  refine (takes_any w b s p d m hm h hp hs).mono ?_
  rintro e w1 ⟨q, hq, hr, hg, ⟨rfl, h1⟩ | ⟨rfl, h1, h2⟩⟩
  · have HS := hid h1
    clear h1
    go_wp2
    go_end0
    exact ⟨q, hq, hr, hg, .inl ⟨rfl, HS.out⟩⟩
  · have HS := hid h1
    have HD := hid h2
    clear h1 h2
    go_wp2_with (go_at_call 36; refine (fault_any _ b s q d 22 hr).mono ?_; rintro e w2 ⟨rfl, hg2⟩)
    exact ⟨rfl, q, hq, hr.kept hg2, gtrans hg (hg2.but _), .inr ⟨rfl, HS.out, HD.out⟩⟩

set_option maxHeartbeats 400000 in
/-- enter: a bracket or a brace, where it may be. -/
theorem enter_yes (w : World) (b : Nat) (s : ByteArray) (p : Nat) (d about : Int) (h : Rdr w b s p d) (hp : p < s.size) (hs : s.size ≤ 1099511627776) (ha : about < d) :
    Calls Tryz.prog 31 #[.pointer (some ⟨b, 0, none⟩), .int .i64 about] w fun e w' => e = .returned (.tuple #[]) ∧ Rdr w' b s (p + 1 : Nat) d ∧ w.grownBy w' (some b) := by
  have h1 := h.at_
  have h2 := h.depth
  have hf := h.free
  have hlt := h.lt
  have HR := hid h
  clear h
  go_enter Tryz.func31, Tryz.ntmps31
  go_wp2
  go_end0
  refine ⟨rfl, ?_, gset _ _ _⟩
  rw [show ((p + 1 : Nat) : Int) = (p : Int) + 1 by omega]
  exact HR.out.set _
set_option maxHeartbeats 400000 in
theorem enter_no (w : World) (b : Nat) (s : ByteArray) (p : Nat) (d about : Int) (h : Rdr w b s p d) (ha : d ≤ about) :
    Calls Tryz.prog 31 #[.pointer (some ⟨b, 0, none⟩), .int .i64 about] w fun e w' => e = faulted 21 p ∧ Rdr w' b s p d ∧ w.grownBy w' (some b) := by
  have h2 := h.depth
  have hlt := h.lt
  go_enter Tryz.func31, Tryz.ntmps31
  go_wp2_with (go_at_call 36; refine (fault_any _ b s p d 21 h).mono ?_; rintro e w2 ⟨rfl, hg2⟩)
  exact ⟨rfl, rfl, h.kept hg2, hg2.but _⟩

set_option maxHeartbeats 400000 in
/-- end: nothing is left, or a fault. -/
theorem end_any (w : World) (b : Nat) (s : ByteArray) (p : Nat) (d : Int) (h : Rdr w b s p d) (hp : p ≤ s.size) (hs : s.size ≤ 1099511627776) :
    Calls Tryz.prog 21 #[.pointer (some ⟨b, 0, none⟩)] w fun e w' => ∃ q : Nat, q ≤ s.size ∧ Rdr w' b s q d ∧ w.grownBy w' (some b) ∧ skip (from_ s p) = from_ s q ∧
      ((e = .returned (.tuple #[]) ∧ from_ s q = []) ∨ (e = faulted 25 q ∧ from_ s q ≠ [])) := by
  go_enter Tryz.func21, Tryz.ntmps21
  go_wp2_with fail
  refine (first_any w b s p d h hp hs).mono ?_
  rintro e w1 ⟨q, c, rfl, hsk, hq, hc, hr, hg⟩
  have HS := hid hsk
  have HR := hid hr
  have HG := hid hg
  have h0 := hr.text
  have h1 := hr.at_
  have hlt := hr.lt
  clear hsk hr hg h hc
  by_cases hqs : q < s.size
  · have hqi : (q : Int) < (s.size : Int) := by omega
    have HF : Hid (from_ s q = s[q] :: from_ s (q + 1)) := from_lt s q hqs
    go_wp2
    go_quiet (fail)
    rename_i nq
    have hrq := HR.out.drew nq
    go_wp2_with (go_at_call 36; refine (fault_any _ b s q d 25 hrq).mono ?_; rintro e w2 ⟨rfl, hg2⟩)
    exact ⟨rfl, q, hq, hrq.kept hg2, gtrans HG.out (gtrans (gdrew _ nq _) (hg2.but _)), HS.out, .inr ⟨rfl, by rw [HF.out]; simp⟩⟩
  · have hqi : decide ((q : Int) < (s.size : Int)) = false := by simp; omega
    have HF : Hid (from_ s q = []) := from_ge s q (by omega)
    go_wp2
    go_quiet (fail)
    rename_i nq
    have hrq := HR.out.drew nq
    go_wp2
    go_end0
    exact ⟨q, hq, hrq, gtrans HG.out (gdrew _ nq _), HS.out, .inl ⟨rfl, HF.out⟩⟩
end Go.Proofs.YtihbpkebknifdaaGreatDoor
