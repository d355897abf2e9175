/- CopyFile, CopyFiles, Over, Room; a Load that is refused for its room. -/
import Derived.Test.YtlgjmdianmijeabDr
import Derived.Test.YtlgjmdianmijeabDt
import Derived.Lib.SmallJoins
namespace Go.Proofs.Ytlgjmdianmijeab
open Go Go.RowKit Go.MapKept Go.MuLone
open Go.RowKit (wrap32 wrap64)

theorem out_ne {B : Nat} {w : World} {v : Value} {l : List UInt8} {g : Nat} {cs : List Value} {t : TypeId} (h : Out B w v l) (hb : Blk w g cs t) (ht : t ≠ 5) : v.ownBlock ≠ some g := fun e => by
  rcases h.2 with ⟨h1, _⟩ | ⟨g', cap, cur, hv, hB, hgg, _⟩
  · rw [h1] at e; cases e
  · rw [hv] at e
    injection e with e
    have e' : g' = g := e
    subst e'
    unfold Blk at hb
    rw [hgg] at hb
    injection hb with hb
    injection hb with _ hb
    exact ht hb.symm
/-- What Within tells, at whatever world. -/
def wit (x : Int) (n : Nat) : Nat := if x.tmod n < 0 then (x.tmod n + n).toNat else (x.tmod n).toNat
theorem wit_lt (x : Int) (n : Nat) (h0 : 0 < n) : wit x n < n := by
  have h1 := Int.tmod_lt_of_pos x (show (0 : Int) < (n : Int) by omega)
  have h2 := Int.lt_tmod_of_pos x (show (0 : Int) < (n : Int) by omega)
  unfold wit
  split <;> omega
theorem within_det (x : Int) (n : Nat) (h0 : 0 < n) (hn : n ≤ 1152921504606846976) (w : World) : Calls Try.prog 7 #[.int .i64 x, .int .i64 n] w fun e w' => e = .returned (.int .i64 (wit x n : Nat)) ∧ w' = w := by
  have h1 := Int.tmod_lt_of_pos x (show (0 : Int) < (n : Int) by omega)
  have h2 := Int.lt_tmod_of_pos x (show (0 : Int) < (n : Int) by omega)
  have h3 : ¬ (n : Int) = 0 := by omega
  by_cases h4 : x.tmod n < 0
  · have e : ((wit x n : Nat) : Int) = x.tmod n + n := by unfold wit; rw [if_pos h4]; omega
    rw [e]
    go_enter Try.func7, Try.ntmps7
    go_wp2
    go_ret
    exact ⟨rfl, rfl⟩
  · have e : ((wit x n : Nat) : Int) = x.tmod n := by unfold wit; rw [if_neg h4]; omega
    rw [e]
    go_enter Try.func7, Try.ntmps7
    go_wp2
    go_ret
    exact ⟨rfl, rfl⟩
variable {w w' : World} {B b m : Nat} {lk room : Int} {off : Bool} {wr ar kp : Int} {F : List Fl}
set_option maxRecDepth 100000 in
theorem room_any (h : Dk w B b m 0 room off wr ar kp F) : Calls Try.prog 14 #[.pointer (some ⟨b, 0, none⟩)] w fun e w' => e = .returned (.int .i64 room) ∧ w.grownBy w' none := by
  have HD := hid h
  have HL := hid (lock_any h)
  clear h
  go_enter_defers Try.func14, Try.ntmps14
  go_wp2_with (go_at_call 28; refine HL.out.mono ?_; rintro e w1 ⟨rfl, hd, hg⟩; have HD1 := hid hd; have HG1 := hid hg; have y5 := hd.c.2.1; clear hd hg)
  refine leaves_cons (f := 29) (args := #[.pointer (some ⟨b, 0, none⟩)]) (by simp) (by simp [go_sem]) ?_
  refine (unlock_any .returning HD1.out).mono ?_
  rintro e u' w2 ⟨rfl, rfl, hd2, hg2⟩
  exact ⟨_, results_tmp rfl _ _ _, rfl, back_same HD.out.blk (gtrans HG1.out hg2) hd2.blk⟩
set_option maxRecDepth 100000 in
theorem load_no (w : World) (a : Option Addr) (n c : Nat) (room : Int) (h : room < 1 ∨ 268435456 < room) : Calls Try.prog 8 #[.slice a n c, .int .i64 room] w fun e w' => e = .returned (.tuple #[.pointer none, .int .i64 90]) ∧ w' = w := by
  have HNw := hid (new_no w room h)
  clear h
  go_enter Try.func8, Try.ntmps8
  go_wp2_with (go_at_call 17; (with_reducible refine HNw.out.mono ?_); rintro e w3 ⟨rfl, hw3⟩; have hw3' := hw3.symm; clear hw3; subst hw3')
  refine bodyPost_ret (results_tmp2 rfl _ _ _) rfl ?_
  exact ⟨rfl, rfl⟩
/-- Over: a row of the caller's own is written over. -/
theorem Out.set {B : Nat} {w : World} {g n c : Nat} {l : List UInt8} (h : Out B w (.slice (some ⟨g, 0, none⟩) n c) l) (i : Nat) (x : UInt8) : Out B (w.setCell ⟨g, i, none⟩ (.int .u8 x.toNat)) (.slice (some ⟨g, 0, none⟩) n c) (l.set i x) := by
  rcases h.2 with ⟨e, _⟩ | ⟨g', cap, cur, e, hb, hg, hle, hm, hs, ht⟩
  · cases e
  · injection e with e1 e2 e3
    injection e1 with e1
    injection e1 with e1 _ _
    subst e1
    subst e3
    refine ⟨by rw [byteCells_length, Nat.mul_one], .inr ⟨g, c, cur.setIfInBounds i (.int .u8 x.toNat), by rw [List.length_set, e2], hb, ?_, by rw [List.length_set]; exact hle, hm, by simpa using hs, ?_⟩⟩
    · exact Go.Joins.block_setCell hg _
    · rw [Array.toList_setIfInBounds, List.length_set]
      rw [List.take_set, ht]
      unfold Lib.byteCells
      rw [List.map_set]
theorem gtr_own {w w1 w2 : World} {g : Option Nat} (h : w.grownBy w1 g) (k : w1.grownBy w2 g) : w.grownBy w2 g := gtrans h k
set_option maxRecDepth 100000 in
set_option maxHeartbeats 800000 in
theorem over_any (w : World) (B : Nat) (v : Value) (l : List UInt8) (hv : Out B w v l) (hl : l.length ≤ 140737488355328) :
    Calls Try.prog 16 #[v] w fun e w' => e = .returned (.tuple #[]) ∧ w.grownBy w' v.ownBlock ∧ ∃ l', Out B w' v l' ∧ l'.length = l.length := by
  by_cases h0 : l = []
  · subst h0
    obtain ⟨a, c, rfl⟩ := hv.len
    have HV := hid hv
    clear hv hl
    go_enter Try.func16, Try.ntmps16
    go_upto_region 1 with fail
    go_loopw [2] (fun iv wr => iv = .int .i64 0 ∧ Hid (wr = w)) (fun _ _ => 0)
    case atStart => exact ⟨rfl, hid rfl⟩
    case round =>
      obtain ⟨rfl, HW⟩ := hrel
      have hw := HW.out
      subst hw
      go_wp2_with fail
      go_end0
      first | exact ⟨rfl, grefl _ _, HV.out⟩ | exact ⟨rfl, grefl _ _, [], HV.out, rfl⟩
  · obtain ⟨g, c, e⟩ : ∃ g c, v = .slice (some ⟨g, 0, none⟩) l.length c := by
      rcases hv.2 with ⟨_, e2⟩ | ⟨g, c, cur, e, _⟩
      · exact absurd (List.eq_nil_of_length_eq_zero e2) h0
      · exact ⟨g, c, e⟩
    subst e
    have HV := hid hv
    obtain ⟨n, hn⟩ : ∃ n, l.length = n := ⟨_, rfl⟩
    rw [hn] at HV hl ⊢
    clear hv
    go_enter Try.func16, Try.ntmps16
    go_upto_region 1 with fail
    go_loopw [2] (fun iv wr => ∃ i : Nat, iv = .int .i64 i ∧ i ≤ n ∧ Hid (w.grownBy wr (some g) ∧ ∃ l', Out B wr (.slice (some ⟨g, 0, none⟩) n c) l' ∧ l'.length = n)) (fun iv _ => n - (intOf iv).toNat)
    case atStart => exact ⟨0, rfl, Nat.zero_le _, hid ⟨grefl _ _, l, HV.out, hn⟩⟩
    case round =>
      obtain ⟨i, rfl, hi, HC⟩ := hrel
      by_cases hlt : i < n
      · have hlt' : (i : Int) < (n : Int) := by omega
        obtain ⟨l', HO⟩ : ∃ l', Hid (Out B wr (.slice (some ⟨g, 0, none⟩) n c) l' ∧ l'.length = n) := ⟨HC.out.2.choose, hid HC.out.2.choose_spec⟩
        have hcell : ∃ y, wr.cell? ⟨g, i, none⟩ = some y ∧ wr.frozen? ⟨g, i, none⟩ = false := by
          rcases HO.out.1.2 with ⟨e, _⟩ | ⟨g', cap, cur, e, hb, hg, hle, hm, hs, ht⟩
          · cases e
          · injection e with e1 e2 e3
            injection e1 with e1
            injection e1 with e1 _ _
            subst e1
            refine ⟨cur[i]'(by omega), by simp [World.cell?, hg], by simp [World.frozen?, hg]⟩
        obtain ⟨y, hc1, hc2⟩ := hcell
        have HN : Hid (w.grownBy (wr.setCell ⟨g, i, none⟩ (.int .u8 238)) (some g) ∧ ∃ l', Out B (wr.setCell ⟨g, i, none⟩ (.int .u8 238)) (.slice (some ⟨g, 0, none⟩) n c) l' ∧ l'.length = n) := hid ⟨gtr_own HC.out.1 (gset wr ⟨g, i, none⟩ (.int .u8 238)), l'.set i 238, HO.out.1.set i 238, by rw [List.length_set]; exact HO.out.2⟩
        clear HC HO
        go_wp2_with fail
        go_roundw
        case rel => exact ⟨i + 1, by go_num, by omega, HN⟩
        case measure => simp [intOf]; omega
      · have hlt' : ¬ (i : Int) < (n : Int) := by omega
        go_wp2_with fail
        go_end0
        exact ⟨rfl, HC.out⟩
end Go.Proofs.Ytlgjmdianmijeab
