/- The walk of puts. -/
import Derived.Test.YtfalgjdhdgkbfabDoorFld
namespace Go.Proofs.YtfalgjdhdgkbfabDoor
open Go Go.RowKit
open Go.RowKit (wrap32 wrap64)

/-- May a field be laid? -/
def okOp (dd : Int) (N : Nat) (wd : Int) (n : Nat) : Bool :=
  if dd = 1 then decide (1 ≤ wd ∧ wd ≤ 8 ∧ N < 256 ^ wd.toNat) else if dd = 2 ∨ dd = 3 ∨ dd = 6 then true else if dd = 4 ∨ dd = 5 then decide (n ≤ 1048576) else false
/-- Its bytes. -/
def encOp (dd : Int) (N : Nat) (wd ii : Int) (fl : Bool) (B D : List UInt8) : List UInt8 :=
  if dd = 1 then layL N wd.toNat else if dd = 2 then layL (i64u ii) 8 else if dd = 3 then layL fl.toNat 1 else if dd = 6 then D else layL B.length 4 ++ B
theorem cells23 {w : World} {k : Nat} {v0 v1 v2 v3 v4 v5 v6 v7 v8 v9 v10 v11 v12 v13 v14 v15 v16 v17 v18 v19 v20 v21 v22 : Value} {t : TypeId} (h : w.heap[k]? = some (.cells #[v0, v1, v2, v3, v4, v5, v6, v7, v8, v9, v10, v11, v12, v13, v14, v15, v16, v17, v18, v19, v20, v21, v22] t (0, 0))) : (w.cell? ⟨k, 0, none⟩ = some v0 ∧ w.cell? ⟨k, 1, none⟩ = some v1 ∧ w.cell? ⟨k, 2, none⟩ = some v2 ∧ w.cell? ⟨k, 3, none⟩ = some v3 ∧ w.cell? ⟨k, 4, none⟩ = some v4 ∧ w.cell? ⟨k, 5, none⟩ = some v5 ∧ w.cell? ⟨k, 6, none⟩ = some v6 ∧ w.cell? ⟨k, 7, none⟩ = some v7 ∧ w.cell? ⟨k, 8, none⟩ = some v8 ∧ w.cell? ⟨k, 9, none⟩ = some v9 ∧ w.cell? ⟨k, 10, none⟩ = some v10 ∧ w.cell? ⟨k, 11, none⟩ = some v11 ∧ w.cell? ⟨k, 12, none⟩ = some v12 ∧ w.cell? ⟨k, 13, none⟩ = some v13 ∧ w.cell? ⟨k, 14, none⟩ = some v14 ∧ w.cell? ⟨k, 15, none⟩ = some v15 ∧ w.cell? ⟨k, 16, none⟩ = some v16 ∧ w.cell? ⟨k, 17, none⟩ = some v17 ∧ w.cell? ⟨k, 18, none⟩ = some v18 ∧ w.cell? ⟨k, 19, none⟩ = some v19 ∧ w.cell? ⟨k, 20, none⟩ = some v20 ∧ w.cell? ⟨k, 21, none⟩ = some v21 ∧ w.cell? ⟨k, 22, none⟩ = some v22) ∧ ∀ o, w.frozen? ⟨k, o, none⟩ = false := by
  refine ⟨?_, fun o => by simp [World.frozen?, h]⟩
  simp [World.cell?, h]
theorem fit_w (N k : Nat) (h8 : k ≤ 8) (hN : N < 18446744073709551616) : (k < 8 ∧ ¬ N < 256 ^ k) ∨ N < 256 ^ k := by
  by_cases h : k < 8
  · by_cases h2 : N < 256 ^ k
    · exact .inr h2
    · exact .inl ⟨h, h2⟩
  · have : k = 8 := by omega
    subst this
    exact .inr (by omega)

set_option maxRecDepth 100000 in
set_option maxHeartbeats 4000000 in
theorem puts_any (w : World) (b t m o : Nat) (f : Nat → Value) (F G : Nat → Prop) (l : List UInt8) (dd on : Int) (N : Nat) (wd ii : Int) (fl : Bool) (ba : Option Addr) (LB bc : Nat) (B : List UInt8) (y0 y1 y2 y3 y4 y5 y6 y7 y8 y9 y10 y11 y12 y13 y14 y15 : UInt8)
    (hN : N < 18446744073709551616) (h : Wr w b t m o f F l 0) (hF : ∀ g, w.heap.size ≤ g → F g) (hB : Rd w G (.slice ba LB bc) B) (hLB : B.length = LB) (hG : ¬ G b) (hl : l.length ≤ 17592186040000) (hlb : LB ≤ 140737488355328) :
    Calls Tryd.prog 7 #[.pointer (some ⟨b, o, none⟩), .agg #[.int .i64 dd, .int .i64 on, .int .u64 N, .int .i64 wd, .int .i64 ii, .bool fl, .slice ba LB bc, .int .u8 y0.toNat, .int .u8 y1.toNat, .int .u8 y2.toNat, .int .u8 y3.toNat, .int .u8 y4.toNat, .int .u8 y5.toNat, .int .u8 y6.toNat, .int .u8 y7.toNat, .int .u8 y8.toNat, .int .u8 y9.toNat, .int .u8 y10.toNat, .int .u8 y11.toNat, .int .u8 y12.toNat, .int .u8 y13.toNat, .int .u8 y14.toNat, .int .u8 y15.toNat]] w fun e w' => e = .returned (.bool (okOp dd N wd LB)) ∧ (∃ f', Wr w' b t m o f' F (if okOp dd N wd LB = true then l ++ encOp dd N wd ii fl B [y0, y1, y2, y3, y4, y5, y6, y7, y8, y9, y10, y11, y12, y13, y14, y15] else l) 0 ∧ Els o f f') ∧ w.grownBy w' (some b) := by
  obtain ⟨W0, hW0⟩ : ∃ x, w.alloc (.cells #[.int .i64 dd, .int .i64 on, .int .u64 N, .int .i64 wd, .int .i64 ii, .bool fl, .slice ba LB bc, .int .u8 y0.toNat, .int .u8 y1.toNat, .int .u8 y2.toNat, .int .u8 y3.toNat, .int .u8 y4.toNat, .int .u8 y5.toNat, .int .u8 y6.toNat, .int .u8 y7.toNat, .int .u8 y8.toNat, .int .u8 y9.toNat, .int .u8 y10.toNat, .int .u8 y11.toNat, .int .u8 y12.toNat, .int .u8 y13.toNat, .int .u8 y14.toNat, .int .u8 y15.toNat] 33) = x := ⟨_, rfl⟩
  have hP := heap_new w #[.int .i64 dd, .int .i64 on, .int .u64 N, .int .i64 wd, .int .i64 ii, .bool fl, .slice ba LB bc, .int .u8 y0.toNat, .int .u8 y1.toNat, .int .u8 y2.toNat, .int .u8 y3.toNat, .int .u8 y4.toNat, .int .u8 y5.toNat, .int .u8 y6.toNat, .int .u8 y7.toNat, .int .u8 y8.toNat, .int .u8 y9.toNat, .int .u8 y10.toNat, .int .u8 y11.toNat, .int .u8 y12.toNat, .int .u8 y13.toNat, .int .u8 y14.toNat, .int .u8 y15.toNat] 33
  rw [hW0] at hP
  obtain ⟨⟨x0, x1, x2, x3, x4, x5, x6, x7, x8, x9, x10, x11, x12, x13, x14, x15, x16, x17, x18, x19, x20, x21, x22⟩, xf⟩ := cells23 hP
  clear hP
  have hg0 : w.grownBy W0 none := by rw [← hW0]; exact galloc _ _ _
  have HW0 := hid (h.keep hg0)
  have HF0 : Hid (∀ g, W0.heap.size ≤ g → F g) := hid (fun g hg => hF g (Nat.le_trans hg0.size hg))
  have HB0 := hid (hB.keep hg0)
  have HG0 := hid (gsome hg0 (some b))
  have HWL := hid h
  clear h hB hF
  by_cases h1 : dd = 1
  · subst h1
    by_cases hok : 1 ≤ wd ∧ wd ≤ 8 ∧ N < 256 ^ wd.toNat
    · obtain ⟨k, rfl⟩ : ∃ k : Nat, wd = k := ⟨wd.toNat, by omega⟩
      rw [Int.toNat_natCast] at hok
      have hk1 : 1 ≤ k := by omega
      have hk8 : k ≤ 8 := by omega
      have HC : Hid (Calls Tryd.prog 12 #[.pointer (some ⟨b, o, none⟩), .int .u64 N, .int .i64 k] W0 fun e w' => e = .returned (.tuple #[]) ∧ (∃ f', Wr w' b t m o f' F (l ++ layL N k) 0 ∧ Els o f f') ∧ W0.grownBy w' (some b)) := wnum_ok W0 b t m o f F l 0 N k HW0.out HF0.out (by omega) hN hk1 hk8 hok.2.2
      have e1 : okOp 1 N (k : Int) LB = true := by unfold okOp; rw [if_pos rfl, Int.toNat_natCast]; exact decide_eq_true hok
      have e2 : encOp 1 N (k : Int) ii fl B [y0, y1, y2, y3, y4, y5, y6, y7, y8, y9, y10, y11, y12, y13, y14, y15] = layL N k := by unfold encOp; rw [if_pos rfl, Int.toNat_natCast]
      rw [e1, if_pos rfl, e2]
      have hfi := fit_ok N k hok.2.2
      have t8 : (8 * (k : Int)).toNat = 8 * k := by omega
      have i1 : ¬ (k : Int) < 1 := by omega
      have i2 : ¬ (8 : Int) < (k : Int) := by omega
      clear e1 e2 hok
      by_cases h8 : k < 8
      · have i3 : (k : Int) < 8 := by omega
        go_enter Tryd.func7, Tryd.ntmps7
        go_wp2_with (go_at_call 12; refine (HC.out).mono ?_; rintro e w1 ⟨rfl, hW1, hg1⟩)
        go_ret
        exact ⟨rfl, hW1, gtrans HG0.out hg1⟩
      · have i3 : ¬ (k : Int) < 8 := by omega
        go_enter Tryd.func7, Tryd.ntmps7
        go_wp2_with (go_at_call 12; refine (HC.out).mono ?_; rintro e w1 ⟨rfl, hW1, hg1⟩)
        go_ret
        exact ⟨rfl, hW1, gtrans HG0.out hg1⟩
    · have e1 : okOp 1 N wd LB = false := by unfold okOp; rw [if_pos rfl]; exact decide_eq_false hok
      rw [e1, if_neg (by decide)]
      clear e1
      by_cases hw1 : wd < 1
      · go_enter Tryd.func7, Tryd.ntmps7
        go_wp2_with fail
        go_ret
        exact ⟨rfl, ⟨f, HW0.out, Els.refl _ _⟩, HG0.out⟩
      · by_cases hw2 : 8 < wd
        · go_enter Tryd.func7, Tryd.ntmps7
          go_wp2_with fail
          go_ret
          exact ⟨rfl, ⟨f, HW0.out, Els.refl _ _⟩, HG0.out⟩
        · obtain ⟨k, rfl⟩ : ∃ k : Nat, wd = k := ⟨wd.toNat, by omega⟩
          rw [Int.toNat_natCast] at hok
          obtain ⟨hk, hk2⟩ : k < 8 ∧ ¬ N < 256 ^ k := by
            rcases fit_w N k (by omega) hN with h | h
            · exact h
            · exact absurd ⟨by omega, by omega, h⟩ hok
          have hfi := fit_no N k hk2
          have t8 : (8 * (k : Int)).toNat = 8 * k := by omega
          have i3 : (k : Int) < 8 := by omega
          clear hok hk2
          go_enter Tryd.func7, Tryd.ntmps7
          go_wp2_with fail
          go_ret
          exact ⟨rfl, ⟨f, HW0.out, Els.refl _ _⟩, HG0.out⟩
  · by_cases h2 : dd = 2
    · subst h2
      have HC : Hid (Calls Tryd.prog 28 #[.pointer (some ⟨b, o, none⟩), .int .i64 ii] W0 fun e w' => e = .returned (.tuple #[]) ∧ (∃ f', Wr w' b t m o f' F (l ++ layL (i64u ii) 8) 0 ∧ Els o f f') ∧ W0.grownBy w' (some b)) := wint_any W0 b t m o f F l 0 ii HW0.out HF0.out (by omega)
      have e1 : okOp 2 N wd LB = true := rfl
      have e2 : encOp 2 N wd ii fl B [y0, y1, y2, y3, y4, y5, y6, y7, y8, y9, y10, y11, y12, y13, y14, y15] = layL (i64u ii) 8 := rfl
      rw [e1, if_pos rfl, e2]
      clear e1 e2 h1
      go_enter Tryd.func7, Tryd.ntmps7
      go_wp2_with (go_at_call 28; refine (HC.out).mono ?_; rintro e w1 ⟨rfl, hW1, hg1⟩)
      go_ret
      exact ⟨rfl, hW1, gtrans HG0.out hg1⟩
    · by_cases h3 : dd = 3
      · subst h3
        have HC : Hid (Calls Tryd.prog 29 #[.pointer (some ⟨b, o, none⟩), .bool fl] W0 fun e w' => e = .returned (.tuple #[]) ∧ (∃ f', Wr w' b t m o f' F (l ++ layL fl.toNat 1) 0 ∧ Els o f f') ∧ W0.grownBy w' (some b)) := wflag_any W0 b t m o f F l 0 fl HW0.out HF0.out (by omega)
        have e1 : okOp 3 N wd LB = true := rfl
        have e2 : encOp 3 N wd ii fl B [y0, y1, y2, y3, y4, y5, y6, y7, y8, y9, y10, y11, y12, y13, y14, y15] = layL fl.toNat 1 := rfl
        rw [e1, if_pos rfl, e2]
        clear e1 e2 h1 h2
        go_enter Tryd.func7, Tryd.ntmps7
        go_wp2_with (go_at_call 29; refine (HC.out).mono ?_; rintro e w1 ⟨rfl, hW1, hg1⟩)
        go_ret
        exact ⟨rfl, hW1, gtrans HG0.out hg1⟩
      · by_cases h4 : dd = 4
        · subst h4
          obtain ⟨X, hX⟩ : ∃ x : Int, (LB : Int) = x := ⟨_, rfl⟩
          by_cases hlen : LB ≤ 1048576
          · have HC : Hid (Calls Tryd.prog 11 #[.pointer (some ⟨b, o, none⟩), .slice ba LB bc] W0 fun e w' => e = .returned (.tuple #[]) ∧ (∃ f', Wr w' b t m o f' F (l ++ (layL B.length 4 ++ B)) 0 ∧ Els o f f') ∧ W0.grownBy w' (some b)) := wbytes_ok W0 b t m o f F G l B 0 _ HW0.out HB0.out hG HF0.out hl (by rw [hLB]; exact hlen)
            have e1 : okOp 4 N wd LB = true := by unfold okOp; simp [hlen]
            have e2 : encOp 4 N wd ii fl B [y0, y1, y2, y3, y4, y5, y6, y7, y8, y9, y10, y11, y12, y13, y14, y15] = layL B.length 4 ++ B := rfl
            rw [e1, if_pos rfl, e2]
            have i1 : ¬ (1048576 : Int) < X := by omega
            have HLB := hid hLB
            clear e1 e2 h1 h2 h3 hLB hlen hlb
            go_enter Tryd.func7, Tryd.ntmps7
            go_wp2_with (go_at_call 11; refine (HC.out).mono ?_; rintro e w1 ⟨rfl, hW1, hg1⟩)
            go_ret
            exact ⟨rfl, hW1, gtrans HG0.out hg1⟩
          · have e1 : okOp 4 N wd LB = false := by unfold okOp; simp; omega
            rw [e1, if_neg (by decide)]
            have i1 : (1048576 : Int) < X := by omega
            clear e1 h1 h2 h3 hLB hlen hlb
            go_enter Tryd.func7, Tryd.ntmps7
            go_wp2_with fail
            go_ret
            exact ⟨rfl, ⟨f, HW0.out, Els.refl _ _⟩, HG0.out⟩
        · by_cases h5 : dd = 5
          · subst h5
            obtain ⟨X, hX⟩ : ∃ x : Int, (LB : Int) = x := ⟨_, rfl⟩
            by_cases hlen : LB ≤ 1048576
            · have HC : Hid (Calls Tryd.prog 13 #[.pointer (some ⟨b, o, none⟩), .string ⟨B.toArray⟩] W0 fun e w' => e = .returned (.tuple #[]) ∧ (∃ f', Wr w' b t m o f' F (l ++ (layL B.length 4 ++ B)) 0 ∧ Els o f f') ∧ W0.grownBy w' (some b)) := hid (by
                have := wtext_ok W0 b t m o f F l ⟨B.toArray⟩ 0 HW0.out HF0.out hl (by show B.toArray.size ≤ _; simp [hLB]; exact hlen)
                rw [show (ByteArray.mk B.toArray).data.toList = B by simp] at this
                exact this)
              have hcv := HB0.out.convert
              have e1 : okOp 5 N wd LB = true := by unfold okOp; simp [hlen]
              have e2 : encOp 5 N wd ii fl B [y0, y1, y2, y3, y4, y5, y6, y7, y8, y9, y10, y11, y12, y13, y14, y15] = layL B.length 4 ++ B := rfl
              rw [e1, if_pos rfl, e2]
              have i1 : ¬ (1048576 : Int) < X := by omega
              clear e1 e2 h1 h2 h3 h4 hLB hlen hlb
              go_enter Tryd.func7, Tryd.ntmps7
              go_wp2_with (go_at_call 13; refine (HC.out).mono ?_; rintro e w1 ⟨rfl, hW1, hg1⟩)
              go_ret
              exact ⟨rfl, hW1, gtrans HG0.out hg1⟩
            · have e1 : okOp 5 N wd LB = false := by unfold okOp; simp; omega
              rw [e1, if_neg (by decide)]
              have i1 : (1048576 : Int) < X := by omega
              clear e1 h1 h2 h3 h4 hLB hlen hlb
              go_enter Tryd.func7, Tryd.ntmps7
              go_wp2_with fail
              go_ret
              exact ⟨rfl, ⟨f, HW0.out, Els.refl _ _⟩, HG0.out⟩
          · by_cases h6 : dd = 6
            · subst h6
              have HC : Hid (Calls Tryd.prog 30 #[.pointer (some ⟨b, o, none⟩), .agg #[.int .u8 y0.toNat, .int .u8 y1.toNat, .int .u8 y2.toNat, .int .u8 y3.toNat, .int .u8 y4.toNat, .int .u8 y5.toNat, .int .u8 y6.toNat, .int .u8 y7.toNat, .int .u8 y8.toNat, .int .u8 y9.toNat, .int .u8 y10.toNat, .int .u8 y11.toNat, .int .u8 y12.toNat, .int .u8 y13.toNat, .int .u8 y14.toNat, .int .u8 y15.toNat]] W0 fun e w' => e = .returned (.tuple #[]) ∧ (∃ f', Wr w' b t m o f' F (l ++ [y0, y1, y2, y3, y4, y5, y6, y7, y8, y9, y10, y11, y12, y13, y14, y15]) 0 ∧ Els o f f') ∧ W0.grownBy w' (some b)) := wid_any W0 b t m o f F l [y0, y1, y2, y3, y4, y5, y6, y7, y8, y9, y10, y11, y12, y13, y14, y15] 0 HW0.out HF0.out (by omega) rfl
              have e1 : okOp 6 N wd LB = true := rfl
              have e2 : encOp 6 N wd ii fl B [y0, y1, y2, y3, y4, y5, y6, y7, y8, y9, y10, y11, y12, y13, y14, y15] = [y0, y1, y2, y3, y4, y5, y6, y7, y8, y9, y10, y11, y12, y13, y14, y15] := rfl
              rw [e1, if_pos rfl, e2]
              clear e1 e2 h1 h2 h3 h4 h5
              go_enter Tryd.func7, Tryd.ntmps7
              go_wp2_with (go_at_call 30; refine (HC.out).mono ?_; rintro e w1 ⟨rfl, hW1, hg1⟩)
              go_ret
              exact ⟨rfl, hW1, gtrans HG0.out hg1⟩
            · have e1 : okOp dd N wd LB = false := by unfold okOp; simp [h1, h2, h3, h4, h5, h6]
              rw [e1, if_neg (by decide)]
              clear e1
              go_enter Tryd.func7, Tryd.ntmps7
              go_wp2_with fail
              go_ret
              exact ⟨rfl, ⟨f, HW0.out, Els.refl _ _⟩, HG0.out⟩
end Go.Proofs.YtfalgjdhdgkbfabDoor
