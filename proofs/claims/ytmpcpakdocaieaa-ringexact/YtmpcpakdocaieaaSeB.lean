/- The law's seat: Ring. -/
import Derived.Test.YtmpcpakdocaieaaSeA
namespace Go.Proofs.Ytmpcpakdocaieaa.Bk
open Go Go.RowKit
open Go.RowKit (wrap32 wrap64)

/-- What the seat's Ring leaves as it was: all blocks but the seat and its row. -/
structure KS (w w' : World) (sb : Nat) (v : Value) : Prop where
  os : w'.os = w.os
  tape : w'.tape = w.tape
  output : w'.output = w.output
  size : w.heap.size ≤ w'.heap.size
  block : ∀ k, k < w.heap.size → k ≠ sb → v.ownBlock ≠ some k → w'.heap[k]? = w.heap[k]?
theorem OutK.cut0 {B n c : Nat} {w : World} {a : Option Addr} {l : List Ky} (h : OutK B w (.slice a n c) l) : OutK B w (.slice a 0 c) [] := by
  refine ⟨fun k hk => by simp at hk, by simp [kcs], ?_⟩
  rcases h.2.2 with ⟨h1, _⟩ | ⟨g, cap, cur, hv, hB, hg, hle, hm, hs, ht⟩
  · simp only [Value.slice.injEq] at h1
    obtain ⟨rfl, _, rfl⟩ := h1
    exact .inl ⟨rfl, rfl⟩
  · simp only [Value.slice.injEq] at hv
    obtain ⟨rfl, _, rfl⟩ := hv
    exact .inr ⟨g, c, cur, rfl, hB, hg, Nat.zero_le _, hm, hs, by simp [kcs]⟩
set_option maxRecDepth 100000 in
set_option maxHeartbeats 1600000 in
theorem seatRing_any (w : World) (B sb : Nat) (F : Nat → Prop) (cs : List Value) (va : Option Addr) (vn vc : Nat) (lk l : List Ky) (a : Option Addr) (n c : Nat) (nx : Int) (hb : Blk w sb cs 66) (h4 : cs[4]? = some (.slice va vn vc)) (ho : OutK B w (.slice va vn vc) lk) (hB : B ≤ w.heap.size) (hr : RdK w F (.slice a n c) l) (hl : l.length ≤ 1000000) :
    Calls Try.prog 45 #[.pointer (some ⟨sb, 0, none⟩), .agg #[.slice a n c, .int .u64 nx]] w fun e w' => ∃ na nn nc, e = .returned (.agg #[.slice na nn nc, .int .u64 nx]) ∧ OutK B w' (.slice na nn nc) l ∧ Blk w' sb (cs.set 4 (.slice na nn nc)) 66 ∧ ((Value.slice na nn nc).ownBlock = (Value.slice va vn vc).ownBlock ∨ ∃ k, w.heap.size ≤ k ∧ (Value.slice na nn nc).ownBlock = some k) ∧ KS w w' sb (.slice va vn vc) := by
  have HC4 := hid h4
  have HL4 : Hid (4 < cs.length) := hid (List.getElem?_eq_some_iff.1 h4).1
  have HBk0 := hid hb
  have HO := hid ho
  have HR := hid hr
  have HBb := hid hB
  clear h4 hb ho hr hB
  go_enter Try.func45, Try.ntmps45
  go_upto_region 1 with (first
    | ((with_reducible refine wpList_box_row (by with_unfolding_all rfl) 69 _ (by with_unfolding_all rfl) [.slice a n c, .int .u64 nx] (by with_unfolding_all rfl) ?_); intro w1 B1 s1 g1; have HB1 := hid B1; have HG1 := hid g1; have HS1 := hid s1; clear B1 g1 s1)
    | ((with_reducible refine wpList_alloc_row (by with_unfolding_all rfl) 69 (by with_unfolding_all rfl) [.slice none 0 0, .int .u64 0] Try.zero69 ?_); intro w2 B2 s2 g2; have HB2 := hid B2; have HG2 := hid g2; have HS2 := hid s2; clear B2 g2 s2))
  simp only [Act.put, List.setIfInBounds_toArray, List.set_cons_zero, List.set_cons_succ]
  have HG := hid (gtrans HG1.out HG2.out)
  have HBk := hid (HBk0.out.keep HG.out)
  have HBp0 := hid (HB1.out.keep HG2.out)
  have HSz : Hid (w1.heap.size = w.heap.size + 1 ∧ w2.heap.size = w1.heap.size + 1 ∧ sb < w.heap.size) := hid ⟨by have := HS1.out; omega, by have := HS2.out; omega, HBk0.out.lt⟩
  obtain ⟨p3, hp3⟩ : ∃ q, w.heap.size = q := ⟨_, rfl⟩
  obtain ⟨p4, hp4⟩ : ∃ q, w1.heap.size = q := ⟨_, rfl⟩
  have HBp : Hid (Blk w2 p3 [.slice a n c, .int .u64 nx] 69) := hid (by rw [← hp3]; exact HBp0.out)
  have HBq : Hid (Blk w2 p4 [.slice none 0 0, .int .u64 0] 69) := hid (by rw [← hp4]; exact HB2.out)
  have HNe : Hid (sb ≠ p3 ∧ sb ≠ p4) := hid (by have := HSz.out; omega)
  have HNq3 : Hid (p4 ≠ p3) := hid (by have := HSz.out; omega)
  have HP34 : Hid (w.heap.size = p3 ∧ w1.heap.size = p4) := hid ⟨hp3, hp4⟩
  rw [hp3, hp4]
  clear hp3 hp4 HBp0 HB2 HB1
  have HO0 : Hid (OutK B w2 (.slice va 0 vc) []) := hid ((OutK.cut0 HO.out).keep HG.out)
  have HOw := hid (HO.out.keep HG.out)
  have HNs : Hid ((Value.slice va 0 vc).ownBlock ≠ some sb) := hid (fun e => (HO0.out.ne_blk HBk.out (by decide)) sb e rfl)
  have HNp : Hid ((Value.slice va 0 vc).ownBlock ≠ some p3) := hid (fun e => (HO0.out.ne_blk HBp.out (by decide)) p3 e rfl)
  have HNq : Hid ((Value.slice va 0 vc).ownBlock ≠ some p4) := hid (fun e => (HO0.out.ne_blk HBq.out (by decide)) p4 e rfl)
  have HRd := hid (HR.out.keep HG.out)
  have HBs : Hid (B ≤ w2.drew.heap.size) := hid (Nat.le_trans HBb.out HG.out.size)
  have HFin : Hid (∀ (w4 w5 w6 : World) na nn nc, OutK B w6 (.slice na nn nc) l → Blk w6 sb (cs.set 4 (.slice na nn nc)) 66 → ((Value.slice na nn nc).ownBlock = (Value.slice va 0 vc).ownBlock ∨ (Value.slice na nn nc).ownBlock = some w2.drew.heap.size) → w2.drew.grownBy w4 (Value.slice va 0 vc).ownBlock → w4.grownBy w5 (some sb) → w5.drew.grownBy w6 (some p4) → ∃ na' nn' nc', Ending.returned (.agg #[.slice na nn nc, .int .u64 nx]) = .returned (.agg #[.slice na' nn' nc', .int .u64 nx]) ∧ OutK B w6 (.slice na' nn' nc') l ∧ Blk w6 sb (cs.set 4 (.slice na' nn' nc')) 66 ∧ ((Value.slice na' nn' nc').ownBlock = (Value.slice va vn vc).ownBlock ∨ ∃ k, w.heap.size ≤ k ∧ (Value.slice na' nn' nc').ownBlock = some k) ∧ KS w w6 sb (.slice va vn vc)) := hid (fun w4 w5 w6 na nn nc h1 h2 h3 g4 g5 g6 => by
    have e0 : (Value.slice va 0 vc).ownBlock = (Value.slice va vn vc).ownBlock := by cases va <;> rfl
    have hg := HG.out
    have hz := HSz.out
    have hp := HP34.out
    refine ⟨na, nn, nc, rfl, h1, h2, ?_, ⟨?_, ?_, ?_, ?_, ?_⟩⟩
    · rcases h3 with h | h
      · exact .inl (h.trans e0)
      · exact .inr ⟨_, hg.size, h⟩
    · exact ((g6.os.trans g5.os).trans g4.os).trans hg.os
    · exact ((g6.tape.trans g5.tape).trans g4.tape).trans hg.tape
    · exact ((g6.output.trans g5.output).trans g4.output).trans hg.output
    · exact Nat.le_trans (Nat.le_trans hg.size g4.size) (Nat.le_trans g5.size g6.size)
    · intro k hk h8 h9
      have k2 : k < w2.drew.heap.size := Nat.lt_of_lt_of_le hk hg.size
      have k4 := Nat.lt_of_lt_of_le k2 g4.size
      have k5 := Nat.lt_of_lt_of_le k4 g5.size
      rw [g6.block k k5 (fun e => by injection e with e; omega)]
      have e5 := g5.block k k4 (fun e => by injection e with e; exact h8 e)
      have e4 := g4.block k k2 (fun e => h9 (by rw [← e0]; exact e.symm))
      exact (e5.trans e4).trans (hg.block k hk (by simp)))
  clear HR HG1 HG2 HS1 HS2
  refine wp_region_held_drew (S := (fun u => u.cell? ⟨p3, 0, none⟩ = some (.slice a n c))) (by kernel_rfl) ?_ (fun hHeld => ?_)
  · exact (HBp.out.keep (gdrew1 _ none)).cell 0
  refine wpAnyH_take (i := 0) (oi := { dst := some 5, op := Op.move (Operand.tmp 0), type := 51, pos := "seat.go:60", after := #[], guard := none }) (v := (.pointer (some ⟨sb, 0, none⟩))) rfl (by kernel_rfl) (by kernel_rfl) (by kernel_rfl) (fun _ _ _ h => h) (Or.inl ⟨by rfl, by intro u hSu; (try dsimp only at hSu); go_simp⟩) (by assumption) ?_
  (try simp only [Act.put, List.setIfInBounds_toArray, List.set_cons_zero, List.set_cons_succ])
  refine wpAnyH_take (i := 1) (oi := { dst := some 6, op := Op.move (Operand.tmp 0), type := 51, pos := "seat.go:60", after := #[], guard := none }) (v := (.pointer (some ⟨sb, 0, none⟩))) rfl (by kernel_rfl) (by kernel_rfl) (by kernel_rfl) (fun _ _ _ h => h) (Or.inl ⟨by rfl, by intro u hSu; (try dsimp only at hSu); go_simp⟩) (by assumption) ?_
  (try simp only [Act.put, List.setIfInBounds_toArray, List.set_cons_zero, List.set_cons_succ])
  refine wpAnyH_take (i := 2) (oi := { dst := some 7, op := Op.nilCheck (Operand.tmp 6), type := 0, pos := "seat.go:60", after := #[{ on := 1, ground := Ground.data }], guard := none }) (v := (.pointer (some ⟨sb, 0, none⟩))) rfl (by kernel_rfl) (by kernel_rfl) (by kernel_rfl) (fun _ _ _ h => h) (Or.inl ⟨by rfl, by intro u hSu; (try dsimp only at hSu); go_simp⟩) (by assumption) ?_
  (try simp only [Act.put, List.setIfInBounds_toArray, List.set_cons_zero, List.set_cons_succ])
  refine wpAnyH_take (i := 3) (oi := { dst := some 8, op := Op.fieldAddr 66 (Operand.tmp 7) 4, type := 0, pos := "seat.go:60", after := #[{ on := 2, ground := Ground.data }], guard := none }) (v := (.pointer (some ⟨sb, 4, none⟩))) rfl (by kernel_rfl) (by kernel_rfl) (by kernel_rfl) (fun _ _ _ h => h) (Or.inl ⟨by rfl, by intro u hSu; (try dsimp only at hSu); go_simp⟩) (by assumption) ?_
  (try simp only [Act.put, List.setIfInBounds_toArray, List.set_cons_zero, List.set_cons_succ])
  refine wpAnyH_take (i := 6) (oi := { dst := some 11, op := Op.fieldAddr 69 (Operand.tmp 3) 0, type := 0, pos := "seat.go:60", after := #[], guard := none }) (v := (.pointer (some ⟨p3, 0, none⟩))) rfl (by kernel_rfl) (by kernel_rfl) (by kernel_rfl) (fun _ _ _ h => h) (Or.inl ⟨by rfl, by intro u hSu; (try dsimp only at hSu); go_simp⟩) (by assumption) ?_
  (try simp only [Act.put, List.setIfInBounds_toArray, List.set_cons_zero, List.set_cons_succ])
  refine wpAnyH_take (i := 7) (oi := { dst := some 12, op := Op.load 55 (Operand.tmp 11), type := 55, pos := "seat.go:60", after := #[{ on := 6, ground := Ground.data }], guard := none }) (v := (.slice a n c)) rfl (by kernel_rfl) (by kernel_rfl) (by kernel_rfl) (fun _ _ _ h => h) (Or.inl ⟨by rfl, by intro u hSu; (try dsimp only at hSu); go_simp⟩) (by assumption) ?_
  (try simp only [Act.put, List.setIfInBounds_toArray, List.set_cons_zero, List.set_cons_succ])
  refine wpAnyH_ready (rs := [4]) (by kernel_rfl) (by simp) ?_
  refine AllReadyH.cons (o := { dst := some 9, op := Op.load 55 (Operand.tmp 8), type := 55, pos := "seat.go:60", after := #[{ on := 3, ground := Ground.data }], guard := none }) rfl (fun K hK => ?_) AllReadyH.nil
  have c4 : w2.drew.cell? ⟨sb, 4, none⟩ = some (.slice va vn vc) := ((HBk.out.keep (gdrew1 _ none)).cell 4).trans HC4.out
  go_simp
  clear c4
  refine hK.out _ _ ?_ (fun hHeld => ?_)
  · exact (HBp.out.keep (gdrew1 _ none)).cell 0
  clear hK K
  (try simp only [Act.put, List.setIfInBounds_toArray, List.set_cons_zero, List.set_cons_succ])
  refine wpAnyH_take (i := 5) (oi := { dst := some 10, op := Op.slice 55 (Operand.tmp 9) none (some (Operand.const (Value.int IntKind.i64 0))) none, type := 55, pos := "seat.go:60", after := #[{ on := 4, ground := Ground.data }], guard := none }) (v := (.slice va 0 vc)) rfl (by kernel_rfl) (by kernel_rfl) (by kernel_rfl) (fun _ _ _ h => h) (Or.inl ⟨by rfl, by intro u hSu; (try dsimp only at hSu); go_simp⟩) (by assumption) ?_
  (try simp only [Act.put, List.setIfInBounds_toArray, List.set_cons_zero, List.set_cons_succ])
  refine wpAnyH_ready (rs := [8]) (by kernel_rfl) (by simp) ?_
  refine AllReadyH.cons (o := { dst := some 13, op := Op.call { callee := Callee.builtin Builtin.append, args := #[Operand.tmp 10, Operand.tmp 12], argTypes := #[55, 55] }, type := 55, pos := "seat.go:60", after := #[{ on := 5, ground := Ground.data }, { on := 7, ground := Ground.data }], guard := none }) rfl (fun K hK => ?_) AllReadyH.nil
  refine step_append_keys rfl (.tmp 10) (.tmp 12) rfl B F [] l (.slice va 0 vc) (.slice a n c) rfl rfl (HO0.out.keep (gdrew1 _ none)) (HRd.out.keep (gdrew1 _ none)) (by simp; omega) (by have := HBs.out; exact this) ?_
  intro v4 w4 hO4 hg4 hat4
  obtain ⟨na, nn, nc, rfl⟩ := OutK.shape hO4
  have HO4 := hid hO4
  have HG4 : Hid (w2.drew.grownBy w4 (Value.slice va 0 vc).ownBlock) := hid hg4
  have HAt := hid hat4
  have HB4 := hid ((HBk.out.keep (gdrew1 _ none)).on HG4.out HNs.out)
  have HP4 := hid ((HBp.out.keep (gdrew1 _ none)).on HG4.out HNp.out)
  have HQ4 := hid ((HBq.out.keep (gdrew1 _ none)).on HG4.out HNq.out)
  have d4 : w4.cell? ⟨sb, 4, none⟩ = some (.slice va vn vc) := (HB4.out.cell 4).trans HC4.out
  have z4 := HB4.out.frozen 4
  clear hO4 hg4 hat4
  refine hK.out _ _ ?_ (fun hHeld => ?_)
  · exact HP4.out.cell 0
  clear hK K
  (try simp only [Act.put, List.setIfInBounds_toArray, List.set_cons_zero, List.set_cons_succ])
  refine wpAnyH_take (i := 9) (oi := { dst := some 14, op := Op.nilCheck (Operand.tmp 5), type := 0, pos := "seat.go:60", after := #[{ on := 0, ground := Ground.data }, { on := 0, ground := Ground.phase }, { on := 1, ground := Ground.phase }, { on := 2, ground := Ground.phase }, { on := 3, ground := Ground.phase }, { on := 4, ground := Ground.phase }, { on := 5, ground := Ground.phase }, { on := 6, ground := Ground.phase }, { on := 7, ground := Ground.phase }, { on := 8, ground := Ground.phase }], guard := none }) (v := (.pointer (some ⟨sb, 0, none⟩))) rfl (by kernel_rfl) (by kernel_rfl) (by kernel_rfl) (fun _ _ _ h => h) (Or.inl ⟨by rfl, by intro u hSu; (try dsimp only at hSu); go_simp⟩) (by assumption) ?_
  (try simp only [Act.put, List.setIfInBounds_toArray, List.set_cons_zero, List.set_cons_succ])
  refine wpAnyH_take (i := 10) (oi := { dst := some 15, op := Op.fieldAddr 66 (Operand.tmp 14) 4, type := 0, pos := "seat.go:60", after := #[{ on := 9, ground := Ground.data }, { on := 0, ground := Ground.phase }, { on := 1, ground := Ground.phase }, { on := 2, ground := Ground.phase }, { on := 3, ground := Ground.phase }, { on := 4, ground := Ground.phase }, { on := 5, ground := Ground.phase }, { on := 6, ground := Ground.phase }, { on := 7, ground := Ground.phase }, { on := 8, ground := Ground.phase }], guard := none }) (v := (.pointer (some ⟨sb, 4, none⟩))) rfl (by kernel_rfl) (by kernel_rfl) (by kernel_rfl) (fun _ _ _ h => h) (Or.inl ⟨by rfl, by intro u hSu; (try dsimp only at hSu); go_simp⟩) (by assumption) ?_
  (try simp only [Act.put, List.setIfInBounds_toArray, List.set_cons_zero, List.set_cons_succ])
  refine wpAnyH_ready (rs := [11]) (by kernel_rfl) (by simp) ?_
  refine AllReadyH.cons (o := { dst := none, op := Op.store 55 (Operand.tmp 15) (Operand.tmp 13), type := 0, pos := "seat.go:60", after := #[{ on := 10, ground := Ground.data }, { on := 8, ground := Ground.data }, { on := 8, ground := Ground.chain }, { on := 0, ground := Ground.phase }, { on := 1, ground := Ground.phase }, { on := 2, ground := Ground.phase }, { on := 3, ground := Ground.phase }, { on := 4, ground := Ground.phase }, { on := 5, ground := Ground.phase }, { on := 6, ground := Ground.phase }, { on := 7, ground := Ground.phase }, { on := 8, ground := Ground.phase }], guard := none }) rfl (fun K hK => ?_) AllReadyH.nil
  go_simp
  obtain ⟨w5, hw5⟩ : ∃ q, w4.setCell ⟨sb, 4, none⟩ (.slice na nn nc) = q := ⟨_, rfl⟩
  rw [hw5]
  have HG5 : Hid (w4.grownBy w5 (some sb)) := hid (by rw [← hw5]; exact gset _ _ _)
  have HB5 : Hid (Blk w5 sb (cs.set 4 (.slice na nn nc)) 66) := hid (by rw [← hw5]; exact HB4.out.set 4 _)
  have HP5 := hid (HP4.out.on HG5.out (by simp; exact fun e => HNe.out.1 e))
  have HQ5 := hid (HQ4.out.on HG5.out (by simp; exact fun e => HNe.out.2 e))
  have HO5 := hid (HO4.out.offB HG5.out HB4.out (by decide))
  clear hw5 d4 z4
  refine hK.out _ _ ?_ (fun hHeld => ?_)
  · exact HP5.out.cell 0
  clear hK K
  (try simp only [Act.put, List.setIfInBounds_toArray, List.set_cons_zero, List.set_cons_succ])
  refine wpAnyH_done (by kernel_rfl) ?_ _
  go_wp2_with fail
  have HS5 : Hid ((w5.drew).cell? ⟨sb, 4, none⟩ = some (.slice na nn nc) ∧ (w5.drew).cell? ⟨p3, 1, none⟩ = some (.int .u64 nx)) := hid ⟨((HB5.out.keep (gdrew1 _ none)).cell 4).trans (by rw [List.getElem?_set_self HL4.out]), (HP5.out.keep (gdrew1 _ none)).cell 1⟩
  refine wp_region_held_drew (S := (fun u => u.cell? ⟨sb, 4, none⟩ = some (.slice na nn nc) ∧ u.cell? ⟨p3, 1, none⟩ = some (.int .u64 nx))) (by kernel_rfl) ?_ (fun hHeld => ?_)
  · exact HS5.out
  refine wpAnyH_take (i := 0) (oi := { dst := some 16, op := Op.move (Operand.tmp 0), type := 51, pos := "seat.go:61", after := #[], guard := none }) (v := (.pointer (some ⟨sb, 0, none⟩))) rfl (by kernel_rfl) (by kernel_rfl) (by kernel_rfl) (fun _ _ _ h => h) (Or.inl ⟨by rfl, by intro u hSu; (try dsimp only at hSu); go_simp⟩) (by assumption) ?_
  (try simp only [Act.put, List.setIfInBounds_toArray, List.set_cons_zero, List.set_cons_succ])
  refine wpAnyH_take (i := 1) (oi := { dst := some 17, op := Op.nilCheck (Operand.tmp 16), type := 0, pos := "seat.go:61", after := #[{ on := 0, ground := Ground.data }], guard := none }) (v := (.pointer (some ⟨sb, 0, none⟩))) rfl (by kernel_rfl) (by kernel_rfl) (by kernel_rfl) (fun _ _ _ h => h) (Or.inl ⟨by rfl, by intro u hSu; (try dsimp only at hSu); go_simp⟩) (by assumption) ?_
  (try simp only [Act.put, List.setIfInBounds_toArray, List.set_cons_zero, List.set_cons_succ])
  refine wpAnyH_take (i := 2) (oi := { dst := some 18, op := Op.fieldAddr 66 (Operand.tmp 17) 4, type := 0, pos := "seat.go:61", after := #[{ on := 1, ground := Ground.data }], guard := none }) (v := (.pointer (some ⟨sb, 4, none⟩))) rfl (by kernel_rfl) (by kernel_rfl) (by kernel_rfl) (fun _ _ _ h => h) (Or.inl ⟨by rfl, by intro u hSu; (try dsimp only at hSu); go_simp⟩) (by assumption) ?_
  (try simp only [Act.put, List.setIfInBounds_toArray, List.set_cons_zero, List.set_cons_succ])
  refine wpAnyH_take (i := 3) (oi := { dst := some 19, op := Op.load 55 (Operand.tmp 18), type := 55, pos := "seat.go:61", after := #[{ on := 2, ground := Ground.data }], guard := none }) (v := (.slice na nn nc)) rfl (by kernel_rfl) (by kernel_rfl) (by kernel_rfl) (fun _ _ _ h => h) (Or.inl ⟨by rfl, by intro u hSu; (try dsimp only at hSu); go_simp⟩) (by assumption) ?_
  (try simp only [Act.put, List.setIfInBounds_toArray, List.set_cons_zero, List.set_cons_succ])
  refine wpAnyH_take (i := 4) (oi := { dst := some 20, op := Op.fieldAddr 69 (Operand.tmp 3) 1, type := 0, pos := "seat.go:61", after := #[], guard := none }) (v := (.pointer (some ⟨p3, 1, none⟩))) rfl (by kernel_rfl) (by kernel_rfl) (by kernel_rfl) (fun _ _ _ h => h) (Or.inl ⟨by rfl, by intro u hSu; (try dsimp only at hSu); go_simp⟩) (by assumption) ?_
  (try simp only [Act.put, List.setIfInBounds_toArray, List.set_cons_zero, List.set_cons_succ])
  refine wpAnyH_take (i := 5) (oi := { dst := some 21, op := Op.load 67 (Operand.tmp 20), type := 67, pos := "seat.go:61", after := #[{ on := 4, ground := Ground.data }], guard := none }) (v := (.int .u64 nx)) rfl (by kernel_rfl) (by kernel_rfl) (by kernel_rfl) (fun _ _ _ h => h) (Or.inl ⟨by rfl, by intro u hSu; (try dsimp only at hSu); go_simp⟩) (by assumption) ?_
  (try simp only [Act.put, List.setIfInBounds_toArray, List.set_cons_zero, List.set_cons_succ])
  refine wpAnyH_take (i := 6) (oi := { dst := some 22, op := Op.build 69 #[(0, Operand.tmp 19), (1, Operand.tmp 21)], type := 69, pos := "seat.go:61", after := #[{ on := 3, ground := Ground.data }, { on := 5, ground := Ground.data }], guard := none }) (v := (.agg #[.slice na nn nc, .int .u64 nx])) rfl (by kernel_rfl) (by kernel_rfl) (by kernel_rfl) (fun _ _ _ h => h) (Or.inl ⟨by rfl, by intro u hSu; (try dsimp only at hSu); go_simp⟩) (by assumption) ?_
  (try simp only [Act.put, List.setIfInBounds_toArray, List.set_cons_zero, List.set_cons_succ])
  refine wpAnyH_ready (rs := [7]) (by kernel_rfl) (by simp) ?_
  refine AllReadyH.cons (o := { dst := none, op := Op.store 69 (Operand.tmp 4) (Operand.tmp 22), type := 0, pos := "seat.go:61", after := #[{ on := 6, ground := Ground.data }, { on := 0, ground := Ground.phase }, { on := 1, ground := Ground.phase }, { on := 2, ground := Ground.phase }, { on := 3, ground := Ground.phase }, { on := 4, ground := Ground.phase }, { on := 5, ground := Ground.phase }, { on := 6, ground := Ground.phase }], guard := none }) rfl (fun K hK => ?_) AllReadyH.nil
  refine step_store_part rfl 69 _ _ rfl p4 0 [.slice none 0 0, .int .u64 0] [.slice na nn nc, .int .u64 nx] 69 rfl rfl (HQ5.out.keep (gdrew1 _ none)) (by simp) Try.size69 (ring_one _ _ _ _) ?_
  intro w6 B6 g6 s6
  have HQ6 : Hid (Blk w6 p4 [.slice na nn nc, .int .u64 nx] 69) := hid B6
  have HG6 : Hid (w5.drew.grownBy w6 (some p4)) := hid g6
  have HB6 := hid ((HB5.out.keep (gdrew1 _ none)).on HG6.out (by simp; exact fun e => HNe.out.2 e.symm))
  have HP6 := hid ((HP5.out.keep (gdrew1 _ none)).on HG6.out (by simp; exact fun e => HNq3.out e))
  have HO6 := hid ((HO5.out.keep (gdrew1 _ none)).offB HG6.out (HQ5.out.keep (gdrew1 _ none)) (by decide))
  clear B6 g6 s6
  refine hK.out _ _ ?_ (fun hHeld => ?_)
  · exact ⟨(HB6.out.cell 4).trans (by rw [List.getElem?_set_self HL4.out]), HP6.out.cell 1⟩
  clear hK K
  (try simp only [Act.put])
  refine wpAnyH_done (by kernel_rfl) ?_ _
  go_wp2_with fail
  refine bodyPost_ret (results_blk rfl _ p4 69 [.slice na nn nc, .int .u64 nx] _ rfl HQ6.out Try.underlying69 rfl Try.size69) rfl ?_
  exact HFin.out w4 w5 w6 na nn nc HO6.out HB6.out HAt.out HG4.out HG5.out HG6.out
end Go.Proofs.Ytmpcpakdocaieaa.Bk
