/- The walk of the book's look at its lists of bytes. -/
import Derived.Test.YtpbiofnncdneoaaGreatDoorX17
namespace Go.Proofs.YtpbiofnncdneoaaGreatDoor.Bk
open Go Go.RowKit
open Go.RowKit (wrap32 wrap64)

def slen : Value → Nat | .slice _ n _ => n | _ => 0

/-- A list that holds the mark m. -/
def Held (w : World) (g : Value) (m : Nat) : Prop :=
 ∃ (a : Option Addr) (n c : Nat), g = .slice a n c ∧ n ≤ 33554432 ∧ (0 < n → ∃ (b : Nat) (cs : Array Value), a = some ⟨b, 0, none⟩ ∧ w.heap[b]? = some (.cells cs 5 (0, 0)) ∧ ∀ j, j < n → cs[j]? = some (.int .u8 (mark m j).toNat))

theorem cell_of {w : World} {b j : Nat} {cs : Array Value} {e : TypeId} {u : Value} (h : w.heap[b]? = some (.cells cs e (0, 0))) (hu : cs[j]? = some u) : w.cell? ⟨b, j, none⟩ = some u := by
 simp [World.cell?, h, hu]

/-- Numbers as cells. -/
def ci (l : List Nat) : List Value := l.map fun (n : Nat) => Value.int .i64 (n : Int)
theorem ci_length (l : List Nat) : (ci l).length = l.length := by simp [ci]

theorem own_cells {w : World} {B : Nat} {e : TypeId} {a : Option Addr} {n c : Nat} {xs : List Value} (h : w.ownsRow B e 1 (.slice a n c) n xs) (hn : 0 < n) :
  ∃ b, a = some ⟨b, 0, none⟩ ∧ b < w.heap.size ∧ B ≤ b ∧ n ≤ c ∧ ∀ j, j < n → w.cell? ⟨b, j, none⟩ = xs[j]? := by
 rcases h.2 with ⟨h1, h2⟩ | ⟨g, cap, cur, hv, hb, hg, hle, hm, hs, ht⟩
 ·omega
 ·simp only [Value.slice.injEq] at hv
  obtain ⟨rfl, _, rfl⟩ := hv
  refine ⟨g, rfl, (Array.getElem?_eq_some_iff.1 hg).1, hb, hle, fun j hj => ?_⟩
  exact h.cellAt j (by omega)

theorem own_shape' {w : World} {B n : Nat} {e : TypeId} {v : Value} {xs : List Value} (h : w.ownsRow B e 1 v n xs) : ∃ a c, v = .slice a n c := by
 rcases h.2 with ⟨rfl, rfl⟩ | ⟨g, cap, cur, rfl, _⟩
 ·exact ⟨_, _, rfl⟩
 ·exact ⟨_, _, rfl⟩

set_option maxRecDepth 100000 in
set_option maxHeartbeats 1600000 in
theorem plain_any (w : World) (B bk n : Nat) (v0 v1 : Value) (A T D U : Int) (gs : List Value) (ms : List Nat) (h : Bkc w bk v0 v1 A T D U) (hn : n ≤ 1048576)
  (h0 : w.ownsRow B 74 1 v0 n gs) (h1 : w.ownsRow B 3 1 v1 n (ci ms)) (hms : ∀ m ∈ ms, m ≤ 1099511627776)
  (hh : ∀ (i : Nat) g m, gs[i]? = some g → ms[i]? = some m → Held w g m) :
  Calls Tryz.prog 68 #[.pointer (some ⟨bk, 0, none⟩)] w fun e w' => e = .returned (.bool true) ∧ ∃ k, w' = w.drewN k := by
 obtain ⟨a0, c0, rfl⟩ := own_shape' h0
 obtain ⟨a1, c1, rfl⟩ := own_shape' h1
 have hc0 : w.cell? ⟨bk, 0, none⟩ = some (.slice a0 n c0) := h.cell (i := 0) (by decide)
 have hc1 : w.cell? ⟨bk, 1, none⟩ = some (.slice a1 n c1) := h.cell (i := 1) (by decide)
 have hc3 : w.cell? ⟨bk, 3, none⟩ = some (.slice none 0 0) := h.cell (i := 3) (by decide)
 have hlt := h.lt
 have hl0 : gs.length = n := by have := h0.1; omega
 have hl1 : ms.length = n := by have := h1.1; rw [ci_length] at this; omega
 have H0 := hid h0
 have H1 := hid h1
 have HMS := hid hms
 have HH := hid hh
 have HL0 := hid hl0
 have HL1 := hid hl1
 obtain ⟨x, hx⟩ : ∃ x : Int, (n : Int) = x := ⟨_, rfl⟩
 have hx0 : 0 ≤ x := by omega
 have hx1 : x ≤ 1048576 := by omega
 have HX := hid hx
 clear h h0 h1 hms hh hl0 hl1
 go_enter Tryz.func68, Tryz.ntmps68
 go_wp2
 go_loopw [3] (fun iv wr => ∃ i : Nat, i ≤ 1048576 ∧ iv = .int .i64 i ∧ Hid (i ≤ n) ∧ ∃ k, wr = w.drewN k) (fun iv _ => n - (intOf iv).toNat)
 case atStart => exact ⟨0, by omega, rfl, hid (Nat.zero_le _), 0, rfl⟩
 case round =>
  as_aux_lemma =>
  obtain ⟨i, hi, rfl, HI, k0, rfl⟩ := hrel
  by_cases hlt2 : i < n
  ·have hlt' : (i : Int) < x := by have := HX.out; omega
   obtain ⟨b0, rfl, hb0, _, _, hcell0⟩ := own_cells H0.out (by omega)
   obtain ⟨b1, rfl, hb1, _, _, hcell1⟩ := own_cells H1.out (by omega)
   have hg0 : gs[i]? = some (gs[i]'(by have := HL0.out; omega)) := List.getElem?_eq_getElem _
   have hm0 : ms[i]? = some (ms[i]'(by have := HL1.out; omega)) := List.getElem?_eq_getElem _
   obtain ⟨m, HM⟩ : ∃ m, Hid (ms[i]'(by have := HL1.out; omega) = m) := ⟨_, hid rfl⟩
   have hd := HH.out i _ _ hg0 hm0
   rw [HM.out] at hd hm0
   have hmm : m ≤ 1099511627776 := HMS.out m (List.mem_of_getElem? hm0)
   obtain ⟨ag, ng, cg, hg, hng, hcells⟩ := hd
   have q0 := hcell0 i hlt2
   rw [hg0, hg] at q0
   have q1 := hcell1 i hlt2
   have q1' : w.cell? ⟨b1, i, none⟩ = some (.int .i64 m) := by
    rw [q1]
    simp [ci, hm0]
   clear q1 hcell0 hcell1 hg0 hm0 hg
   have HCS := hid hcells
   clear hcells
   obtain ⟨z, hz⟩ : ∃ z : Int, (ng : Int) = z := ⟨_, rfl⟩
   have hz0 : 0 ≤ z := by omega
   have hz1 : z ≤ 33554432 := by omega
   have HZ := hid hz
   go_wp2
   go_loopw [4] (fun kv wr => ∃ k : Nat, k ≤ 33554432 ∧ kv = .int .i64 k ∧ Hid (k ≤ ng) ∧ ∃ d, wr = w.drewN d) (fun kv _ => ng - (intOf kv).toNat)
   case atStart => exact ⟨0, by omega, rfl, hid (Nat.zero_le _), k0, rfl⟩
   case round =>
    as_aux_lemma =>
    obtain ⟨k, hk, rfl, HK, d, hd⟩ := hrel
    have r0 : wr.cell? ⟨bk, 0, none⟩ = some (.slice (some ⟨b0, 0, none⟩) n c0) := by rw [hd]; exact hc0
    have r1 : wr.cell? ⟨bk, 1, none⟩ = some (.slice (some ⟨b1, 0, none⟩) n c1) := by rw [hd]; exact hc1
    have r2 : wr.cell? ⟨b0, i, none⟩ = some (.slice ag ng cg) := by rw [hd]; exact q0
    have r3 : wr.cell? ⟨b1, i, none⟩ = some (.int .i64 m) := by rw [hd]; exact q1'
    have rs : wr.heap.size = w.heap.size := by rw [hd]; rfl
    have HRS := hid rs
    have rb : bk < wr.heap.size := by rw [rs]; exact hlt
    have rb0 : b0 < wr.heap.size := by rw [rs]; exact hb0
    have rb1 : b1 < wr.heap.size := by rw [rs]; exact hb1
    have HDD := hid hd
    clear hd rs
    by_cases hlt3 : k < ng
    ·have hlt3' : (k : Int) < z := by have := HZ.out; omega
     obtain ⟨bg, csg, rfl, hbk, hcs⟩ := HCS.out (by omega)
     have hbg : bg < w.heap.size := (Array.getElem?_eq_some_iff.1 hbk).1
     have hcg : ∀ j, j < ng → w.cell? ⟨bg, j, none⟩ = some (.int .u8 (mark m j).toNat) := fun j hj => cell_of hbk (hcs j hj)
     clear hbk hcs
     have hck : wr.cell? ⟨bg, k, none⟩ = some (.int .u8 (mark m k).toNat) := by rw [HDD.out]; exact hcg k hlt3
     have rbg : bg < wr.heap.size := by rw [HRS.out]; exact hbg
     have hat := fun w => at_any m k w hmm (by omega)
     obtain ⟨y, HY⟩ : ∃ y : Int, Hid (((mark m k).toNat : Int) = y) := ⟨_, hid rfl⟩
     rw [HY.out] at hck hat
     have HAT := hid hat
     clear hat hcg
     go_wp2
     go_quiet ((go_at_call 66; exact Calls.quiet_of_same (HAT.out _)))
     rename_i nq
     go_wp2
     refine ⟨⟨k + 1, by omega, by go_num, hid (by omega), d + nq, by rw [HDD.out, World.drewN_drewN]⟩, by simp [intOf]; omega⟩
    ·have hge : z ≤ (k : Int) := by have := HZ.out; omega
     go_wp2
     refine ⟨⟨i + 1, by omega, by go_num, hid (by omega), d, HDD.out⟩, by simp [intOf]; omega⟩
  ·have hge : x ≤ (i : Int) := by have := HX.out; omega
   go_wp2
   go_loop [5] (fun iv => iv = .int .i64 0) (fun _ => 0)
   case atStart => rfl
   case round =>
    subst hrel
    go_wp2
    go_ret
    exact ⟨rfl, _, rfl⟩
end Go.Proofs.YtpbiofnncdneoaaGreatDoor.Bk

/- append onto a row of one's own: what was there stays, whether the row moves or not. -/
namespace Go.Proofs.YtpbiofnncdneoaaGreatDoor.Bk
open Go Go.RowKit
open Go.RowKit (wrap32 wrap64)

/-- The first n cells of block k are what they were. -/
def KeepsTo (w w' : World) (k n : Nat) (e : TypeId) : Prop :=
 ∀ cs : Array Value, w.heap[k]? = some (.cells cs e (0, 0)) → ∃ cs' : Array Value, w'.heap[k]? = some (.cells cs' e (0, 0)) ∧ ∀ j, j < n → cs'[j]? = cs[j]?

theorem KeepsTo.same {w w' : World} {k n : Nat} {e : TypeId} (h : w'.heap[k]? = w.heap[k]?) : KeepsTo w w' k n e := fun cs hcs => ⟨cs, by rw [h]; exact hcs, fun _ _ => rfl⟩

section
variable {P : Program} (w : World)

theorem run_append_keeps (t ty : TypeId) (base : Nat) (e : TypeId) (i : TypeInfo) (z : Value) (bytes : Nat) (ht : P.underlying t = some (.slice e)) (hi : P.info? e = some i) (hz : i.zero = some z)
  (hsize : i.size = 1) (hby : i.bytes = bytes) (hzs : z.cells.size = 1)
  (v : Value) (n : Nat) (xs : List Value) (hown : w.ownsRow base e 1 v n xs)
  (ad : Addr) (c : Nat) (u : Value) (hu : w.cell? ad = some u) (h1 : u.oneCell' = true)
  (h63 : n + 1 ≤ maxLen) (hbytes : (n + 1) * bytes ≤ 140737488355328) (hbase : base ≤ w.heap.size) :
  ∃ g cap w', (Builtin.append_ #[t, t] ty #[v, .slice (some ad) 1 c]).run P w = .ok (.slice (some ⟨g, 0, none⟩) (n + 1) cap) w' ∧ w'.ownsRow base e 1 (.slice (some ⟨g, 0, none⟩) (n + 1) cap) (n + 1) (xs ++ [u]) ∧ w.grownBy w' v.ownBlock ∧
   (v.ownBlock = some g ∨ g = w.heap.size) ∧ ∀ k, v.ownBlock = some k → KeepsTo w w' k n e := by
 have hnews : ∀ j v, [u][j]? = some v → w.cell? (ad.add j) = some v := by
  intro j q hq
  cases j with
  | zero =>
   simp at hq
   subst hq
   have e0 : ad.add 0 = ad := by simp [Addr.add]
   rw [e0]
   exact hu
  | succ j => simp at hq
 have hl : [u].length = 1 * i.size := by rw [hsize]; rfl
 have hone : ∀ q ∈ [u], q.oneCell' = true := by
  intro q hq
  simp at hq
  rw [hq]
  exact h1
 obtain ⟨g, cap, w', hr, h2, h3, h4, h5⟩ := run_append_lies (P := P) w t ty base e i z 1 bytes ht hi hz hsize hby hzs (by decide) v n xs hown ad 1 c [u] rfl hnews hone (by decide) h63 hbytes hbase w.heap.size rfl
 refine ⟨g, cap, w', hr, h2, h3, h4, ?_⟩
 intro k hk
 rcases hown.2 with ⟨hv, _⟩ | ⟨g0, cap0, cur, hv, hb, hg, hle, hm, hs, ht'⟩
 ·rw [hv] at hk
  cases hk
 ·have hkg : k = g0 := by rw [hv] at hk; simp [Value.ownBlock] at hk; exact hk.symm
  subst hkg
  by_cases hroom : n + 1 ≤ cap0
  ·have hr' := run_append_room (P := P) w t ty e i ht hi k n cap0 cur hg ad 1 c [u] hl hnews hone hroom (by rw [hsize]; simp; omega)
   rw [← hv, hr] at hr'
   have hw' : w' = w.setRow k (cur.toList.take (n * i.size) ++ [u] ++ cur.toList.drop (n * i.size + [u].length)).toArray := by injection hr'
   intro cs hcs
   rw [hg] at hcs
   have hcc : cur = cs := by injection hcs with q; injection q
   subst hcc
   refine ⟨_, by rw [hw']; exact setRow_heap w k cur _ e _ hg, fun j hj => ?_⟩
   rw [hsize]
   simp only [List.getElem?_toArray, Nat.mul_one]
   rw [List.append_assoc, List.getElem?_append_left (by rw [List.length_take, Array.length_toList]; omega)]
   rw [List.getElem?_take, if_pos hj]
   simp
  ·have holds : ∀ j u, xs[j]? = some u → w.cell? ((⟨k, 0, none⟩ : Addr).add j) = some u := hown.cells (g := k) (by rw [hv]; rfl)
   have hr' := run_append_grow (P := P) w t ty e i z ht hi hz ⟨k, 0, none⟩ n cap0 xs (by rw [hsize]; exact hown.1) holds ad 1 c [u] hl hnews (by omega) (by simp only [maxLen] at h63; omega) (by rw [hby]; exact growslice_fits (by omega) hbytes)
   rw [← hv, hr] at hr'
   have hw' : w' = w.drew.alloc (.cells (xs.toArray ++ [u].toArray ++ Builtin.zeroCells z.cells (grownCap w (n + 1) cap0 e - (n + 1))) e) := by injection hr'
   refine KeepsTo.same ?_
   rw [hw']
   exact heap_alloc_old w.drew _ (Array.getElem?_eq_some_iff.1 hg).1

theorem wpList_append_keeps {ops : Array Oper} {rest : List Oper} {o : Oper} {a : Act} {Q : Exit → Act → World → Prop} (hgd : o.guard = none) (s x : Operand) (t : TypeId)
  (ho : o.op = .call { callee := .builtin .append, args := #[s, x], argTypes := #[t, t] })
  (base : Nat) (e : TypeId) (i : TypeInfo) (z : Value) (bytes : Nat) (ht : P.underlying t = some (.slice e)) (hi : P.info? e = some i) (hz : i.zero = some z)
  (hsize : i.size = 1) (hby : i.bytes = bytes) (hzs : z.cells.size = 1)
  (v : Value) (n : Nat) (xs : List Value) (hs : a.eval s = v) (hown : w.ownsRow base e 1 v n xs)
  (ad : Addr) (c : Nat) (u : Value) (hx : a.eval x = .slice (some ad) 1 c) (hu : w.cell? ad = some u) (h1 : u.oneCell' = true)
  (h63 : n + 1 ≤ maxLen) (hbytes : (n + 1) * bytes ≤ 140737488355328) (hbase : base ≤ w.heap.size)
  (h : ∀ g cap w', w'.ownsRow base e 1 (.slice (some ⟨g, 0, none⟩) (n + 1) cap) (n + 1) (xs ++ [u]) → w.grownBy w' v.ownBlock → (v.ownBlock = some g ∨ g = w.heap.size) → (∀ k, v.ownBlock = some k → KeepsTo w w' k n e) → wpList P ops Q rest (a.put o.dst (.slice (some ⟨g, 0, none⟩) (n + 1) cap)) w') : wpList P ops Q (o :: rest) a w := by
 refine wpList_plain hgd fun _ hK => ?_
 obtain ⟨g, cap, w', hr, h2, h3, h4, h5⟩ := run_append_keeps (P := P) w t o.type base e i z bytes ht hi hz hsize hby hzs v n xs hown ad c u hu h1 h63 hbytes hbase
 unfold Oper.wp execOp
 simp only [ho, resolve, invoke, builtin, Sem.run_bind, Sem.run_pure, Result.andThen_ok, List.map_toArray, List.map_cons, List.map_nil, hs, hx, hr]
 exact hK _ _ (h g cap w' h2 h3 h4 h5)
end
end Go.Proofs.YtpbiofnncdneoaaGreatDoor.Bk

/- What of the book stays when something is written. -/
namespace Go.Proofs.YtpbiofnncdneoaaGreatDoor.Bk
open Go Go.RowKit
open Go.RowKit (wrap32 wrap64)

/-- All blocks of cells of type e are as they were. -/
def Same (e : TypeId) (w w' : World) : Prop := ∀ (b : Nat) (cs : Array Value) (fr : Nat × Nat), w.heap[b]? = some (.cells cs e fr) → w'.heap[b]? = w.heap[b]?

theorem Same.refl (e : TypeId) (w : World) : Same e w w := fun _ _ _ _ => rfl
theorem Same.trans {e : TypeId} {a b c : World} (h : Same e a b) (k : Same e b c) : Same e a c := fun i cs fr hi => by
 have h1 := h i cs fr hi
 have h2 := k i cs fr (by rw [h1]; exact hi)
 rw [h2, h1]
theorem Same.below {e : TypeId} {w w' : World} (h : Below w.heap.size w w') : Same e w w' := fun b _ _ hb => h.block b (Array.getElem?_eq_some_iff.1 hb).1
theorem Same.alloc (e : TypeId) (w : World) (o : Obj) : Same e w (w.alloc o) := fun _ _ _ hb => heap_alloc_old w o (Array.getElem?_eq_some_iff.1 hb).1
theorem Same.drewN (e : TypeId) (w : World) (n : Nat) : Same e w (w.drewN n) := fun _ _ _ _ => rfl
theorem Same.grown {e e' : TypeId} {w w' : World} {B : Nat} {v : Value} {n : Nat} {xs : List Value} (ho : w.ownsRow B e' 1 v n xs) (hg : w.grownBy w' v.ownBlock) (hne : e ≠ e') : Same e w w' := fun b cs fr hb => by
 refine hg.block b (Array.getElem?_eq_some_iff.1 hb).1 ?_
 intro h
 rcases ho.2 with ⟨rfl, _⟩ | ⟨g, cap, cur, rfl, _, hgb, _⟩
 ·cases h
 ·have : b = g := by simpa [Value.ownBlock] using h
  subst this
  rw [hgb] at hb
  injection hb with q
  injection q with q1 q2
  exact hne q2.symm
theorem Same.set {e e' : TypeId} {w : World} {b i : Nat} {cs : Array Value} {fr : Nat × Nat} (hb : w.heap[b]? = some (.cells cs e' fr)) (hne : e ≠ e') (u : Value) : Same e w (w.setCell ⟨b, i, none⟩ u) := fun k cs' fr' hk => by
 refine Below.heap_setCell _ _ _ _ ?_
 intro h
 have h2 : k = b := h
 subst h2
 rw [hb] at hk
 injection hk with q
 injection q with q1 q2
 exact hne q2.symm

theorem Same.but {e e' : TypeId} {w w' : World} {b : Nat} {cs : Array Value} {fr : Nat × Nat} (hb : w.heap[b]? = some (.cells cs e' fr)) (hne : e ≠ e') (h : But w w' b) : Same e w w' := fun k cs' fr' hk => by
 refine h.block k ?_
 intro h2
 subst h2
 rw [hb] at hk
 injection hk with q
 injection q with q1 q2
 exact hne q2.symm

theorem own_same {e : TypeId} {w w' : World} {B n : Nat} {v : Value} {xs : List Value} (h : w.ownsRow B e 1 v n xs) (s : Same e w w') : w'.ownsRow B e 1 v n xs := by
 refine ⟨h.1, ?_⟩
 rcases h.2 with h2 | ⟨g, cap, cur, hv, hg, hh, r⟩
 ·exact Or.inl h2
 ·exact Or.inr ⟨g, cap, cur, hv, hg, by rw [s g _ _ hh]; exact hh, r⟩

theorem bkc_same {w w' : World} {bk : Nat} {v0 v1 : Value} {A T D U : Int} (h : Bkc w bk v0 v1 A T D U) (s : Same 63 w w') : Bkc w' bk v0 v1 A T D U := by
 obtain ⟨c, hb, hn, hc⟩ := h
 exact ⟨c, by rw [s bk _ _ hb]; exact hb, hn, hc⟩

theorem bkc_block {w : World} {bk : Nat} {v0 v1 : Value} {A T D U : Int} (h : Bkc w bk v0 v1 A T D U) : ∃ c, w.heap[bk]? = some (.cells c 63 (0, 0)) := by
 obtain ⟨c, hb, hn, hc⟩ := h
 exact ⟨c, hb⟩

theorem held_keeps {w w' : World} {g : Value} {m : Nat} (h : Held w g m) (k : ∀ b, g.ownBlock = some b → KeepsTo w w' b (slen g) 5) : Held w' g m := by
 obtain ⟨a, n, c, rfl, hn, hh⟩ := h
 refine ⟨a, n, c, rfl, hn, fun h0 => ?_⟩
 obtain ⟨b, cs, rfl, hb, hcs⟩ := hh h0
 obtain ⟨cs', hb', hcs'⟩ := k b rfl cs hb
 exact ⟨b, cs', rfl, hb', fun j hj => by rw [hcs' j hj]; exact hcs j hj⟩

theorem held_same {w w' : World} {g : Value} {m : Nat} (h : Held w g m) (s : Same 5 w w') : Held w' g m :=
 held_keeps h (fun b _ cs hcs => ⟨cs, by rw [s b cs _ hcs]; exact hcs, fun _ _ => rfl⟩)

/-- Two values that share no block. -/
def Apart (a b : Value) : Prop := a.ownBlock = none ∨ a.ownBlock ≠ b.ownBlock

/-- A list that is the book's own, marked. -/
def Fresh (w : World) (B : Nat) (g : Value) (m : Nat) : Prop := ∃ n, n ≤ 16777216 ∧ w.ownsRow B 5 1 g n (cb (markL m n))

theorem cb_markL (m n j : Nat) (h : j < n) : (cb (markL m n))[j]? = some (.int .u8 (mark m j).toNat) := by
 simp [cb, markL, h]

theorem own_held {w : World} {B n m : Nat} {g : Value} (hn : n ≤ 33554432) (h : w.ownsRow B 5 1 g n (cb (markL m n))) : Held w g m := by
 rcases h.2 with ⟨rfl, rfl⟩ | ⟨b, cap, cur, rfl, _, hg, hle, _, hs, ht⟩
 ·exact ⟨_, _, _, rfl, hn, fun h => by omega⟩
 ·refine ⟨_, _, _, rfl, hn, fun _ => ⟨b, cur, rfl, hg, fun j hj => ?_⟩⟩
  rw [← cb_markL m n j hj, ← ht, List.getElem?_take, if_pos (by omega)]
  simp

/-- The book: its cells, its lists, their marks; those from k to N are its own, each alone. -/
structure Bst (w : World) (B bk : Nat) (v0 v1 : Value) (A T D U : Int) (gs : List Value) (ms : List Nat) (k N : Nat) : Prop where
 cells : Bkc w bk v0 v1 A T D U
 row0 : w.ownsRow B 74 1 v0 gs.length gs
 row1 : w.ownsRow B 3 1 v1 gs.length (ci ms)
 held : ∀ (i : Nat) g m, gs[i]? = some g → ms[i]? = some m → Held w g m
 mle : ∀ m ∈ ms, m ≤ 1099511627776
 fresh : ∀ (i : Nat) g m, k ≤ i → i < N → gs[i]? = some g → ms[i]? = some m → Fresh w B g m ∧ ∀ (j : Nat) g', j ≠ i → gs[j]? = some g' → Apart g' g
 low : ∀ (i : Nat) g b, gs[i]? = some g → g.ownBlock = some b → b < w.heap.size

theorem Bst.len {w : World} {B bk : Nat} {v0 v1 : Value} {A T D U : Int} {gs : List Value} {ms : List Nat} {k N : Nat} (h : Bst w B bk v0 v1 A T D U gs ms k N) : ms.length = gs.length := by
 have := h.row1.1
 rw [ci_length] at this
 omega

theorem Bst.same {w w' : World} {B bk : Nat} {v0 v1 : Value} {A T D U : Int} {gs : List Value} {ms : List Nat} {k N : Nat} (h : Bst w B bk v0 v1 A T D U gs ms k N) (s : ∀ e, e = 5 ∨ e = 74 ∨ e = 3 ∨ e = 63 → Same e w w') (hsz : w.heap.size ≤ w'.heap.size) : Bst w' B bk v0 v1 A T D U gs ms k N where
 cells := bkc_same h.cells (s 63 (by simp))
 row0 := own_same h.row0 (s 74 (by simp))
 row1 := own_same h.row1 (s 3 (by simp))
 held := fun i g m hg hm => held_same (h.held i g m hg hm) (s 5 (by simp))
 mle := h.mle
 fresh := fun i g m h1 h2 hg hm => by
  obtain ⟨⟨n, hn, ho⟩, h4⟩ := h.fresh i g m h1 h2 hg hm
  exact ⟨⟨n, hn, own_same ho (s 5 (by simp))⟩, h4⟩
 low := fun i g b hg hb => Nat.lt_of_lt_of_le (h.low i g b hg hb) hsz

/-- The book behind one more byte of mark at the end of a list of its own. -/
theorem Bst.grew {w w' : World} {B bk : Nat} {v0 v1 : Value} {A T D U : Int} {gs : List Value} {ms : List Nat} {k N : Nat} (h : Bst w B bk v0 v1 A T D U gs ms k N) {gv : Value} {lg : Nat} {xs : List Value} (ho : w.ownsRow B 5 1 gv lg xs)
  (hg : w.grownBy w' gv.ownBlock) (hk : ∀ b, gv.ownBlock = some b → KeepsTo w w' b lg 5)
  (hsafe : ∀ (j : Nat) g', gs[j]? = some g' → slen g' ≤ lg ∨ g'.ownBlock ≠ gv.ownBlock) (hap : ∀ (i : Nat) r, k ≤ i → i < N → gs[i]? = some r → Apart r gv) : Bst w' B bk v0 v1 A T D U gs ms k N where
 cells := bkc_same h.cells (Same.grown ho hg (by decide))
 row0 := own_same h.row0 (Same.grown ho hg (by decide))
 row1 := own_same h.row1 (Same.grown ho hg (by decide))
 held := fun i g m hgi hm => by
  refine held_keeps (h.held i g m hgi hm) (fun b hb => ?_)
  by_cases hq : some b = gv.ownBlock
  ·intro cs hcs
   obtain ⟨cs', hb', hc'⟩ := hk b hq.symm cs hcs
   refine ⟨cs', hb', fun j hj => hc' j ?_⟩
   rcases hsafe i g hgi with h1 | h1
   ·omega
   ·exact absurd (hb.trans hq) h1
  ·intro cs hcs
   exact ⟨cs, by rw [hg.block b (Array.getElem?_eq_some_iff.1 hcs).1 hq]; exact hcs, fun _ _ => rfl⟩
 mle := h.mle
 fresh := fun i g m h1 h2 hgi hm => by
  obtain ⟨⟨n, hn, hown⟩, h4⟩ := h.fresh i g m h1 h2 hgi hm
  exact ⟨⟨n, hn, hown.kept hg (hap i g h1 h2 hgi)⟩, h4⟩
 low := fun i g b hgi hb => Nat.lt_of_lt_of_le (h.low i g b hgi hb) hg.size

theorem Apart.symm {a b : Value} (h : Apart a b) : Apart b a := by
 rcases h with h | h
 ·cases hb : b.ownBlock with
  | none => exact Or.inl hb
  | some x => exact Or.inr (by rw [h, hb]; exact fun k => by cases k)
 ·exact Or.inr (fun k => h k.symm)

/-- The book behind one list more. -/
theorem Bst.push {w w' : World} {B bk : Nat} {v0 v1 v0' v1' : Value} {A T D U U' T' : Int} {gs : List Value} {ms : List Nat} {k N : Nat} (h : Bst w B bk v0 v1 A T D U gs ms k N) {gv : Value} {m : Nat}
  (hc : Bkc w' bk v0' v1' A T' D U') (h0 : w'.ownsRow B 74 1 v0' (gs.length + 1) (gs ++ [gv])) (h1 : w'.ownsRow B 3 1 v1' (gs.length + 1) (ci ms ++ [.int .i64 m])) (hs : Same 5 w w')
  (hh : Held w' gv m) (hm : m ≤ 1099511627776) (hN : N ≤ gs.length) (hap : ∀ (i : Nat) r, k ≤ i → i < N → gs[i]? = some r → Apart gv r) (hsz : w.heap.size ≤ w'.heap.size) (hgl : ∀ b, gv.ownBlock = some b → b < w'.heap.size) : Bst w' B bk v0' v1' A T' D U' (gs ++ [gv]) (ms ++ [m]) k N where
 cells := hc
 row0 := by rw [List.length_append]; exact h0
 row1 := by rw [List.length_append]; simpa [ci] using h1
 held := fun i g q hg hq => by
  have hl := h.len
  by_cases hi : i < gs.length
  ·rw [List.getElem?_append_left hi] at hg
   rw [List.getElem?_append_left (by omega)] at hq
   exact held_same (h.held i g q hg hq) hs
  ·rw [List.getElem?_append_right (by omega)] at hg
   rw [List.getElem?_append_right (by omega)] at hq
   have hi2 : i = gs.length := by
    have := (List.getElem?_eq_some_iff.1 hg).1
    simp at this
    omega
   subst hi2
   rw [hl] at hq
   simp at hg hq
   subst hg
   subst hq
   exact hh
 mle := fun q hq => by
  rcases List.mem_append.1 hq with h2 | h2
  ·exact h.mle q h2
  ·simp at h2; omega
 fresh := fun i g q h2 h3 hg hq => by
  have hl := h.len
  rw [List.getElem?_append_left (by omega)] at hg
  rw [List.getElem?_append_left (by omega)] at hq
  obtain ⟨⟨n, hn, ho⟩, h4⟩ := h.fresh i g q h2 h3 hg hq
  refine ⟨⟨n, hn, own_same ho hs⟩, fun j g' hj hg' => ?_⟩
  by_cases hjl : j < gs.length
  ·rw [List.getElem?_append_left hjl] at hg'
   exact h4 j g' hj hg'
  ·rw [List.getElem?_append_right (by omega)] at hg'
   have hj2 : j = gs.length := by
    have := (List.getElem?_eq_some_iff.1 hg').1
    simp at this
    omega
   subst hj2
   simp at hg'
   subst hg'
   exact hap i g h2 h3 hg
 low := fun i g b hg hb => by
  by_cases hi : i < gs.length
  ·rw [List.getElem?_append_left hi] at hg
   exact Nat.lt_of_lt_of_le (h.low i g b hg hb) hsz
  ·rw [List.getElem?_append_right (by omega)] at hg
   have hi2 : i = gs.length := by
    have := (List.getElem?_eq_some_iff.1 hg).1
    simp at this
    omega
   subst hi2
   simp at hg
   subst hg
   exact hgl b hb
end Go.Proofs.YtpbiofnncdneoaaGreatDoor.Bk

namespace Go.Proofs.YtpbiofnncdneoaaGreatDoor.Bq
open Go Go.RowKit Go.Proofs.YtpbiofnncdneoaaGreatDoor.Bk
open Go.RowKit (wrap32 wrap64)

/-- Every new block is in the footprint. -/
def NewB (B : Nat → Prop) (w : World) : Prop := ∀ b, w.heap.size ≤ b → B b
theorem NewB.up {B : Nat → Prop} {w w' : World} (h : NewB B w) (hs : w.heap.size ≤ w'.heap.size) : NewB B w' := fun b hb => h b (Nat.le_trans hs hb)
/-- All blocks stay but those of the footprint. -/
structure Bel (B : Nat → Prop) (w w' : World) : Prop where
 os : w'.os = w.os
 tape : w'.tape = w.tape
 output : w'.output = w.output
 size : w.heap.size ≤ w'.heap.size
 block : ∀ k, k < w.heap.size → ¬ B k → w'.heap[k]? = w.heap[k]?
variable {B B' : Nat → Prop} {w w1 w2 w' : World} {e e' : TypeId} {v : Value} {n : Nat} {xs : List Value}
theorem Bel.refl (B : Nat → Prop) (w : World) : Bel B w w := ⟨rfl, rfl, rfl, Nat.le_refl _, fun _ _ _ => rfl⟩
theorem Bel.trans (h : Bel B w w1) (k : Bel B w1 w2) : Bel B w w2 := ⟨k.os.trans h.os, k.tape.trans h.tape, k.output.trans h.output, Nat.le_trans h.size k.size, fun b hb hn => (k.block b (Nat.lt_of_lt_of_le hb h.size) hn).trans (h.block b hb hn)⟩
theorem Bel.of (h : Below w.heap.size w w') : Bel B w w' := ⟨h.os, h.tape, h.output, h.size, fun b hb _ => h.block b hb⟩
theorem Bel.alloc (h : Bel B w w1) (_hb : NewB B w1) (o : Obj) : Bel B w (w1.alloc o) := h.trans (.of ((Below.refl _ _).alloc (Nat.le_refl _) o))
theorem Bel.grown {row : Option Nat} (h : Bel B w w1) (hg : w1.grownBy w2 row) (hr : ∀ j, row = some j → B j) : Bel B w w2 :=
 h.trans ⟨hg.os, hg.tape, hg.output, hg.size, fun b hb hn => hg.block b hb (fun k => hn (hr b k.symm))⟩
theorem Bel.setCell {b i : Nat} (h : Bel B w w1) (hb : B b) (u : Value) : Bel B w (w1.setCell ⟨b, i, none⟩ u) :=
 h.trans ⟨(Below.refl b w1 |>.setCell (Nat.le_refl _) u).os, (Below.refl b w1 |>.setCell (Nat.le_refl _) u).tape, (Below.refl b w1 |>.setCell (Nat.le_refl _) u).output, by simp [World.setCell], fun k _ hn => Below.heap_setCell _ _ _ _ (fun e => hn (by rw [show k = b from e]; exact hb))⟩
theorem Bel.drewN' (w : World) (d : Nat) : Bel B w (w.drewN d) := .of (Below.drewN' w d)
theorem Bel.drew (h : Bel B w w1) : Bel B w w1.drew := h.trans (Bel.drewN' w1 1)
theorem But.bel {b : Nat} (h : But w w' b) (hB : B b) : Bel B w w' := ⟨h.os, h.tape, h.output, Nat.le_of_eq h.size.symm, fun k _ hn => h.block k (fun e => hn (by rw [e]; exact hB))⟩
/-- A row of one's own, in the footprint. -/
def OwnR (w : World) (B : Nat → Prop) (e : TypeId) (v : Value) (n : Nat) (xs : List Value) : Prop :=
 xs.length = n * 1 ∧
 ((v = .slice none 0 0 ∧ n = 0) ∨
  ∃ g cap cur, v = .slice (some ⟨g, 0, none⟩) n cap ∧ B g ∧ w.heap[g]? = some (.cells cur e (0, 0)) ∧ n ≤ cap ∧ cap ≤ maxLen ∧ cur.size = cap * 1 ∧ cur.toList.take (n * 1) = xs)
theorem OwnR.own (h : OwnR w B e v n xs) : w.ownsRow 0 e 1 v n xs := by
 refine ⟨h.1, ?_⟩
 rcases h.2 with h2 | ⟨g, cap, cur, h1, _, h3⟩
 ·exact .inl h2
 ·exact .inr ⟨g, cap, cur, h1, Nat.zero_le _, h3⟩
theorem OwnR.of (h : w.ownsRow 0 e 1 v n xs) (hB : ∀ b, v.ownBlock = some b → B b) : OwnR w B e v n xs := by
 refine ⟨h.1, ?_⟩
 rcases h.2 with h2 | ⟨g, cap, cur, h1, _, h3⟩
 ·exact .inl h2
 ·exact .inr ⟨g, cap, cur, h1, hB g (by rw [h1]; rfl), h3⟩
theorem OwnR.lt (h : OwnR w B e v n xs) (b : Nat) (hb : v.ownBlock = some b) : B b ∧ b < w.heap.size := by
 refine ⟨?_, (h.own.lt b hb).2⟩
 rcases h.2 with ⟨h2, _⟩ | ⟨g, cap, cur, h1, hB, _⟩
 ·rw [h2] at hb; cases hb
 ·rw [h1] at hb
  have : g = b := by simpa [Value.ownBlock] using hb
  rw [← this]
  exact hB
theorem OwnR.inb (h : OwnR w B e v n xs) (b : Nat) (hb : v.ownBlock = some b) : B b := (h.lt b hb).1
theorem OwnR.alloc (h : OwnR w B e v n xs) (o : Obj) : OwnR (w.alloc o) B e v n xs := .of (h.own.alloc o) h.inb
theorem OwnR.kept {row : Option Nat} (h : OwnR w B e v n xs) (hg : w.grownBy w' row) (hne : v.ownBlock = none ∨ v.ownBlock ≠ row) : OwnR w' B e v n xs := .of (h.own.kept hg hne) h.inb
theorem OwnR.cells (h : OwnR w B e v n xs) {g : Nat} (hg : v.ownBlock = some g) : ∀ j u, xs[j]? = some u → w.cell? ((⟨g, 0, none⟩ : Addr).add j) = some u := h.own.cells hg
theorem OwnR.frozenAt {g cap : Nat} (h : OwnR w B e (.slice (some ⟨g, 0, none⟩) n cap) n xs) (j : Nat) : w.frozen? ⟨g, j, none⟩ = false := h.own.frozenAt j
theorem OwnR.stored {g cap : Nat} (h : OwnR w B e (.slice (some ⟨g, 0, none⟩) n cap) n xs) (j : Nat) (u : Value) : OwnR (w.setCell ⟨g, j, none⟩ u) B e (.slice (some ⟨g, 0, none⟩) n cap) n (xs.set j u) ∧ True := ⟨.of (h.own.stored j u).1 h.inb, trivial⟩
theorem OwnR.nil (w : World) (B : Nat → Prop) (e : TypeId) : OwnR w B e (.slice none 0 0) 0 [] := ⟨rfl, .inl ⟨rfl, rfl⟩⟩
theorem OwnR.mono (h : OwnR w B e v n xs) (hb : ∀ b, b < w.heap.size → B b → B' b) : OwnR w B' e v n xs := .of h.own (fun b k => hb b (h.lt b k).2 (h.lt b k).1)
theorem own_cells {a : Option Addr} {c : Nat} (h : OwnR w B e (.slice a n c) n xs) (hn : 0 < n) :
  ∃ b, a = some ⟨b, 0, none⟩ ∧ b < w.heap.size ∧ B b ∧ n ≤ c ∧ ∀ j, j < n → w.cell? ⟨b, j, none⟩ = xs[j]? := by
 obtain ⟨b, h1, h2, _, h4, h5⟩ := Bk.own_cells h.own hn
 exact ⟨b, h1, h2, h.inb b (by rw [h1]; rfl), h4, h5⟩
theorem own_shape' (h : OwnR w B e v n xs) : ∃ a c, v = .slice a n c := Bk.own_shape' h.own
theorem Same.grown (ho : OwnR w B e' v n xs) (hg : w.grownBy w' v.ownBlock) (hne : e ≠ e') : Same e w w' := Bk.Same.grown ho.own hg hne
theorem wpList_append_keeps {P : Program} (w : World) {ops : Array Oper} {rest : List Oper} {o : Oper} {a : Act} {Q : Exit → Act → World → Prop} (hgd : o.guard = none) (s x : Operand) (t : TypeId)
  (ho : o.op = .call { callee := .builtin .append, args := #[s, x], argTypes := #[t, t] })
  (base : Nat → Prop) (e : TypeId) (i : TypeInfo) (z : Value) (bytes : Nat) (ht : P.underlying t = some (.slice e)) (hi : P.info? e = some i) (hz : i.zero = some z)
  (hsize : i.size = 1) (hby : i.bytes = bytes) (hzs : z.cells.size = 1)
  (v : Value) (n : Nat) (xs : List Value) (hs : a.eval s = v) (hown : OwnR w base e v n xs)
  (ad : Addr) (c : Nat) (u : Value) (hx : a.eval x = .slice (some ad) 1 c) (hu : w.cell? ad = some u) (h1 : u.oneCell' = true)
  (h63 : n + 1 ≤ maxLen) (hbytes : (n + 1) * bytes ≤ 140737488355328) (hbase : NewB base w)
  (h : ∀ g cap w', OwnR w' base e (.slice (some ⟨g, 0, none⟩) (n + 1) cap) (n + 1) (xs ++ [u]) → w.grownBy w' v.ownBlock → (v.ownBlock = some g ∨ g = w.heap.size) → (∀ k, v.ownBlock = some k → KeepsTo w w' k n e) → wpList P ops Q rest (a.put o.dst (.slice (some ⟨g, 0, none⟩) (n + 1) cap)) w') : wpList P ops Q (o :: rest) a w :=
 Bk.wpList_append_keeps w hgd s x t ho 0 e i z bytes ht hi hz hsize hby hzs v n xs hs hown.own ad c u hx hu h1 h63 hbytes (Nat.zero_le _) (fun g cap w' q1 q2 q3 q4 => h g cap w' (.of q1 (fun b hb => by
  have hgb : g = b := by simpa [Value.ownBlock] using hb
  rw [← hgb]
  rcases q3 with q | q
  ·exact hown.inb g q
  ·exact hbase g (by omega))) q2 q3 q4)
end Go.Proofs.YtpbiofnncdneoaaGreatDoor.Bq

namespace Go.Proofs.YtpbiofnncdneoaaGreatDoor.Bq
open Go Go.RowKit Go.Proofs.YtpbiofnncdneoaaGreatDoor.Bk
open Go.RowKit (wrap32 wrap64)

theorem own_same {e : TypeId} {w w' : World} {B : Nat → Prop} {n : Nat} {v : Value} {xs : List Value} (h : OwnR w B e v n xs) (s : Same e w w') : OwnR w' B e v n xs := by
 refine ⟨h.1, ?_⟩
 rcases h.2 with h2 | ⟨g, cap, cur, hv, hg, hh, r⟩
 ·exact Or.inl h2
 ·exact Or.inr ⟨g, cap, cur, hv, hg, by rw [s g _ _ hh]; exact hh, r⟩






/-- A list that is the book's own, marked. -/
def Fresh (w : World) (B : Nat → Prop) (g : Value) (m : Nat) : Prop := ∃ n, n ≤ 16777216 ∧ OwnR w B 5 g n (cb (markL m n))


theorem own_held {w : World} {B : Nat → Prop} {n m : Nat} {g : Value} (hn : n ≤ 33554432) (h : OwnR w B 5 g n (cb (markL m n))) : Bk.Held w g m := by
 rcases h.2 with ⟨rfl, rfl⟩ | ⟨b, cap, cur, rfl, _, hg, hle, _, hs, ht⟩
 ·exact ⟨_, _, _, rfl, hn, fun h => by omega⟩
 ·refine ⟨_, _, _, rfl, hn, fun _ => ⟨b, cur, rfl, hg, fun j hj => ?_⟩⟩
  rw [← cb_markL m n j hj, ← ht, List.getElem?_take, if_pos (by omega)]
  simp

/-- The book: its cells, its lists, their marks; those from k to N are its own, each alone. -/
structure Bst (w : World) (B : Nat → Prop) (bk : Nat) (v0 v1 : Value) (A T D U : Int) (gs : List Value) (ms : List Nat) (k N : Nat) : Prop where
 cells : Bkc w bk v0 v1 A T D U
 row0 : OwnR w B 74 v0 gs.length gs
 row1 : OwnR w B 3 v1 gs.length (ci ms)
 held : ∀ (i : Nat) g m, gs[i]? = some g → ms[i]? = some m → Bk.Held w g m
 mle : ∀ m ∈ ms, m ≤ 1099511627776
 fresh : ∀ (i : Nat) g m, k ≤ i → i < N → gs[i]? = some g → ms[i]? = some m → Fresh w B g m ∧ ∀ (j : Nat) g', j ≠ i → gs[j]? = some g' → Apart g' g
 lowb : ∀ (i : Nat) g b, gs[i]? = some g → g.ownBlock = some b → b < w.heap.size ∧ B b
theorem Bst.low {w : World} {B : Nat → Prop} {bk : Nat} {v0 v1 : Value} {A T D U : Int} {gs : List Value} {ms : List Nat} {k N : Nat} (h : Bst w B bk v0 v1 A T D U gs ms k N) : ∀ (i : Nat) g b, gs[i]? = some g → g.ownBlock = some b → b < w.heap.size := fun i g b q1 q2 => (h.lowb i g b q1 q2).1

theorem Bst.len {w : World} {B : Nat → Prop} {bk : Nat} {v0 v1 : Value} {A T D U : Int} {gs : List Value} {ms : List Nat} {k N : Nat} (h : Bst w B bk v0 v1 A T D U gs ms k N) : ms.length = gs.length := by
 have := h.row1.1
 rw [ci_length] at this
 omega

theorem Bst.same {w w' : World} {B : Nat → Prop} {bk : Nat} {v0 v1 : Value} {A T D U : Int} {gs : List Value} {ms : List Nat} {k N : Nat} (h : Bst w B bk v0 v1 A T D U gs ms k N) (s : ∀ e, e = 5 ∨ e = 74 ∨ e = 3 ∨ e = 63 → Same e w w') (hsz : w.heap.size ≤ w'.heap.size) : Bst w' B bk v0 v1 A T D U gs ms k N where
 cells := bkc_same h.cells (s 63 (by simp))
 row0 := own_same h.row0 (s 74 (by simp))
 row1 := own_same h.row1 (s 3 (by simp))
 held := fun i g m hg hm => held_same (h.held i g m hg hm) (s 5 (by simp))
 mle := h.mle
 fresh := fun i g m h1 h2 hg hm => by
  obtain ⟨⟨n, hn, ho⟩, h4⟩ := h.fresh i g m h1 h2 hg hm
  exact ⟨⟨n, hn, own_same ho (s 5 (by simp))⟩, h4⟩
 lowb := fun i g b hg hb => ⟨Nat.lt_of_lt_of_le (h.low i g b hg hb) hsz, (h.lowb i g b hg hb).2⟩

/-- The book behind one more byte of mark at the end of a list of its own. -/
theorem Bst.grew {w w' : World} {B : Nat → Prop} {bk : Nat} {v0 v1 : Value} {A T D U : Int} {gs : List Value} {ms : List Nat} {k N : Nat} (h : Bst w B bk v0 v1 A T D U gs ms k N) {gv : Value} {lg : Nat} {xs : List Value} (ho : OwnR w B 5 gv lg xs)
  (hg : w.grownBy w' gv.ownBlock) (hk : ∀ b, gv.ownBlock = some b → KeepsTo w w' b lg 5)
  (hsafe : ∀ (j : Nat) g', gs[j]? = some g' → slen g' ≤ lg ∨ g'.ownBlock ≠ gv.ownBlock) (hap : ∀ (i : Nat) r, k ≤ i → i < N → gs[i]? = some r → Apart r gv) : Bst w' B bk v0 v1 A T D U gs ms k N where
 cells := bkc_same h.cells (Same.grown ho hg (by decide))
 row0 := own_same h.row0 (Same.grown ho hg (by decide))
 row1 := own_same h.row1 (Same.grown ho hg (by decide))
 held := fun i g m hgi hm => by
  refine held_keeps (h.held i g m hgi hm) (fun b hb => ?_)
  by_cases hq : some b = gv.ownBlock
  ·intro cs hcs
   obtain ⟨cs', hb', hc'⟩ := hk b hq.symm cs hcs
   refine ⟨cs', hb', fun j hj => hc' j ?_⟩
   rcases hsafe i g hgi with h1 | h1
   ·omega
   ·exact absurd (hb.trans hq) h1
  ·intro cs hcs
   exact ⟨cs, by rw [hg.block b (Array.getElem?_eq_some_iff.1 hcs).1 hq]; exact hcs, fun _ _ => rfl⟩
 mle := h.mle
 fresh := fun i g m h1 h2 hgi hm => by
  obtain ⟨⟨n, hn, hown⟩, h4⟩ := h.fresh i g m h1 h2 hgi hm
  exact ⟨⟨n, hn, hown.kept hg (hap i g h1 h2 hgi)⟩, h4⟩
 lowb := fun i g b hgi hb => ⟨Nat.lt_of_lt_of_le (h.low i g b hgi hb) hg.size, (h.lowb i g b hgi hb).2⟩


/-- The book behind one list more. -/
theorem Bst.push {w w' : World} {B : Nat → Prop} {bk : Nat} {v0 v1 v0' v1' : Value} {A T D U U' T' : Int} {gs : List Value} {ms : List Nat} {k N : Nat} (h : Bst w B bk v0 v1 A T D U gs ms k N) {gv : Value} {m : Nat}
  (hc : Bkc w' bk v0' v1' A T' D U') (h0 : OwnR w' B 74 v0' (gs.length + 1) (gs ++ [gv])) (h1 : OwnR w' B 3 v1' (gs.length + 1) (ci ms ++ [.int .i64 m])) (hs : Same 5 w w')
  (hh : Bk.Held w' gv m) (hm : m ≤ 1099511627776) (hN : N ≤ gs.length) (hap : ∀ (i : Nat) r, k ≤ i → i < N → gs[i]? = some r → Apart gv r) (hsz : w.heap.size ≤ w'.heap.size) (hgl : ∀ b, gv.ownBlock = some b → b < w'.heap.size ∧ B b) : Bst w' B bk v0' v1' A T' D U' (gs ++ [gv]) (ms ++ [m]) k N where
 cells := hc
 row0 := by rw [List.length_append]; exact h0
 row1 := by rw [List.length_append]; simpa [ci] using h1
 held := fun i g q hg hq => by
  have hl := h.len
  by_cases hi : i < gs.length
  ·rw [List.getElem?_append_left hi] at hg
   rw [List.getElem?_append_left (by omega)] at hq
   exact held_same (h.held i g q hg hq) hs
  ·rw [List.getElem?_append_right (by omega)] at hg
   rw [List.getElem?_append_right (by omega)] at hq
   have hi2 : i = gs.length := by
    have := (List.getElem?_eq_some_iff.1 hg).1
    simp at this
    omega
   subst hi2
   rw [hl] at hq
   simp at hg hq
   subst hg
   subst hq
   exact hh
 mle := fun q hq => by
  rcases List.mem_append.1 hq with h2 | h2
  ·exact h.mle q h2
  ·simp at h2; omega
 fresh := fun i g q h2 h3 hg hq => by
  have hl := h.len
  rw [List.getElem?_append_left (by omega)] at hg
  rw [List.getElem?_append_left (by omega)] at hq
  obtain ⟨⟨n, hn, ho⟩, h4⟩ := h.fresh i g q h2 h3 hg hq
  refine ⟨⟨n, hn, own_same ho hs⟩, fun j g' hj hg' => ?_⟩
  by_cases hjl : j < gs.length
  ·rw [List.getElem?_append_left hjl] at hg'
   exact h4 j g' hj hg'
  ·rw [List.getElem?_append_right (by omega)] at hg'
   have hj2 : j = gs.length := by
    have := (List.getElem?_eq_some_iff.1 hg').1
    simp at this
    omega
   subst hj2
   simp at hg'
   subst hg'
   exact hap i g h2 h3 hg
 lowb := fun i g b hg hb => by
  by_cases hi : i < gs.length
  ·rw [List.getElem?_append_left hi] at hg
   exact ⟨Nat.lt_of_lt_of_le (h.low i g b hg hb) hsz, (h.lowb i g b hg hb).2⟩
  ·rw [List.getElem?_append_right (by omega)] at hg
   have hi2 : i = gs.length := by
    have := (List.getElem?_eq_some_iff.1 hg).1
    simp at this
    omega
   subst hi2
   simp at hg
   subst hg
   exact hgl b hb
end Go.Proofs.YtpbiofnncdneoaaGreatDoor.Bq
