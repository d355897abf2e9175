/- lay of bytes. -/
import Derived.Test.YtfalgjdhdgkbfaaGreatDoorX22
namespace Go.Proofs.YtfalgjdhdgkbfaaGreatDoor
open Go Go.RowKit
open Go.RowKit (wrap32 wrap64)

variable {w u u' u0 : World} {col col' col0 : Nat → Nat} {S : Nat → Prop} {pb vb : Nat} {Lp Lv : Nat → List UInt8} {Ep Ev E : Nat → Nat}
/-- Likewise, with bytes that are lent. -/
def LB (w : World) (S : Nat → Prop) (u0 : World) (col0 : Nat → Nat) (pb vb ob : Nat) (oc : List Value) (Lp : Nat → List UInt8) (Ep : Nat → Nat) (Lv : Nat → List UInt8) (Ev : Nat → Nat) (l : List UInt8) (v : Value) (u : World) : Prop := ∃ col, WW w u col pb vb Lp Ep Lv Ev ∧ Pl w u col 7 ob oc 67 ∧ Stp w S u0 col0 u col ∧ Bk.Lent u 0 v l ∧ ∀ j, v.ownBlock = some j → Co w u col 8 j
theorem LB.cell {ob : Nat} {oc : List Value} {l : List UInt8} {v : Value} (h : LB w S u0 col0 pb vb ob oc Lp Ep Lv Ev l v u) (i : Nat) : u.cell? ⟨ob, i, none⟩ = oc[i]? := by
  obtain ⟨col, h1, h2, h3⟩ := h
  exact h2.cell i
theorem lent_stp {l : List UInt8} {v : Value} (h : Bk.Lent u 0 v l) (hc : ∀ j, v.ownBlock = some j → Co w u col 8 j) (s : Stp w S u col u' col') (hS : ¬ S 8) : Bk.Lent u' 0 v l := by
  obtain ⟨b, c, rfl, hB, cs, hb, r⟩ := h
  exact ⟨b, c, rfl, hB, cs, ((hc b rfl).at s hS).trans hb, r⟩
theorem lent_rd {l : List UInt8} {v : Value} (h : Bk.Lent u 0 v l) : Rd u (fun j => v.ownBlock = some j) v l := by
  obtain ⟨a, b, off, c, e, h1, h2, h3, h4⟩ := h.rd
  subst e
  exact ⟨a, b, off, c, rfl, h1, h2, fun q => ⟨(h3 q).1, (h3 q).2, by rw [(h3 q).1]; rfl⟩, h4⟩
set_option maxRecDepth 100000 in
set_option maxHeartbeats 4000000 in
theorem lay_bytes {on wd iv : Int} {nn : Nat} {fl : Bool} {ba : Option Addr} {bn bc k : Nat} {d : List UInt8} (h : WW w u col pb vb Lp Ep Lv Ev) {bs lp' lv' : List UInt8} {e1 : Nat} (H1 : Hid (∀ (ob : Nat) (u9 : World), LZ w S u col pb vb ob ([Value.int .i64 4, .int .i64 on, .int .u64 (nn : Nat), .int .i64 wd, .int .i64 iv, .bool fl, .slice ba bn bc] ++ Lib.byteCells d) Lp Ep Lv Ev u9 → Calls Tryz.prog 11 #[.slice ba bn bc] u9 fun e u' => ∃ v, e = .returned v ∧ LB w S u col pb vb ob ([Value.int .i64 4, .int .i64 on, .int .u64 (nn : Nat), .int .i64 wd, .int .i64 iv, .bool fl, .slice ba bn bc] ++ Lib.byteCells d) Lp Ep Lv Ev bs v u'))
    (HP : Hid (∀ (ob : Nat) (v : Value) (u9 : World), LB w S u col pb vb ob ([Value.int .i64 4, .int .i64 on, .int .u64 (nn : Nat), .int .i64 wd, .int .i64 iv, .bool fl, .slice ba bn bc] ++ Lib.byteCells d) Lp Ep Lv Ev bs v u9 → Calls Tryz.prog 32 #[.pointer (some ⟨pb, 3 * k, none⟩), v] u9 fun e u' => e = .returned (.tuple #[]) ∧ LB w S u col pb vb ob ([Value.int .i64 4, .int .i64 on, .int .u64 (nn : Nat), .int .i64 wd, .int .i64 iv, .bool fl, .slice ba bn bc] ++ Lib.byteCells d) (up Lp k lp') (up Ep k e1) Lv Ev bs v u'))
    (HR : Hid (∀ (ob : Nat) (v : Value) (u9 : World), LB w S u col pb vb ob ([Value.int .i64 4, .int .i64 on, .int .u64 (nn : Nat), .int .i64 wd, .int .i64 iv, .bool fl, .slice ba bn bc] ++ Lib.byteCells d) (up Lp k lp') (up Ep k e1) Lv Ev bs v u9 → Calls Tryz.prog 33 #[.pointer (some ⟨vb, 2 * k, none⟩), .slice ba bn bc] u9 fun e u' => e = .returned (.tuple #[]) ∧ LB w S u col pb vb ob ([Value.int .i64 4, .int .i64 on, .int .u64 (nn : Nat), .int .i64 wd, .int .i64 iv, .bool fl, .slice ba bn bc] ++ Lib.byteCells d) (up Lp k lp') (up Ep k e1) (up Lv k lv') (up Ev k e1) bs v u'))
    (HI : Hid (∀ (ob : Nat) (v : Value) (u9 : World), LB w S u col pb vb ob ([Value.int .i64 4, .int .i64 on, .int .u64 (nn : Nat), .int .i64 wd, .int .i64 iv, .bool fl, .slice ba bn bc] ++ Lib.byteCells d) (up Lp k lp') (up Ep k e1) (up Lv k lv') (up Ev k e1) bs v u9 → Calls Tryz.prog 14 #[v, .slice ba bn bc] u9 fun e u' => e = .returned (.bool true) ∧ LB w S u col pb vb ob ([Value.int .i64 4, .int .i64 on, .int .u64 (nn : Nat), .int .i64 wd, .int .i64 iv, .bool fl, .slice ba bn bc] ++ Lib.byteCells d) (up Lp k lp') (up Ep k e1) (up Lv k lv') (up Ev k e1) bs v u'))
    (HO : Hid (∀ (ob : Nat) (v : Value) (u9 : World), LB w S u col pb vb ob ([Value.int .i64 4, .int .i64 on, .int .u64 (nn : Nat), .int .i64 wd, .int .i64 iv, .bool fl, .slice ba bn bc] ++ Lib.byteCells d) (up Lp k lp') (up Ep k e1) (up Lv k lv') (up Ev k e1) bs v u9 → Calls Tryz.prog 15 #[v] u9 fun e u' => e = .returned (.tuple #[]) ∧ LZ w S u col pb vb ob ([Value.int .i64 4, .int .i64 on, .int .u64 (nn : Nat), .int .i64 wd, .int .i64 iv, .bool fl, .slice ba bn bc] ++ Lib.byteCells d) (up Lp k lp') (up Ep k e1) (up Lv k lv') (up Ev k e1) u')) :
    Calls Tryz.prog 6 #[.pointer (some ⟨pb, 3 * k, none⟩), .pointer (some ⟨vb, 2 * k, none⟩), .agg ([Value.int .i64 4, .int .i64 on, .int .u64 (nn : Nat), .int .i64 wd, .int .i64 iv, .bool fl, .slice ba bn bc] ++ Lib.byteCells d).toArray] u fun e u' => e = .returned (.bool true) ∧ ∃ ob, LZ w S u col pb vb ob ([Value.int .i64 4, .int .i64 on, .int .u64 (nn : Nat), .int .i64 wd, .int .i64 iv, .bool fl, .slice ba bn bc] ++ Lib.byteCells d) (up Lp k lp') (up Ep k e1) (up Lv k lv') (up Ev k e1) u' := by
  have HW := hid h
  clear h
  go_enter Tryz.func6, Tryz.ntmps6
  go_upto_region 1 with ((with_reducible refine wpList_box_row (by with_unfolding_all rfl) 67 _ (by with_unfolding_all rfl) ([Value.int .i64 4, .int .i64 on, .int .u64 (nn : Nat), .int .i64 wd, .int .i64 iv, .bool fl, .slice ba bn bc] ++ Lib.byteCells d) (by with_unfolding_all rfl) ?_); intro w1 B1 s1 g1; have HB1 := hid B1; have HG1 := hid g1; clear B1 s1 g1)
  obtain ⟨ob, hob⟩ : ∃ x, u.heap.size = x := ⟨_, rfl⟩
  rw [hob] at HB1 ⊢
  have HM : Hid (LZ w S u col pb vb ob ([Value.int .i64 4, .int .i64 on, .int .u64 (nn : Nat), .int .i64 wd, .int .i64 iv, .bool fl, .slice ba bn bc] ++ Lib.byteCells d) Lp Ep Lv Ev w1) := hid (lz_box HW.out hob HG1.out HB1.out)
  clear hob HW HB1 HG1
  have c0 : w1.cell? ⟨ob, 0, none⟩ = some (.int .i64 4) := HM.out.cell 0
  have c6 : w1.cell? ⟨ob, 6, none⟩ = some (.slice ba bn bc) := HM.out.cell 6
  go_wp2_with (first
    | (go_at_call 11; (with_reducible refine (H1.out _ _ HM.out).mono ?_); rintro e v1 ⟨v, rfl, hm⟩; replace HM := hid hm; clear hm c0 c6)
    | (go_at_call 32; (with_reducible refine (HP.out _ _ _ HM.out).mono ?_); rintro e v2 ⟨rfl, hm⟩; replace HM := hid hm; clear hm; have c6 : v2.cell? ⟨ob, 6, none⟩ = some (.slice ba bn bc) := HM.out.cell 6)
    | (go_at_call 33; (with_reducible refine (HR.out _ _ _ HM.out).mono ?_); rintro e v3 ⟨rfl, hm⟩; replace HM := hid hm; clear hm c6; have c6 : v3.cell? ⟨ob, 6, none⟩ = some (.slice ba bn bc) := HM.out.cell 6)
    | (go_at_call 14; (with_reducible refine (HI.out _ _ _ HM.out).mono ?_); rintro e v4 ⟨rfl, hm⟩; replace HM := hid hm; clear hm c6)
    | (go_at_call 15; (with_reducible refine (HO.out _ _ _ HM.out).mono ?_); rintro e v5 ⟨rfl, hm⟩; replace HM := hid hm; clear hm))
  go_ret
  exact ⟨rfl, _, HM.out⟩
/-- Lend, and what becomes of what is lent. -/
theorem lb_lend {ob : Nat} {oc : List Value} {a : Option Addr} {n c : Nat} {l : List UInt8} (h : LZ w S u0 col0 pb vb ob oc Lp Ep Lv Ev u) (hr : Bk.Rd u (.slice a n c) l) (hl : l.length ≤ 4194304) : Calls Tryz.prog 11 #[.slice a n c] u fun e u' => ∃ v, e = .returned v ∧ LB w S u0 col0 pb vb ob oc Lp Ep Lv Ev l v u' := by
  obtain ⟨col, h1, h2, h3⟩ := h
  refine (Bk.lend4_any u _ l hr hl).mono fun e u' ⟨v, q1, q2, q3⟩ => ⟨v, q1, dye u col 8, ?_⟩
  have hg : u.grownBy u' none := ⟨q3.os, q3.tape, q3.output, q3.size, fun k hk _ => q3.block k hk⟩
  have s : Stp w (fun _ => False) u col u' (dye u col 8) := Stp.new hg 8
  refine ⟨h1.stp s (fun _ q => q.elim), h2.stp s (fun q => q), h3.trans (s.mono (fun _ q => q.elim)), ?_, fun j hj => ?_⟩
  · obtain ⟨b, c', e1, _, r⟩ := q2
    exact ⟨b, c', e1, Nat.zero_le _, r⟩
  · obtain ⟨b, c', e1, hB, cs, hb, r⟩ := q2
    rw [e1] at hj
    have hbj : b = j := by simpa [Value.ownBlock] using hj
    subst hbj
    exact ⟨dye_new hB, Nat.le_trans h1.gr.size hB, (Array.getElem?_eq_some_iff.1 hb).1⟩
theorem lb_p {k l1 ob : Nat} {oc : List Value} {fid : Nat} {args : Array Value} {l' l : List UInt8} {v : Value} (hS : S 5) (hk : k < 2) (h : LB w S u0 col0 pb vb ob oc Lp Ep Lv Ev l v u)
    (hcall : ∀ f F, Wr u pb 27 6 (3 * k) f F (Lp k) (Ep k) → (∀ g, u.heap.size ≤ g → F g) → v.ownBlock ≠ some pb → Bk.Lent u 0 v l → Calls Tryz.prog fid args u fun e u' => e = .returned (.tuple #[]) ∧ (∃ f', Wr u' pb 27 6 (3 * k) f' F l' l1 ∧ Els (3 * k) f f') ∧ u.grownBy u' (some pb)) :
    Calls Tryz.prog fid args u fun e u' => e = .returned (.tuple #[]) ∧ LB w S u0 col0 pb vb ob oc (up Lp k l') (up Ep k l1) Lv Ev l v u' := by
  obtain ⟨col, h1, h2, h3, h4, h5⟩ := h
  exact (h1.pcall hk (fun f F q1 q2 _ => hcall f F q1 q2 (fun e => co_ne (h5 pb e) (by decide) h1.pc) h4)).mono fun e u' ⟨q1, q2, q3⟩ => ⟨q1, _, q2, h2.stp q3 (by decide), h3.trans (q3.mono (fun i e => by rw [e]; exact hS)), lent_stp h4 h5 q3 (by decide), fun j hj => (h5 j hj).stp q3⟩
theorem lb_v {k l1 ob : Nat} {oc : List Value} {fid : Nat} {args : Array Value} {l' l : List UInt8} {v : Value} (hS : S 6 ∧ S 2 ∧ S 3) (hk : k < 2) (h : LB w S u0 col0 pb vb ob oc Lp Ep Lv Ev l v u)
    (hcall : ∀ f F, Wv u vb 31 4 (2 * k) f F (Lv k) (Ev k) → (∀ g, u.heap.size ≤ g → F g) → (∀ x, x < u.heap.size → F x → w.heap.size ≤ x) → w.heap.size ≤ vb → w.grownBy u none → Calls Tryz.prog fid args u fun e u' => e = .returned (.tuple #[]) ∧ (∃ f', Wv u' vb 31 4 (2 * k) f' F l' l1 ∧ Els2 (2 * k) f f') ∧ KF u u' vb F) :
    Calls Tryz.prog fid args u fun e u' => e = .returned (.tuple #[]) ∧ LB w S u0 col0 pb vb ob oc Lp Ep (up Lv k l') (up Ev k l1) l v u' := by
  obtain ⟨col, h1, h2, h3, h4, h5⟩ := h
  refine (h1.vcall hk (fun f F q1 q2 q3 => hcall f F q1 q2 (fun x hx e => (q3 x hx e).2.1) h1.vc.2.1 h1.gr)).mono fun e u' ⟨q1, q2, q3⟩ => ⟨q1, _, q2, h2.stp q3 (by omega), h3.trans (q3.mono (fun i e => ?_)), lent_stp h4 h5 q3 (by omega), fun j hj => (h5 j hj).stp q3⟩
  rcases e with e | e
  · rw [e]; exact hS.1
  · rcases (show i = 2 ∨ i = 3 by omega) with e | e
    · rw [e]; exact hS.2.1
    · rw [e]; exact hS.2.2
theorem lb_intact {ob : Nat} {oc : List Value} {l : List UInt8} {v bv : Value} (h : LB w S u0 col0 pb vb ob oc Lp Ep Lv Ev l v u) (hr : Bk.Rd u bv l) (hl : l.length ≤ 4194304) : Calls Tryz.prog 14 #[v, bv] u fun e u' => e = .returned (.bool true) ∧ LB w S u0 col0 pb vb ob oc Lp Ep Lv Ev l v u' := by
  obtain ⟨col, h1, h2, h3, h4, h5⟩ := h
  refine (Bk.intact4_any u 0 v bv l h4 hr hl).mono fun e u' ⟨q1, d, q2⟩ => ⟨q1, dye u col 0, ?_⟩
  have hg : u.grownBy u' none := by rw [q2]; exact ⟨rfl, rfl, rfl, Nat.le_refl _, fun _ _ _ => rfl⟩
  have s : Stp w (fun _ => False) u col u' (dye u col 0) := Stp.new hg 0
  exact ⟨h1.stp s (fun _ q => q.elim), h2.stp s (fun q => q), h3.trans (s.mono (fun _ q => q.elim)), lent_stp h4 h5 s (fun q => q), fun j hj => (h5 j hj).stp s⟩
theorem lb_over {ob : Nat} {oc : List Value} {l : List UInt8} {v : Value} (hS : S 8) (h : LB w S u0 col0 pb vb ob oc Lp Ep Lv Ev l v u) (hl : l.length ≤ 4194304) : Calls Tryz.prog 15 #[v] u fun e u' => e = .returned (.tuple #[]) ∧ LZ w S u0 col0 pb vb ob oc Lp Ep Lv Ev u' := by
  obtain ⟨col, h1, h2, h3, h4, h5⟩ := h
  refine (Bk.over_any u 0 v l h4 hl).mono fun e u' ⟨q1, q, q2, q3⟩ => ⟨q1, dye u col 0, ?_⟩
  have hg : u.grownBy u' (some q) := ⟨q3.os, q3.tape, q3.output, Nat.le_of_eq q3.size.symm, fun k _ hk => q3.block k (fun e => hk (by rw [e]))⟩
  have s : Stp w (fun i => i = 8) u col u' (dye u col 0) := Stp.one hg (h5 q q2) 0 rfl
  exact ⟨h1.stp s (fun i q => by omega), h2.stp s (by decide), h3.trans (s.mono (fun i e => by rw [e]; exact hS))⟩
end Go.Proofs.YtfalgjdhdgkbfaaGreatDoor

namespace Go.Proofs.YtfalgjdhdgkbfaaGreatDoor
open Go Go.RowKit
open Go.RowKit (wrap32 wrap64)

variable {w u u' u0 : World} {col col' col0 : Nat → Nat} {S : Nat → Prop} {pb vb : Nat} {Lp Lv : Nat → List UInt8} {Ep Ev E : Nat → Nat}
/-- A field that is to be laid, as its cells tell it. -/
structure Ow where
  dv : Int
  on : Int
  nn : Nat
  wd : Int
  iv : Int
  fl : Bool
  ba : Option Addr
  bn : Nat
  bc : Nat
  bs : List UInt8
  d : List UInt8
def Ow.cs (o : Ow) : List Value := [Value.int .i64 o.dv, .int .i64 o.on, .int .u64 (o.nn : Nat), .int .i64 o.wd, .int .i64 o.iv, .bool o.fl, .slice o.ba o.bn o.bc] ++ Lib.byteCells o.d
structure Ow.In (o : Ow) (w : World) : Prop where
  b : Rd w (fun j => j < w.heap.size) (.slice o.ba o.bn o.bc) o.bs
  n : o.nn < 18446744073709551616
  d : o.d.length = 16
  l : o.bs.length ≤ 140737488355328
/-- The writers of both sides; they differ only where they have refused. -/
structure W2 (w u : World) (col : Nat → Nat) (pb vb : Nat) (Lp Lv : Nat → List UInt8) (E : Nat → Nat) (N : Nat) : Prop where
  ww : WW w u col pb vb Lp E Lv E
  eq : ∀ k, k < 2 → E k = 0 → Lp k = Lv k
  ln : ∀ k, k < 2 → (Lp k).length ≤ N ∧ (Lv k).length ≤ N
def SL (i : Nat) : Prop := i = 5 ∨ i = 6 ∨ i = 2 ∨ i = 3 ∨ i = 8
theorem wl_len (bad : Nat) (l x : List UInt8) : (wl bad l x).length ≤ l.length + x.length := by
  unfold wl
  split
  · simp
  · omega
theorem wz_len (bad : Nat) (l : List UInt8) : (wz bad l).length ≤ l.length := by
  unfold wz
  split
  · simp
  · omega
theorem ref_ne (bad e : Nat) (h : e ≠ 0) : ref bad e ≠ 0 := by
  unfold ref
  split <;> omega
theorem W2.of {N M k ob e1 : Nat} {oc : List Value} {lp' lv' : List UInt8} (h : W2 w u col pb vb Lp Lv E N) (hz : LZ w SL u col pb vb ob oc (up Lp k lp') (up E k e1) (up Lv k lv') (up E k e1) u') (he : e1 = 0 → lp' = lv') (h1 : lp'.length ≤ M) (h2 : lv'.length ≤ M) (hM : N ≤ M) :
    ∃ col' Lp' Lv' E', W2 w u' col' pb vb Lp' Lv' E' M ∧ Stp w SL u col u' col' := by
  obtain ⟨col', q1, q2, q3⟩ := hz
  refine ⟨col', _, _, _, ⟨q1, fun j hj => ?_, fun j hj => ?_⟩, q3⟩
  · by_cases e : j = k
    · subst e; rw [up_at, up_at, up_at]; exact he
    · rw [up_ne e, up_ne e, up_ne e]; exact h.eq j hj
  · by_cases e : j = k
    · subst e; rw [up_at, up_at]; exact ⟨h1, h2⟩
    · rw [up_ne e, up_ne e]; have := h.ln j hj; omega
theorem bk_rd {v : Value} {l : List UInt8} {F : Nat → Prop} (h : Rd u F v l) : Bk.Rd u v l := by
  obtain ⟨a, b, off, c, hv, hc, hn, ha, hcell⟩ := h
  exact ⟨a, b, off, c, hv, hc, hn, fun hl => ⟨(ha hl).1, (ha hl).2.1⟩, hcell⟩
theorem Tryz.size65' : (Tryz.prog.info? 65).map (·.size) = some 16 := by kernel_rfl
/-- A field, at both. -/
theorem lays_any {N k : Nat} (h : W2 w u col pb vb Lp Lv E N) (hN : N ≤ 1000000000) (o : Ow) (ho : o.In w) (hl : o.bs.length ≤ 4194304) (hk : k < 2) :
    Calls Tryz.prog 6 #[.pointer (some ⟨pb, 3 * k, none⟩), .pointer (some ⟨vb, 2 * k, none⟩), .agg o.cs.toArray] u fun e u' => e = .returned (.bool true) ∧ ∃ col' Lp' Lv' E', W2 w u' col' pb vb Lp' Lv' E' (N + o.bs.length + 20) ∧ Stp w SL u col u' col' := by
  obtain ⟨dv, on, nn, wd, iv, fl, ba, bn, bc, bs, d⟩ := o
  obtain ⟨hb, hn, hd, hbl⟩ := ho
  replace hb : Rd w (fun j => j < w.heap.size) (.slice ba bn bc) bs := hb
  replace hl : bs.length ≤ 4194304 := hl
  replace hd : d.length = 16 := hd
  replace hn : nn < 18446744073709551616 := hn
  have hbn : bn = bs.length := by obtain ⟨_, _, _, _, e, _⟩ := hb; injection e with _ e _
  have hw := h.ww
  have heq := h.eq k hk
  have hlp := (h.ln k hk).1
  have hlv := (h.ln k hk).2
  have s5 : SL 5 := .inl rfl
  have s6 : SL 6 ∧ SL 2 ∧ SL 3 := ⟨.inr (.inl rfl), .inr (.inr (.inl rfl)), .inr (.inr (.inr (.inl rfl)))⟩
  have s8 : SL 8 := .inr (.inr (.inr (.inr rfl)))
  have wlp : ∀ x : List UInt8, (wl (E k) (Lp k) x).length ≤ N + x.length := fun x => by have := wl_len (E k) (Lp k) x; omega
  have wlv : ∀ x : List UInt8, (wl (E k) (Lv k) x).length ≤ N + x.length := fun x => by have := wl_len (E k) (Lv k) x; omega
  have wle : ∀ x : List UInt8, E k = 0 → wl (E k) (Lp k) x = wl (E k) (Lv k) x := fun x q => by rw [heq q]
  show Calls Tryz.prog 6 #[.pointer (some ⟨pb, 3 * k, none⟩), .pointer (some ⟨vb, 2 * k, none⟩), .agg ([Value.int .i64 dv, .int .i64 on, .int .u64 (nn : Nat), .int .i64 wd, .int .i64 iv, .bool fl, .slice ba bn bc] ++ Lib.byteCells d).toArray] u fun e u' => e = .returned (.bool true) ∧ ∃ col' Lp' Lv' E', W2 w u' col' pb vb Lp' Lv' E' (N + bs.length + 20) ∧ Stp w SL u col u' col'
  by_cases d1 : dv = 1
  · subst d1
    by_cases hx : 1 ≤ wd ∧ wd ≤ 8 ∧ nn < 256 ^ wd.toNat
    · obtain ⟨kk, rfl⟩ : ∃ kk : Nat, wd = (kk : Int) := ⟨wd.toNat, by omega⟩
      have hx3 : nn < 256 ^ kk := by have := hx.2.2; rwa [Int.toNat_natCast] at this
      refine (lay_num (S := SL) (lp' := wl (E k) (Lp k) (layL nn kk)) (lv' := wl (E k) (Lv k) (layL nn kk)) (e1 := E k) hw (hid fun ob u9 hz => lz_p s5 hk hz (fun f F q1 q2 _ => wnum_ok u9 pb 27 6 (3 * k) f F (Lp k) (E k) nn kk q1 q2 (by omega) hn (by omega) (by omega) hx3)) (hid fun ob u9 hz => lz_v s6 hk hz (fun f F q1 q2 _ => vnum_ok u9 vb 31 4 (2 * k) f F (Lv k) (E k) nn kk q1 q2 (by omega) hn (by omega) (by omega) hx3))).mono fun e u' ⟨q1, ob, q2⟩ => ⟨q1, h.of q2 (wle _) ?_ ?_ (by omega)⟩
      · have := wlp (layL nn kk); rw [layL_length] at this; omega
      · have := wlv (layL nn kk); rw [layL_length] at this; omega
    · refine (lay_num (S := SL) (lp' := wz (E k) (Lp k)) (lv' := Lv k) (e1 := ref (E k) 34) hw (hid fun ob u9 hz => lz_p s5 hk hz (fun f F q1 q2 _ => wnum_no u9 pb 27 6 (3 * k) f F (Lp k) (E k) nn wd q1 hx)) (hid fun ob u9 hz => lz_v s6 hk hz (fun f F q1 q2 _ => vnum_no u9 vb 31 4 (2 * k) f F (Lv k) (E k) nn wd q1 hn hx))).mono fun e u' ⟨q1, ob, q2⟩ => ⟨q1, h.of q2 (fun q => absurd q (ref_ne _ _ (by decide))) ?_ (by omega) (by omega)⟩
      have := wz_len (E k) (Lp k); omega
  by_cases d2 : dv = 2
  · subst d2
    refine (lay_int (S := SL) (lp' := wl (E k) (Lp k) (layL (i64u iv) 8)) (lv' := wl (E k) (Lv k) (layL (i64u iv) 8)) (e1 := E k) hw (hid fun ob u9 hz => lz_p s5 hk hz (fun f F q1 q2 _ => wint_any u9 pb 27 6 (3 * k) f F (Lp k) (E k) iv q1 q2 (by omega))) (hid fun ob u9 hz => lz_v s6 hk hz (fun f F q1 q2 _ => vint_any u9 vb 31 4 (2 * k) f F (Lv k) (E k) iv q1 q2 (by omega)))).mono fun e u' ⟨q1, ob, q2⟩ => ⟨q1, h.of q2 (wle _) ?_ ?_ (by omega)⟩
    · have := wlp (layL (i64u iv) 8); rw [layL_length] at this; omega
    · have := wlv (layL (i64u iv) 8); rw [layL_length] at this; omega
  by_cases d3 : dv = 3
  · subst d3
    refine (lay_flag (S := SL) (lp' := wl (E k) (Lp k) (layL fl.toNat 1)) (lv' := wl (E k) (Lv k) (layL fl.toNat 1)) (e1 := E k) hw (hid fun ob u9 hz => lz_p s5 hk hz (fun f F q1 q2 _ => wflag_any u9 pb 27 6 (3 * k) f F (Lp k) (E k) fl q1 q2 (by omega))) (hid fun ob u9 hz => lz_v s6 hk hz (fun f F q1 q2 _ => vflag_any u9 vb 31 4 (2 * k) f F (Lv k) (E k) fl q1 q2 (by omega)))).mono fun e u' ⟨q1, ob, q2⟩ => ⟨q1, h.of q2 (wle _) ?_ ?_ (by omega)⟩
    · have := wlp (layL fl.toNat 1); rw [layL_length] at this; omega
    · have := wlv (layL fl.toNat 1); rw [layL_length] at this; omega
  by_cases d6 : dv = 6
  · subst d6
    refine (lay_id (S := SL) (lp' := wl (E k) (Lp k) d) (lv' := wl (E k) (Lv k) d) (e1 := E k) hw (hid fun ob u9 hz => lz_p s5 hk hz (fun f F q1 q2 _ => wid_any u9 pb 27 6 (3 * k) f F (Lp k) d (E k) q1 q2 (by omega) hd)) (hid fun ob u9 hz => lz_v s6 hk hz (fun f F q1 q2 _ => vid_any u9 vb 31 4 (2 * k) f F (Lv k) d (E k) q1 q2 (by omega) hd)) (hid (by rw [show (Lib.byteCells d).length = 16 by simpa [Lib.byteCells] using hd]; exact Tryz.size65'))).mono fun e u' ⟨q1, ob, q2⟩ => ⟨q1, h.of q2 (wle _) ?_ ?_ (by omega)⟩
    · have := wlp d; omega
    · have := wlv d; omega
  have row : ∀ (bad : Nat) (l x : List UInt8), (wrow bad l x).length ≤ l.length + (4 + x.length) := fun bad l x => by
    have := wl_len bad l (layL x.length 4 ++ x)
    rw [List.length_append, layL_length] at this
    exact this
  by_cases d5 : dv = 5
  · subst d5
    have hs : (⟨bs.toArray⟩ : ByteArray).size = bs.length := rfl
    have hc : Hid (∀ u9, w.grownBy u9 none → (convert 28 9 (.slice ba bn bc)).run Tryz.prog u9 = .ok (.string ⟨bs.toArray⟩) u9) := hid (fun u9 hu => (hb.keep hu).convert)
    by_cases hx : bs.length ≤ 1048576
    · refine (lay_text (S := SL) (lp' := wrow (E k) (Lp k) bs) (lv' := wrow (E k) (Lv k) bs) (e1 := E k) hw (hid fun ob u9 hz => lz_p s5 hk hz (fun f F q1 q2 _ => wtext_ok u9 pb 27 6 (3 * k) f F (Lp k) ⟨bs.toArray⟩ (E k) q1 q2 (by omega) (by rw [hs]; exact hx))) (hid fun ob u9 hz => lz_v s6 hk hz (fun f F q1 q2 _ => vtext_ok u9 vb 31 4 (2 * k) f F (Lv k) ⟨bs.toArray⟩ (E k) q1 q2 (by omega) (by rw [hs]; exact hx))) hc).mono fun e u' ⟨q1, ob, q2⟩ => ⟨q1, h.of q2 (wle _) ?_ ?_ (by omega)⟩
      · have := row (E k) (Lp k) bs; omega
      · have := row (E k) (Lv k) bs; omega
    · refine (lay_text (S := SL) (lp' := wz (E k) (Lp k)) (lv' := Lv k) (e1 := ref (E k) 31) hw (hid fun ob u9 hz => lz_p s5 hk hz (fun f F q1 q2 _ => wtext_no u9 pb 27 6 (3 * k) f F (Lp k) (E k) ⟨bs.toArray⟩ q1 (by rw [hs]; omega) (by rw [hs]; omega))) (hid fun ob u9 hz => lz_v s6 hk hz (fun f F q1 q2 _ => vtext_no u9 vb 31 4 (2 * k) f F (Lv k) (E k) ⟨bs.toArray⟩ q1 (by rw [hs]; omega))) hc).mono fun e u' ⟨q1, ob, q2⟩ => ⟨q1, h.of q2 (fun q => absurd q (ref_ne _ _ (by decide))) ?_ (by omega) (by omega)⟩
      have := wz_len (E k) (Lp k); omega
  by_cases d4 : dv = 4
  · subst d4
    have H1 : Hid (∀ (ob : Nat) (u9 : World), LZ w SL u col pb vb ob ([Value.int .i64 4, .int .i64 on, .int .u64 (nn : Nat), .int .i64 wd, .int .i64 iv, .bool fl, .slice ba bn bc] ++ Lib.byteCells d) Lp E Lv E u9 → Calls Tryz.prog 11 #[.slice ba bn bc] u9 fun e u' => ∃ v, e = .returned v ∧ LB w SL u col pb vb ob ([Value.int .i64 4, .int .i64 on, .int .u64 (nn : Nat), .int .i64 wd, .int .i64 iv, .bool fl, .slice ba bn bc] ++ Lib.byteCells d) Lp E Lv E bs v u') := hid (fun ob u9 hz => lb_lend hz (bk_rd (hb.keep hz.gr)) hl)
    have hgr : ∀ {Lp' : Nat → List UInt8} {E' : Nat → Nat} {Lv' : Nat → List UInt8} {E'' : Nat → Nat} {ob : Nat} {oc : List Value} {v : Value} {u9 : World}, LB w SL u col pb vb ob oc Lp' E' Lv' E'' bs v u9 → w.grownBy u9 none := fun ⟨_, q, _⟩ => q.gr
    by_cases hx : bs.length ≤ 1048576
    · refine (lay_bytes (S := SL) (bs := bs) (lp' := wrow (E k) (Lp k) bs) (lv' := wrow (E k) (Lv k) bs) (e1 := E k) hw H1
        (hid fun ob v u9 hz => lb_p s5 hk hz (fun f F q1 q2 q3 q4 => wbytes_ok u9 pb 27 6 (3 * k) f F _ (Lp k) bs (E k) v q1 (lent_rd q4) q3 q2 (by omega) hx))
        (hid fun ob v u9 hz => lb_v s6 hk hz (fun f F q1 q2 q3 q4 q5 => vbytes_ok u9 vb 31 4 (2 * k) f F _ (Lv k) bs (E k) _ q1 (hb.keep q5) (fun g hg hgw => ⟨by omega, fun e => by have := q3 g hg e; omega⟩) q2 (by omega) hx))
        (hid fun ob v u9 hz => lb_intact hz (bk_rd (hb.keep (hgr hz))) hl) (hid fun ob v u9 hz => lb_over s8 hz hl)).mono fun e u' ⟨q1, ob, q2⟩ => ⟨q1, h.of q2 (wle _) ?_ ?_ (by omega)⟩
      · have := row (E k) (Lp k) bs; omega
      · have := row (E k) (Lv k) bs; omega
    · refine (lay_bytes (S := SL) (bs := bs) (lp' := wz (E k) (Lp k)) (lv' := Lv k) (e1 := ref (E k) 31) hw H1
        (hid fun ob v u9 hz => lb_p s5 hk hz (fun f F q1 q2 q3 q4 => ?_))
        (hid fun ob v u9 hz => lb_v s6 hk hz (fun f F q1 q2 q3 q4 q5 => vbytes_no u9 vb 31 4 (2 * k) f F (Lv k) (E k) bn bc ba q1 (by omega)))
        (hid fun ob v u9 hz => lb_intact hz (bk_rd (hb.keep (hgr hz))) hl) (hid fun ob v u9 hz => lb_over s8 hz hl)).mono fun e u' ⟨q1, ob, q2⟩ => ⟨q1, h.of q2 (fun q => absurd q (ref_ne _ _ (by decide))) ?_ (by omega) (by omega)⟩
      · obtain ⟨gb, gc, rfl, _⟩ := q4
        exact wbytes_no u9 pb 27 6 (3 * k) f F (Lp k) (E k) bs.length gc _ q1 (by omega) (by omega)
      · have := wz_len (E k) (Lp k); omega
  refine (lay_else (S := SL) hw ⟨d1, d2, d3, d4, d5, d6⟩).mono fun e u' ⟨q1, ob, col', q2, q3, q4⟩ => ⟨q1, col', Lp, Lv, E, ⟨q2, h.eq, fun j hj => ?_⟩, q4⟩
  have := h.ln j hj
  omega
end Go.Proofs.YtfalgjdhdgkbfaaGreatDoor

namespace Go.Proofs.YtfalgjdhdgkbfaaGreatDoor
open Go Go.RowKit
open Go.RowKit (wrap32 wrap64)

variable {w u u' u0 : World} {col col' col0 : Nat → Nat} {S : Nat → Prop} {pb vb bk lt T N : Nat} {Lp Lv : Nat → List UInt8} {Ep Ev E : Nat → Nat} {ps : List Bk.Item} {ob : Nat} {oc : List Value}
/-- The field at hand, if there is one. -/
def Plo (w u : World) (col : Nat → Nat) (ob : Nat) (oc : List Value) : Prop := oc = [] ∨ Pl w u col 9 ob oc 67
theorem Plo.stp (h : Plo w u col ob oc) (s : Stp w S u col u' col') (hS : ¬ S 9) : Plo w u' col' ob oc := h.imp id (fun q => q.stp s hS)
def DS (w : World) (pb vb bk lt ob : Nat) (oc : List Value) (Lp Lv : Nat → List UInt8) (E : Nat → Nat) (N T : Nat) (ps : List Bk.Item) (n : Nat) (u : World) : Prop := ∃ col, W2 w u col pb vb Lp Lv E N ∧ Bq.ST u (Bt w u col) bk lt T ps n ∧ Plo w u col ob oc
theorem W2.stp (h : W2 w u col pb vb Lp Lv E N) (s : Stp w S u col u' col') (hS : ∀ i, S i → i = 0 ∨ i = 4 ∨ 6 < i) : W2 w u' col' pb vb Lp Lv E N := ⟨h.ww.stp s hS, h.eq, h.ln⟩
theorem DS.gr {n : Nat} (h : DS w pb vb bk lt ob oc Lp Lv E N T ps n u) : w.grownBy u none := by
  obtain ⟨col, h1, _⟩ := h
  exact h1.ww.gr
theorem DS.keep {n : Nat} (h : DS w pb vb bk lt ob oc Lp Lv E N T ps n u) (hg : u.grownBy u' none) : DS w pb vb bk lt ob oc Lp Lv E N T ps n u' := by
  obtain ⟨col, h1, h2, h3⟩ := h
  have s : Stp w (fun _ => False) u col u' (dye u col 0) := Stp.new hg 0
  exact ⟨_, h1.stp s (fun _ q => q.elim), st_stp h2 s (fun q => q), h3.stp s (fun q => q)⟩
theorem cb_eq (l : List UInt8) : Lib.byteCells l = Bk.cb l := rfl
theorem below_of (hg : u.grownBy u' none) : Below u.heap.size u u' := ⟨hg.os, hg.tape, hg.output, hg.size, fun k hk => hg.block k hk (by simp)⟩
/-- A new row is one of the caller's own. -/
theorem DS.item {n : Nat} (h : DS w pb vb bk lt ob oc Lp Lv E N T ps n u) {v : Value} {l : List UInt8} (hg : u.grownBy u' none) (ho : Out u.heap.size u' v l) (hl : l.length ≤ 8388608) : DS w pb vb bk lt ob oc Lp Lv E N T (ps ++ [(v, l)]) n u' := by
  obtain ⟨col, h1, h2, h3⟩ := h
  have hb := below_of hg
  have ho' : Bq.OwnR u' (fun b => u.heap.size ≤ b) 5 v l.length (Bk.cb l) := by
    refine ⟨by have := ho.1; rw [cb_eq] at this; exact this, ?_⟩
    rcases ho.2 with q | ⟨g, cap, cur, q1, q2, q3, q4, q5, q6, q7⟩
    · exact .inl q
    · exact .inr ⟨g, cap, cur, q1, q2, q3, q4, q5, q6, by rw [← cb_eq]; exact q7⟩
  obtain ⟨q1, q2⟩ := st_own h1.ww.gr (h2.item hb ho' hl) (Bq.Bel.of hb)
  exact ⟨_, h1.stp q2 (fun i e => by omega), q1, h3.stp q2 (by decide)⟩
theorem DS.add {n : Nat} (h : DS w pb vb bk lt ob oc Lp Lv E N T ps n u) {p : Bk.Item} (hp : ps[n]? = some p) {x : Value} (hx : Bq.Rd5 u x p.2) (hn : n ≤ 8388607) :
    Calls Tryz.prog 40 #[.pointer (some ⟨lt, 0, none⟩), p.1, x] u fun e u' => e = .returned (.tuple #[]) ∧ DS w pb vb bk lt ob oc Lp Lv E N T ps (n + 1) u' ∧ Bq.Rd5 u' x p.2 := by
  obtain ⟨col, h1, h2, h3⟩ := h
  refine (h2.add hp hx hn).mono fun e u' ⟨q1, q2, q3, q4⟩ => ?_
  obtain ⟨r1, r2⟩ := st_own h1.ww.gr q2 q3
  exact ⟨q1, ⟨_, h1.stp r2 (fun i e => by omega), r1, h3.stp r2 (by decide)⟩, hx.same q4 q3.size⟩
theorem DS.own {n : Nat} (h : DS w pb vb bk lt ob oc Lp Lv E N T ps n u) {p : Bk.Item} (hp : p ∈ ps) : Bq.Rd5 u p.1 p.2 := by
  obtain ⟨col, h1, ⟨A, D, v0, v1, U, gs, ms, vg, vw, xs, h⟩, h3⟩ := h
  exact Bq.own_rd5 (h.sl.own p hp).1
/-- What Done tells. -/
def tl (E : Nat → Nat) (L : Nat → List UInt8) (k : Nat) : List UInt8 := if E k = 0 then L k else []
theorem tl_eq {k : Nat} (h : W2 w u col pb vb Lp Lv E N) (hk : k < 2) : tl E Lv k = tl E Lp k := by
  unfold tl
  by_cases e : E k = 0
  · rw [if_pos e, if_pos e, h.eq k hk e]
  · rw [if_neg e, if_neg e]
theorem tl_len {k : Nat} (h : W2 w u col pb vb Lp Lv E N) (hk : k < 2) : (tl E Lp k).length ≤ N := by
  unfold tl
  split
  · exact (h.ln k hk).1
  · simp
theorem DS.pdone {n k : Nat} (h : DS w pb vb bk lt ob oc Lp Lv E N T ps n u) (hk : k < 2) (hN : N ≤ 8388608) : Calls Tryz.prog 38 #[.pointer (some ⟨pb, 3 * k, none⟩)] u fun e u' => ∃ v, e = .returned (.tuple #[v, .int .i64 (E k : Nat)]) ∧ DS w pb vb bk lt ob oc Lp Lv E N T (ps ++ [(v, tl E Lp k)]) n u' := by
  obtain ⟨col, h1, h2, h3⟩ := id h
  obtain ⟨f, hp⟩ := h1.ww.p
  have hl := tl_len h1 hk
  have hlp := (h1.ln k hk).1
  by_cases e : E k = 0
  · have hw := hp k hk
    rw [e] at hw ⊢
    have et : tl E Lp k = Lp k := by unfold tl; rw [if_pos e]
    rw [et] at hl ⊢
    exact (wdone_ok u pb 27 6 (3 * k) f _ (Lp k) hw (by omega)).mono fun e u' ⟨v, q1, q2, q3⟩ => ⟨v, q1, h.item q3 q2 (by omega)⟩
  · have et : tl E Lp k = [] := by unfold tl; rw [if_neg e]
    rw [et]
    exact (wdone_bad u pb 27 6 (3 * k) f _ (Lp k) (E k) (hp k hk) e).mono fun e u' ⟨q1, q3⟩ => ⟨_, q1, h.item q3 ⟨rfl, .inl ⟨rfl, rfl⟩⟩ (by decide)⟩
theorem DS.vdone {n k : Nat} (h : DS w pb vb bk lt ob oc Lp Lv E N T ps n u) (hk : k < 2) (hN : N ≤ 8388608) : Calls Tryz.prog 39 #[.pointer (some ⟨vb, 2 * k, none⟩)] u fun e u' => ∃ v, e = .returned (.tuple #[v, .int .i64 (E k : Nat)]) ∧ DS w pb vb bk lt ob oc Lp Lv E N T ps n u' ∧ Bq.Rd5 u' v (tl E Lp k) := by
  obtain ⟨col, h1, h2, h3⟩ := id h
  obtain ⟨f, hv⟩ := h1.ww.v
  have hlv := (h1.ln k hk).2
  rw [← tl_eq h1 hk]
  by_cases e : E k = 0
  · have hw := hv k hk
    rw [e] at hw ⊢
    have et : tl E Lv k = Lv k := by unfold tl; rw [if_pos e]
    rw [et]
    refine (vdone_ok u vb 31 4 (2 * k) f _ (Lv k) hw (by omega)).mono fun e u' ⟨v, q1, q2, q3⟩ => ⟨v, q1, h.keep q3, ?_⟩
    exact Bq.own_rd5 (B := fun _ => True) (Bq.OwnR.of (by
      refine ⟨by have := q2.1; rw [cb_eq] at this; exact this, ?_⟩
      rcases q2.2 with q | ⟨g, cap, cur, r1, _, r3, r4, r5, r6, r7⟩
      · exact .inl q
      · exact .inr ⟨g, cap, cur, r1, Nat.zero_le _, r3, r4, r5, r6, by rw [← cb_eq]; exact r7⟩) (fun _ _ => trivial))
  · have et : tl E Lv k = [] := by unfold tl; rw [if_neg e]
    rw [et]
    exact (vdone_no u vb 31 4 (2 * k) f _ (Lv k) (E k) (hv k hk) e).mono fun e u' ⟨q1, q3⟩ => ⟨_, q1, h.keep q3, Bq.own_rd5 (B := fun _ => True) (Bq.OwnR.nil _ _ _)⟩
set_option maxRecDepth 100000 in
set_option maxHeartbeats 4000000 in
theorem done_any {k : Nat} (h : DS w pb vb bk lt ob oc Lp Lv E N T ps ps.length u) (hk : k < 2) (hN : N ≤ 8388608) (hn : ps.length ≤ 8000000) :
    Calls Tryz.prog 7 #[.pointer (some ⟨pb, 3 * k, none⟩), .pointer (some ⟨vb, 2 * k, none⟩), .pointer (some ⟨lt, 0, none⟩)] u fun e u' => e = .returned (.bool true) ∧ ∃ ps', DS w pb vb bk lt ob oc Lp Lv E N T ps' ps'.length u' ∧ ps'.length = ps.length + 2 := by
  obtain ⟨n, hnn⟩ : ∃ n, ps.length = n := ⟨_, rfl⟩
  rw [hnn] at h hn
  obtain ⟨L, hL⟩ : ∃ L, tl E Lp k = L := ⟨_, rfl⟩
  obtain ⟨er, her⟩ : ∃ x : Int, ((E k : Nat) : Int) = x := ⟨_, rfl⟩
  have H1 : Hid (Calls Tryz.prog 38 #[.pointer (some ⟨pb, 3 * k, none⟩)] u fun e u' => ∃ v, e = .returned (.tuple #[v, .int .i64 er]) ∧ DS w pb vb bk lt ob oc Lp Lv E N T (ps ++ [(v, L)]) n u') := hid (by rw [← her, ← hL]; exact h.pdone hk hN)
  have H2 : Hid (∀ v u9, DS w pb vb bk lt ob oc Lp Lv E N T (ps ++ [(v, L)]) n u9 → Calls Tryz.prog 38 #[.pointer (some ⟨pb, 3 * k, none⟩)] u9 fun e u' => ∃ v', e = .returned (.tuple #[v', .int .i64 er]) ∧ DS w pb vb bk lt ob oc Lp Lv E N T (ps ++ [(v, L)] ++ [(v', L)]) n u') := hid (fun v u9 hz => by rw [← her, ← hL] at *; exact hz.pdone hk hN)
  have H3 : Hid (∀ v v' u9, DS w pb vb bk lt ob oc Lp Lv E N T (ps ++ [(v, L)] ++ [(v', L)]) n u9 → Calls Tryz.prog 39 #[.pointer (some ⟨vb, 2 * k, none⟩)] u9 fun e u' => ∃ x, e = .returned (.tuple #[x, .int .i64 er]) ∧ DS w pb vb bk lt ob oc Lp Lv E N T (ps ++ [(v, L)] ++ [(v', L)]) n u' ∧ Bq.Rd5 u' x L) := hid (fun v v' u9 hz => by rw [← her, ← hL] at *; exact hz.vdone hk hN)
  have H4 : Hid (∀ v v' x u9, DS w pb vb bk lt ob oc Lp Lv E N T (ps ++ [(v, L)] ++ [(v', L)]) n u9 → Bq.Rd5 u9 x L → Calls Tryz.prog 40 #[.pointer (some ⟨lt, 0, none⟩), v, x] u9 fun e u' => e = .returned (.tuple #[]) ∧ DS w pb vb bk lt ob oc Lp Lv E N T (ps ++ [(v, L)] ++ [(v', L)]) (n + 1) u' ∧ Bq.Rd5 u' x L) := hid (fun v v' x u9 hz hx => hz.add (p := (v, L)) (by rw [List.append_assoc, List.getElem?_append_right (by omega), hnn, Nat.sub_self]; rfl) hx (by omega))
  have H5 : Hid (∀ v v' x u9, DS w pb vb bk lt ob oc Lp Lv E N T (ps ++ [(v, L)] ++ [(v', L)]) (n + 1) u9 → Bq.Rd5 u9 x L → Calls Tryz.prog 40 #[.pointer (some ⟨lt, 0, none⟩), v', x] u9 fun e u' => e = .returned (.tuple #[]) ∧ DS w pb vb bk lt ob oc Lp Lv E N T (ps ++ [(v, L)] ++ [(v', L)]) (n + 1 + 1) u' ∧ Bq.Rd5 u' x L) := hid (fun v v' x u9 hz hx => hz.add (p := (v', L)) (by rw [List.getElem?_append_right (by rw [List.length_append, hnn]; exact Nat.le_refl _), List.length_append, hnn]; simp) hx (by omega))
  obtain ⟨s, hs⟩ : ∃ s : ByteArray, (⟨L.toArray⟩ : ByteArray) = s := ⟨_, rfl⟩
  have HC : Hid (∀ u9 x, Bq.Rd5 u9 x L → (convert 28 9 x).run Tryz.prog u9 = .ok (.string s) u9) := hid (fun u9 x hx => by rw [← hs]; exact hx.convert)
  have htt : (s.toList == s.toList) = true := by simp
  have HNN := hid hnn
  clear h hs hL her hnn hn
  go_enter Tryz.func7, Tryz.ntmps7
  have HE1 := hid trivial
  have HE2 := hid trivial
  go_wp2_with (first
    | (go_at_call 38; have := HE1; clear this HE1; (with_reducible refine H1.out.mono ?_); rintro e u1 ⟨v, rfl, hm⟩; have HM := hid hm; clear hm)
    | (go_at_call 38; (with_reducible refine (H2.out _ _ HM.out).mono ?_); rintro e u2 ⟨v', rfl, hm⟩; replace HM := hid hm; clear hm)
    | (go_at_call 39; (with_reducible refine (H3.out _ _ _ HM.out).mono ?_); rintro e u3 ⟨x, rfl, hm, hx⟩; replace HM := hid hm; have HX := hid hx; clear hm hx)
    | (go_at_call 40; have := HE2; clear this HE2; (with_reducible refine (H4.out _ _ _ _ HM.out HX.out).mono ?_); rintro e u4 ⟨rfl, hm, hx⟩; replace HM := hid hm; replace HX := hid hx; clear hm hx)
    | (go_at_call 40; (with_reducible refine (H5.out _ _ _ _ HM.out HX.out).mono ?_); rintro e u5 ⟨rfl, hm, hx⟩; replace HM := hid hm; have k3 := HC.out _ _ hx; have k1 := HC.out _ _ (hm.own (p := (v, L)) (by simp)); have k2 := HC.out _ _ (hm.own (p := (v', L)) (by simp)); clear hm hx)
    | (go_at_call 19; (with_reducible refine (num_any _ _).mono ?_); rintro e u6 ⟨rfl, hw⟩; have hw' := hw.symm; clear hw; subst hw'))
  go_ret
  refine ⟨rfl, ps ++ [(v, L)] ++ [(v', L)], ?_, ?_⟩
  · have := HM.out
    rw [show (ps ++ [(v, L)] ++ [(v', L)]).length = n + 1 + 1 by simp [HNN.out]]
    exact this
  · simp [HNN.out]
theorem DS.lays {n k : Nat} (h : DS w pb vb bk lt ob oc Lp Lv E N T ps n u) (hN : N ≤ 1000000000) (o : Ow) (ho : o.In w) (hl : o.bs.length ≤ 4194304) (hk : k < 2) :
    Calls Tryz.prog 6 #[.pointer (some ⟨pb, 3 * k, none⟩), .pointer (some ⟨vb, 2 * k, none⟩), .agg o.cs.toArray] u fun e u' => e = .returned (.bool true) ∧ ∃ Lp' Lv' E', DS w pb vb bk lt ob oc Lp' Lv' E' (N + o.bs.length + 20) T ps n u' := by
  obtain ⟨col, h1, h2, h3⟩ := h
  have n4 : ¬ SL 4 := by unfold SL; omega
  have n9 : ¬ SL 9 := by unfold SL; omega
  exact (lays_any h1 hN o ho hl hk).mono fun e u' ⟨q1, col', Lp', Lv', E', q2, q3⟩ => ⟨q1, Lp', Lv', E', col', q2, st_stp h2 q3 n4, h3.stp q3 n9⟩
theorem DS.settle (h : DS w pb vb bk lt ob oc Lp Lv E N T ps ps.length u) (hn : ps.length ≤ 1000) (hT : T + ps.length ≤ 100000) (k0 : Int) :
    Calls Tryz.prog 8 #[.pointer (some ⟨lt, 0, none⟩), .pointer (some ⟨bk, 0, none⟩), .int .i64 k0] u fun e u' => e = .returned (.bool true) ∧ ∃ T' ps', DS w pb vb bk lt ob oc Lp Lv E N T' ps' ps'.length u' ∧ T' + ps'.length ≤ T + ps.length ∧ ps'.length ≤ ps.length := by
  obtain ⟨col, h1, h2, h3⟩ := h
  refine (Bq.settle_any u (Bt w u col) bk lt T ps h2 (by omega) (by omega) k0).mono fun e u' ⟨q1, q2, q3⟩ => ⟨q1, ?_⟩
  rcases q3 with ⟨_, rfl⟩ | ⟨T', hT', q3⟩
  · exact ⟨T, ps, ⟨col, h1, h2, h3⟩, Nat.le_refl _, Nat.le_refl _⟩
  · obtain ⟨r1, r2⟩ := st_own h1.ww.gr q3 q2
    exact ⟨T', [], ⟨_, h1.stp r2 (fun i e => by omega), r1, h3.stp r2 (by decide)⟩, by have := hT'.out; simp only [List.length_nil]; omega, Nat.zero_le _⟩
theorem DS.look {n : Nat} (h : DS w pb vb bk lt ob oc Lp Lv E N T ps n u) : Calls Tryz.prog 9 #[.pointer (some ⟨bk, 0, none⟩)] u fun e u' => e = .returned (.bool true) ∧ w.grownBy u' none := by
  obtain ⟨col, h1, h2, h3⟩ := h
  refine h2.look.mono fun e u' ⟨q1, q2⟩ => ⟨q1, ?_⟩
  have hg := h1.ww.gr
  exact ⟨q2.os.trans hg.os, q2.tape.trans hg.tape, q2.output.trans hg.output, Nat.le_trans hg.size q2.size, fun k hk _ => (q2.block k (Nat.lt_of_lt_of_le hk hg.size) (fun e => by
    rcases e with e | e
    · have := e.2.1; omega
    · have := hg.size; omega)).trans (hg.block k hk (by simp))⟩
theorem DS.cellO {n : Nat} (h : DS w pb vb bk lt ob oc Lp Lv E N T ps n u) (hc : oc ≠ []) : Blk u ob oc 67 := by
  obtain ⟨col, h1, h2, h3⟩ := h
  exact (h3.resolve_left hc).blk
/-- Another field is at hand. -/
theorem DS.field {n : Nat} (h : DS w pb vb bk lt ob oc Lp Lv E N T ps n u) {ob' : Nat} {oc' : List Value} (hg : u.grownBy u' none) (hb : Blk u' ob' oc' 67) (ho : u.heap.size ≤ ob') : DS w pb vb bk lt ob' oc' Lp Lv E N T ps n u' := by
  obtain ⟨col, h1, h2, h3⟩ := h
  have s : Stp w (fun _ => False) u col u' (dye u col 9) := Stp.new hg 9
  exact ⟨_, h1.stp s (fun _ q => q.elim), st_stp h2 s (fun q => q), .inr ⟨hb, dye_new ho, Nat.le_trans h1.ww.gr.size ho, hb.lt⟩⟩
theorem DS.none {n : Nat} (h : DS w pb vb bk lt ob oc Lp Lv E N T ps n u) : DS w pb vb bk lt ob [] Lp Lv E N T ps n u := by
  obtain ⟨col, h1, h2, h3⟩ := h
  exact ⟨col, h1, h2, .inl rfl⟩
end Go.Proofs.YtfalgjdhdgkbfaaGreatDoor
