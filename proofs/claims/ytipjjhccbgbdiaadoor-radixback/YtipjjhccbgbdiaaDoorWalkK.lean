/- The walk of the statement RadixJoins. -/
import Derived.Test.YtipjjhccbgbdiaaDoorOrder
import Derived.Laws.AppendOwnNone
namespace Go.Proofs.YtipjjhccbgbdiaaDoor
open Go Go.RowKit
open Go.RowKit (wrap32 wrap64)

/-- append of bytes that can be read onto a row that the call owns. -/
theorem wpList_append_rd {w : World} {ops : Array Oper} {rest : List Oper} {o : Oper} {a : Act} {Q : Exit → Act → World → Prop} (hgd : o.guard = none) (s x : Operand)
    (ho : o.op = .call { callee := .builtin .append, args := #[s, x], argTypes := #[28, 28] })
    (B : Nat) (v : Value) (n : Nat) (xs : List Value) (hs : a.eval s = v) (hown : w.ownsRow B 5 1 v n xs) (l : List UInt8) (hx : Rd w (a.eval x) l) (hn : n + l.length ≤ 1099511627776) (hB : B ≤ w.heap.size)
    (h : ∀ v' w', w'.ownsRow B 5 1 v' (n + l.length) (xs ++ cb l) → w.grownBy w' v.ownBlock → wpList Tryd.prog ops Q rest (a.put o.dst v') w') : wpList Tryd.prog ops Q (o :: rest) a w := by
  obtain ⟨inf, hi, hz0, hz1, hz2⟩ := info_parts Tryd.info5
  obtain ⟨ad, b, off, c, hv, hc, hnn, ha, hcell⟩ := hx
  cases ad with
  | none =>
    have hc0 := hnn rfl
    have hl : l = [] := by
      cases l with
      | nil => rfl
      | cons _ _ => have := (ha (by simp)).1; cases this
    subst hl
    subst hc0
    refine wpList_append_own_none hgd s x 28 ho B 5 inf 1 Tryd.underlying28 hi v n xs hs hown hv ?_
    exact h v w (by simpa [cb] using hown) (World.grownBy.refl _ _)
  | some ad =>
    refine wpList_append_own w hgd s x 28 ho B 5 inf (.int .u8 0) 1 1 Tryd.underlying28 hi hz0 hz1 hz2 rfl (by decide) v n xs hs hown ad l.length c (cb l) hv (by rw [cb_length]; omega) ?_ ?_ (by unfold maxLen; omega) (by omega) hB ?_
    · intro j u hu
      have hj : j < l.length := by have := (List.getElem?_eq_some_iff.1 hu).1; rwa [cb_length] at this
      have e1 : ad = ⟨b, off, none⟩ := Option.some.inj (ha (by omega)).1
      rw [e1, Addr.add_lit, hcell j hj]
      rw [← hu]
      simp [cb, List.getElem?_eq_getElem hj]
    · intro u hu
      unfold cb at hu
      obtain ⟨_, _, rfl⟩ := List.mem_map.1 hu
      rfl
    · intro v' w' h1 h2 _
      exact h v' w' h1 h2

theorem Rd.take {w : World} {a : Option Addr} {n c : Nat} {l : List UInt8} (h : Rd w (.slice a n c) l) (m : Nat) (hm : m ≤ l.length) : Rd w (.slice a m c) (l.take m) := by
  obtain ⟨a', b, off, c', hv, hc, hn, ha, hcell⟩ := h
  simp only [Value.slice.injEq] at hv
  obtain ⟨rfl, rfl, rfl⟩ := hv
  refine ⟨a, b, off, c, by rw [List.length_take, Nat.min_eq_left hm], by rw [List.length_take]; omega, hn, fun h => ha (by rw [List.length_take] at h; omega), fun i hi => ?_⟩
  rw [List.length_take] at hi
  rw [hcell i (by omega)]
  simp

theorem Rd.drewN {w : World} {v : Value} {l : List UInt8} (h : Rd w v l) (n : Nat) : Rd (w.drewN n) v l := h

theorem Rd.cap {w : World} {a : Option Addr} {n c : Nat} {l : List UInt8} (h : Rd w (.slice a n c) l) : l.length ≤ c := by
  obtain ⟨a', b, off, c', hv, hc, hn, ha, hcell⟩ := h
  simp only [Value.slice.injEq] at hv
  obtain ⟨rfl, rfl, rfl⟩ := hv
  exact hc

theorem encPad_length (l : List UInt8) (h : l.length ≤ 1048576) : (encPad l).length ≤ 2097152 := by
  unfold encPad
  rw [List.length_append, enc_length, List.length_replicate]
  omega

theorem encPad_append (l m : List UInt8) (h : l.length % 3 = 0) : encPad (l ++ m) = encPad l ++ encPad m := by
  unfold encPad
  rw [enc_append _ _ _ h, List.length_append, h]
  rw [show (3 - (l.length + m.length) % 3) % 3 = (3 - m.length % 3) % 3 by omega]
  simp

/-- Two texts behind one another, against one text. -/
theorem cat_eq (x y z : List UInt8) (s1 s2 s3 : ByteArray) (h1 : s1.data.toList = x) (h2 : s2.data.toList = y) (h3 : s3.data.toList = z) (h : z = x ++ y) : (s3.toList == (s1 ++ s2).toList) = true := by
  rw [Lib.toList_data, Lib.toList_data, ByteArray.data_append, Array.toList_append, h1, h2, h3, h]
  exact beq_self_eq_true _

set_option maxRecDepth 100000 in
set_option maxHeartbeats 1000000 in
theorem joins_walk (w : World) (aB : Option Addr) (bB oB nB cB : Nat) (V : Nat → Value) (L : Nat → List UInt8) (aW : Option Addr) (bW oW nW cW : Nat) (N : Nat → Nat) (K : Nat → Int) (vS vN : Value)
    (ht : Tens w) (hnB : nB ≤ 140737488355328) (hnW : nW ≤ 140737488355328) (hB1 : 0 < nB → aB = some ⟨bB, oB, none⟩ ∧ bB < w.heap.size) (hB2 : ∀ i, i < nB → w.cell? ⟨bB, oB + i, none⟩ = some (V i) ∧ Rd w (V i) (L i) ∧ (L i).length ≤ 140737488355328)
    (hW1 : 0 < nW → aW = some ⟨bW, oW, none⟩ ∧ bW < w.heap.size) (hW2 : ∀ i, i < nW → w.cell? ⟨bW, oW + i * 2, none⟩ = some (.int .u64 (N i)) ∧ w.cell? ⟨bW, oW + i * 2 + 1, none⟩ = some (.int .i64 (K i))) :
    Calls Tryd.prog 5 #[.agg #[.slice aB nB cB, vS, vN, .slice aW nW cW]] w fun e w' => e = .returned (.bool true) ∧ Below w.heap.size w w' := by
  have HT := hid ht
  have HB1 := hid hB1
  have HB2 := hid hB2
  have HW1 := hid hW1
  have HW2 := hid hW2
  clear ht hB1 hB2 hW1 hW2
  go_enter Tryd.func5, Tryd.ntmps5
  go_wp2
  go_loopw [3, 4] (fun tv iv wr => ∃ (j : Nat) (t : Int), 0 ≤ t ∧ t ≤ 524288 ∧ tv = .int .i64 t ∧ iv = .int .i64 (j + 1) ∧ (j < nB ∨ j = 0) ∧ Below (w.heap.size + 1) (w.alloc (.cells #[.slice aB nB cB, vS, vN, .slice aW nW cW] 27)) wr) (fun _ iv _ => nB + 1 - (intOf iv).toNat)
  case atStart => exact ⟨0, 0, by omega, by omega, rfl, rfl, .inr rfl, Below.refl _ _⟩
  case round =>
    obtain ⟨j, t, ht0, ht1, rfl, rfl, hj, hbel⟩ := hrel
    have hw : Below w.heap.size w wr := ((Below.refl w.heap.size w).alloc (Nat.le_refl _) _).trans (hbel.mono (by omega))
    have c0 : wr.cell? ⟨w.heap.size, 0, none⟩ = some (.slice aB nB cB) := by rw [hbel.cell (p := ⟨w.heap.size, 0, none⟩) (by simp)]; simp
    have c3 : wr.cell? ⟨w.heap.size, 3, none⟩ = some (.slice aW nW cW) := by rw [hbel.cell (p := ⟨w.heap.size, 3, none⟩) (by simp)]; simp
    have hsz : w.heap.size < wr.heap.size := by have := hbel.size; simp at this; omega
    have HBEL := hid hbel
    have HW := hid hw
    clear hbel hw
    by_cases hlt : j + 1 < nB
    · have hlt' : (j : Int) + 1 < (nB : Int) := by omega
      obtain ⟨rfl, hbB⟩ := HB1.out (by omega)
      obtain ⟨p1, r1, q1⟩ := HB2.out j (by omega)
      obtain ⟨p2, r2, q2⟩ := HB2.out (j + 1) hlt
      have R1 := hid (r1.below HW.out)
      have R2 := hid (r2.below HW.out)
      rw [← HW.out.cell (p := ⟨bB, oB + j, none⟩) hbB] at p1
      rw [← HW.out.cell (p := ⟨bB, oB + (j + 1), none⟩) hbB] at p2
      clear r1 r2
      generalize V j = v1 at p1 R1
      generalize V (j + 1) = v2 at p2 R2
      generalize L j = l1 at R1 q1
      generalize L (j + 1) = l2 at R2 q2
      obtain ⟨a1, c1, e1⟩ : ∃ a c, v1 = .slice a l1.length c := by obtain ⟨a, _, _, c, h, _⟩ := R1.out; exact ⟨a, c, h⟩
      obtain ⟨a2, c2, e2⟩ : ∃ a c, v2 = .slice a l2.length c := by obtain ⟨a, _, _, c, h, _⟩ := R2.out; exact ⟨a, c, h⟩
      subst e1
      subst e2
      obtain ⟨x1, hx1⟩ : ∃ x : Int, (l1.length : Int) = x := ⟨_, rfl⟩
      obtain ⟨x2, hx2⟩ : ∃ x : Int, (l2.length : Int) = x := ⟨_, rfl⟩
      have hx1a : 0 ≤ x1 := by omega
      have hx1b : x1 ≤ 140737488355328 := by omega
      have hx2a : 0 ≤ x2 := by omega
      have hx2b : x2 ≤ 140737488355328 := by omega
      have HX1 := hid hx1
      have HX2 := hid hx2
      clear q1 q2
      by_cases hs : t + x1 + x2 < 524288
      · have HC0 := hid c0
        have HC3 := hid c3
        have HP := hid (And.intro hj (And.intro HBEL.out HW.out))
        go_wp2_with (at_builtin; refine wpList_append_rd rfl _ _ rfl wr.heap.size _ 0 [] rfl (World.ownsRow_lit wr #[] 0 (Nat.le_refl _) (by decide) rfl) l1 (R1.out.below ((Below.refl _ _).alloc (Nat.le_refl _) _)) (by have := HX1.out; omega) (by simp) ?_)
        intro v3 w3 hown3 hg3
        have hb3 : Below wr.heap.size wr w3 := ((Below.refl _ _).alloc (Nat.le_refl _) _).grown hg3 (by simp) (fun k hk => by simp [Value.ownBlock] at hk; omega)
        clear hg3
        have HB3 := hid hb3
        have OW3 := hid hown3
        clear hb3 hown3 p1 p2 c0 c3 HBEL HW hj
        go_wp2_with (at_builtin; refine wpList_append_rd rfl _ _ rfl wr.heap.size _ l1.length (cb l1) rfl OW3.out l2 (R2.out.below HB3.out) (by have := HX1.out; have := HX2.out; omega) HB3.out.size ?_)
        intro v4 w4 hown4 hg4
        have HB4 := hid (HB3.out.grown hg4 HB3.out.size (fun k hk => (OW3.out.lt k hk).1))
        rw [← cb_append] at hown4
        have R4 := hid (Rd.own hown4)
        clear hown4 hg4 OW3 HB3
        go_wp2_with fail
        refine (R4.out.text16 (by rw [List.length_append]; have := HX1.out; have := HX2.out; omega)).mono ?_
        rintro e w5 ⟨rfl, hbx⟩
        have HB5 := hid (Below.step HB4.out hbx)
        obtain ⟨s12, Hs12⟩ : ∃ s : ByteArray, Hid ((⟨(enc16 (l1 ++ l2)).toArray⟩ : ByteArray) = s) := ⟨_, hid rfl⟩
        rw [Hs12.out]
        have bs12 : s12.size ≤ 4194304 := by rw [← Hs12.out, ← size_list]; show (enc16 (l1 ++ l2)).length ≤ _; rw [enc16_length, List.length_append]; have := HX1.out; have := HX2.out; omega
        clear hbx HB4
        go_wp2_with fail
        refine ((R1.out.below HB5.out).text16 (by have := HX1.out; omega)).mono ?_
        rintro e w6 ⟨rfl, hbx⟩
        have HB6 := hid (Below.step HB5.out hbx)
        obtain ⟨s1, Hs1⟩ : ∃ s : ByteArray, Hid ((⟨(enc16 l1).toArray⟩ : ByteArray) = s) := ⟨_, hid rfl⟩
        rw [Hs1.out]
        have bs1 : s1.size ≤ 4194304 := by rw [← Hs1.out, ← size_list]; show (enc16 l1).length ≤ _; rw [enc16_length]; have := HX1.out; omega
        clear hbx HB5
        go_wp2_with fail
        refine ((R2.out.below HB6.out).text16 (by have := HX2.out; omega)).mono ?_
        rintro e w7 ⟨rfl, hbx⟩
        have HB7 := hid (Below.step HB6.out hbx)
        obtain ⟨s2, Hs2⟩ : ∃ s : ByteArray, Hid ((⟨(enc16 l2).toArray⟩ : ByteArray) = s) := ⟨_, hid rfl⟩
        rw [Hs2.out]
        have bs2 : s2.size ≤ 4194304 := by rw [← Hs2.out, ← size_list]; show (enc16 l2).length ≤ _; rw [enc16_length]; have := HX2.out; omega
        clear hbx HB6
        have hq1 : (s12.toList == (s1 ++ s2).toList) = true := cat_eq (enc16 l1) (enc16 l2) (enc16 (l1 ++ l2)) s1 s2 s12 (by rw [← Hs1.out]) (by rw [← Hs2.out]) (by rw [← Hs12.out]) (enc16_append _ _)
        obtain ⟨m, hm3, HM⟩ : ∃ m : Nat, x1 / 3 * 3 = (m : Int) ∧ Hid (m ≤ l1.length ∧ m % 3 = 0) := ⟨l1.length / 3 * 3, by have := HX1.out; omega, hid (by omega)⟩
        have hmc : (m : Int) ≤ (c1 : Int) := by have := HM.out; have := R1.out.cap; omega
        clear R4
        obtain ⟨l3, HL3, RC⟩ : ∃ l3 : List UInt8, Hid (l3.length = m ∧ l3.length % 3 = 0 ∧ l3.length ≤ l1.length) ∧ Hid (Rd wr (.slice a1 m c1) l3) := ⟨l1.take m, hid (by rw [List.length_take]; have := HM.out; omega), hid (R1.out.take m HM.out.1)⟩
        go_wp2_with (at_builtin; refine wpList_append_rd rfl _ _ rfl w7.heap.size _ 0 [] rfl (World.ownsRow_lit w7 #[] 0 (Nat.le_refl _) (by decide) rfl) l3 ((RC.out.below HB7.out).below ((Below.refl _ _).alloc (Nat.le_refl _) _)) (by have := HX1.out; have := HL3.out; omega) (by simp) ?_)
        intro v8 w8 hown8 hg8
        have HB78 := hid (((Below.refl w7.heap.size w7).alloc (Nat.le_refl _) _).grown hg8 (by simp) (fun k hk => by simp [Value.ownBlock] at hk; omega))
        have OW8 := hid hown8
        have HB8 := hid (Below.step HB7.out HB78.out)
        clear hown8 hg8 R1
        go_wp2_with (at_builtin; refine wpList_append_rd rfl _ _ rfl w7.heap.size _ l3.length (cb l3) rfl OW8.out l2 (R2.out.below HB8.out) (by have := HX1.out; have := HX2.out; have := HL3.out; omega) HB78.out.size ?_)
        intro v9 w9 hown9 hg9
        have HB9 := hid (Below.step HB7.out (HB78.out.grown hg9 HB78.out.size (fun k hk => (OW8.out.lt k hk).1)))
        rw [← cb_append] at hown9
        have R9 := hid (Rd.own hown9)
        clear hown9 hg9 OW8 HB8 HB78 HB7
        go_wp2_with fail
        refine (R9.out.text64 (by rw [List.length_append]; have := HX1.out; have := HX2.out; have := HL3.out; omega)).mono ?_
        rintro e w10 ⟨rfl, hbx⟩
        have HB10 := hid (Below.step HB9.out hbx)
        have R10 := hid (R9.out.below hbx)
        clear R9
        obtain ⟨t32, Ht32⟩ : ∃ s : ByteArray, Hid ((⟨(enc urlL (l3 ++ l2)).toArray⟩ : ByteArray) = s) := ⟨_, hid rfl⟩
        rw [Ht32.out]
        have bt32 : t32.size ≤ 4194304 := by rw [← Ht32.out, ← size_list]; show (enc urlL (l3 ++ l2)).length ≤ _; rw [enc_length, List.length_append]; have := HX1.out; have := HX2.out; have := HL3.out; omega
        clear hbx HB9
        go_wp2_with fail
        refine ((RC.out.below HB10.out).text64 (by have := HX1.out; have := HL3.out; omega)).mono ?_
        rintro e w11 ⟨rfl, hbx⟩
        have HB11 := hid (Below.step HB10.out hbx)
        have R11 := hid (R10.out.below hbx)
        clear R10
        obtain ⟨t3, Ht3⟩ : ∃ s : ByteArray, Hid ((⟨(enc urlL l3).toArray⟩ : ByteArray) = s) := ⟨_, hid rfl⟩
        rw [Ht3.out]
        have bt3 : t3.size ≤ 4194304 := by rw [← Ht3.out, ← size_list]; show (enc urlL l3).length ≤ _; rw [enc_length]; have := HX1.out; have := HL3.out; omega
        clear hbx HB10
        go_wp2_with fail
        refine ((R2.out.below HB11.out).text64 (by have := HX2.out; omega)).mono ?_
        rintro e w12 ⟨rfl, hbx⟩
        have HB12 := hid (Below.step HB11.out hbx)
        have R12 := hid (R11.out.below hbx)
        clear R11
        obtain ⟨t2, Ht2⟩ : ∃ s : ByteArray, Hid ((⟨(enc urlL l2).toArray⟩ : ByteArray) = s) := ⟨_, hid rfl⟩
        rw [Ht2.out]
        have bt2 : t2.size ≤ 4194304 := by rw [← Ht2.out, ← size_list]; show (enc urlL l2).length ≤ _; rw [enc_length]; have := HX2.out; omega
        clear hbx HB11
        have hq2 : (t32.toList == (t3 ++ t2).toList) = true := cat_eq (enc urlL l3) (enc urlL l2) (enc urlL (l3 ++ l2)) t3 t2 t32 (by rw [← Ht3.out]) (by rw [← Ht2.out]) (by rw [← Ht32.out]) (enc_append _ _ _ HL3.out.2.1)
        go_wp2_with fail
        refine (R12.out.textPad (by rw [List.length_append]; have := HX1.out; have := HX2.out; have := HL3.out; omega)).mono ?_
        rintro e w13 ⟨rfl, hbx⟩
        have HB13 := hid (Below.step HB12.out hbx)
        obtain ⟨p32, Hp32⟩ : ∃ s : ByteArray, Hid ((⟨(encPad (l3 ++ l2)).toArray⟩ : ByteArray) = s) := ⟨_, hid rfl⟩
        rw [Hp32.out]
        have bp32 : p32.size ≤ 4194304 := by rw [← Hp32.out, ← size_list]; show (encPad (l3 ++ l2)).length ≤ _; exact Nat.le_trans (encPad_length _ (by rw [List.length_append]; have := HX1.out; have := HX2.out; have := HL3.out; omega)) (by decide)
        clear hbx HB12
        go_wp2_with fail
        refine ((RC.out.below HB13.out).textPad (by have := HX1.out; have := HL3.out; omega)).mono ?_
        rintro e w14 ⟨rfl, hbx⟩
        have HB14 := hid (Below.step HB13.out hbx)
        obtain ⟨p3, Hp3⟩ : ∃ s : ByteArray, Hid ((⟨(encPad l3).toArray⟩ : ByteArray) = s) := ⟨_, hid rfl⟩
        rw [Hp3.out]
        have bp3 : p3.size ≤ 4194304 := by rw [← Hp3.out, ← size_list]; show (encPad l3).length ≤ _; exact Nat.le_trans (encPad_length _ (by have := HX1.out; have := HL3.out; omega)) (by decide)
        clear hbx HB13
        go_wp2_with fail
        refine ((R2.out.below HB14.out).textPad (by have := HX2.out; omega)).mono ?_
        rintro e w15 ⟨rfl, hbx⟩
        have HB15 := hid (Below.step HB14.out hbx)
        obtain ⟨p2, Hp2⟩ : ∃ s : ByteArray, Hid ((⟨(encPad l2).toArray⟩ : ByteArray) = s) := ⟨_, hid rfl⟩
        rw [Hp2.out]
        have bp2 : p2.size ≤ 4194304 := by rw [← Hp2.out, ← size_list]; show (encPad l2).length ≤ _; exact Nat.le_trans (encPad_length _ (by have := HX2.out; omega)) (by decide)
        clear hbx HB14
        have hq3 : (p32.toList == (p3 ++ p2).toList) = true := cat_eq (encPad l3) (encPad l2) (encPad (l3 ++ l2)) p3 p2 p32 (by rw [← Hp3.out]) (by rw [← Hp2.out]) (by rw [← Hp32.out]) (encPad_append _ _ HL3.out.2.1)
        go_wp2
        exact ⟨⟨j + 1, t + x1 + x2 + 1, by omega, by omega, rfl, by go_num, .inl hlt, HP.out.2.1.trans (HB15.out.mono hsz)⟩, by simp [intOf]; omega⟩
      · have hs2 : 524288 ≤ t + x1 + x2 := by omega
        clear hs
        go_wp2
        clear c0 p1 p2 R1 R2 hs2 HX1 HX2 hx1 hx2 HB1 HB2
        go_loopw [10] (fun iv wq => ∃ i : Nat, iv = .int .i64 (i + 1) ∧ (i < nW ∨ i = 0) ∧ Below (w.heap.size + 1) (w.alloc (.cells #[.slice (some ⟨bB, oB, none⟩) nB cB, vS, vN, .slice aW nW cW] 27)) wq) (fun iv _ => nW + 1 - (intOf iv).toNat)
        case atStart => exact ⟨0, rfl, .inr rfl, HBEL.out⟩
        case round =>
          clear HBEL HW c3 hsz hj hlt
          obtain ⟨i, rfl, hi, hbel⟩ := hrel
          have hw : Below w.heap.size w wr := ((Below.refl w.heap.size w).alloc (Nat.le_refl _) _).trans (hbel.mono (by omega))
          have c3 : wr.cell? ⟨w.heap.size, 3, none⟩ = some (.slice aW nW cW) := by rw [hbel.cell (p := ⟨w.heap.size, 3, none⟩) (by simp)]; simp
          have hsz : w.heap.size < wr.heap.size := by have := hbel.size; simp at this; omega
          have HBEL := hid hbel
          have HW := hid hw
          clear hbel hw
          by_cases hlt : i + 1 < nW
          · have hlt' : (i : Int) + 1 < (nW : Int) := by omega
            obtain ⟨rfl, hbW⟩ := HW1.out (by omega)
            obtain ⟨p1, -⟩ := HW2.out i (by omega)
            obtain ⟨p2, p3⟩ := HW2.out (i + 1) hlt
            rw [← HW.out.cell (p := ⟨bW, oW + i * 2, none⟩) hbW] at p1
            rw [← HW.out.cell (p := ⟨bW, oW + (i + 1) * 2, none⟩) hbW] at p2
            rw [← HW.out.cell (p := ⟨bW, oW + (i + 1) * 2 + 1, none⟩) hbW] at p3
            generalize N i = n1 at p1
            generalize N (i + 1) = n2 at p2
            generalize K (i + 1) = kk at p3
            have hbw2 : bW < wr.heap.size := by omega
            go_wp2_with fail
            refine (within_any _ _).mono ?_
            rintro e w' ⟨⟨r, hr, rfl⟩, hww⟩
            have hww' := hww.symm
            clear hww
            subst hww'
            go_wp2_with fail
            refine (lay_all n1 r hr _).mono ?_
            have P1 := hid p1
            have P2 := hid p2
            have C3 := hid c3
            clear p1 p2 p3 c3
            rintro e w2 (⟨va, rfl, f1, ra, hb2⟩ | ⟨rfl, f1, hw2⟩)
            · have c32 := C3.out
              have p22 := P2.out
              rw [← hb2.cell (p := ⟨w.heap.size, 3, none⟩) hsz] at c32
              rw [← hb2.cell (p := ⟨bW, oW + (i + 1) * 2, none⟩) hbw2] at p22
              have HB2 := hid hb2
              have RA := hid ra
              clear hb2 ra
              go_wp2_with fail
              refine (lay_all n2 r hr _).mono ?_
              rintro e w3 (⟨vb, rfl, f2, rb, hb3⟩ | ⟨rfl, f2, hw3⟩)
              · have RA3 := hid (RA.out.below hb3)
                have RB3 := hid rb
                have HB3 := hid (Below.step HB2.out hb3)
                have c33 := C3.out
                have p13 := P1.out
                have p23 := P2.out
                rw [← HB3.out.cell (p := ⟨w.heap.size, 3, none⟩) hsz] at c33
                rw [← HB3.out.cell (p := ⟨bW, oW + i * 2, none⟩) hbw2] at p13
                rw [← HB3.out.cell (p := ⟨bW, oW + (i + 1) * 2, none⟩) hbw2] at p23
                have hls := less_fit n1 n2 (r + 1) f1 f2
                have HBF := hid (fun nq => Rd.before (Rd.drewN RA3.out nq) (Rd.drewN RB3.out nq))
                rw [hls] at HBF
                clear hb3 rb RA HB2 c32 p22 f1 f2 hls
                go_wp2_with fail
                go_quiet ((first | (go_at_call 10; exact Calls.quiet_of_same (num_any _ _)) | (go_at_call 20; exact Calls.quiet_of_same (HBF.out _))))
                rename_i nq
                have HB4 : Hid (Below wr.heap.size wr (w3.drewN nq)) := hid (HB3.out.trans ⟨rfl, rfl, rfl, Nat.le_refl _, fun _ _ => rfl⟩)
                generalize w3.drewN nq = w4 at HB4 ⊢
                clear HB3 c33 p13 p23 RA3 RB3
                go_wp2
                exact ⟨⟨i + 1, by go_num, .inl hlt, HBEL.out.trans (HB4.out.mono hsz)⟩, by simp [intOf]; omega⟩
              · have hw3' := hw3.symm
                clear hw3
                subst hw3'
                clear RA f1 f2 p22 c32
                go_wp2_with fail
                go_quiet ((go_at_call 10; exact Calls.quiet_of_same (num_any _ _)))
                rename_i nq
                have HB4 : Hid (Below wr.heap.size wr (w2.drewN nq)) := hid (HB2.out.trans ⟨rfl, rfl, rfl, Nat.le_refl _, fun _ _ => rfl⟩)
                generalize w2.drewN nq = w4 at HB4 ⊢
                go_wp2
                exact ⟨⟨i + 1, by go_num, .inl hlt, HBEL.out.trans (HB4.out.mono hsz)⟩, by simp [intOf]; omega⟩
            · have hw2' := hw2.symm
              clear hw2
              subst hw2'
              have c3 := C3.out
              have p2 := P2.out
              go_wp2_with fail
              refine (lay_all n2 r hr _).mono ?_
              rintro e w3 (⟨vb, rfl, f2, rb, hb3⟩ | ⟨rfl, f2, hw3⟩)
              · have HB3 := hid hb3
                clear hb3 rb f1 f2 c3 p2
                go_wp2_with fail
                go_quiet ((go_at_call 10; exact Calls.quiet_of_same (num_any _ _)))
                rename_i nq
                have HB4 : Hid (Below wr.heap.size wr (w3.drewN nq)) := hid (HB3.out.trans ⟨rfl, rfl, rfl, Nat.le_refl _, fun _ _ => rfl⟩)
                generalize w3.drewN nq = w4 at HB4 ⊢
                go_wp2
                exact ⟨⟨i + 1, by go_num, .inl hlt, HBEL.out.trans (HB4.out.mono hsz)⟩, by simp [intOf]; omega⟩
              · have hw3' := hw3.symm
                clear hw3
                subst hw3'
                clear f1 f2 c3 p2
                go_wp2_with fail
                go_quiet ((go_at_call 10; exact Calls.quiet_of_same (num_any _ _)))
                rename_i nq
                have HB4 : Hid (Below wr.heap.size wr (wr.drewN nq)) := hid ⟨rfl, rfl, rfl, Nat.le_refl _, fun _ _ => rfl⟩
                generalize wr.drewN nq = w4 at HB4 ⊢
                go_wp2
                exact ⟨⟨i + 1, by go_num, .inl hlt, HBEL.out.trans (HB4.out.mono hsz)⟩, by simp [intOf]; omega⟩
          · have hge : (nW : Int) ≤ (i : Int) + 1 := by omega
            go_wp2_with fail
            refine (lays_any _ (HT.out.below HW.out)).mono ?_
            rintro e w2 ⟨rfl, hb2⟩
            have HB2 := hid (Below.step HW.out hb2)
            clear hb2
            go_wp2
            go_ret
            exact ⟨rfl, HB2.out⟩
    · have hge : (nB : Int) ≤ (j : Int) + 1 := by omega
      clear HB1 HB2
      go_wp2
      clear c0 hge
      go_loopw [10] (fun iv wq => ∃ i : Nat, iv = .int .i64 (i + 1) ∧ (i < nW ∨ i = 0) ∧ Below (w.heap.size + 1) (w.alloc (.cells #[.slice aB nB cB, vS, vN, .slice aW nW cW] 27)) wq) (fun iv _ => nW + 1 - (intOf iv).toNat)
      case atStart => exact ⟨0, rfl, .inr rfl, HBEL.out⟩
      case round =>
        clear HBEL HW c3 hsz hj hlt
        obtain ⟨i, rfl, hi, hbel⟩ := hrel
        have hw : Below w.heap.size w wr := ((Below.refl w.heap.size w).alloc (Nat.le_refl _) _).trans (hbel.mono (by omega))
        have c3 : wr.cell? ⟨w.heap.size, 3, none⟩ = some (.slice aW nW cW) := by rw [hbel.cell (p := ⟨w.heap.size, 3, none⟩) (by simp)]; simp
        have hsz : w.heap.size < wr.heap.size := by have := hbel.size; simp at this; omega
        have HBEL := hid hbel
        have HW := hid hw
        clear hbel hw
        by_cases hlt : i + 1 < nW
        · have hlt' : (i : Int) + 1 < (nW : Int) := by omega
          obtain ⟨rfl, hbW⟩ := HW1.out (by omega)
          obtain ⟨p1, -⟩ := HW2.out i (by omega)
          obtain ⟨p2, p3⟩ := HW2.out (i + 1) hlt
          rw [← HW.out.cell (p := ⟨bW, oW + i * 2, none⟩) hbW] at p1
          rw [← HW.out.cell (p := ⟨bW, oW + (i + 1) * 2, none⟩) hbW] at p2
          rw [← HW.out.cell (p := ⟨bW, oW + (i + 1) * 2 + 1, none⟩) hbW] at p3
          generalize N i = n1 at p1
          generalize N (i + 1) = n2 at p2
          generalize K (i + 1) = kk at p3
          have hbw2 : bW < wr.heap.size := by omega
          go_wp2_with fail
          refine (within_any _ _).mono ?_
          rintro e w' ⟨⟨r, hr, rfl⟩, hww⟩
          have hww' := hww.symm
          clear hww
          subst hww'
          go_wp2_with fail
          refine (lay_all n1 r hr _).mono ?_
          have P1 := hid p1
          have P2 := hid p2
          have C3 := hid c3
          clear p1 p2 p3 c3
          rintro e w2 (⟨va, rfl, f1, ra, hb2⟩ | ⟨rfl, f1, hw2⟩)
          · have c32 := C3.out
            have p22 := P2.out
            rw [← hb2.cell (p := ⟨w.heap.size, 3, none⟩) hsz] at c32
            rw [← hb2.cell (p := ⟨bW, oW + (i + 1) * 2, none⟩) hbw2] at p22
            have HB2 := hid hb2
            have RA := hid ra
            clear hb2 ra
            go_wp2_with fail
            refine (lay_all n2 r hr _).mono ?_
            rintro e w3 (⟨vb, rfl, f2, rb, hb3⟩ | ⟨rfl, f2, hw3⟩)
            · have RA3 := hid (RA.out.below hb3)
              have RB3 := hid rb
              have HB3 := hid (Below.step HB2.out hb3)
              have c33 := C3.out
              have p13 := P1.out
              have p23 := P2.out
              rw [← HB3.out.cell (p := ⟨w.heap.size, 3, none⟩) hsz] at c33
              rw [← HB3.out.cell (p := ⟨bW, oW + i * 2, none⟩) hbw2] at p13
              rw [← HB3.out.cell (p := ⟨bW, oW + (i + 1) * 2, none⟩) hbw2] at p23
              have hls := less_fit n1 n2 (r + 1) f1 f2
              have HBF := hid (fun nq => Rd.before (Rd.drewN RA3.out nq) (Rd.drewN RB3.out nq))
              rw [hls] at HBF
              clear hb3 rb RA HB2 c32 p22 f1 f2 hls
              go_wp2_with fail
              go_quiet ((first | (go_at_call 10; exact Calls.quiet_of_same (num_any _ _)) | (go_at_call 20; exact Calls.quiet_of_same (HBF.out _))))
              rename_i nq
              have HB4 : Hid (Below wr.heap.size wr (w3.drewN nq)) := hid (HB3.out.trans ⟨rfl, rfl, rfl, Nat.le_refl _, fun _ _ => rfl⟩)
              generalize w3.drewN nq = w4 at HB4 ⊢
              clear HB3 c33 p13 p23 RA3 RB3
              go_wp2
              exact ⟨⟨i + 1, by go_num, .inl hlt, HBEL.out.trans (HB4.out.mono hsz)⟩, by simp [intOf]; omega⟩
            · have hw3' := hw3.symm
              clear hw3
              subst hw3'
              clear RA f1 f2 p22 c32
              go_wp2_with fail
              go_quiet ((go_at_call 10; exact Calls.quiet_of_same (num_any _ _)))
              rename_i nq
              have HB4 : Hid (Below wr.heap.size wr (w2.drewN nq)) := hid (HB2.out.trans ⟨rfl, rfl, rfl, Nat.le_refl _, fun _ _ => rfl⟩)
              generalize w2.drewN nq = w4 at HB4 ⊢
              go_wp2
              exact ⟨⟨i + 1, by go_num, .inl hlt, HBEL.out.trans (HB4.out.mono hsz)⟩, by simp [intOf]; omega⟩
          · have hw2' := hw2.symm
            clear hw2
            subst hw2'
            have c3 := C3.out
            have p2 := P2.out
            go_wp2_with fail
            refine (lay_all n2 r hr _).mono ?_
            rintro e w3 (⟨vb, rfl, f2, rb, hb3⟩ | ⟨rfl, f2, hw3⟩)
            · have HB3 := hid hb3
              clear hb3 rb f1 f2 c3 p2
              go_wp2_with fail
              go_quiet ((go_at_call 10; exact Calls.quiet_of_same (num_any _ _)))
              rename_i nq
              have HB4 : Hid (Below wr.heap.size wr (w3.drewN nq)) := hid (HB3.out.trans ⟨rfl, rfl, rfl, Nat.le_refl _, fun _ _ => rfl⟩)
              generalize w3.drewN nq = w4 at HB4 ⊢
              go_wp2
              exact ⟨⟨i + 1, by go_num, .inl hlt, HBEL.out.trans (HB4.out.mono hsz)⟩, by simp [intOf]; omega⟩
            · have hw3' := hw3.symm
              clear hw3
              subst hw3'
              clear f1 f2 c3 p2
              go_wp2_with fail
              go_quiet ((go_at_call 10; exact Calls.quiet_of_same (num_any _ _)))
              rename_i nq
              have HB4 : Hid (Below wr.heap.size wr (wr.drewN nq)) := hid ⟨rfl, rfl, rfl, Nat.le_refl _, fun _ _ => rfl⟩
              generalize wr.drewN nq = w4 at HB4 ⊢
              go_wp2
              exact ⟨⟨i + 1, by go_num, .inl hlt, HBEL.out.trans (HB4.out.mono hsz)⟩, by simp [intOf]; omega⟩
        · have hge : (nW : Int) ≤ (i : Int) + 1 := by omega
          go_wp2_with fail
          refine (lays_any _ (HT.out.below HW.out)).mono ?_
          rintro e w2 ⟨rfl, hb2⟩
          have HB2 := hid (Below.step HW.out hb2)
          clear hb2
          go_wp2
          go_ret
          exact ⟨rfl, HB2.out⟩

end Go.Proofs.YtipjjhccbgbdiaaDoor
