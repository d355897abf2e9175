/- The walks of the reference's digits and Text10. -/
import Derived.Test.YtipjjhccbgbdiaaGreatDoorRefF
namespace Go.Proofs.YtipjjhccbgbdiaaGreatDoor
open Go Go.RowKit
open Go.RowKit (wrap32 wrap64)

theorem hex_digit : ∀ n : Nat, n < 10 → lt hexL n = UInt8.ofNat (48 + n) := by decide

theorem hex_extract (n : Nat) (h : n < 10) : (hexB.extract n (n + 1)).data.toList = [UInt8.ofNat (48 + n)] := by
  rw [extract1 hexB n (by show n < 16; omega), ← hex_digit n h]
  rfl

theorem digits_small (n : Nat) (h : n < 10) : (⟨(Lib.decDigits n).toArray⟩ : ByteArray) = hexB.extract n (n + 1) := by
  apply str_of
  rw [hex_extract n h, Lib.decDigits, dif_pos h]

theorem digits_more (n q r : Nat) (h : ¬ n < 10) (hq : n / 10 = q) (hr : n % 10 = r) : (⟨(Lib.decDigits n).toArray⟩ : ByteArray) = ⟨(Lib.decDigits q).toArray⟩ ++ hexB.extract r (r + 1) := by
  apply str_of
  rw [ByteArray.data_append, Array.toList_append, hex_extract r (by omega)]
  conv => rhs; rw [Lib.decDigits, dif_neg h, hq, hr]

theorem dec_len : ∀ (k n : Nat), n < 10 ^ (k + 1) → (Lib.decDigits n).length ≤ k + 1
  | 0, n, h => by rw [Lib.decDigits, dif_pos (by simpa using h)]; simp
  | k + 1, n, h => by
    rw [Lib.decDigits]
    split
    · simp
    · have := dec_len k (n / 10) (by rw [Nat.pow_succ] at h; omega)
      simp
      exact this

theorem dec_len20 (n : Nat) (h : n < 18446744073709551616) : (Lib.decDigits n).length ≤ 20 := dec_len 19 n (by omega)

set_option maxRecDepth 100000 in
set_option maxHeartbeats 400000 in
/-- digits. -/
theorem digits_any : ∀ (n : Nat), n < 18446744073709551616 → ∀ w, Calls Tryz.prog 38 #[.int .u64 n] w fun e w' => e = .returned (.string ⟨(Lib.decDigits n).toArray⟩) ∧ ∃ m, w' = w.drewN m := by
  intro n
  induction n using Nat.strongRecOn with
  | ind n ih =>
    intro hn w
    by_cases h : n < 10
    · have h' : (n : Int) < 10 := by omega
      rw [digits_small n h]
      have HH := hid h
      clear ih h hn
      go_enter Tryz.func38, Tryz.ntmps38
      go_wp2
      go_ret
      exact ⟨rfl, 0, rfl⟩
    · obtain ⟨q, HQ⟩ : ∃ q : Nat, Hid (n / 10 = q) := ⟨_, hid rfl⟩
      obtain ⟨r, HR⟩ : ∃ r : Nat, Hid (n % 10 = r) := ⟨_, hid rfl⟩
      have hq : (n : Int) / 10 = (q : Int) := by have := HQ.out; omega
      have hr : (n : Int) % 10 = (r : Int) := by have := HR.out; omega
      have hr10 : (r : Int) < 10 := by have := HR.out; omega
      have h' : 10 ≤ (n : Int) := by omega
      have hn' : (n : Int) < 18446744073709551616 := by omega
      have IH := hid (ih q (by have := HQ.out; omega) (by have := HQ.out; omega))
      have hlen : ¬ 9223372036854775807 < (Lib.decDigits q).length + (min (r + 1) 16 - r) := by have := dec_len20 q (by have := HQ.out; omega); omega
      have HE := hid (digits_more n q r h HQ.out HR.out)
      clear ih h hn
      rw [HE.out]
      obtain ⟨x, hx⟩ : ∃ x : Int, (n : Int) = x := ⟨_, rfl⟩
      rw [hx] at hq hr h' hn' ⊢
      clear hx
      go_enter Tryz.func38, Tryz.ntmps38
      go_wp2
      go_quiet ((go_at_call 38; exact Calls.quiet_of (IH.out _)))
      go_wp2
      go_ret
      exact ⟨rfl, _, rfl⟩

theorem Below.drewN' (w : World) (m : Nat) : Below w.heap.size w (w.drewN m) := ⟨rfl, rfl, rfl, Nat.le_refl _, fun _ _ => rfl⟩

set_option maxRecDepth 100000 in
set_option maxHeartbeats 400000 in
/-- The reference's Text10. -/
theorem refText10_any (n : Int) (w : World) (h0 : -9223372036854775808 ≤ n) (h1 : n ≤ 9223372036854775807) :
    Calls Tryz.prog 12 #[.int .i64 n] w fun e w' => e = .returned (.string ⟨(Lib.itoa n).toArray⟩) ∧ Below w.heap.size w w' := by
  by_cases hn : n < 0
  · obtain ⟨u, rfl⟩ : ∃ u : Nat, n = -(u : Int) := ⟨n.natAbs, by omega⟩
    have HD := hid (digits_any u (by omega))
    have e1 : IntKind.u64.wrap (-(u : Int)) = 18446744073709551616 - (u : Int) := by rw [IntKind.wrap_u64]; omega
    have e2 : IntKind.u64.wrap (-(18446744073709551616 - (u : Int))) = (u : Int) := by rw [IntKind.wrap_u64]; omega
    have e3 := Lib.itoa_neg u (by omega)
    have hu : (0 : Int) < u := by omega
    have E3 := hid e3
    have hlen : ¬ 9223372036854775807 < 1 + (Lib.decDigits u).length := by have := dec_len20 u (by omega); omega
    clear e3
    go_enter Tryz.func12, Tryz.ntmps12
    go_wp2_with fail
    go_wp2_with (go_at_call 38; refine (HD.out _).mono ?_; rintro e w' ⟨rfl, m, rfl⟩)
    go_ret
    refine ⟨?_, Below.drewN' w m⟩
    rw [E3.out]
    congr 2
  · obtain ⟨u, rfl⟩ : ∃ u : Nat, n = (u : Int) := ⟨n.toNat, by omega⟩
    have HD := hid (digits_any u (by omega))
    have e3 := Lib.itoa_nonneg u
    have E3 := hid e3
    clear e3
    have e1 : IntKind.u64.wrap (u : Int) = (u : Int) := by rw [IntKind.wrap_u64]; omega
    rw [E3.out]
    go_enter Tryz.func12, Tryz.ntmps12
    go_wp2_with (go_at_call 38; refine (HD.out _).mono ?_; rintro e w' ⟨rfl, m, rfl⟩)
    go_ret
    exact ⟨rfl, Below.drewN' w m⟩
end Go.Proofs.YtipjjhccbgbdiaaGreatDoor

/- Plain facts on decimals; the walk of the reference's decimal. -/
namespace Go.Proofs.YtipjjhccbgbdiaaGreatDoor
open Go Go.RowKit
open Go.RowKit (wrap32 wrap64)

theorem dig_in (c : UInt8) : (0 ≤ Lib.indexByte digL c ↔ 48 ≤ c.toNat ∧ c.toNat ≤ 57) ∧ (48 ≤ c.toNat ∧ c.toNat ≤ 57 → val digL c = c.toNat - 48) := by
  have h : ∀ n : Fin 256, (0 ≤ Lib.indexByte digL (UInt8.ofNat n.val) ↔ 48 ≤ n.val ∧ n.val ≤ 57) ∧ (48 ≤ n.val ∧ n.val ≤ 57 → val digL (UInt8.ofNat n.val) = n.val - 48) := by decide +kernel
  have h2 := h ⟨c.toNat, c.toNat_lt⟩
  have e : UInt8.ofNat c.toNat = c := by apply UInt8.toNat_inj.1; rw [UInt8.toNat_ofNat']; have := c.toNat_lt; omega
  simp only [e] at h2
  exact h2

theorem foldl_natVal (r : List UInt8) : ∀ a, r.foldl (fun n c => 10 * n + val digL c) a = a * 10 ^ r.length + natVal r := by
  induction r with
  | nil => intro a; simp [natVal]
  | cons c r ih =>
    intro a
    simp only [List.foldl_cons]
    rw [ih]
    unfold natVal
    simp only [List.foldl_cons]
    rw [ih (10 * 0 + val digL c), List.length_cons, Nat.pow_succ]
    rw [Nat.add_mul, Nat.add_mul, Nat.mul_zero, Nat.zero_mul, Nat.zero_add, Nat.add_assoc, Nat.mul_comm 10 a, Nat.mul_assoc, Nat.mul_comm 10]
    rfl

theorem natVal_cons (c : UInt8) (r : List UInt8) : natVal (c :: r) = natVal r + 10 ^ r.length * val digL c := by
  have := foldl_natVal r (10 * 0 + val digL c)
  unfold natVal at this ⊢
  simp only [List.foldl_cons]
  rw [this, Nat.mul_zero, Nat.zero_add, Nat.add_comm, Nat.mul_comm]

theorem natVal_lt : ∀ d : List UInt8, natVal d < 10 ^ d.length
  | [] => by simp [natVal]
  | c :: r => by
    rw [natVal_cons, List.length_cons, Nat.pow_succ]
    have h1 := natVal_lt r
    have h2 := val_dig c
    have h3 : 10 ^ r.length * val digL c ≤ 10 ^ r.length * 9 := Nat.mul_le_mul_left _ (by omega)
    omega

theorem less_dig : ∀ a b : List UInt8, a.length = b.length → allIn digL a = true → allIn digL b = true → Op.bytesLess a b = decide (natVal a < natVal b)
  | [], [], _, _, _ => by simp [Op.bytesLess]
  | x :: a, y :: b, h, ha, hb => by
    rw [allIn_cons, Bool.and_eq_true, decide_eq_true_eq] at ha hb
    have hl : a.length = b.length := by simpa using h
    have key := less_split (val digL x) (val digL y) (natVal a) (natVal b) (10 ^ a.length) (natVal_lt a) (by rw [hl]; exact natVal_lt b)
    rw [Op.bytesLess, less_dig a b hl ha.2 hb.2, natVal_cons, natVal_cons, ← hl, Bool.eq_iff_iff]
    simp only [Bool.or_eq_true, Bool.and_eq_true, decide_eq_true_eq, beq_iff_eq]
    rw [key, UInt8.lt_iff_toNat_lt, ← UInt8.toNat_inj]
    have hx := (dig_in x).1.1 ha.1
    have hy := (dig_in y).1.1 hb.1
    rw [(dig_in x).2 hx, (dig_in y).2 hy]
    constructor
    · rintro (k | ⟨k, l⟩)
      · exact .inl (by omega)
      · exact .inr ⟨by omega, l⟩
    · rintro (k | ⟨k, l⟩)
      · exact .inl (by omega)
      · exact .inr ⟨by omega, l⟩
  | [], _ :: _, h, _, _ => by simp at h
  | _ :: _, [], h, _, _ => by simp at h

theorem plain_len (d : List UInt8) (h : plainB d = true) (k : Nat) (hk : natVal d < 10 ^ (k + 1)) : d.length ≤ k + 1 := by
  have := dec_len k (natVal d) hk
  rwa [dec_natVal d h] at this

theorem all_snoc (base l : List UInt8) (c : UInt8) : allIn base (l ++ [c]) = (allIn base l && decide (0 ≤ Lib.indexByte base c)) := by
  simp [allIn, List.all_append]

set_option maxRecDepth 100000 in
set_option maxHeartbeats 400000 in
/-- The reference's decimal. -/
theorem decimal_any (s : ByteArray) (l : List UInt8) (w : World) (hl : s.data.toList = l) (hll : l.length ≤ 1048576) :
    Calls Tryz.prog 55 #[.string s] w fun e w' => e = .returned (.bool (plainB l)) ∧ w' = w := by
  have hsz : s.size = l.length := by rw [← hl, size_list]
  have hsm' : s.size ≤ 1048576 := by omega
  have HL := hid hl
  have HSZ := hid hsz
  clear hl hsz
  go_enter Tryz.func55, Tryz.ntmps55
  go_wp2
  go_loop [3] (fun iv => ∃ i : Nat, i ≤ s.size ∧ iv = .int .i64 i ∧ Hid (allIn digL (l.take i) = true)) (fun iv => s.size - (intOf iv).toNat)
  case atStart => exact ⟨0, Nat.zero_le _, rfl, hid rfl⟩
  case round =>
    as_aux_lemma =>
    obtain ⟨i, hi, rfl, HA⟩ := hrel
    by_cases hlt : i < s.size
    · have hlt' : (i : Int) < (s.size : Int) := by omega
      have hll' : i < l.length := by have := HSZ.out; omega
      have hat : s[i] = l[i] := by
        have h1 := at_list s i hlt
        rw [HL.out] at h1
        rw [h1]
        simp [List.getD, List.getElem?_eq_getElem hll']
      obtain ⟨c, HC⟩ : ∃ c : UInt8, Hid (c = l[i]) := ⟨_, hid rfl⟩
      have hc : s[i] = c := by rw [hat, HC.out]
      clear hat
      have HIN := hid (dig_in c)
      have hno : ¬ (48 ≤ c.toNat ∧ c.toNat ≤ 57) → plainB l = false := by
        intro h
        cases hp : plainB l with
        | false => rfl
        | true => exact absurd ((HIN.out.1).1 ((allIn_iff _ _).1 (plainB_all l hp) c (by rw [HC.out]; exact List.getElem_mem hll'))) h
      have HNO := hid hno
      clear hno
      obtain ⟨y, HY⟩ : ∃ y : Int, Hid ((c.toNat : Int) = y) := ⟨_, hid rfl⟩
      have hy := HY.out
      by_cases h1 : y < 48
      · have HP := hid (HNO.out (by have := HY.out; omega))
        go_wp2
        go_ret
        rw [HP.out]
        exact ⟨rfl, rfl⟩
      · have h1' : 48 ≤ y := by omega
        by_cases h2 : 57 < y
        · have HP := hid (HNO.out (by have := HY.out; omega))
          go_wp2
          go_ret
          rw [HP.out]
          exact ⟨rfl, rfl⟩
        · have h2' : y ≤ 57 := by omega
          go_wp2
          refine ⟨⟨i + 1, hlt, by go_num, hid ?_⟩, by simp [intOf]; omega⟩
          rw [List.take_succ_eq_append_getElem hll', all_snoc, HA.out, ← HC.out]
          simp only [Bool.true_and, decide_eq_true_eq]
          exact HIN.out.1.2 (by have := HY.out; omega)
    · have he : i = l.length := by have := HSZ.out; omega
      have hge : (s.size : Int) ≤ (i : Int) := by omega
      have hall := HA.out
      rw [he, List.take_length] at hall
      have HALL := hid hall
      clear hall
      by_cases h0 : s.size = 0
      · have h0' : (s.size : Int) = 0 := by omega
        have HP : Hid (plainB l = false) := hid (by unfold plainB; rw [decide_eq_false (by have := HSZ.out; omega)]; rfl)
        have H0 := hid h0
        clear h0
        go_wp2
        go_ret
        rw [HP.out]
        exact ⟨rfl, rfl⟩
      · by_cases h1 : s.size = 1
        · have h1' : (s.size : Int) = 1 := by omega
          have HP : Hid (plainB l = true) := hid (by unfold plainB; rw [decide_eq_true (by have := HSZ.out; omega), decide_eq_false (by have := HSZ.out; omega), HALL.out]; rfl)
          clear h1 h0
          go_wp2
          go_ret
          rw [HP.out]
          exact ⟨rfl, rfl⟩
        · have h1' : 1 < (s.size : Int) := by omega
          have h1n : ((s.size : Int) == 1) = false := beq_eq_false_iff_ne.2 (by omega)
          have hx := at_list s 0 (by omega)
          rw [HL.out] at hx
          obtain ⟨c, HC⟩ : ∃ c : UInt8, Hid (l.getD 0 0 = c) := ⟨_, hid rfl⟩
          rw [HC.out] at hx
          have h0' : (0 : Nat) < s.size := by omega
          by_cases h4 : c = 48
          · have q4 : ((c.toNat : Int) != 48) = false := by rw [h4]; rfl
            have HP : Hid (plainB l = false) := hid (by unfold plainB; rw [decide_eq_true (show 1 < l.length by have := HSZ.out; omega), HC.out, h4]; simp)
            clear h4 h0 h1
            go_wp2
            go_ret
            rw [HP.out]
            exact ⟨rfl, rfl⟩
          · have q4 : ((c.toNat : Int) != 48) = true := by
              rw [bne_iff_ne]; intro h; apply h4; apply UInt8.toNat_inj.1; show c.toNat = 48; omega
            have HP : Hid (plainB l = true) := hid (by unfold plainB; rw [decide_eq_true (show 1 < l.length by have := HSZ.out; omega), decide_eq_true (show 0 < l.length by have := HSZ.out; omega), HC.out, HALL.out]; simp [h4])
            clear h4 h0 h1
            go_wp2
            go_ret
            rw [HP.out]
            exact ⟨rfl, rfl⟩
end Go.Proofs.YtipjjhccbgbdiaaGreatDoor
