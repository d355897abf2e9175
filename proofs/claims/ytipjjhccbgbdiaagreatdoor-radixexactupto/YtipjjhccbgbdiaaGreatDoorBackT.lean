/- What a text tells is told back: the plain facts. -/
import Derived.Test.YtipjjhccbgbdiaaGreatDoorTexts
import Derived.Test.YtipjjhccbgbdiaaGreatDoorOrder
import Derived.Test.YtipjjhccbgbdiaaGreatDoorWalkK
namespace Go.Proofs.YtipjjhccbgbdiaaGreatDoor
open Go Go.RowKit

/-- A base of 64 letters, each at its own place. -/
structure Base (base : List UInt8) : Prop where
  len : base.length = 64
  val : ∀ i, i < 64 → val base (lt base i) = i
  pos : ∀ i, i < 64 → 0 ≤ Lib.indexByte base (lt base i)

theorem baseUrl : Base urlL := by
  have h1 : ∀ i : Fin 64, val urlL (lt urlL i.val) = i.val := by decide +kernel
  have h2 : ∀ i : Fin 64, 0 ≤ Lib.indexByte urlL (lt urlL i.val) := by decide +kernel
  exact ⟨rfl, fun i hi => h1 ⟨i, hi⟩, fun i hi => h2 ⟨i, hi⟩⟩
theorem basePad : Base padL := by
  have h1 : ∀ i : Fin 64, val padL (lt padL i.val) = i.val := by decide +kernel
  have h2 : ∀ i : Fin 64, 0 ≤ Lib.indexByte padL (lt padL i.val) := by decide +kernel
  exact ⟨rfl, fun i hi => h1 ⟨i, hi⟩, fun i hi => h2 ⟨i, hi⟩⟩

theorem toNat_lt' (a : UInt8) : a.toNat < 256 := a.toNat_lt

theorem enc_all {base : List UInt8} (B : Base base) : ∀ l, allIn base (enc base l) = true
  | a :: b :: c :: r => by
    have ha := toNat_lt' a
    have hb := toNat_lt' b
    have hc := toNat_lt' c
    have ih := enc_all B r
    rw [allIn_iff] at ih ⊢
    intro x hx
    simp only [enc, List.mem_cons] at hx
    rcases hx with rfl | rfl | rfl | rfl | hx
    · exact B.pos _ (by omega)
    · exact B.pos _ (by omega)
    · exact B.pos _ (by omega)
    · exact B.pos _ (by omega)
    · exact ih x hx
  | [a, b] => by
    have ha := toNat_lt' a
    have hb := toNat_lt' b
    rw [allIn_iff]
    intro x hx
    simp only [enc, List.mem_cons, List.not_mem_nil, or_false] at hx
    rcases hx with rfl | rfl | rfl
    · exact B.pos _ (by omega)
    · exact B.pos _ (by omega)
    · exact B.pos _ (by omega)
  | [a] => by
    have ha := toNat_lt' a
    rw [allIn_iff]
    intro x hx
    simp only [enc, List.mem_cons, List.not_mem_nil, or_false] at hx
    rcases hx with rfl | rfl
    · exact B.pos _ (by omega)
    · exact B.pos _ (by omega)
  | [] => rfl

theorem dec_enc {base : List UInt8} (B : Base base) : ∀ l, dec base (enc base l) = l
  | a :: b :: c :: r => by
    have ha := toNat_lt' a
    have hb := toNat_lt' b
    have hc := toNat_lt' c
    simp only [enc, dec]
    rw [dec_enc B r, B.val _ (by omega), B.val _ (by omega), B.val _ (by omega), B.val _ (by omega)]
    rw [show a.toNat / 4 * 4 + (a.toNat % 4 * 16 + b.toNat / 16) / 16 = a.toNat by omega, show (a.toNat % 4 * 16 + b.toNat / 16) % 16 * 16 + (b.toNat % 16 * 4 + c.toNat / 64) / 4 = b.toNat by omega,
      show (b.toNat % 16 * 4 + c.toNat / 64) % 4 * 64 + c.toNat % 64 = c.toNat by omega]
    simp
  | [a, b] => by
    have ha := toNat_lt' a
    have hb := toNat_lt' b
    simp only [enc, dec]
    rw [B.val _ (by omega), B.val _ (by omega), B.val _ (by omega)]
    rw [show a.toNat / 4 * 4 + (a.toNat % 4 * 16 + b.toNat / 16) / 16 = a.toNat by omega, show (a.toNat % 4 * 16 + b.toNat / 16) % 16 * 16 + b.toNat % 16 * 4 / 4 = b.toNat by omega]
    simp
  | [a] => by
    have ha := toNat_lt' a
    simp only [enc, dec]
    rw [B.val _ (by omega), B.val _ (by omega)]
    rw [show a.toNat / 4 * 4 + a.toNat % 4 * 16 / 16 = a.toNat by omega]
    simp
  | [] => rfl

theorem spare_enc {base : List UInt8} (B : Base base) : ∀ l, spare base (enc base l) = 0
  | a :: b :: c :: r => by simp only [enc]; rw [spare_step]; exact spare_enc B r
  | [a, b] => by
    have hb := toNat_lt' b
    simp only [enc, spare, List.length_cons, List.length_nil, List.getLastD]
    simp
    rw [B.val _ (by omega)]
    omega
  | [a] => by
    have ha := toNat_lt' a
    simp only [enc, spare, List.length_cons, List.length_nil, List.getLastD]
    simp
    rw [B.val _ (by omega)]
    omega
  | [] => rfl

theorem code64_enc (l : List UInt8) : code64 (enc urlL l) = 0 := by
  unfold code64
  rw [if_pos (enc_all baseUrl l), if_neg (by rw [enc_length]; omega), if_pos (spare_enc baseUrl l)]

theorem hex_val (i : Nat) (h : i < 16) : val hexL (lt hexL i) = i ∧ 0 ≤ Lib.indexByte hexL (lt hexL i) := by
  have h1 : ∀ i : Fin 16, val hexL (lt hexL i.val) = i.val ∧ 0 ≤ Lib.indexByte hexL (lt hexL i.val) := by decide +kernel
  exact h1 ⟨i, h⟩

theorem enc16_all : ∀ l, allIn hexL (enc16 l) = true
  | [] => rfl
  | c :: r => by
    have hc := toNat_lt' c
    have ih := enc16_all r
    rw [allIn_iff] at ih ⊢
    intro x hx
    simp only [enc16, List.mem_cons] at hx
    rcases hx with rfl | rfl | hx
    · exact (hex_val _ (by omega)).2
    · exact (hex_val _ (by omega)).2
    · exact ih x hx

theorem dec16_enc16 : ∀ l, dec16 (enc16 l) = l
  | [] => rfl
  | c :: r => by
    have hc := toNat_lt' c
    simp only [enc16, dec16]
    rw [dec16_enc16 r, (hex_val _ (by omega)).1, (hex_val _ (by omega)).1, show c.toNat / 16 * 16 + c.toNat % 16 = c.toNat by omega]
    simp

theorem code16_enc (l : List UInt8) : code16 (enc16 l) = 0 := by
  unfold code16
  rw [if_pos (enc16_all l), if_pos (by rw [enc16_length]; omega)]

theorem pads_unique (l : List UInt8) (n m : Nat) (hn : PadsIs l n) (hm : PadsIs l m) : n = m := by
  have key : ∀ n m, PadsIs l n → PadsIs l m → ¬ n < m := by
    intro n m hn hm hlt
    obtain ⟨a1, a2, a3, a4⟩ := hn
    obtain ⟨b1, b2, b3, b4⟩ := hm
    rcases a4 with h | h | h
    · omega
    · omega
    · exact h (b3 n hlt)
  have := key n m hn hm
  have := key m n hm hn
  omega

theorem enc_ne_pad {base l : List UInt8} (h : allIn base l = true) (hp : Lib.indexByte base 61 < 0) (i : Nat) (hi : i < l.length) : l[i] ≠ 61 := by
  intro e
  have := (allIn_iff _ _).1 h l[i] (List.getElem_mem hi)
  rw [e] at this
  omega

theorem encPad_len (l : List UInt8) : (encPad l).length = (l.length + 2) / 3 * 4 := by
  unfold encPad
  rw [List.length_append, enc_length, List.length_replicate]
  omega

theorem pads_enc (l : List UInt8) : PadsIs (encPad l) ((3 - l.length % 3) % 3) := by
  have hlen : (encPad l).length = (enc padL l).length + (3 - l.length % 3) % 3 := by unfold encPad; rw [List.length_append, List.length_replicate]
  have hel := enc_length padL l
  refine ⟨by omega, by omega, fun i hi => ?_, ?_⟩
  · unfold encPad
    rw [List.getD, List.getElem?_append_right (by rw [List.length_append, List.length_replicate]; omega), List.getElem?_replicate]
    rw [if_pos (by rw [List.length_append, List.length_replicate]; omega)]
    rfl
  · by_cases h0 : l.length = 0
    · right; left; rw [hlen, hel]; omega
    · right; right
      have hi : (encPad l).length - 1 - (3 - l.length % 3) % 3 < (enc padL l).length := by omega
      unfold encPad at hi ⊢
      rw [List.getD, List.getElem?_append_left hi, List.getElem?_eq_getElem hi]
      exact enc_ne_pad (base := padL) (enc_all basePad l) (by decide +kernel) _ hi

theorem take_encPad (l : List UInt8) (n : Nat) (h : PadsIs (encPad l) n) : (encPad l).take ((encPad l).length - n) = enc padL l := by
  rw [pads_unique _ _ _ h (pads_enc l)]
  unfold encPad
  rw [List.length_append, List.length_replicate, Nat.add_sub_cancel, List.take_left']
  rfl

theorem codePad_enc (l : List UInt8) : codePad (encPad l) (enc padL l) = 0 := by
  unfold codePad
  rw [if_pos (enc_all basePad l), if_pos (by rw [encPad_len]; omega), if_pos (spare_enc basePad l)]

/-- The letters of the two bases differ at two places alone. -/
def swapC (c : UInt8) : UInt8 := if c = 45 then 43 else if c = 95 then 47 else c
theorem lt_swap (i : Nat) (h : i < 64) : lt padL i = swapC (lt urlL i) := by
  have h1 : ∀ i : Fin 64, lt padL i.val = swapC (lt urlL i.val) := by decide +kernel
  exact h1 ⟨i, h⟩
theorem enc_swap : ∀ l, enc padL l = (enc urlL l).map swapC
  | a :: b :: c :: r => by
    have ha := toNat_lt' a
    have hb := toNat_lt' b
    have hc := toNat_lt' c
    simp only [enc, List.map_cons]
    rw [enc_swap r, lt_swap _ (by omega), lt_swap _ (by omega), lt_swap _ (by omega), lt_swap _ (by omega)]
  | [a, b] => by
    have ha := toNat_lt' a
    have hb := toNat_lt' b
    simp only [enc, List.map_cons, List.map_nil]
    rw [lt_swap _ (by omega), lt_swap _ (by omega), lt_swap _ (by omega)]
  | [a] => by
    have ha := toNat_lt' a
    simp only [enc, List.map_cons, List.map_nil]
    rw [lt_swap _ (by omega), lt_swap _ (by omega)]
  | [] => rfl

/-- Place i of the text with pads. -/
theorem encPad_at (l : List UInt8) (i : Nat) (h : i < (encPad l).length) : (encPad l)[i] = if h' : i < (enc urlL l).length then swapC (enc urlL l)[i] else 61 := by
  have hel : (enc padL l).length = (enc urlL l).length := by rw [enc_length, enc_length]
  split
  · rename_i h'
    have : (encPad l)[i]? = some (swapC (enc urlL l)[i]) := by
      unfold encPad
      rw [List.getElem?_append_left (by omega), enc_swap, List.getElem?_map, List.getElem?_eq_getElem h']
      rfl
    rw [List.getElem?_eq_getElem h] at this
    exact Option.some.inj this
  · rename_i h'
    have : (encPad l)[i]? = some 61 := by
      unfold encPad at h ⊢
      rw [List.length_append, List.length_replicate] at h
      rw [List.getElem?_append_right (by omega), List.getElem?_replicate, if_pos (by omega)]
    rw [List.getElem?_eq_getElem h] at this
    exact Option.some.inj this

/-! Decimals. -/
theorem dig_val (v : Nat) (h : v < 10) : val digL (UInt8.ofNat (48 + v)) = v ∧ 0 ≤ Lib.indexByte digL (UInt8.ofNat (48 + v)) := by
  have h1 : ∀ v : Fin 10, val digL (UInt8.ofNat (48 + v.val)) = v.val ∧ 0 ≤ Lib.indexByte digL (UInt8.ofNat (48 + v.val)) := by decide +kernel
  exact h1 ⟨v, h⟩

theorem decDigits_props (u : Nat) : natVal (Lib.decDigits u) = u ∧ allIn digL (Lib.decDigits u) = true ∧ 0 < (Lib.decDigits u).length ∧ (10 ≤ u → (Lib.decDigits u).getD 0 0 ≠ 48) ∧ (0 < u → (Lib.decDigits u).getD 0 0 ≠ 48) ∧ (u < 10 → (Lib.decDigits u).length = 1) := by
  induction u using Nat.strongRecOn with
  | _ u ih =>
    by_cases h : u < 10
    · rw [Lib.decDigits, dif_pos h]
      have hv := dig_val u h
      refine ⟨?_, by rw [allIn_iff]; intro c hc; rw [List.mem_singleton.1 hc]; exact hv.2, by simp, fun h' => by omega, fun h' => ?_, fun _ => rfl⟩
      · show 10 * 0 + val digL (UInt8.ofNat (48 + u)) = u
        rw [hv.1]; omega
      · have h1 : ∀ v : Fin 10, 0 < v.val → UInt8.ofNat (48 + v.val) ≠ 48 := by decide
        exact h1 ⟨u, h⟩ h'
    · rw [Lib.decDigits, dif_neg h]
      obtain ⟨i1, i2, i3, i4, i5, _⟩ := ih (u / 10) (by omega)
      have hv := dig_val (u % 10) (by omega)
      have hg : (Lib.decDigits (u / 10) ++ [UInt8.ofNat (48 + u % 10)]).getD 0 0 = (Lib.decDigits (u / 10)).getD 0 0 := by
        rw [List.getD, List.getElem?_append_left i3]
        rfl
      refine ⟨by rw [natVal_snoc, i1, hv.1]; omega, ?_, by simp, fun _ => by rw [hg]; exact i5 (by omega), fun _ => by rw [hg]; exact i5 (by omega), fun h' => absurd h' h⟩
      rw [allIn_iff] at i2 ⊢
      intro c hc
      simp only [List.mem_append, List.mem_singleton] at hc
      rcases hc with hc | rfl
      · exact i2 c hc
      · exact hv.2

theorem plain_dec (u : Nat) : plainB (Lib.decDigits u) = true := by
  obtain ⟨_, h2, h3, h4, _, h6⟩ := decDigits_props u
  unfold plainB
  simp only [Bool.and_eq_true, decide_eq_true_eq, Bool.not_eq_true']
  refine ⟨⟨h3, ?_⟩, h2⟩
  by_cases h : u < 10
  · rw [h6 h]; rfl
  · rw [beq_eq_false_iff_ne.2 (h4 (by omega)), Bool.and_false]

/-- Number10 of a number's decimal is the number. -/
theorem num_itoa (n : Int) (h0 : -9223372036854775808 ≤ n) (h1 : n ≤ 9223372036854775807) : num10 (Lib.hasPrefix (Lib.itoa n) [45]) (Lib.trimPrefix (Lib.itoa n) [45]) = (n, 0) := by
  unfold Lib.itoa
  by_cases hn : n < 0
  · rw [if_pos hn]
    have hp : Lib.hasPrefix (45 :: Lib.decDigits n.natAbs) [45] = true := by simp [Lib.hasPrefix]
    have ht : Lib.trimPrefix (45 :: Lib.decDigits n.natAbs) [45] = Lib.decDigits n.natAbs := by unfold Lib.trimPrefix; rw [if_pos hp]; simp
    obtain ⟨e1, _⟩ := decDigits_props n.natAbs
    rw [hp, ht]
    unfold num10
    rw [if_pos ⟨plain_dec _, fun h => by
      have := e1
      rw [h.2] at this
      have h48 : natVal [48] = 0 := by decide +kernel
      omega⟩, e1, if_pos ⟨by omega, fun h => by cases h.1⟩, if_pos rfl]
    congr 1
    omega
  · rw [if_neg hn]
    obtain ⟨e1, e2, e3, _⟩ := decDigits_props n.toNat
    have hp : Lib.hasPrefix (Lib.decDigits n.toNat) [45] = false := by
      rcases prefix_split (Lib.decDigits n.toNat) with ⟨_, hl⟩ | ⟨h, _⟩
      · exfalso
        have := (allIn_iff _ _).1 e2 45 (by rw [hl]; simp)
        exact absurd this (by decide +kernel)
      · exact h
    have ht : Lib.trimPrefix (Lib.decDigits n.toNat) [45] = Lib.decDigits n.toNat := by unfold Lib.trimPrefix; rw [if_neg (by rw [hp]; decide)]
    rw [hp, ht]
    unfold num10
    rw [if_pos ⟨plain_dec _, fun h => by cases h.1⟩, e1, if_pos ⟨by omega, fun h => by omega⟩, if_neg (by decide)]
    congr 1
    omega

/-- The first sign of a number's decimal. -/
theorem itoa_head (n : Int) : 0 < (Lib.itoa n).length ∧ ((Lib.itoa n).getD 0 0 = 45 ↔ n < 0) := by
  unfold Lib.itoa
  by_cases hn : n < 0
  · rw [if_pos hn]; simp [hn]
  · rw [if_neg hn]
    obtain ⟨_, e2, e3, _⟩ := decDigits_props n.toNat
    refine ⟨e3, fun h => ?_, fun h => absurd h hn⟩
    exfalso
    rw [List.getD, List.getElem?_eq_getElem e3] at h
    have := (allIn_iff _ _).1 e2 _ (List.getElem_mem e3)
    rw [show (Lib.decDigits n.toNat)[0] = 45 from h] at this
    exact absurd this (by decide +kernel)

theorem nDigits_mono (u v : Nat) (h : u ≤ v) : Lib.nDigits u ≤ Lib.nDigits v := by
  induction v using Nat.strongRecOn generalizing u with
  | _ v ih =>
    by_cases h1 : u < 10
    · rw [Lib.nDigits_small h1]; exact Lib.nDigits_pos v
    · rw [Lib.nDigits_big h1, Lib.nDigits_big (show ¬ v < 10 by omega)]
      have := ih (v / 10) (by omega) (u / 10) (by omega)
      omega

theorem itoa_len_mono (m n : Int) (hm : 0 ≤ m) (h : m ≤ n) : (Lib.itoa m).length ≤ (Lib.itoa n).length := by
  unfold Lib.itoa
  rw [if_neg (by omega), if_neg (by omega), Lib.decDigits_length, Lib.decDigits_length]
  exact nDigits_mono _ _ (by omega)

/-! Numbers out of bytes. -/
def beVal (l : List UInt8) : Nat := l.foldl (fun n c => 256 * n + c.toNat) 0
theorem beVal_snoc (l : List UInt8) (c : UInt8) : beVal (l ++ [c]) = 256 * beVal l + c.toNat := by simp [beVal, List.foldl_append]
theorem beVal_lt (l : List UInt8) : beVal l < 256 ^ l.length := by
  have key : ∀ (l : List UInt8) (a : Nat), l.foldl (fun n c => 256 * n + c.toNat) a < (a + 1) * 256 ^ l.length := by
    intro l
    induction l with
    | nil => intro a; simp
    | cons c r ih =>
      intro a
      have hc := toNat_lt' c
      rw [List.foldl_cons, List.length_cons, Nat.pow_succ]
      refine Nat.lt_of_lt_of_le (ih _) ?_
      rw [Nat.mul_comm (256 ^ r.length) 256, ← Nat.mul_assoc]
      exact Nat.mul_le_mul_right _ (by omega)
  have := key l 0
  simpa [beVal] using this

theorem foldl_lay (k : Nat) : ∀ a n : Nat, (layL n k).foldl (fun n c => 256 * n + c.toNat) a = a * 2 ^ (8 * k) + n % 2 ^ (8 * k) := by
  induction k with
  | zero => intro a n; simp [layL, Nat.mod_one]
  | succ k ih =>
    intro a n
    rw [layL_succ, List.foldl_cons, ih]
    have e : 2 ^ (8 * (k + 1)) = 2 ^ (8 * k) * 256 := by rw [Nat.mul_add, Nat.pow_add]
    rw [e, Nat.mod_mul, UInt8.toNat_ofNat', Nat.add_mul]
    have h1 : 256 * a * 2 ^ (8 * k) = a * (2 ^ (8 * k) * 256) := by rw [Nat.mul_comm 256 a, Nat.mul_assoc, Nat.mul_comm 256]
    rw [h1, Nat.mul_comm (n / 2 ^ (8 * k) % 2 ^ 8)]
    show _ + 2 ^ (8 * k) * (n / 2 ^ (8 * k) % 256) + _ = _
    omega

theorem beVal_lay (n k : Nat) (h : n < 2 ^ (8 * k)) : beVal (layL n k) = n := by
  unfold beVal
  rw [foldl_lay, Nat.mod_eq_of_lt h]
  simp

/-- Of two rows the one is the beginning of the other just if their texts of base 16 are. -/
theorem enc16_inj (l m : List UInt8) (h : enc16 l = enc16 m) : l = m := by rw [← dec16_enc16 l, h, dec16_enc16 m]
theorem enc16_take (l : List UInt8) (k : Nat) : (enc16 l).take (2 * k) = enc16 (l.take k) := by
  induction l generalizing k with
  | nil => simp [enc16]
  | cons c r ih =>
    cases k with
    | zero => simp [enc16]
    | succ k => rw [show 2 * (k + 1) = 2 * k + 1 + 1 by omega]; simp only [enc16, List.take_succ_cons, ih]
end Go.Proofs.YtipjjhccbgbdiaaGreatDoor
