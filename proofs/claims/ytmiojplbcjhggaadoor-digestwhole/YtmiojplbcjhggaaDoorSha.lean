/- SHA-256 on plain numbers and lists of bytes. -/
namespace Go.Proofs.YtmiojplbcjhggaaDoor
def rot (n x : Nat) : Nat := x / 2 ^ n + x % 2 ^ n * 2 ^ (32 - n)
def a32 (a b : Nat) : Nat := (a + b) % 4294967296
def sg0 (x : Nat) : Nat := rot 7 x ^^^ rot 18 x ^^^ (x / 8)
def sg1 (x : Nat) : Nat := rot 17 x ^^^ rot 19 x ^^^ (x / 1024)
def bs1 (e : Nat) : Nat := rot 6 e ^^^ rot 11 e ^^^ rot 25 e
def bs0 (a : Nat) : Nat := rot 2 a ^^^ rot 13 a ^^^ rot 22 a
def chf (e f g : Nat) : Nat := (e &&& f) ^^^ ((4294967295 - e) &&& g)
def maj (a b c : Nat) : Nat := (a &&& b) ^^^ (a &&& c) ^^^ (b &&& c)
structure S8 where
  (a b c d e f g h : Nat)
def KT : List Nat := [
  0x428a2f98, 0x71374491, 0xb5c0fbcf, 0xe9b5dba5, 0x3956c25b, 0x59f111f1, 0x923f82a4, 0xab1c5ed5,
  0xd807aa98, 0x12835b01, 0x243185be, 0x550c7dc3, 0x72be5d74, 0x80deb1fe, 0x9bdc06a7, 0xc19bf174,
  0xe49b69c1, 0xefbe4786, 0x0fc19dc6, 0x240ca1cc, 0x2de92c6f, 0x4a7484aa, 0x5cb0a9dc, 0x76f988da,
  0x983e5152, 0xa831c66d, 0xb00327c8, 0xbf597fc7, 0xc6e00bf3, 0xd5a79147, 0x06ca6351, 0x14292967,
  0x27b70a85, 0x2e1b2138, 0x4d2c6dfc, 0x53380d13, 0x650a7354, 0x766a0abb, 0x81c2c92e, 0x92722c85,
  0xa2bfe8a1, 0xa81a664b, 0xc24b8b70, 0xc76c51a3, 0xd192e819, 0xd6990624, 0xf40e3585, 0x106aa070,
  0x19a4c116, 0x1e376c08, 0x2748774c, 0x34b0bcb5, 0x391c0cb3, 0x4ed8aa4a, 0x5b9cca4f, 0x682e6ff3,
  0x748f82ee, 0x78a5636f, 0x84c87814, 0x8cc70208, 0x90befffa, 0xa4506ceb, 0xbef9a3f7, 0xc67178f2]
def kt (t : Nat) : Nat := KT.getD t 0
def b4 (l : List UInt8) (t : Nat) : Nat := (l.getD (4 * t) 0).toNat * 16777216 + (l.getD (4 * t + 1) 0).toNat * 65536 + (l.getD (4 * t + 2) 0).toNat * 256 + (l.getD (4 * t + 3) 0).toNat
/-- the first n words of a block. -/
def nextW (ws : List Nat) (t : Nat) : Nat := a32 (a32 (a32 (ws.getD (t - 16) 0) (sg0 (ws.getD (t - 15) 0))) (ws.getD (t - 7) 0)) (sg1 (ws.getD (t - 2) 0))
def wsX (l : List UInt8) (n : Nat) (ws : List Nat) : List Nat := ws ++ [if n < 16 then b4 l n else nextW ws n]
def wsN (l : List UInt8) : Nat → List Nat
  | 0 => []
  | n + 1 => wsX l n (wsN l n)
def wt (l : List UInt8) (t : Nat) : Nat := (wsN l (t + 1)).getD t 0
def pT (s : S8) (k w : Nat) : Nat := a32 (a32 (a32 (a32 s.h (bs1 s.e)) (chf s.e s.f s.g)) k) w
def qT (s : S8) : Nat := a32 (bs0 s.a) (maj s.a s.b s.c)
def rnd (s : S8) (k w : Nat) : S8 := ⟨a32 (pT s k w) (qT s), s.a, s.b, s.c, a32 s.d (pT s k w), s.e, s.f, s.g⟩
def rounds (l : List UInt8) (s : S8) : Nat → S8
  | 0 => s
  | n + 1 => rnd (rounds l s n) (kt n) ((wsN l 64).getD n 0)
def addS (s t : S8) : S8 := ⟨a32 s.a t.a, a32 s.b t.b, a32 s.c t.c, a32 s.d t.d, a32 s.e t.e, a32 s.f t.f, a32 s.g t.g, a32 s.h t.h⟩
def comp (s : S8) (l : List UInt8) : S8 := addS s (rounds l s 64)
def H0 : S8 := ⟨0x6a09e667, 0xbb67ae85, 0x3c6ef372, 0xa54ff53a, 0x510e527f, 0x9b05688c, 0x1f83d9ab, 0x5be0cd19⟩
/-- the blocks of l, one behind the other. -/
def fold64 : Nat → S8 → List UInt8 → S8
  | 0, s, _ => s
  | n + 1, s, l => fold64 n (comp s (l.take 64)) (l.drop 64)
def be (n k : Nat) : List UInt8 := (List.range k).map fun i => UInt8.ofNat (n / 256 ^ (k - 1 - i))
def S8.bytes (s : S8) : List UInt8 := be s.a 4 ++ be s.b 4 ++ be s.c 4 ++ be s.d 4 ++ be s.e 4 ++ be s.f 4 ++ be s.g 4 ++ be s.h 4
def padL (n : Nat) : List UInt8 := 0x80 :: (List.replicate ((119 - n % 64) % 64) 0 ++ be (8 * n) 8)
def sumL (l : List UInt8) : List UInt8 := (fold64 ((l ++ padL l.length).length / 64) H0 (l ++ padL l.length)).bytes

theorem p32 : (2 : Nat) ^ 32 = 4294967296 := by decide
theorem rot_lt (n x : Nat) (hn : n ≤ 32) (hx : x < 4294967296) : rot n x < 4294967296 := by
  unfold rot
  have hp : (2 : Nat) ^ n * 2 ^ (32 - n) = 4294967296 := by rw [← Nat.pow_add, show n + (32 - n) = 32 by omega]
  have h0 : 0 < (2 : Nat) ^ n := Nat.pow_pos (by decide)
  have h1 : x / 2 ^ n < 2 ^ (32 - n) := by rw [Nat.div_lt_iff_lt_mul h0, Nat.mul_comm, hp]; exact hx
  have h2 : x % 2 ^ n < 2 ^ n := Nat.mod_lt _ h0
  have h3 : (x % 2 ^ n + 1) * 2 ^ (32 - n) ≤ 2 ^ n * 2 ^ (32 - n) := Nat.mul_le_mul_right _ h2
  rw [hp, Nat.add_mul, Nat.one_mul] at h3
  omega
theorem xor_lt {a b : Nat} (ha : a < 4294967296) (hb : b < 4294967296) : a ^^^ b < 4294967296 := Nat.xor_lt_two_pow (n := 32) ha hb
theorem and_lt {a b : Nat} (hb : b < 4294967296) : a &&& b < 4294967296 := Nat.and_lt_two_pow (n := 32) a hb
theorem a32_lt (a b : Nat) : a32 a b < 4294967296 := Nat.mod_lt _ (by decide)
theorem div_lt {a k : Nat} (ha : a < 4294967296) : a / k < 4294967296 := Nat.lt_of_le_of_lt (Nat.div_le_self _ _) ha
theorem sg0_lt {x : Nat} (h : x < 4294967296) : sg0 x < 4294967296 := xor_lt (xor_lt (rot_lt _ _ (by decide) h) (rot_lt _ _ (by decide) h)) (div_lt h)
theorem sg1_lt {x : Nat} (h : x < 4294967296) : sg1 x < 4294967296 := xor_lt (xor_lt (rot_lt _ _ (by decide) h) (rot_lt _ _ (by decide) h)) (div_lt h)
theorem bs0_lt {x : Nat} (h : x < 4294967296) : bs0 x < 4294967296 := xor_lt (xor_lt (rot_lt _ _ (by decide) h) (rot_lt _ _ (by decide) h)) (rot_lt _ _ (by decide) h)
theorem bs1_lt {x : Nat} (h : x < 4294967296) : bs1 x < 4294967296 := xor_lt (xor_lt (rot_lt _ _ (by decide) h) (rot_lt _ _ (by decide) h)) (rot_lt _ _ (by decide) h)
theorem chf_lt {e f g : Nat} (hf : f < 4294967296) (hg : g < 4294967296) : chf e f g < 4294967296 := xor_lt (and_lt hf) (and_lt hg)
theorem maj_lt {a b c : Nat} (hb : b < 4294967296) (hc : c < 4294967296) : maj a b c < 4294967296 := xor_lt (xor_lt (and_lt hb) (and_lt hc)) (and_lt hc)
theorem u8lt (x : UInt8) : x.toNat < 256 := x.toNat_lt
theorem b4_lt (l : List UInt8) (t : Nat) : b4 l t < 4294967296 := by
  unfold b4
  have h0 := u8lt (l.getD (4 * t) 0)
  have h1 := u8lt (l.getD (4 * t + 1) 0)
  have h2 := u8lt (l.getD (4 * t + 2) 0)
  have h3 := u8lt (l.getD (4 * t + 3) 0)
  omega
theorem wsX_length (l : List UInt8) (n : Nat) (ws : List Nat) : (wsX l n ws).length = ws.length + 1 := by simp [wsX]
theorem wsN_length (l : List UInt8) (n : Nat) : (wsN l n).length = n := by
  induction n with
  | zero => rfl
  | succ n ih => rw [wsN, wsX_length, ih]
theorem wsN_lt (l : List UInt8) (n : Nat) : ∀ x ∈ wsN l n, x < 4294967296 := by
  induction n with
  | zero => intro x hx; simp [wsN] at hx
  | succ n ih =>
    intro x hx
    rw [wsN, wsX, List.mem_append, List.mem_singleton] at hx
    rcases hx with hx | hx
    · exact ih x hx
    · subst hx
      split
      · exact b4_lt _ _
      · exact a32_lt _ _
theorem getD_lt {ws : List Nat} (h : ∀ x ∈ ws, x < 4294967296) (i : Nat) : ws.getD i 0 < 4294967296 := by
  rw [List.getD_eq_getElem?_getD]
  cases hi : ws[i]? with
  | none => decide
  | some x => exact h x (List.mem_of_getElem? hi)
theorem wsN_getD_lt (l : List UInt8) (n i : Nat) : (wsN l n).getD i 0 < 4294967296 := getD_lt (wsN_lt l n) i
/-- what stands stays. -/
theorem wsN_getD_succ (l : List UInt8) (n i : Nat) (h : i < n) : (wsN l (n + 1)).getD i 0 = (wsN l n).getD i 0 := by
  rw [wsN, wsX, List.getD_eq_getElem?_getD, List.getD_eq_getElem?_getD, List.getElem?_append_left (by rw [wsN_length]; exact h)]
theorem wsN_getD_le (l : List UInt8) (m n i : Nat) (h : i < n) (hm : n ≤ m) : (wsN l m).getD i 0 = (wsN l n).getD i 0 := by
  induction m with
  | zero => omega
  | succ m ih =>
    by_cases e : n = m + 1
    · rw [e]
    · rw [wsN_getD_succ l m i (by omega), ih (by omega)]
theorem wsN_getD_last (l : List UInt8) (n : Nat) : (wsN l (n + 1)).getD n 0 = if n < 16 then b4 l n else nextW (wsN l n) n := by
  have e : (wsN l n).length = n := wsN_length l n
  rw [wsN, wsX, List.getD_eq_getElem?_getD, List.getElem?_append_right (by omega), e]
  simp
theorem kt_lt (t : Nat) : kt t < 4294967296 := getD_lt (by decide) t
structure S8.Ok (s : S8) : Prop where
  (a : s.a < 4294967296) (b : s.b < 4294967296) (c : s.c < 4294967296) (d : s.d < 4294967296)
  (e : s.e < 4294967296) (f : s.f < 4294967296) (g : s.g < 4294967296) (h : s.h < 4294967296)
theorem rnd_ok {s : S8} (o : s.Ok) (k w : Nat) : (rnd s k w).Ok := ⟨a32_lt _ _, o.a, o.b, o.c, a32_lt _ _, o.e, o.f, o.g⟩
theorem rounds_ok (l : List UInt8) {s : S8} (o : s.Ok) (n : Nat) : (rounds l s n).Ok := by
  induction n with
  | zero => exact o
  | succ n ih => exact rnd_ok ih _ _
theorem addS_ok (s t : S8) : (addS s t).Ok := ⟨a32_lt _ _, a32_lt _ _, a32_lt _ _, a32_lt _ _, a32_lt _ _, a32_lt _ _, a32_lt _ _, a32_lt _ _⟩
theorem comp_ok (s : S8) (l : List UInt8) : (comp s l).Ok := addS_ok _ _
theorem H0_ok : H0.Ok := ⟨by decide, by decide, by decide, by decide, by decide, by decide, by decide, by decide⟩
theorem fold64_ok (n : Nat) : ∀ {s : S8} (l : List UInt8), s.Ok → (fold64 n s l).Ok := by
  induction n with
  | zero => intro s l h; exact h
  | succ n ih => intro s l _; exact ih _ (comp_ok _ _)
/-- only the first 64 bytes count. -/
theorem fold64_add (m n : Nat) : ∀ (s : S8) (l : List UInt8), fold64 (m + n) s l = fold64 n (fold64 m s l) (l.drop (64 * m)) := by
  induction m with
  | zero => intro s l; simp [fold64]
  | succ m ih =>
    intro s l
    rw [show m + 1 + n = (m + n) + 1 by omega, fold64, ih, fold64, List.drop_drop]
    rw [show 64 + 64 * m = 64 * (m + 1) by omega]
theorem fold64_append (n : Nat) : ∀ (s : S8) (l r : List UInt8), 64 * n ≤ l.length → fold64 n s (l ++ r) = fold64 n s l := by
  induction n with
  | zero => intro s l r _; rfl
  | succ n ih =>
    intro s l r h
    rw [fold64, fold64, List.take_append_of_le_length (by omega), List.drop_append_of_le_length (by omega), ih _ _ _ (by rw [List.length_drop]; omega)]
theorem fold64_succ (n : Nat) (s : S8) (l : List UInt8) : fold64 (n + 1) s l = comp (fold64 n s l) ((l.drop (64 * n)).take 64) := by
  rw [fold64_add n 1]
  rfl
theorem be_length (n k : Nat) : (be n k).length = k := by simp [be]
theorem bytes_length (s : S8) : s.bytes.length = 32 := by simp [S8.bytes, be_length]
theorem padL_length (n : Nat) : (padL n).length = (119 - n % 64) % 64 + 9 := by simp [padL, be_length]
theorem sumL_length (l : List UInt8) : (sumL l).length = 32 := bytes_length _
/-- H0 to H7 behind the whole blocks of l; what is left. -/
def st (l : List UInt8) : S8 := fold64 (l.length / 64) H0 l
def rs (l : List UInt8) : List UInt8 := l.drop (64 * (l.length / 64))
theorem st_ok (l : List UInt8) : (st l).Ok := fold64_ok _ _ H0_ok
theorem rs_length (l : List UInt8) : (rs l).length = l.length % 64 := by rw [rs, List.length_drop]; omega
theorem st_nil : st [] = H0 := rfl
theorem rs_nil : rs [] = [] := rfl
theorem sumL_st (l : List UInt8) : sumL l = (st (l ++ padL l.length)).bytes := rfl
theorem pad_mod (l : List UInt8) : (l ++ padL l.length).length % 64 = 0 := by rw [List.length_append, padL_length]; omega
/-- too little for a block. -/
theorem st_short (l r : List UInt8) (h : l.length % 64 + r.length < 64) : st (l ++ r) = st l ∧ rs (l ++ r) = rs l ++ r := by
  have e : (l ++ r).length / 64 = l.length / 64 := by rw [List.length_append]; omega
  unfold st rs
  rw [e, fold64_append _ _ _ _ (by omega), List.drop_append_of_le_length (by omega)]
  exact ⟨rfl, rfl⟩
/-- what is left and more makes a block. -/
theorem st_fill (l r : List UInt8) (h : l.length % 64 + r.length = 64) : st (l ++ r) = comp (st l) (rs l ++ r) ∧ rs (l ++ r) = [] := by
  have e : (l ++ r).length / 64 = l.length / 64 + 1 := by rw [List.length_append]; omega
  unfold st rs
  rw [e, fold64_succ, fold64_append _ _ _ _ (by omega), List.drop_append_of_le_length (by omega)]
  refine ⟨?_, ?_⟩
  · rw [List.take_of_length_le (by rw [List.length_append, List.length_drop]; omega)]
  · apply List.drop_eq_nil_of_le
    rw [List.length_append]; omega
theorem st_block (l r : List UInt8) (h : l.length % 64 = 0) (hr : r.length = 64) : st (l ++ r) = comp (st l) r ∧ rs (l ++ r) = [] := by
  have := st_fill l r (by omega)
  have e : rs l = [] := List.eq_nil_of_length_eq_zero (by rw [rs_length]; exact h)
  rw [e] at this
  exact this
end Go.Proofs.YtmiojplbcjhggaaDoor
