/- The walks of radix's letters, Text64, TextPad. -/
import Derived.Test.YtipjjhccbgbdiaaGreatDoorWalkA
import Derived.Test.YtipjjhccbgbdiaaGreatDoorWalkB
import Derived.Laws.BytesArg
namespace Go.Proofs.YtipjjhccbgbdiaaGreatDoor
open Go Go.RowKit
open Go.RowKit (wrap32 wrap64)

theorem appendLetters_len (B n : Nat) (tv : Value) (t : List Value) (gb go gc m : Nat) (g : List UInt8) (base : ByteArray) (w : World)
   (hb : base.size = 64) (hm : g.length = m) (h1 : 1 ≤ m) (h3 : m ≤ 3) (hgb : gb < w.heap.size)
   (hc : ∀ i (h : i < g.length), w.cell? ⟨gb, go + i, none⟩ = some (.int .u8 g[i].toNat))
   (hown : w.ownsRow B 5 1 tv n t) (hB : B ≤ w.heap.size) (hn : n ≤ 1099511627776)
   : Calls Tryz.prog 90 #[tv, .slice (some ⟨gb, go, none⟩) m gc, .string base] w fun e w' => ∃ v', e = .returned v' ∧ w'.ownsRow B 5 1 v' (n + (m + 1)) (t ++ cb (enc base.data.toList g)) ∧ w.grownBy w' tv.ownBlock := by
  subst hm
  exact appendLetters_any B n tv t gb go gc g base w hb h1 h3 hgb hc hown hB hn

/-- What a slice of bytes leads to: nothing is asked of an empty one. -/
def Sl (w : World) (a : Option Addr) (l : List UInt8) : Prop :=
  l = [] ∨ ∃ b off, a = some ⟨b, off, none⟩ ∧ b < w.heap.size ∧ ∀ i (h : i < l.length), w.cell? ⟨b, off + i, none⟩ = some (.int .u8 l[i].toNat)

/-- The length of a slice. -/
def slen : Value → Nat | .slice _ n _ => n | _ => 0

def lettersJ (base : ByteArray) (l : List UInt8) (b off : Nat) (B : Nat) (w : World) (a' : Act) (w' : World) : Prop :=
  Below B w w' ∧ ∃ (k : Nat) (ao : Option Addr) (c n : Nat) (tv u6 u7 u8 u9 u10 u11 u12 u13 u14 u15 u16 u17 u18 u19 u20 u21 u22 u23 u24 u25 u26 u27 u28 : Value), a' = { tmps := #[.slice ao (l.length - k : Nat) c, .string base, undef, undef, .slice none 0 0, tv, u6, u7, u8, u9, u10, u11, u12, u13, u14, u15, u16, u17, u18, u19, u20, u21, u22, u23, u24, u25, u26, u27, u28], defers := [] } ∧ k ≤ l.length ∧ (k < l.length → k % 3 = 0 ∧ ao = some ⟨b, off + k, none⟩) ∧ l.length - k ≤ c ∧ n = (enc base.data.toList (l.take k)).length ∧ w'.ownsRow B 5 1 tv n (cb (enc base.data.toList (l.take k)))

set_option maxRecDepth 100000 in
set_option maxHeartbeats 400000 in
theorem letters_any (l : List UInt8) (a : Option Addr) (b off c : Nat) (base : ByteArray) (w : World) (hb : base.size = 64) (hl : l.length ≤ 1048576) (hc : l.length ≤ c)
    (ha : 0 < l.length → a = some ⟨b, off, none⟩ ∧ b < w.heap.size)
    (hcell : ∀ i (h : i < l.length), w.cell? ⟨b, off + i, none⟩ = some (.int .u8 l[i].toNat)) :
    Calls Tryz.prog 43 #[.slice a l.length c, .string base] w fun e w' => ∃ v, e = .returned v ∧ w'.ownsRow w.heap.size 5 1 v (enc base.data.toList l).length (cb (enc base.data.toList l)) ∧ Below w.heap.size w w' := by
  obtain ⟨inf, hi, hz0, hz1, hz2⟩ := info_parts Tryz.info5
  go_enter Tryz.func43, Tryz.ntmps43
  go_wp2
  refine wp_scope_label 0 (lettersJ base l b off w.heap.size w) (fun a' _ => slen (a'.tmps.getD 0 undef)) rfl ?first ?pass
  case first =>
    intro hy
    go_wp2_with (at_make; refine wpList_make_own _ rfl _ _ 58 rfl w.heap.size 5 inf (.int .u8 0) 1 Tryz.underlying58 hi hz0 hz1 _ _ _ ((4 * l.length + 2) / 3) rfl rfl (by omega) (by rw [hz2]; omega) (by unfold maxLen; omega) (Nat.le_refl _) ?_)
    intro w1 hown1 hg1
    go_wp2
    go_step3
    simp only [Exit.then]
    refine (‹∀ a w, Code.wp _ _ _ a w → _› : ∀ a w, Code.wp Tryz.prog _ _ a w → _) _ _ (hy _ _ ⟨(Below.refl _ _).grown hg1 (Nat.le_refl _) (fun k h => by cases h), 0, _, _, 0, _, _, _, _, _, _, _, _, _, _, _, _, _, _, _, _, _, _, _, _, _, _, _, _, rfl, Nat.zero_le _, fun h => ⟨rfl, (ha h).1⟩, hc, ?_, ?_⟩)
    · simp [enc]
    · simpa [enc, cb] using hown1
  case pass =>
    rintro a' w' ⟨hbel, k, ao, c', n, tv, u6, u7, u8, u9, u10, u11, u12, u13, u14, u15, u16, u17, u18, u19, u20, u21, u22, u23, u24, u25, u26, u27, u28, rfl, hk, hao, hc', hn, hown⟩
    by_cases hlt : k < l.length
    · obtain ⟨hk3, rfl⟩ := hao hlt
      have hne : (((l.length - k : Nat) : Int) == 0) = false := by simp; omega
      obtain ⟨m, hmin, hm1, hm3, hml, hmr⟩ : ∃ m : Nat, min ((l.length - k : Nat) : Int) 3 = (m : Int) ∧ 1 ≤ m ∧ m ≤ 3 ∧ m ≤ l.length - k ∧ (m < 3 → m = l.length - k) := by
        by_cases h3 : 3 ≤ l.length - k
        · exact ⟨3, by omega, by omega, by omega, by omega, by omega⟩
        · exact ⟨l.length - k, by omega, by omega, by omega, by omega, by omega⟩
      have HN : Hid (n = (enc base.data.toList (l.take k)).length) := hn
      clear hn
      have hnb : n ≤ 1099511627776 := by rw [HN.out, enc_length]; have := List.length_take_le k l; omega
      go_wp2_with fail
      have hbw : b < w'.heap.size := Nat.lt_of_lt_of_le (ha (by omega)).2 hbel.size
      refine (appendLetters_len w.heap.size n tv _ b (off + k) c' m ((l.drop k).take m) base w' hb (by simp; omega) hm1 hm3 hbw ?_ hown hbel.size hnb).mono ?_
      · intro i hi
        rw [hbel.cell (p := ⟨b, off + k + i, none⟩) (ha (by omega)).2]
        simp at hi
        rw [Nat.add_assoc, hcell (k + i) (by omega)]
        simp
      rintro e w2 ⟨v2, rfl, hown2, hg2⟩
      go_wp2
      all_goals
        rw [Nat.sub_sub]
        go_step3
        refine ⟨rfl, ⟨hbel.grown hg2 hbel.size (fun j hj => (hown.lt j hj).1), k + m, _, _, n + (m + 1), _, _, _, _, _, _, _, _, _, _, _, _, _, _, _, _, _, _, _, _, _, _, _, _, rfl, by omega, fun h => ⟨by omega, by first | omega | rw [Nat.add_assoc]⟩, by omega, ?_, ?_⟩, ?_⟩
        · rw [take_more, enc_append _ _ _ (by rw [List.length_take]; omega), List.length_append, ← HN.out, enc_length _ (List.take m _), List.length_take, List.length_drop, Nat.min_eq_left (by omega)]
          omega
        · rw [take_more, enc_append _ _ _ (by rw [List.length_take]; omega), cb_append]
          exact hown2
        · simp [slen]
          omega
    · have he : k = l.length := by omega
      subst he
      have h0 : (((l.length - l.length : Nat) : Int) == 0) = true := by simp
      have HN : Hid (n = (enc base.data.toList (l.take l.length)).length) := hn
      clear hn hao
      go_wp2
      simp only [Exit.jump]
      go_ret
      refine ⟨tv, rfl, ?_, hbel⟩
      have := hown
      rw [HN.out, List.take_length] at this
      exact this

/-- Bytes out of a slice that the call owns, as a string. -/
theorem convert_owned {w : World} {B n : Nat} {v : Value} {l : List UInt8} (hown : w.ownsRow B 5 1 v n (cb l)) : (convert 58 9 v).run Tryz.prog w = .ok (.string ⟨l.toArray⟩) w := by
  have hn : l.length = n := by have := hown.1; rw [cb_length] at this; omega
  rcases hown.2 with ⟨rfl, h0⟩ | ⟨g, cap, cur, rfl, hb, hg, hle, hm, hs, ht⟩
  · have : l = [] := by cases l with | nil => rfl | cons _ _ => simp at hn; omega
    subst this
    exact run_convert_bytes_nil w 58 5 Tryz.underlying58 Tryz.underlying5 0 0 9 Tryz.underlying9
  · have := run_convert_bytes_arg w 58 5 Tryz.underlying58 Tryz.underlying5 g 0 n cap (l.map fun b => (b.toNat : Int)) (by simpa using hn) (fun i hi => by
      have := hown.cells (g := g) rfl i (.int .u8 (l[i]'(by omega)).toNat) (by simp [cb, List.getElem?_eq_getElem (show i < l.length by omega)])
      simp [Addr.add_lit] at this
      simp [this, List.getD, List.getElem?_eq_getElem (show i < l.length by omega)]) 9 Tryz.underlying9
    rw [this]
    have e : strOfNums (l.map fun b => (b.toNat : Int)) = ⟨l.toArray⟩ := by
      unfold strOfNums
      rw [List.map_map, show l.map ((fun n : Int => UInt8.ofNat n.toNat) ∘ fun b : UInt8 => (b.toNat : Int)) = l.map id from List.map_congr_left fun x _ => by simp, List.map_id]
    rw [e]

theorem own_shape {w : World} {B n : Nat} {v : Value} {xs : List Value} (h : w.ownsRow B 5 1 v n xs) : ∃ a c, v = .slice a n c := by
  rcases h.2 with ⟨rfl, rfl⟩ | ⟨g, cap, cur, rfl, _⟩
  · exact ⟨_, _, rfl⟩
  · exact ⟨_, _, rfl⟩

def urlL : List UInt8 := [65, 66, 67, 68, 69, 70, 71, 72, 73, 74, 75, 76, 77, 78, 79, 80, 81, 82, 83, 84, 85, 86, 87, 88, 89, 90, 97, 98, 99, 100, 101, 102, 103, 104, 105, 106, 107, 108, 109, 110, 111, 112, 113, 114, 115, 116, 117, 118, 119, 120, 121, 122, 48, 49, 50, 51, 52, 53, 54, 55, 56, 57, 45, 95]
def padL : List UInt8 := [65, 66, 67, 68, 69, 70, 71, 72, 73, 74, 75, 76, 77, 78, 79, 80, 81, 82, 83, 84, 85, 86, 87, 88, 89, 90, 97, 98, 99, 100, 101, 102, 103, 104, 105, 106, 107, 108, 109, 110, 111, 112, 113, 114, 115, 116, 117, 118, 119, 120, 121, 122, 48, 49, 50, 51, 52, 53, 54, 55, 56, 57, 43, 47]

set_option maxRecDepth 100000 in
set_option maxHeartbeats 400000 in
/-- Text64: base64url without pads. -/
theorem text64_any (l : List UInt8) (a : Option Addr) (b off c : Nat) (w : World) (hl : l.length ≤ 1048576) (hc : l.length ≤ c)
    (ha : 0 < l.length → a = some ⟨b, off, none⟩ ∧ b < w.heap.size)
    (hcell : ∀ i (h : i < l.length), w.cell? ⟨b, off + i, none⟩ = some (.int .u8 l[i].toNat)) :
    Calls Tryz.prog 19 #[.slice a l.length c] w fun e w' => e = .returned (.string ⟨(enc urlL l).toArray⟩) ∧ Below w.heap.size w w' := by
  go_enter Tryz.func19, Tryz.ntmps19
  go_wp2_with fail
  refine (letters_any l a b off c _ w rfl hl hc ha hcell).mono ?_
  rintro e w1 ⟨v, rfl, hown, hbel⟩
  have hcv := convert_owned hown
  go_wp2
  go_ret
  exact ⟨rfl, hbel⟩

/-- The text with pads. -/
def encPad (l : List UInt8) : List UInt8 := enc padL l ++ List.replicate ((3 - l.length % 3) % 3) 61

set_option maxRecDepth 100000 in
set_option maxHeartbeats 400000 in
/-- TextPad: base 64 with pads. -/
theorem textPad_any (l : List UInt8) (a : Option Addr) (b off c : Nat) (w : World) (hl : l.length ≤ 1048576) (hc : l.length ≤ c)
    (ha : 0 < l.length → a = some ⟨b, off, none⟩ ∧ b < w.heap.size)
    (hcell : ∀ i (h : i < l.length), w.cell? ⟨b, off + i, none⟩ = some (.int .u8 l[i].toNat)) :
    Calls Tryz.prog 21 #[.slice a l.length c] w fun e w' => e = .returned (.string ⟨(encPad l).toArray⟩) ∧ Below w.heap.size w w' := by
  obtain ⟨inf, hi, hz0, hz1, hz2⟩ := info_parts Tryz.info5
  go_enter Tryz.func21, Tryz.ntmps21
  go_wp2_with fail
  refine (letters_any l a b off c _ w rfl hl hc ha hcell).mono ?_
  rintro e w1 ⟨v, rfl, hown0, hbel⟩
  have hown1 : w1.ownsRow w.heap.size 5 1 v (enc padL l).length (cb (enc padL l)) := hown0
  clear hown0
  have hn := enc_length padL l
  obtain ⟨t, HT⟩ : ∃ t, Hid (enc padL l = t) := ⟨_, rfl⟩
  rw [HT.out] at hown1 hn
  obtain ⟨n, HN⟩ : ∃ n, Hid (t.length = n) := ⟨_, rfl⟩
  rw [HN.out] at hown1 hn
  obtain ⟨a1, c1, hv⟩ := own_shape hown1
  subst hv
  have hn2 : n ≤ 2097152 := by omega
  have hsz := hbel.size
  have hr : l.length % 3 = 0 ∨ l.length % 3 = 1 ∨ l.length % 3 = 2 := by omega
  rcases hr with hr | hr | hr
  · have q : n % 4 = 0 := by omega
    have q2 : ((n : Int) % 4 == 2) = false := by simp; omega
    have q3 : ((n : Int) % 4 == 3) = false := by simp; omega
    have Hn : Hid (n = (4 * l.length + 2) / 3) := hn
    clear hn
    have hcv := convert_owned hown1
    go_wp2
    go_ret
    refine ⟨?_, hbel⟩
    rw [encPad, HT.out, hr]
    simp
  · have q : n % 4 = 2 := by omega
    have q2 : ((n : Int) % 4 == 2) = true := by simp; omega
    have Hn : Hid (n = (4 * l.length + 2) / 3) := hn
    clear hn
    go_wp2_with (at_builtin; refine wpList_append_own _ rfl _ _ 58 rfl w.heap.size 5 inf (.int .u8 0) 1 1 Tryz.underlying58 hi hz0 hz1 hz2 rfl (by decide) _ n (cb t) rfl (hown1.alloc _) ⟨w1.heap.size, 0, none⟩ 1 1 [.int .u8 61] rfl rfl (cell_one_new _ _ _) (ints_oneCell .u8 [61]) (by unfold maxLen; omega) (by omega) (by simp; omega) ?_)
    intro v2 w2 hown2 hg2 hnn
    have hb2 : Below w.heap.size w w2 := (hbel.alloc hsz _).grown hg2 (by simp; omega) (fun k hk => (hown1.lt k hk).1)
    have hown2' : w2.ownsRow w.heap.size 5 1 v2 (n + 1) (cb (t ++ [61])) := by rw [cb_append]; exact hown2
    clear hown2 hg2 hnn
    have hsz2 := hb2.size
    go_wp2_with (at_builtin; refine wpList_append_own _ rfl _ _ 58 rfl w.heap.size 5 inf (.int .u8 0) 1 1 Tryz.underlying58 hi hz0 hz1 hz2 rfl (by decide) _ (n + 1) (cb (t ++ [61])) rfl (hown2'.alloc _) ⟨w2.heap.size, 0, none⟩ 1 1 [.int .u8 61] rfl rfl (cell_one_new _ _ _) (ints_oneCell .u8 [61]) (by unfold maxLen; omega) (by omega) (by simp; omega) ?_)
    intro v3 w3 hown3 hg3 hnn
    have hb3 : Below w.heap.size w w3 := (hb2.alloc hsz2 _).grown hg3 (by simp; omega) (fun k hk => (hown2'.lt k hk).1)
    have hown3' : w3.ownsRow w.heap.size 5 1 v3 (n + 1 + 1) (cb (t ++ [61] ++ [61])) := by rw [cb_append]; exact hown3
    have hcv := convert_owned hown3'
    clear hown3 hg3 hnn
    go_wp2
    go_ret
    refine ⟨?_, hb3⟩
    rw [encPad, HT.out, hr]
    simp
  · have q : n % 4 = 3 := by omega
    have q2 : ((n : Int) % 4 == 2) = false := by simp; omega
    have q3 : ((n : Int) % 4 == 3) = true := by simp; omega
    have Hn : Hid (n = (4 * l.length + 2) / 3) := hn
    clear hn
    go_wp2_with (at_builtin; refine wpList_append_own _ rfl _ _ 58 rfl w.heap.size 5 inf (.int .u8 0) 1 1 Tryz.underlying58 hi hz0 hz1 hz2 rfl (by decide) _ n (cb t) rfl (hown1.alloc _) ⟨w1.heap.size, 0, none⟩ 1 1 [.int .u8 61] rfl rfl (cell_one_new _ _ _) (ints_oneCell .u8 [61]) (by unfold maxLen; omega) (by omega) (by simp; omega) ?_)
    intro v2 w2 hown2 hg2 hnn
    have hb2 : Below w.heap.size w w2 := (hbel.alloc hsz _).grown hg2 (by simp; omega) (fun k hk => (hown1.lt k hk).1)
    have hown2' : w2.ownsRow w.heap.size 5 1 v2 (n + 1) (cb (t ++ [61])) := by rw [cb_append]; exact hown2
    have hcv := convert_owned hown2'
    clear hown2 hg2 hnn
    go_wp2
    go_ret
    refine ⟨?_, hb2⟩
    rw [encPad, HT.out, hr]
    simp
end Go.Proofs.YtipjjhccbgbdiaaGreatDoor
