/- The walk of the reference's whole: the bytes of a text's bits. -/
import Derived.Test.YtipjjhccbgbdiaaGreatDoorRefA
namespace Go.Proofs.YtipjjhccbgbdiaaGreatDoor
open Go Go.RowKit
open Go.RowKit (wrap32 wrap64)

/-- Bytes that are whole, what is begun of the next, and of how many bits that is. -/
abbrev St := List UInt8 × Nat × Nat
def stp (s : St) (bit : Nat) : St := if s.2.2 + 1 = 8 then (s.1 ++ [UInt8.ofNat (2 * s.2.1 + bit)], 0, 0) else (s.1, 2 * s.2.1 + bit, s.2.2 + 1)
/-- The first j of a letter's bits. -/
def letTo (wd p : Nat) (s : St) : Nat → St
  | 0 => s
  | j + 1 => stp (letTo wd p s j) (p / 2 ^ (wd - 1 - j) % 2)
def wholeSt (set : List UInt8) (wd : Nat) (l : List UInt8) (s : St) : St := l.foldl (fun s c => letTo wd (val set c) s wd) s

def StOk (s : St) (t : Nat) : Prop := 8 * s.1.length + s.2.2 = t ∧ s.2.2 ≤ 7 ∧ s.2.1 < 2 ^ s.2.2

theorem stp_ok {s : St} {t bit : Nat} (h : StOk s t) (hb : bit ≤ 1) : StOk (stp s bit) (t + 1) := by
  obtain ⟨h1, h2, h3⟩ := h
  unfold stp
  split
  · refine ⟨?_, Nat.zero_le _, by show (0 : Nat) < 2 ^ 0; decide⟩
    simp
    omega
  · refine ⟨?_, ?_, ?_⟩
    · show 8 * s.1.length + (s.2.2 + 1) = _; omega
    · show s.2.2 + 1 ≤ 7; omega
    · show 2 * s.2.1 + bit < 2 ^ (s.2.2 + 1)
      rw [Nat.pow_succ]
      omega

theorem letTo_ok (wd p : Nat) {s : St} {t : Nat} (h : StOk s t) : ∀ j, StOk (letTo wd p s j) (t + j)
  | 0 => h
  | j + 1 => stp_ok (letTo_ok wd p h j) (by omega)

theorem wholeSt_snoc (set : List UInt8) (wd : Nat) (l : List UInt8) (c : UInt8) (s : St) : wholeSt set wd (l ++ [c]) s = letTo wd (val set c) (wholeSt set wd l s) wd := by
  simp [wholeSt, List.foldl_append]

theorem wholeSt_ok (set : List UInt8) (wd : Nat) : ∀ (l : List UInt8) (s : St) (t : Nat), StOk s t → StOk (wholeSt set wd l s) (t + wd * l.length)
  | [], s, t, h => by simpa [wholeSt] using h
  | c :: r, s, t, h => by
    have := wholeSt_ok set wd r _ _ (letTo_ok wd (val set c) h wd)
    rw [show t + wd * (c :: r).length = t + wd + wd * r.length by rw [List.length_cons, Nat.mul_add]; omega]
    exact this

theorem ok0 : StOk ([], 0, 0) 0 := ⟨rfl, Nat.zero_le _, by decide⟩

theorem let6_0 (p : Nat) (b : List UInt8) (h : p < 64) : letTo 6 p (b, 0, 0) 6 = (b, p, 6) := by
  simp [letTo, stp, -UInt8.ofNat_add, -UInt8.ofNat_mul]
  omega
theorem let6_6 (p n : Nat) (b : List UInt8) (h : p < 64) : letTo 6 p (b, n, 6) 6 = (b ++ [UInt8.ofNat (n * 4 + p / 16)], p % 16, 4) := by
  simp [letTo, stp, -UInt8.ofNat_add, -UInt8.ofNat_mul]
  refine ⟨?_, by omega⟩
  congr 1
  omega
theorem let6_4 (p n : Nat) (b : List UInt8) (h : p < 64) : letTo 6 p (b, n, 4) 6 = (b ++ [UInt8.ofNat (n * 16 + p / 4)], p % 4, 2) := by
  simp [letTo, stp, -UInt8.ofNat_add, -UInt8.ofNat_mul]
  refine ⟨?_, by omega⟩
  congr 1
  omega
theorem let6_2 (p n : Nat) (b : List UInt8) (h : p < 64) : letTo 6 p (b, n, 2) 6 = (b ++ [UInt8.ofNat (n * 64 + p)], 0, 0) := by
  simp [letTo, stp, -UInt8.ofNat_add, -UInt8.ofNat_mul]
  congr 1
  omega
theorem let4_0 (p : Nat) (b : List UInt8) (h : p < 16) : letTo 4 p (b, 0, 0) 4 = (b, p, 4) := by
  simp [letTo, stp, -UInt8.ofNat_add, -UInt8.ofNat_mul]
  omega
theorem let4_4 (p n : Nat) (b : List UInt8) (h : p < 16) : letTo 4 p (b, n, 4) 4 = (b ++ [UInt8.ofNat (n * 16 + p)], 0, 0) := by
  simp [letTo, stp, -UInt8.ofNat_add, -UInt8.ofNat_mul]
  congr 1
  omega

theorem whole6 (set : List UInt8) (hs : set.length = 64) : ∀ (l b : List UInt8), (wholeSt set 6 l (b, 0, 0)).1 = b ++ dec set l
  | p :: q :: r :: t :: m, b => by
    have h1 := val_lt set p hs
    have h2 := val_lt set q hs
    have h3 := val_lt set r hs
    have h4 := val_lt set t hs
    unfold wholeSt
    simp only [List.foldl_cons]
    rw [let6_0 _ _ h1, let6_6 _ _ _ h2, let6_4 _ _ _ h3, let6_2 _ _ _ h4]
    have := whole6 set hs m (b ++ [UInt8.ofNat (val set p * 4 + val set q / 16)] ++ [UInt8.ofNat (val set q % 16 * 16 + val set r / 4)] ++ [UInt8.ofNat (val set r % 4 * 64 + val set t)])
    unfold wholeSt at this
    rw [this]
    simp [dec]
  | [p, q, r], b => by
    have h1 := val_lt set p hs
    have h2 := val_lt set q hs
    have h3 := val_lt set r hs
    unfold wholeSt
    simp only [List.foldl_cons, List.foldl_nil]
    rw [let6_0 _ _ h1, let6_6 _ _ _ h2, let6_4 _ _ _ h3]
    simp [dec]
  | [p, q], b => by
    have h1 := val_lt set p hs
    have h2 := val_lt set q hs
    unfold wholeSt
    simp only [List.foldl_cons, List.foldl_nil]
    rw [let6_0 _ _ h1, let6_6 _ _ _ h2]
    simp [dec]
  | [p], b => by
    have h1 := val_lt set p hs
    unfold wholeSt
    simp only [List.foldl_cons, List.foldl_nil]
    rw [let6_0 _ _ h1]
    simp [dec]
  | [], b => by simp [wholeSt, dec]

theorem whole4 : ∀ (l b : List UInt8), (wholeSt hexL 4 l (b, 0, 0)).1 = b ++ dec16 l
  | p :: q :: m, b => by
    unfold wholeSt
    simp only [List.foldl_cons]
    rw [let4_0 _ _ (val_hex p), let4_4 _ _ _ (val_hex q)]
    have := whole4 m (b ++ [UInt8.ofNat (val hexL p * 16 + val hexL q)])
    unfold wholeSt at this
    rw [this]
    simp [dec16]
  | [p], b => by
    unfold wholeSt
    simp only [List.foldl_cons, List.foldl_nil]
    rw [let4_0 _ _ (val_hex p)]
    simp [dec16]
  | [], b => by simp [wholeSt, dec16]

theorem and1 (x : Int) (h0 : 0 ≤ x) (h1 : x < 4294967296) : Go.bits .and .i64 x 1 = x % 2 := bits_mask .i64 32 (by decide) wraps_i64s 1 (by decide) x h0 h1

theorem bit_i64 (p m : Nat) (h : p < 64) : Go.bits .and .i64 ((p : Int) / 2 ^ m) 1 = ((p / 2 ^ m % 2 : Nat) : Int) := by
  have e : (p : Int) / 2 ^ m = ((p / 2 ^ m : Nat) : Int) := by push_cast; rfl
  have h2 : p / 2 ^ m ≤ p := Nat.div_le_self _ _
  generalize p / 2 ^ m = d at *
  rw [e, and1 _ (by omega) (by omega)]
  omega
end Go.Proofs.YtipjjhccbgbdiaaGreatDoor

/- The walk of the reference's whole. -/
namespace Go.Proofs.YtipjjhccbgbdiaaGreatDoor
open Go Go.RowKit
open Go.RowKit (wrap32 wrap64)

theorem letTo_succ (wd p : Nat) (s : St) (j : Nat) : letTo wd p s (j + 1) = stp (letTo wd p s j) (p / 2 ^ (wd - 1 - j) % 2) := rfl

theorem pow_le7 (k : Nat) (h : k ≤ 7) : 2 ^ k ≤ 128 := by
  have := Nat.pow_le_pow_right (show 0 < 2 by decide) h
  simpa using this

set_option maxRecDepth 100000 in
set_option maxHeartbeats 1600000 in
/-- whole at every text. -/
theorem whole_any (s set : ByteArray) (l : List UInt8) (wd : Nat) (D : Int) (w : World) (hl : s.data.toList = l) (hll : l.length ≤ 1048576) (hset : set.size ≤ 64) (hD : (wd : Int) = D) (hD1 : 1 ≤ D) (hD8 : D ≤ 8) :
    Calls Tryz.prog 51 #[.string s, .string set, .int .i64 D] w fun e w' => ∃ v, e = .returned (.tuple #[v, .bool (allIn set.data.toList l)]) ∧ Below w.heap.size w w' ∧ (allIn set.data.toList l = true → w'.ownsRow w.heap.size 5 1 v (wholeSt set.data.toList wd l ([], 0, 0)).1.length (cb (wholeSt set.data.toList wd l ([], 0, 0)).1)) ∧ (allIn set.data.toList l = false → v = .slice none 0 0) := by
  obtain ⟨inf, hi, hz0, hz1, hz2⟩ := info_parts Tryz.info5
  have hsz : s.size = l.length := by rw [← hl, size_list]
  obtain ⟨x, hx⟩ : ∃ x : Int, (s.size : Int) = x := ⟨_, rfl⟩
  have hx0 : 0 ≤ x := by omega
  have hx1 : x ≤ 1048576 := by omega
  have HX := hid hx
  have HL := hid hl
  have HSZ := hid hsz
  have HD := hid hD
  have HSET := hid hset
  clear hl hsz hD hset
  go_enter Tryz.func51, Tryz.ntmps51
  go_wp2
  go_loopw [8, 9, 10, 11] (fun bv nv kv iv wr => ∃ (i nb : Nat) (st : St) (y z : Int), i ≤ 1048576 ∧ nv = .int .i64 y ∧ kv = .int .i64 z ∧ iv = .int .i64 i ∧ 0 ≤ y ∧ y < 128 ∧ 0 ≤ z ∧ z ≤ 7 ∧ Hid (i ≤ l.length ∧ allIn set.data.toList (l.take i) = true) ∧ Hid (st = wholeSt set.data.toList wd (l.take i) ([], 0, 0) ∧ y = st.2.1 ∧ z = st.2.2 ∧ nb = st.1.length ∧ StOk st (wd * i)) ∧ Hid (wr.ownsRow w.heap.size 5 1 bv nb (cb st.1)) ∧ Hid (Below w.heap.size w wr)) (fun _ _ _ iv _ => l.length - (intOf iv).toNat)
  case atStart => exact ⟨0, 0, ([], 0, 0), 0, 0, by omega, rfl, rfl, rfl, by omega, by omega, by omega, by omega, hid ⟨Nat.zero_le _, rfl⟩, hid ⟨rfl, rfl, rfl, rfl, ok0⟩, hid (World.ownsRow_nil w _ 5 1), hid (Below.refl _ _)⟩
  case round =>
    as_aux_lemma =>
    obtain ⟨i, nb, st, y, z, hi1, rfl, rfl, rfl, hy0, hy1, hz0', hz1', HI, HST, HO, HB⟩ := hrel
    by_cases hlt : i < s.size
    · have hlt' : (i : Int) < x := by have := HX.out; omega
      have hll' : i < l.length := by have := HSZ.out; omega
      have hat : s[i] = l[i] := by
        have h1 := at_list s i hlt
        rw [HL.out] at h1
        rw [h1]
        simp [List.getD, List.getElem?_eq_getElem hll']
      obtain ⟨c, HC⟩ : ∃ c : UInt8, Hid (c = l[i]) := ⟨_, hid rfl⟩
      have hc : s[i] = c := by rw [hat, HC.out]
      clear hat
      have HP := hid (fun w => place_any set c w (by have := HSET.out; omega))
      by_cases hp : 0 ≤ Lib.indexByte set.data.toList c
      · obtain ⟨g, HG⟩ : ∃ g : Nat, Hid (g = val set.data.toList c ∧ Lib.indexByte set.data.toList c = (g : Int)) := ⟨_, hid ⟨rfl, val_eq _ _ hp⟩⟩
        have hg64 : (g : Int) < 64 := by
          have h1 := index_lt set.data.toList c
          have h2 := size_list set
          have := HG.out.2
          have := HSET.out
          omega
        have hpg := HG.out.2
        rw [hpg] at HP
        have HPG := hid hp
        clear hpg hp
        go_wp2_with (go_at_call 94; refine (HP.out _).mono ?_; rintro e w' ⟨rfl, hw⟩; have hw' := hw.symm; clear hw; subst hw')
        go_loopw [8, 9, 10, 13] (fun bv nv kv jv wr => ∃ (j nb : Nat) (sj : St) (y z q : Int), nv = .int .i64 y ∧ kv = .int .i64 z ∧ jv = .int .i64 q ∧ 0 ≤ y ∧ y < 128 ∧ 0 ≤ z ∧ z ≤ 7 ∧ -1 ≤ q ∧ q ≤ 7 ∧ nb ≤ 1048584 ∧ Hid (q = D - 1 - (j : Int)) ∧ Hid (sj = letTo wd g st j ∧ y = sj.2.1 ∧ z = sj.2.2 ∧ nb = sj.1.length) ∧ Hid (wr.ownsRow w.heap.size 5 1 bv nb (cb sj.1)) ∧ Hid (Below w.heap.size w wr)) (fun _ _ _ jv _ => (intOf jv + 1).toNat)
        case atStart =>
          refine ⟨0, nb, st, y, z, D - 1, rfl, rfl, by go_num, hy0, hy1, hz0', hz1', by omega, by omega, ?_, hid (by omega), hid ⟨rfl, HST.out.2.1, HST.out.2.2.1, HST.out.2.2.2.1⟩, HO, HB⟩
          have h1 := HST.out.2.2.2.2.1
          have h2 := HST.out.2.2.2.1
          have h3 : wd * i ≤ 8 * i := Nat.mul_le_mul_right i (by have := HD.out; omega)
          omega
        case round =>
          as_aux_lemma =>
          clear HO HB hy0 hy1 hz0' hz1'
          obtain ⟨j, nb', sj, y', z', q, rfl, rfl, rfl, hy0, hy1, hz0', hz1', hq0, hq1, hnb, HQ, HSJ, HO, HB⟩ := hrel
          have OKJ := hid (letTo_ok wd g HST.out.2.2.2.2 j)
          by_cases hq : 0 ≤ q
          · obtain ⟨m, rfl⟩ : ∃ m : Nat, q = (m : Int) := ⟨q.toNat, by omega⟩
            have hbit := bit_i64 g m (by omega)
            obtain ⟨bt, HBT⟩ : ∃ bt : Int, Hid (((g / 2 ^ m % 2 : Nat) : Int) = bt) := ⟨_, hid rfl⟩
            rw [HBT.out] at hbit
            have hb0 : 0 ≤ bt := by have := HBT.out; omega
            have hb1 : bt ≤ 1 := by have := HBT.out; omega
            have HNX : Hid (letTo wd g st (j + 1) = stp sj bt.toNat) := hid (by
              rw [letTo_succ, ← HSJ.out.1]
              congr 1
              rw [show wd - 1 - j = m by have := HQ.out; have := HD.out; omega]
              have := HBT.out
              omega)
            have hm64 : (m : Int) < 64 := by omega
            have hn8 : wd * i + j + 1 ≤ 8 * 1048576 + 8 := by
              have h3 : wd * i ≤ 8 * i := Nat.mul_le_mul_right i (by have := HD.out; omega)
              have := HQ.out
              omega
            by_cases h8 : z' = 7
            · have h8' : z' + 1 = 8 := by omega
              have hq8 : sj.2.2 + 1 = 8 := by have := HSJ.out.2.2.1; omega
              have hsz := HB.out.size
              have hown := HO.out
              have HE : Hid (stp sj bt.toNat = (sj.1 ++ [UInt8.ofNat (2 * y' + bt).toNat], 0, 0)) := hid (by
                unfold stp
                rw [if_pos hq8]
                rw [show 2 * sj.2.1 + bt.toNat = (2 * y' + bt).toNat by have := HSJ.out.2.1; omega])
              obtain ⟨u, HU⟩ : ∃ u : UInt8, Hid (UInt8.ofNat (2 * y' + bt).toNat = u) := ⟨_, hid rfl⟩
              have hu : 2 * y' + bt = (u.toNat : Int) := by
                rw [← HU.out, UInt8.toNat_ofNat']
                omega
              go_wp2_with (at_builtin; refine wpList_append_own _ rfl _ _ 58 rfl w.heap.size 5 inf (.int .u8 0) 1 1 Tryz.underlying58 hi hz0 hz1 hz2 rfl (by decide) u8 nb' _ rfl (hown.alloc _) ⟨wr.heap.size, 0, none⟩ 1 1 (cb [u]) rfl rfl ?hnews ?hone ?h63 ?hbytes ?hbase ?_)
              case hnews => exact fun j u hu => news_new wr _ _ j u hu
              case hone => intro u hu; simp [cb] at hu; rcases hu with rfl; rfl
              case h63 => unfold maxLen; omega
              case hbytes => omega
              case hbase => simp; omega
              intro v' w2 hown2 hg2 hnil
              go_wp2
              refine ⟨⟨j + 1, nb' + 1, (sj.1 ++ [u], 0, 0), 0, 0, (m : Int) - 1, rfl, rfl, by go_num, by omega, by omega, by omega, by omega, by omega, by omega, ?_, hid ?_, hid ⟨?_, rfl, rfl, ?_⟩, hid ?_, hid ((HB.out.alloc hsz _).grown hg2 (by simp; omega) (fun j hj => (hown.lt j hj).1))⟩, by simp [intOf]⟩
              · have h1 := (stp_ok (bit := bt.toNat) OKJ.out (by omega)).1
                rw [← HSJ.out.1, HE.out] at h1
                simp at h1
                have := HSJ.out.2.2.2
                omega
              · have := HQ.out; omega
              · rw [HNX.out, HE.out, HU.out]
              · simp; exact HSJ.out.2.2.2
              · show _root_.Go.World.ownsRow _ _ _ _ _ _ (cb (sj.1 ++ [u]))
                rw [cb_append]
                exact hown2
            · have h8' : z' < 7 := by omega
              have hq8 : ¬ sj.2.2 + 1 = 8 := by have := HSJ.out.2.2.1; omega
              have HE : Hid (stp sj bt.toNat = (sj.1, 2 * sj.2.1 + bt.toNat, sj.2.2 + 1)) := hid (by
                unfold stp
                rw [if_neg hq8])
              have h2y : 2 * y' + bt < 128 := by
                have h1 := (stp_ok (bit := bt.toNat) OKJ.out (by omega))
                rw [← HSJ.out.1, HE.out] at h1
                have h2 := h1.2.2
                have h3 := pow_le7 _ h1.2.1
                have h4 : 2 * sj.2.1 + bt.toNat < 128 := Nat.lt_of_lt_of_le h2 h3
                have := HSJ.out.2.1
                omega
              go_wp2
              refine ⟨⟨j + 1, nb', (sj.1, 2 * sj.2.1 + bt.toNat, sj.2.2 + 1), 2 * y' + bt, z' + 1, (m : Int) - 1, rfl, rfl, by go_num, by omega, by omega, by omega, by omega, by omega, by omega, hnb, hid ?_, hid ⟨?_, ?_, ?_, HSJ.out.2.2.2⟩, HO, HB⟩, by simp [intOf]⟩
              · have := HQ.out; omega
              · rw [HNX.out, HE.out]
              · have := HSJ.out.2.1; simp; omega
              · have := HSJ.out.2.2.1; simp; omega
          · have hq3 : q = -1 := by omega
            subst hq3
            have hjw : j = wd := by have := HQ.out; have := HD.out; omega
            have hx2 : (i : Int) + 1 ≤ x := by omega
            go_wp2
            have hst : sj = wholeSt set.data.toList wd (l.take (i + 1)) ([], 0, 0) := by
              rw [List.take_succ_eq_append_getElem hll', wholeSt_snoc, ← HST.out.1, HSJ.out.1, hjw, ← HC.out, ← HG.out.1]
            refine ⟨⟨i + 1, nb', sj, y', z', by have := HSZ.out; omega, rfl, rfl, by go_num, hy0, hy1, hz0', hz1', hid ⟨by omega, ?_⟩, hid ⟨hst, HSJ.out.2.1, HSJ.out.2.2.1, HSJ.out.2.2.2, ?_⟩, HO, HB⟩, by simp [intOf]; omega⟩
            · rw [List.take_succ_eq_append_getElem hll']
              have := HI.out.2
              unfold allIn at this ⊢
              rw [List.all_append, this, ← HC.out]
              simp
              exact HPG.out
            · rw [HSJ.out.1, hjw, Nat.mul_succ]
              exact letTo_ok wd g HST.out.2.2.2.2 wd
      · have hp' : Lib.indexByte set.data.toList c < 0 := by omega
        have hall : allIn set.data.toList l = false := by
          cases h : allIn set.data.toList l with
          | false => rfl
          | true => exact absurd ((allIn_iff _ _).1 h c (by rw [HC.out]; exact List.getElem_mem hll')) hp
        have hge : -1 ≤ Lib.indexByte set.data.toList c := Lib.indexByte_ge _ _
        obtain ⟨g, hg⟩ : ∃ g : Int, Lib.indexByte set.data.toList c = g := ⟨_, rfl⟩
        rw [hg] at HP hp' hge
        clear hp hg
        have HALL := hid hall
        clear hall
        go_wp2_with (go_at_call 94; refine (HP.out _).mono ?_; rintro e w' ⟨rfl, hw⟩; have hw' := hw.symm; clear hw; subst hw')
        go_ret2
        rw [HALL.out]
        exact ⟨_, rfl, HB.out, (fun h => by cases h), fun _ => rfl⟩
    · have hge : x ≤ (i : Int) := by have := HX.out; omega
      have he : i = l.length := by have := HX.out; have := HI.out; have := HSZ.out; omega
      have hall := HI.out.2
      rw [he, List.take_length] at hall
      have HALL := hid hall
      clear hall
      go_wp2
      go_ret2
      rw [HALL.out]
      refine ⟨_, rfl, HB.out, fun _ => ?_, fun h => by cases h⟩
      have ho := HO.out
      have hst := HST.out.1
      rw [he, List.take_length] at hst
      rw [HST.out.2.2.2.1, hst] at ho
      exact ho
end Go.Proofs.YtipjjhccbgbdiaaGreatDoor

/- The walks of the reference's read, Bytes64, Bytes16. -/
namespace Go.Proofs.YtipjjhccbgbdiaaGreatDoor
open Go Go.RowKit
open Go.RowKit (wrap32 wrap64)

/-- What is owned stays where nothing that was there turns. -/
theorem own_below {w w' : World} {B : Nat} {e : TypeId} {size : Nat} {v : Value} {n : Nat} {xs : List Value} (h : w.ownsRow B e size v n xs) (hb : Below w.heap.size w w') : w'.ownsRow B e size v n xs := by
  refine ⟨h.1, ?_⟩
  rcases h.2 with h2 | ⟨g, cap, cur, hv, hg, hh, r⟩
  · exact Or.inl h2
  · have hlt : g < w.heap.size := (Array.getElem?_eq_some_iff.1 hh).1
    exact Or.inr ⟨g, cap, cur, hv, hg, by rw [hb.block g hlt]; exact hh, r⟩

/-- The number of read's error. -/
def codeRd (set l : List UInt8) (right : Bool) : Nat := if allIn set l = true then (if right = true then (if spare set l = 0 then 0 else 12) else 11) else 10

theorem enc_dec_iff {set : List UInt8} (B : Base set) (hs : set.length = 64) (l : List UInt8) (h1 : allIn set l = true) (h2 : l.length % 4 ≠ 1) : enc set (dec set l) = l ↔ spare set l = 0 := by
  constructor
  · intro h
    rw [← h]
    exact spare_enc B _
  · exact enc_dec set hs l h1 h2

theorem same_iff (t s : ByteArray) (a b : List UInt8) (ht : t.data.toList = a) (hs : s.data.toList = b) : (t.toList == s.toList) = decide (a = b) := by
  rw [Lib.toList_data, Lib.toList_data, ht, hs]
  by_cases h : a = b
  · simp [h]
  · simp [h]

set_option maxRecDepth 100000 in
set_option maxHeartbeats 800000 in
/-- read at every text. -/
theorem refread_any (s set : ByteArray) (l : List UInt8) (right : Bool) (w : World) (hl : s.data.toList = l) (hll : l.length ≤ 1048576) (hset : set.size = 64) (B : Base set.data.toList) (hr : right = true → l.length % 4 ≠ 1) :
    Calls Tryz.prog 48 #[.string s, .string set, .bool right] w fun e w' => ∃ v, e = .returned (.tuple #[v, .int .i64 (codeRd set.data.toList l right)]) ∧ Below w.heap.size w w' ∧ (codeRd set.data.toList l right = 0 → w'.ownsRow w.heap.size 5 1 v (dec set.data.toList l).length (cb (dec set.data.toList l))) ∧ (codeRd set.data.toList l right ≠ 0 → v = .slice none 0 0) := by
  have hs64 : set.data.toList.length = 64 := by rw [size_list]; exact hset
  have HW := hid (fun w => whole_any s set l 6 6 w hl hll (by omega) rfl (by omega) (by omega))
  have HB := hid B
  have HR := hid hr
  have HL := hid hl
  have HS64 := hid hs64
  have HSET := hid hset
  clear hl B hr hs64
  go_enter Tryz.func48, Tryz.ntmps48
  go_wp2_with fail
  refine (HW.out _).mono ?_
  rintro e w1 ⟨v, rfl, hb1, ho, hno⟩
  have HB1 := hid hb1
  clear hb1 HW
  cases hall : allIn set.data.toList l with
  | false =>
    have HALL := hid hall
    clear hall ho hno
    go_wp2
    go_ret2
    unfold codeRd
    rw [HALL.out]
    exact ⟨_, rfl, HB1.out, (fun h => by simp at h), fun _ => rfl⟩
  | true =>
    have HALL := hid hall
    have ho' := ho hall
    clear hall ho hno
    rw [whole6 _ HS64.out l []] at ho'
    rw [List.nil_append] at ho'
    have HO := hid ho'
    clear ho'
    cases right with
    | false =>
      go_wp2
      go_ret2
      unfold codeRd
      rw [HALL.out]
      exact ⟨_, rfl, HB1.out, (fun h => by simp at h), fun _ => rfl⟩
    | true =>
      have hdl : (dec set.data.toList l).length ≤ 1048576 := by rw [dec_length]; omega
      have HDL := hid hdl
      clear hdl
      have R1 := hid (Rd.own HO.out)
      go_wp2_with fail
      refine (R1.out.bits HDL.out).mono ?_
      rintro e w2 ⟨v2, rfl, r2, hb2⟩
      have R2 := hid r2
      have HB2 := hid hb2
      clear r2 hb2
      go_wp2_with fail
      refine (R2.out.text6 set HDL.out HSET.out).mono ?_
      rintro e w' ⟨rfl, hw⟩
      have hw' := hw.symm
      clear hw
      subst hw'
      obtain ⟨t, HT⟩ : ∃ t : ByteArray, Hid (t = ⟨(enc set.data.toList (dec set.data.toList l)).toArray⟩) := ⟨_, hid rfl⟩
      rw [← HT.out]
      have hsame := same_iff t s _ _ (by rw [HT.out]) HL.out
      have hiff := enc_dec_iff HB.out HS64.out l HALL.out (HR.out trivial)
      by_cases hsp : spare set.data.toList l = 0
      · rw [decide_eq_true (hiff.2 hsp)] at hsame
        have HSP := hid hsp
        clear hsp hiff
        go_wp2
        go_ret2
        unfold codeRd
        rw [HALL.out, if_pos rfl, if_pos rfl, if_pos HSP.out]
        refine ⟨_, rfl, Below.step HB1.out HB2.out, fun _ => ?_, fun h => absurd rfl h⟩
        exact own_below HO.out HB2.out
      · rw [decide_eq_false (fun k => hsp (hiff.1 k))] at hsame
        have HSP := hid hsp
        clear hsp hiff
        go_wp2
        go_ret2
        unfold codeRd
        rw [HALL.out, if_pos rfl, if_pos rfl, if_neg HSP.out]
        exact ⟨_, rfl, Below.step HB1.out HB2.out, (fun h => by simp at h), fun _ => rfl⟩

theorem codeRd64 (l : List UInt8) : codeRd urlL l (decide (l.length % 4 ≠ 1)) = code64 l := by
  unfold codeRd code64
  by_cases h : l.length % 4 = 1
  · simp [h]
  · simp [h]

set_option maxRecDepth 100000 in
set_option maxHeartbeats 400000 in
/-- The reference's Bytes64. -/
theorem refBytes64_any (s : ByteArray) (l : List UInt8) (w : World) (hl : s.data.toList = l) (hll : l.length ≤ 1048576) :
    Calls Tryz.prog 27 #[.string s] w fun e w' => ∃ v, e = .returned (.tuple #[v, .int .i64 (code64 l)]) ∧ Below w.heap.size w w' ∧ (code64 l = 0 → w'.ownsRow w.heap.size 5 1 v (dec urlL l).length (cb (dec urlL l))) ∧ (code64 l ≠ 0 → v = .slice none 0 0) := by
  have hsz : s.size = l.length := by rw [← hl, size_list]
  have hsm' : s.size ≤ 1048576 := by omega
  have HR := hid (fun w => refread_any s urlB l (decide (l.length % 4 ≠ 1)) w hl hll rfl baseUrl (fun h => of_decide_eq_true h))
  have HC := hid (codeRd64 l)
  rw [show urlB.data.toList = urlL from rfl, HC.out] at HR
  have hmod : ((s.size : Int) % 4 != 1) = decide (l.length % 4 ≠ 1) := by
    rw [hsz]
    by_cases h : l.length % 4 = 1
    · rw [decide_eq_false (fun k => k h)]
      simp; omega
    · rw [decide_eq_true h]
      simp; omega
  obtain ⟨r, Hr⟩ : ∃ r : Bool, Hid (decide (l.length % 4 ≠ 1) = r) := ⟨_, hid rfl⟩
  rw [Hr.out] at HR hmod
  clear hl hsz
  go_enter Tryz.func27, Tryz.ntmps27
  go_wp2_with fail
  refine (HR.out _).mono ?_
  rintro e w1 ⟨v, rfl, hb1, ho, hno⟩
  have H := hid (And.intro hb1 (And.intro ho hno))
  clear hb1 ho hno HR
  go_wp2
  go_ret2
  exact ⟨v, rfl, H.out⟩

set_option maxRecDepth 100000 in
set_option maxHeartbeats 400000 in
/-- The reference's Bytes16. -/
theorem refBytes16_any (s : ByteArray) (l : List UInt8) (w : World) (hl : s.data.toList = l) (hll : l.length ≤ 1048576) :
    Calls Tryz.prog 31 #[.string s] w fun e w' => ∃ v, e = .returned (.tuple #[v, .int .i64 (code16 l)]) ∧ Below w.heap.size w w' ∧ (code16 l = 0 → w'.ownsRow w.heap.size 5 1 v (dec16 l).length (cb (dec16 l))) ∧ (code16 l ≠ 0 → v = .slice none 0 0) := by
  have hsz : s.size = l.length := by rw [← hl, size_list]
  have hsm' : s.size ≤ 1048576 := by omega
  have HW := hid (fun w => whole_any s hexB l 4 4 w hl hll (by decide) rfl (by omega) (by omega))
  rw [show hexB.data.toList = hexL from rfl, whole4 l []] at HW
  rw [List.nil_append] at HW
  have HSZ := hid hsz
  clear hl hsz
  go_enter Tryz.func31, Tryz.ntmps31
  go_wp2_with fail
  refine (HW.out _).mono ?_
  rintro e w1 ⟨v, rfl, hb1, ho, hno⟩
  have HB1 := hid hb1
  clear hb1 HW
  cases hall : allIn hexL l with
  | false =>
    have HALL := hid hall
    clear hall ho hno
    go_wp2
    go_ret2
    unfold code16
    rw [HALL.out]
    exact ⟨_, rfl, HB1.out, (fun h => by simp at h), fun _ => rfl⟩
  | true =>
    have HALL := hid hall
    have HO := hid (ho hall)
    clear hall ho hno
    by_cases h2 : l.length % 2 = 0
    · have hm : (s.size : Int) % 2 = 0 := by have := HSZ.out; omega
      have H2 := hid h2
      clear h2
      go_wp2
      go_ret2
      unfold code16
      rw [HALL.out, if_pos rfl, if_pos H2.out]
      exact ⟨_, rfl, HB1.out, fun _ => HO.out, fun h => absurd rfl h⟩
    · have hm : ((s.size : Int) % 2 != 0) = true := by have := HSZ.out; simp; omega
      have H2 := hid h2
      clear h2
      go_wp2
      go_ret2
      unfold code16
      rw [HALL.out, if_pos rfl, if_neg H2.out]
      exact ⟨_, rfl, HB1.out, (fun h => by simp at h), fun _ => rfl⟩
end Go.Proofs.YtipjjhccbgbdiaaGreatDoor

/- The walk of the reference's BytesPad. -/
namespace Go.Proofs.YtipjjhccbgbdiaaGreatDoor
open Go Go.RowKit
open Go.RowKit (wrap32 wrap64)

theorem pads_one {l : List UInt8} {n m : Nat} (h : PadsIs l n) (k : PadsIs l m) : n = m := by
  obtain ⟨h1, h2, h3, h4⟩ := h
  obtain ⟨k1, k2, k3, k4⟩ := k
  rcases Nat.lt_trichotomy n m with g | g | g
  · rcases h4 with h4 | h4 | h4
    · omega
    · omega
    · exact absurd (k3 n g) h4
  · exact g
  · rcases k4 with k4 | k4 | k4
    · omega
    · omega
    · exact absurd (h3 m g) k4

theorem codeRdPad (l a : List UInt8) : codeRd padL a (decide (l.length % 4 = 0)) = codePad l a := by
  unfold codeRd codePad
  by_cases h : l.length % 4 = 0
  · simp [h]
  · simp [h]

set_option maxRecDepth 100000 in
set_option maxHeartbeats 800000 in
/-- The reference's BytesPad. -/
theorem refBytesPad_any (s : ByteArray) (l : List UInt8) (w : World) (hl : s.data.toList = l) (hll : l.length ≤ 1048576) :
    Calls Tryz.prog 29 #[.string s] w fun e w' => ∃ n v, PadsIs l n ∧ e = .returned (.tuple #[v, .int .i64 (codePad l (l.take (l.length - n)))]) ∧ Below w.heap.size w w' ∧ (codePad l (l.take (l.length - n)) = 0 → w'.ownsRow w.heap.size 5 1 v (dec padL (l.take (l.length - n))).length (cb (dec padL (l.take (l.length - n))))) ∧ (codePad l (l.take (l.length - n)) ≠ 0 → v = .slice none 0 0) := by
  have hsz : s.size = l.length := by rw [← hl, size_list]
  have hsm' : s.size ≤ 1048576 := by omega
  have HL := hid hl
  have HSZ := hid hsz
  clear hl hsz
  have hmod : ((s.size : Int) % 4 == 0) = decide (l.length % 4 = 0) := by
    rw [HSZ.out]
    by_cases h : l.length % 4 = 0
    · rw [decide_eq_true h]
      exact beq_iff_eq.2 (by omega)
    · rw [decide_eq_false h]
      exact beq_eq_false_iff_ne.2 (by omega)
  obtain ⟨r, Hr⟩ : ∃ r : Bool, Hid (decide (l.length % 4 = 0) = r) := ⟨_, hid rfl⟩
  rw [Hr.out] at hmod
  have HFIN : Hid (∀ (t : ByteArray) (k : Nat), t.data.toList = l.take (l.length - k) → PadsIs l k → ∀ w0, Calls Tryz.prog 48 #[.string t, .string padB, .bool r] w0 fun e w' => ∃ v, e = .returned (.tuple #[v, .int .i64 (codePad l (l.take (l.length - k)))]) ∧ Below w0.heap.size w0 w' ∧ (codePad l (l.take (l.length - k)) = 0 → w'.ownsRow w0.heap.size 5 1 v (dec padL (l.take (l.length - k))).length (cb (dec padL (l.take (l.length - k))))) ∧ (codePad l (l.take (l.length - k)) ≠ 0 → v = .slice none 0 0)) := hid (by
    intro t k ht hp w0
    have h1 := refread_any t padB (l.take (l.length - k)) r w0 ht (by rw [List.length_take]; omega) rfl basePad (fun h => by
      rw [← Hr.out] at h
      have h2 := of_decide_eq_true h
      have h3 := hp.1
      have h4 := hp.2.1
      rw [List.length_take]
      omega)
    rw [show padB.data.toList = padL from rfl, ← Hr.out, codeRdPad, Hr.out] at h1
    exact h1)
  go_enter Tryz.func29, Tryz.ntmps29
  go_wp2
  go_loop [4, 5] (fun tv kv => ∃ (k : Nat) (t : ByteArray), tv = .string t ∧ kv = .int .i64 k ∧ k ≤ 2 ∧ t.size ≤ 1048576 ∧ Hid (k ≤ l.length ∧ t.size = l.length - k) ∧ Hid (t.data.toList = l.take (l.length - k)) ∧ Hid (∀ i, i < k → l.getD (l.length - 1 - i) 0 = 61)) (fun _ kv => 2 - (intOf kv).toNat)
  case atStart => exact ⟨0, s, rfl, rfl, by omega, hsm', hid ⟨Nat.zero_le _, by rw [HSZ.out]; rfl⟩, hid (by rw [HL.out, Nat.sub_zero, List.take_length]), hid (fun i h => absurd h (by omega))⟩
  case round =>
    as_aux_lemma =>
    obtain ⟨k, t, rfl, rfl, hk2, ht1, HK, HT, HALL⟩ := hrel
    by_cases h2 : k = 2
    · have q : (k : Int) = 2 := by omega
      have HP := hid (HFIN.out t k HT.out ⟨hk2, HK.out.1, HALL.out, .inl h2⟩)
      clear h2
      go_wp2_with (go_at_call 48; refine (HP.out _).mono ?_; rintro e w2 ⟨v, rfl, hb2, ho, hno⟩; have HQ := hid (And.intro hb2 (And.intro ho hno)); clear hb2 ho hno)
      go_ret2
      exact ⟨k, v, ⟨hk2, HK.out.1, HALL.out, .inl (by omega)⟩, rfl, HQ.out⟩
    · have q : (k : Int) < 2 := by omega
      by_cases h3 : t.size = 0
      · have hkl : k = l.length := by have := HK.out; omega
        have HP := hid (HFIN.out t k HT.out ⟨hk2, HK.out.1, HALL.out, .inr (.inl hkl)⟩)
        have h3' : (t.size : Int) ≤ 0 := by omega
        have HKL := hid hkl
        clear h3 hkl
        go_wp2_with (go_at_call 48; refine (HP.out _).mono ?_; rintro e w2 ⟨v, rfl, hb2, ho, hno⟩; have HQ := hid (And.intro hb2 (And.intro ho hno)); clear hb2 ho hno)
        go_ret2
        exact ⟨k, v, ⟨hk2, HK.out.1, HALL.out, .inr (.inl HKL.out)⟩, rfl, HQ.out⟩
      · obtain ⟨m, hm⟩ : ∃ m : Nat, t.size = m + 1 := ⟨t.size - 1, by omega⟩
        have hmi : (t.size : Int) = (m : Int) + 1 := by omega
        have hlt : m < t.size := by omega
        have hx := at_list t m hlt
        rw [HT.out] at hx
        have hxl : (l.take (l.length - k)).getD m 0 = l.getD (l.length - 1 - k) 0 := by
          have h5 := HK.out
          rw [show l.length - 1 - k = m by omega]
          rw [List.getD_eq_getElem?_getD, List.getD_eq_getElem?_getD, List.getElem?_take, if_pos (by omega)]
        rw [hxl] at hx
        obtain ⟨c, HC⟩ : ∃ c, Hid (l.getD (l.length - 1 - k) 0 = c) := ⟨_, hid rfl⟩
        rw [HC.out] at hx
        clear hxl
        have hm2 : m + 1 ≤ 1048576 := by omega
        have h3' : 0 < (t.size : Int) := by omega
        by_cases h4 : c = 61
        · have q4 : ((c.toNat : Int) == 61) = true := by rw [h4]; rfl
          have H4 := hid h4
          have HM := hid hm
          clear h4 hm h3
          go_wp2
          refine ⟨⟨k + 1, t.extract 0 m, rfl, by go_num, by omega, ?_, hid ⟨?_, ?_⟩, hid ?_, hid (fun i hi => ?_)⟩, by simp [intOf]; omega⟩
          · rw [ByteArray.size_extract]; omega
          · have := HK.out; have := HM.out; omega
          · rw [ByteArray.size_extract]; have := HK.out; have := HM.out; omega
          · rw [Lib.extract_data, HT.out, List.drop_zero, List.take_take]
            congr 1
            have := HK.out
            have := HM.out
            omega
          · by_cases hik : i < k
            · exact HALL.out i hik
            · rw [show i = k by omega, HC.out, H4.out]
        · have q4 : ((c.toNat : Int) == 61) = false := by
            rw [beq_eq_false_iff_ne]; intro h; apply h4; apply UInt8.toNat_inj.1; show c.toNat = 61; omega
          have HP := hid (HFIN.out t k HT.out ⟨hk2, HK.out.1, HALL.out, .inr (.inr (by rw [HC.out]; exact h4))⟩)
          have H4 := hid h4
          clear h4 hm h3
          go_wp2_with (go_at_call 48; refine (HP.out _).mono ?_; rintro e w2 ⟨v, rfl, hb2, ho, hno⟩; have HQ := hid (And.intro hb2 (And.intro ho hno)); clear hb2 ho hno)
          go_ret2
          exact ⟨k, v, ⟨hk2, HK.out.1, HALL.out, .inr (.inr (by rw [HC.out]; exact H4.out))⟩, rfl, HQ.out⟩
end Go.Proofs.YtipjjhccbgbdiaaGreatDoor
