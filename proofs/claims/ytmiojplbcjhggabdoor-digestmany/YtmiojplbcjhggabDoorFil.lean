/- filled. -/
import Derived.Test.YtmiojplbcjhggabDoorWd
namespace Go.Proofs.YtmiojplbcjhggabDoor
open Go Go.RowKit
open Go.RowKit (wrap32 wrap64)

def bk (K : List UInt8) (x : UInt8) (i : Nat) : List UInt8 := (K.take i).map (· ^^^ x)
theorem bk_length (K : List UInt8) (x : UInt8) (i : Nat) (h : i ≤ K.length) : (bk K x i).length = i := by rw [bk, List.length_map, List.length_take]; omega
theorem bk_succ (K : List UInt8) (x : UInt8) (i : Nat) (h : i < K.length) : bk K x (i + 1) = bk K x i ++ [K[i] ^^^ x] := by rw [bk, List.take_succ_eq_append_getElem h, List.map_append]; rfl
theorem bk_full (K : List UInt8) (x : UInt8) (h : K.length = 64) : bk K x 64 = K.map (· ^^^ x) := by rw [bk, List.take_of_length_le (by omega)]
theorem Out.same_first {B C j : Nat} {w : World} {v v' : Value} {l l' : List UInt8} (h : Out B w v l) (h' : Out C w v' l') (hl : 0 < l.length) (hl' : 0 < l'.length) (hv : v.ownBlock = some j) (hv' : v'.ownBlock = some j) : l[0] = l'[0] := by
  obtain ⟨g, c, rfl, _, _, _, hc⟩ := h.form hl
  obtain ⟨g', c', rfl, _, _, _, hc'⟩ := h'.form hl'
  have e1 : g = j := by simpa [Value.ownBlock] using hv
  have e2 : g' = j := by simpa [Value.ownBlock] using hv'
  subst e1
  subst e2
  have h3 := (hc 0 hl).symm.trans (hc' 0 hl')
  injection h3 with h3
  injection h3 with _ h3
  exact UInt8.toNat_inj.1 (by omega)
theorem xor_ne (a x y : UInt8) (h : x ≠ y) : a ^^^ x ≠ a ^^^ y := fun e => h (by
  have := congrArg (a ^^^ ·) e
  simpa [← UInt8.xor_assoc] using this)
theorem apartP {C k i : Nat} {w : World} {a b : Value} {P : List UInt8} {x y : UInt8} (hxy : x ≠ y) (hk : 0 < i → 0 < k) (ha : Out C w a (bk P x k)) (hb : Out C w b (bk P y i)) (hz : i = 0 → b = .slice none 0 0) (hP : 0 < P.length) : ∀ j, b.ownBlock = some j → a.ownBlock ≠ some j := by
  intro j hj hj'
  by_cases h0 : i = 0
  · rw [hz h0] at hj
    simp [Value.ownBlock] at hj
  · have hk' := hk (by omega)
    have l1 : 0 < (bk P x k).length := by rw [bk, List.length_map, List.length_take]; omega
    have l2 : 0 < (bk P y i).length := by rw [bk, List.length_map, List.length_take]; omega
    have := ha.same_first hb l1 l2 hj' hj
    simp only [bk, List.getElem_map, List.getElem_take] at this
    exact xor_ne _ _ _ hxy this
theorem Blk.rd32 {w : World} {b : Nat} {S : List Value} {l : List UInt8} {t : TypeId} (h : Blk w b S t) (hS : Lib.byteCells l = S) (hl : l.length = 32) : Rd w (fun k => k = b) (.slice (some ⟨b, 0, none⟩) 32 32) l := by
  subst hS
  refine ⟨_, b, 0, 32, by rw [hl], by rw [hl]; exact Nat.le_refl _, (fun h => by cases h), fun _ => ⟨rfl, h.lt, rfl⟩, fun i hi => ?_⟩
  rw [Nat.zero_add, h.cell i]
  simp [Lib.byteCells, List.getElem?_eq_getElem hi]


theorem kpad_get (key : List UInt8) (i : Nat) (h : i < key.length) (h2 : i < (kpad key).length) : (kpad key)[i] = key[i] := by
  exact List.getElem_append_left (bs := List.replicate (64 - key.length) 0) h
theorem kpad_nul (key : List UInt8) (i : Nat) (h : ¬ i < key.length) (h2 : i < (kpad key).length) : (kpad key)[i] = 0 := by
  have e : ∀ (l : List UInt8) (m : Nat) (h3 : i < (l ++ List.replicate m 0).length), ¬ i < l.length → (l ++ List.replicate m (0 : UInt8))[i] = 0 := fun l m h3 hn => by
    rw [List.getElem_append_right (by omega), List.getElem_replicate]
  exact e key _ h2 h
theorem bent_bk (key : List UInt8) (x : UInt8) (h : key.length ≤ 64) : bk (kpad key) x 64 = bent key x := by
  rw [bk_full _ _ (kpad_length key h)]
  rfl
set_option maxRecDepth 100000 in
set_option maxHeartbeats 1600000 in
theorem filled_any (w : World) (v : Value) (F : Nat → Prop) (key : List UInt8) (d : UInt8) (hv : Rd w F v key) (hl : key.length ≤ 64) :
    Calls Tryd.prog 10 #[v, .int .u8 d.toNat] w fun e w' => ∃ v', e = .returned v' ∧ Out w.heap.size w' v' (bent key d) ∧ w.grownBy w' none := by
  have HV := hid hv
  obtain ⟨ka, kb, ko, kc, hke, -, -, ha, hcell⟩ := hv
  subst hke
  have HA := hid ha
  have HC := hid hcell
  obtain ⟨n, HN⟩ : ∃ n, Hid (key.length = n) := ⟨_, hid rfl⟩
  have HP := hid (kpad_length key hl)
  have HB := hid (bent_bk key d hl)
  obtain ⟨P, HPe⟩ : ∃ P, Hid (kpad key = P) := ⟨_, hid rfl⟩
  have HP1 : Hid (∀ i (h : i < key.length) (h2 : i < P.length), P[i] = key[i]) := hid (by rw [← HPe.out]; exact fun i h h2 => kpad_get key i h h2)
  have HP2 : Hid (∀ i (h : ¬ i < key.length) (h2 : i < P.length), P[i] = 0) := hid (by rw [← HPe.out]; exact fun i h h2 => kpad_nul key i h h2)
  rw [HPe.out] at HP HB
  obtain ⟨D, HD⟩ : ∃ D : Int, Hid ((d.toNat : Int) = D) := ⟨_, hid rfl⟩
  rw [HD.out, HN.out]
  rw [HN.out] at hl
  clear ha hcell
  go_enter Tryd.func10, Tryd.ntmps10
  go_wp2_with fail
  go_loopw [5, 6] (fun lv iv wr => ∃ i : Nat, i ≤ 64 ∧ iv = .int .i64 i ∧ Hid (Out w.heap.size wr lv (bk P d i)) ∧ Hid (w.grownBy wr none)) (fun _ iv _ => 64 - (intOf iv).toNat)
  case atStart => exact ⟨0, Nat.zero_le _, rfl, hid (Out.nil _ _), hid (grefl _ _)⟩
  case round =>
    obtain ⟨i, hi, rfl, HO, HG⟩ := hrel
    have hsz := HG.out.size
    by_cases hlt : i < 64
    · have hlt' : (i : Int) < 64 := by omega
      have hiP : i < P.length := by rw [HP.out]; exact hlt
      obtain ⟨u, HU⟩ : ∃ u, Hid (P[i] ^^^ d = u) := ⟨_, hid rfl⟩
      have hx := xor8 P[i] d
      have HS := hid (bk_succ P d i hiP)
      rw [HU.out] at hx HS
      rw [HD.out] at hx
      have HL := hid (bk_length P d i (by omega))
      by_cases hk : i < n
      · have hk' : (i : Int) < (n : Int) := by omega
        obtain ⟨rfl, hb, -⟩ := HA.out (by rw [HN.out]; omega)
        have hck := HC.out i (by rw [HN.out]; exact hk)
        rw [← cell_at HG.out hb (by simp), ← HP1.out i (by rw [HN.out]; exact hk) hiP] at hck
        obtain ⟨y, HY⟩ : ∃ y : Int, Hid ((P[i].toNat : Int) = y) := ⟨_, hid rfl⟩
        rw [HY.out] at hck hx
        have hb2 : kb < wr.heap.size := Nat.lt_of_lt_of_le hb hsz
        clear HU HY hiP
        go_wp2_with (at_builtin; refine wpList_append_byteW rfl _ _ rfl w.heap.size wr.heap.size _ u (HO.out.keep (galloc wr _ none)) rfl (litL wr _) (by rw [HL.out]; omega) (by simp; omega) ?_; intro v6 w6 hO6 hg6)
        have hge := gtrans (galloc wr _ _) hg6
        go_roundw
        case rel => exact ⟨i + 1, by omega, by go_num, hid (by rw [HS.out]; exact hO6), hid (HG.out.andThen hge (fun q hq => .inl (HO.out.block _ hq)))⟩
        case measure => simp [intOf]; omega
      · have hk' : ¬ (i : Int) < (n : Int) := by omega
        rw [HP2.out i (by rw [HN.out]; exact hk) hiP] at hx
        replace hx : Go.bits .xor .u8 0 D = (u.toNat : Int) := hx
        clear HU hiP
        go_wp2_with (at_builtin; refine wpList_append_byteW rfl _ _ rfl w.heap.size wr.heap.size _ u (HO.out.keep (galloc wr _ none)) rfl (litL wr _) (by rw [HL.out]; omega) (by simp; omega) ?_; intro v6 w6 hO6 hg6)
        have hge := gtrans (galloc wr _ _) hg6
        go_roundw
        case rel => exact ⟨i + 1, by omega, by go_num, hid (by rw [HS.out]; exact hO6), hid (HG.out.andThen hge (fun q hq => .inl (HO.out.block _ hq)))⟩
        case measure => simp [intOf]; omega
    · obtain rfl : i = 64 := by omega
      go_wp2_with fail
      go_ret
      exact ⟨_, rfl, by rw [← HB.out]; exact HO.out, HG.out⟩
end Go.Proofs.YtmiojplbcjhggabDoor
