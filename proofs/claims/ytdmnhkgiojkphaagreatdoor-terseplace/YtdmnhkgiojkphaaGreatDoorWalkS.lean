/- The walks of appendValue, appendItems, Print. -/
import Derived.Test.YtdmnhkgiojkphaaGreatDoorX17
namespace Go.Proofs.YtdmnhkgiojkphaaGreatDoor
open Go Go.RowKit
open Go.RowKit (wrap32 wrap64)

def boolW (b : Bool) : List UInt8 := if b = true then trueW else falseW
set_option maxRecDepth 100000 in
set_option maxHeartbeats 1000000 in
theorem appendBool_in (B : Nat) (w : World) (v : Value) (acc : List UInt8) (b : Bool) (ho : Out B w v acc) (hlen : acc.length + 5 ≤ 35184372088832) (hB : B ≤ w.heap.size) :
    Calls Tryz.prog 131 #[v, .bool b] w fun e w' => ∃ v', e = .returned v' ∧ Out B w' v' (acc ++ boolW b) ∧ KeptV B w v acc w' v' := by
  obtain ⟨i0, hi, hz0, hzz, hz2⟩ := info_parts Tryz.info5
  have HO := hid ho
  have ho' : w.ownsRow B 5 1 v acc.length (Lib.byteCells acc) := ho
  have HOW := hid ho'
  obtain ⟨N, HN⟩ : ∃ N, Hid (acc.length = N) := ⟨_, hid rfl⟩
  rw [HN.out] at HOW hlen
  have hm4 : N + 4 ≤ maxLen := by unfold maxLen; omega
  have hm5 : N + 5 ≤ maxLen := by unfold maxLen; omega
  clear ho ho'
  cases b with
  | true =>
    go_enter Tryz.func131, Tryz.ntmps131
    go_wp2_with (at_builtin; refine Lib.wpList_append_own_string _ rfl _ _ 84 9 rfl B 5 i0 Tryz.underlying84 Tryz.underlying9 hi hz0 hzz hz2 _ _ _ rfl HOW.out ⟨#[116, 114, 117, 101]⟩ rfl hm4 (by show N + 4 ≤ _; omega) hB ?_; intro v' w2 hown' hgrow _)
    go_wp2_with fail
    go_ret
    have hO : Out B w2 v' (acc ++ boolW true) := Out.more hown' (by rw [HN.out]; rfl) rfl
    exact ⟨v', rfl, hO, (KeptV.refl B w v acc).grown HO.out hB hgrow hO (List.prefix_append _ _)⟩
  | false =>
    go_enter Tryz.func131, Tryz.ntmps131
    go_wp2_with (at_builtin; refine Lib.wpList_append_own_string _ rfl _ _ 84 9 rfl B 5 i0 Tryz.underlying84 Tryz.underlying9 hi hz0 hzz hz2 _ _ _ rfl HOW.out ⟨#[102, 97, 108, 115, 101]⟩ rfl hm5 (by show N + 5 ≤ _; omega) hB ?_; intro v' w2 hown' hgrow _)
    go_wp2_with fail
    go_ret
    have hO : Out B w2 v' (acc ++ boolW false) := Out.more hown' (by rw [HN.out]; rfl) rfl
    exact ⟨v', rfl, hO, (KeptV.refl B w v acc).grown HO.out hB hgrow hO (List.prefix_append _ _)⟩
theorem appendBool_any (B : Nat) (w : World) (v : Value) (acc : List UInt8) (b : Bool) (ho : Out B w v acc) (hlen : acc.length + 5 ≤ 35184372088832) (hB : B ≤ w.heap.size) :
    Calls Tryz.prog 70 #[v, .bool b] w fun e w' => ∃ v', e = .returned v' ∧ Out B w' v' (acc ++ boolW b) ∧ KeptV B w v acc w' v' := by
  have HC := hid (appendBool_in B w v acc b ho hlen hB)
  clear ho
  go_enter Tryz.func70, Tryz.ntmps70
  go_wp2_with fail
  refine HC.out.mono ?_
  rintro e w' ⟨v', rfl, h⟩
  have H := hid h
  clear h
  go_wp2_with fail
  go_ret
  exact ⟨v', rfl, H.out⟩
/-- An item's cells, as an index finds them, in their shapes. -/
theorem RdIs.atS {w wr : World} {F : Nat → Prop} {g o : Nat} {l : List Tree} (h : RdIs w F g o l) (hs : Stays F w wr) (hF : F g) (hg : g < w.heap.size) (i : Nat) (hi : i < l.length) :
    ∃ (k : Int) (f : Bool) (n : Int) (s : ByteArray) (ka : Option Addr) (kn kc : Nat) (ia : Option Addr) (il ic : Nat), wr.cell? ⟨g, o + i * 6, none⟩ = some (.int .i64 k) ∧ wr.cell? ⟨g, o + i * 6 + 1, none⟩ = some (.bool f) ∧ wr.cell? ⟨g, o + i * 6 + 2, none⟩ = some (.int .i64 n) ∧ wr.cell? ⟨g, o + i * 6 + 3, none⟩ = some (.string s) ∧ wr.cell? ⟨g, o + i * 6 + 4, none⟩ = some (.slice ka kn kc) ∧ wr.cell? ⟨g, o + i * 6 + 5, none⟩ = some (.slice ia il ic) ∧ RdT wr F l[i] (.agg #[.int .i64 k, .bool f, .int .i64 n, .string s, .slice ka kn kc, .slice ia il ic]) := by
  obtain ⟨a0, a1, a2, a3, a4, a5, z0, z1, z2, z3, z4, z5, hT⟩ := h.at hs hF hg i hi
  have hT' := hT
  rw [RdT_eq] at hT'
  obtain ⟨kv, ia, ic, e, ⟨ka, kc, rfl, _⟩, _, _⟩ := hT'
  simp only [Value.agg.injEq, Array.mk.injEq, List.cons.injEq, and_true] at e
  obtain ⟨rfl, rfl, rfl, rfl, rfl, rfl⟩ := e
  exact ⟨_, _, _, _, _, _, _, _, _, _, z0, z1, z2, z3, z4, z5, hT⟩
theorem sep_le_append : ∀ (a b : List (List UInt8)), (sep a).length ≤ (sep (a ++ b)).length
  | [], b => by simp [sep]
  | [p], [] => by simp
  | [p], q :: r => by simp only [List.cons_append, List.nil_append, sep, List.length_append]; omega
  | p :: q :: r, b => by
    have := sep_le_append (q :: r) b
    have e : p :: q :: r ++ b = p :: q :: (r ++ b) := rfl
    rw [e]
    simp only [sep, List.length_append, List.length_cons]
    have e2 : q :: r ++ b = q :: (r ++ b) := rfl
    rw [e2] at this
    omega
theorem sep_take (ps : List (List UInt8)) (i : Nat) (h : i < ps.length) : sep (ps.take (i + 1)) = (if i = 0 then ps[i] else sep (ps.take i) ++ 44 :: ps[i]) ∧ (sep (ps.take (i + 1))).length ≤ (sep ps).length := by
  constructor
  · rw [List.take_succ_eq_append_getElem h, sep_snoc]
    by_cases h0 : i = 0
    · subst h0; simp
    · rw [if_neg (by intro e; have := congrArg List.length e; rw [List.length_take, List.length_nil] at this; omega), if_neg h0]
  · have := sep_le_append (ps.take (i + 1)) (ps.drop (i + 1))
    rw [List.take_append_drop] at this
    exact this
theorem escL_ge (l : List UInt8) : l.length ≤ (escL l).length := by
  induction l with
  | nil => simp
  | cons c r ih =>
    have : escL (c :: r) = escB c ++ escL r := rfl
    rw [this, List.length_append, List.length_cons]
    have : 1 ≤ (escB c).length := by
      unfold escB
      repeat' split
      all_goals simp
    omega
/-- What stands between a list's brackets or a map's braces, piece by piece. -/
def pieces (t : Tree) : List (List UInt8) := if t.kind = 6 then ents t.keys (t.items.map pr) else t.items.map pr
/-- appendValue appends trees of that much. -/
def AppV (n : Nat) : Prop := n ≤ 1099511627776 → ∀ (t : Tree), cntT t ≤ n → (∃ about, checkT t about = 0) → Fits t → ∀ (B : Nat) (w : World) (ov : Value) (acc : List UInt8) (v : Value), Out B w ov acc → RdT w (fun g => g < B) t v → B ≤ w.heap.size → 8 ≤ B → Glob w → acc.length + 6 * (pr t).length + 64 ≤ 35184372088832 →
  Calls Tryz.prog 41 #[ov, v] w fun e w' => ∃ v', e = .returned v' ∧ Out B w' v' (acc ++ pr t) ∧ KeptV B w ov acc w' v'
theorem Kept.stays {B : Nat} {w w' : World} (h : Kept B w w') : Stays (fun g => g < B) w w' := ⟨h.1.size, fun g hg _ => h.1.block g hg⟩
theorem Glob.kept {B : Nat} {w w' : World} (h : Glob w) (hk : Kept B w w') (h8 : 8 ≤ B) : Glob w' := h.below ⟨hk.1.os, hk.1.tape, hk.1.output, hk.1.size, fun k hk' => hk.1.block k (by omega)⟩

set_option maxRecDepth 100000 in
set_option maxHeartbeats 2000000 in
theorem appendItems_any (n : Nat) (hA : AppV n) (hn : n ≤ 1099511627776) (t : Tree) (hcn : cntL t.items ≤ n) (hc : ∃ about, ∀ x ∈ t.items, checkT x about = 0) (hf : FitsL t.items)
    (hk6 : t.kind = 6 → t.keys.length = t.items.length ∧ ∀ k ∈ t.keys, good k = true) (B : Nat) (w : World) (ov : Value) (acc : List UInt8) (v : Value) (ho : Out B w ov acc) (hv : RdT w (fun g => g < B) t v) (hB : B ≤ w.heap.size) (h8 : 8 ≤ B) (hG : Glob w)
    (hlen : acc.length + 6 * (sep (pieces t)).length + 64 ≤ 35184372088832) :
    Calls Tryz.prog 73 #[ov, v] w fun e w' => ∃ v', e = .returned v' ∧ Out B w' v' (acc ++ sep (pieces t)) ∧ KeptV B w ov acc w' v' := by
  obtain ⟨i0, hi, hz0, hzz, hz2⟩ := info_parts Tryz.info5
  have hv' := hv
  rw [RdT_eq] at hv'
  obtain ⟨kv, ia, ic, rfl, hkv, hcc, hit⟩ := hv'
  obtain ⟨ka, kc, rfl, hkc, hkr⟩ := hkv
  obtain ⟨A, HA⟩ : ∃ A, Hid (t.items.length = A) := ⟨_, hid rfl⟩
  obtain ⟨KN, HKN⟩ : ∃ A, Hid (t.keys.length = A) := ⟨_, hid rfl⟩
  have hAb : A ≤ 1099511627776 := by have := cntL_length t.items; rw [HA.out] at this; omega
  have HC6 : Hid (t.kind = 6 → t.keys.length = t.items.length ∧ ∀ k ∈ t.keys, good k = true) := hid hk6
  obtain ⟨K, HKK⟩ : ∃ K, Hid (t.kind = K) := ⟨_, hid rfl⟩
  rw [HA.out] at hcc
  rw [HA.out, HKN.out, HKK.out]
  have HPL : Hid ((pieces t).length = A) := by
    unfold pieces
    by_cases h6 : t.kind = 6
    · rw [if_pos h6]
      have := (hk6 h6).1
      refine hid ?_
      rw [← HA.out]
      simp [ents, this]
    · rw [if_neg h6]; exact hid (by simp [HA.out])
  have HI := hid hit
  have HKR := hid hkr
  have HAV := hid hA
  have HN := hid hn
  have HCN := hid hcn
  have HC := hid hc
  have HF := hid hf
  have HO := hid ho
  have HG := hid hG
  have HLen := hid hlen
  have g0 : w.grownBy (w.alloc (.cells #[.int .i64 K, .bool t.flag, .int .i64 t.n, .string t.text, .slice ka KN kc, .slice ia A ic] 26)) none := galloc _ _ none
  obtain ⟨W0, hW0⟩ : ∃ W0, w.alloc (.cells #[.int .i64 K, .bool t.flag, .int .i64 t.n, .string t.text, .slice ka KN kc, .slice ia A ic] 26) = W0 := ⟨_, rfl⟩
  have c0 := boxed w (.int .i64 K) (.bool t.flag) (.int .i64 t.n) (.string t.text) (.slice ka KN kc) (.slice ia A ic)
  rw [hW0] at c0 g0
  have HKV0 : Hid (KeptV B w ov acc W0 ov) := (KeptV.refl B w ov acc).none hB g0
  have HKp0 : Hid (Kept B w W0) := HKV0.out.1
  have HO0 : Hid (Out B W0 ov acc) := ho.none g0
  have hz0' := g0.size
  have HC0 := hid c0
  have HL : Hid (∀ u : World, Kept B W0 u → u.heap[w.heap.size]? = some (.cells #[.int .i64 K, .bool t.flag, .int .i64 t.n, .string t.text, .slice ka KN kc, .slice ia A ic] 26 (0, 0))) := fun u hu => hu.2 _ _ HC0.out (by simp) (fun c fz e => by injection e with _ e _; exact absurd e (by decide))
  obtain ⟨⟨x0, x1, x2, x3, x4, x5⟩, xf⟩ := cells6 c0
  have HV0 : Hid (RdT W0 (fun g => g < B) t (.agg #[.int .i64 t.kind, .bool t.flag, .int .i64 t.n, .string t.text, .slice ka t.keys.length kc, .slice ia t.items.length ic])) := hv.on HKp0.out.stays
  clear hv hit hkr hA hn hcn hc hf ho hG hlen c0 g0 hk6
  go_enter Tryz.func73, Tryz.ntmps73
  go_wp2_with fail
  go_loopw [0, 10] (fun bv iv wr => ∃ (i : Nat), iv = .int .i64 i ∧ i ≤ A ∧ Hid (KeptV B w ov acc wr bv) ∧ Hid (Kept B W0 wr) ∧ Hid (Out B wr bv (acc ++ sep ((pieces t).take i)))) (fun _ iv _ => A - (intOf iv).toNat)
  case atStart => exact ⟨0, rfl, Nat.zero_le _, HKV0, Kept.refl _ _, by rw [List.take_zero]; simp only [sep, List.append_nil]; exact HO0⟩
  case round =>
    obtain ⟨i, rfl, hi', HKV, HK, HOr⟩ := hrel
    by_cases hlt : i < A
    · have hd : decide ((i : Int) < (A : Int)) = true := decide_eq_true (by omega)
      have hitl : i < t.items.length := by have := HA.out; omega
      obtain ⟨g, o, rfl, hg, hF', hRd⟩ := HI.out (by omega)
      have hSt : Stays (fun g => g < B) w wr := (HKp0.out.trans HK.out).stays
      obtain ⟨a0, a1, a2, a3, b4, c4, d4, b5, c5, d5, z0, z1, z2, z3, z4, z5, hT⟩ := hRd.atS hSt hF' hg i hitl
      have HT := hid hT
      have hpl : i < (pieces t).length := by have := HPL.out; omega
      have hst := sep_take (pieces t) i hpl
      have HSt := hid hst
      have hci : cntT t.items[i] ≤ n := by have h1 := cntL_mem (List.getElem_mem hitl); have h2 := HCN.out; omega
      have HCi := hid hci
      obtain ⟨ab, hab⟩ := HC.out
      have HCk : Hid (∃ about, checkT t.items[i] about = 0) := hid ⟨ab, hab _ (List.getElem_mem hitl)⟩
      have HFi : Hid (Fits t.items[i]) := hid (FitsL_mem HF.out _ (List.getElem_mem hitl))
      have hgz : wr.grownBy (wr.alloc (.cells #[.int .i64 a0, .bool a1, .int .i64 a2, .string a3, .slice b4 c4 d4, .slice b5 c5 d5] 26)) none := galloc _ _ none
      have k1 := boxed wr (.int .i64 a0) (.bool a1) (.int .i64 a2) (.string a3) (.slice b4 c4 d4) (.slice b5 c5 d5)
      obtain ⟨W1, hW1⟩ : ∃ W1, wr.alloc (.cells #[.int .i64 a0, .bool a1, .int .i64 a2, .string a3, .slice b4 c4 d4, .slice b5 c5 d5] 26) = W1 := ⟨_, rfl⟩
      rw [hW1] at k1 hgz
      have hbr : B ≤ wr.heap.size := by have := HK.out.1.size; omega
      have hz1 := hgz.size
      have HKW : Hid (Kept B wr W1) := (Kept.refl B wr).none hbr hgz
      have HL1 : Hid (∀ u : World, Kept B W1 u → u.heap[wr.heap.size]? = some (.cells #[.int .i64 a0, .bool a1, .int .i64 a2, .string a3, .slice b4 c4 d4, .slice b5 c5 d5] 26 (0, 0))) := fun u hu => hu.2 _ _ k1 (by simp) (fun c fz e => by injection e with _ e _; exact absurd e (by decide))
      have HKV1 : Hid (KeptV B w ov acc W1 u0) := HKV.out.none hbr hgz
      have HO1 : Hid (Out B W1 u0 (acc ++ sep ((pieces t).take i))) := HOr.out.none hgz
      have HIH : Hid (∀ (wx : World) (vx : Value) (ax : List UInt8), Kept B W1 wx → Out B wx vx ax → ax ++ pr t.items[i] = acc ++ sep ((pieces t).take (i + 1)) → acc.length ≤ ax.length → Calls Tryz.prog 41 #[vx, .agg #[.int .i64 a0, .bool a1, .int .i64 a2, .string a3, .slice b4 c4 d4, .slice b5 c5 d5]] wx fun e w' => ∃ v', e = .returned v' ∧ Out B w' v' (acc ++ sep ((pieces t).take (i + 1))) ∧ KeptV B wx vx ax w' v') := by
        intro wx vx ax hkx hox hex hlx
        have hl := congrArg List.length hex
        simp only [List.length_append] at hl
        have h1 := HSt.out.2
        have h2 := HLen.out
        have := HAV.out HN.out t.items[i] HCi.out HCk.out HFi.out B wx vx ax _ hox (HT.out.on (HKW.out.trans hkx).stays) (by have := hkx.1.size; omega) h8 (HG.out.kept ((HKp0.out.trans HK.out).trans (HKW.out.trans hkx)) h8) (by omega)
        rw [hex] at this
        exact this
      have hKO : Kept B W0 W1 := HK.out.trans HKW.out
      have HKO := hid hKO
      have y := HL.out W1 hKO
      obtain ⟨⟨y0, y1, y2, y3, y4, y5⟩, yf⟩ := cells6 y
      obtain ⟨⟨q0, q1, q2, q3, q4, q5⟩, qf⟩ := cells6 k1
      clear hT hRd hSt hst hci hab hgz hKO y k1
      by_cases hk6 : K = 6
      · subst hk6
        by_cases h0 : i = 0
        · have hgt : decide ((0 : Int) < (i : Int)) = false := decide_eq_false (by omega)
          have hgn : ¬ (0 < i) := by omega
          have H0 := hid h0
          clear h0
          have hkl : i < t.keys.length := by have h1 := (HC6.out HKK.out).1; omega
          have HKG : Hid (good t.keys[i] = true) := hid ((HC6.out HKK.out).2 _ (List.getElem_mem hkl))
          obtain ⟨gk, ok, rfl, hgk, hFk, hck⟩ := HKR.out (by omega)
          have HZK : Hid (∀ u : World, Kept B W1 u → u.cell? ⟨gk, ok + i, none⟩ = some (.string t.keys[i])) := fun u hu => by
            have zk := hck i _ (List.getElem?_eq_getElem hkl)
            rw [← World.cell?_of_block (w := w) (a := ⟨gk, ok + i, none⟩) ((HKp0.out.trans (HKO.out.trans hu)).1.block gk hFk)] at zk
            exact zk
          have hKNi : (i : Int) < (KN : Int) := by have := HKN.out; omega
          clear hck
          have zk := HZK.out W1 (Kept.refl B W1)
          have HPi : Hid ((acc ++ sep ((pieces t).take i)) ++ quo t.keys[i].data.toList ++ [58] ++ pr t.items[i] = acc ++ sep ((pieces t).take (i + 1))) := by
            refine hid ?_
            have e : (pieces t)[i] = quo t.keys[i].data.toList ++ 58 :: pr t.items[i] := by
              have hp : pieces t = ents t.keys (t.items.map pr) := by unfold pieces; rw [if_pos HKK.out]
              simp only [hp, ents, List.getElem_zipWith, List.getElem_map]
            rw [HSt.out.1, e]
            have ht0 : (pieces t).take i = [] := by rw [H0.out]; rfl
            rw [if_pos H0.out, ht0]; simp [sep]
          have hlq : (acc ++ sep ((pieces t).take i)).length + 6 * t.keys[i].size + 2 ≤ 35184372088832 := by
            have h1 := congrArg List.length HPi.out
            have h2 := HSt.out.2
            have h3 := HLen.out
            have h4 := escL_ge t.keys[i].data.toList
            rw [Array.length_toList] at h4
            have h5 : t.keys[i].size ≤ (escL t.keys[i].data.toList).length := h4
            simp only [List.length_append, List.length_cons, List.length_nil, quo] at h1 ⊢
            omega
          have HLQ := hid hlq
          have HCK : Hid (Calls Tryz.prog 72 #[u0, .string t.keys[i]] W1 fun e w' => ∃ v', e = .returned v' ∧ Out B w' v' ((acc ++ sep ((pieces t).take i)) ++ quo t.keys[i].data.toList) ∧ KeptV B W1 u0 (acc ++ sep ((pieces t).take i)) w' v') := hid (appendText_any B W1 u0 (acc ++ sep ((pieces t).take i)) t.keys[i] HKG.out HO1.out hlq (show B ≤ W1.heap.size by omega))
          clear hlq
          go_wp2_with fail
          refine HCK.out.mono ?_
          rintro e w5 ⟨v5, rfl, hO5, hK5⟩
          have HO5 := hid hO5
          have HK5 := hid hK5.1
          have HKV5 := hid ((HKV1.out).trans hK5 (by first | exact List.prefix_append _ _ | (simp only [List.append_assoc]; exact List.prefix_append _ _)))
          have hOW5 : w5.ownsRow B 5 1 v5 (((acc ++ sep ((pieces t).take i))) ++ quo t.keys[i].data.toList).length (Lib.byteCells ((acc ++ sep ((pieces t).take i)) ++ quo t.keys[i].data.toList)) := hO5
          have HOW5 := hid hOW5
          obtain ⟨M5, HM5⟩ : ∃ M, Hid (((acc ++ sep ((pieces t).take i)) ++ quo t.keys[i].data.toList).length = M) := ⟨_, hid rfl⟩
          rw [HM5.out] at HOW5
          have hM5 : M5 + 1 ≤ 35184372088832 := by
            have h0 := HM5.out
            have h1 := congrArg List.length HPi.out
            have h2 := HSt.out.2
            have h3 := HLen.out
            simp only [List.length_append, List.length_cons, List.length_nil] at h1 h0
            omega
          have hmM5 : M5 + 1 ≤ maxLen := by unfold maxLen; omega
          have hB5 : B ≤ w5.heap.size := by have h1 := hK5.1.1.size; have h2 := (show B ≤ W1.heap.size by omega); omega
          clear hOW5 hO5 hK5
          go_wp2_with (
            at_builtin
            refine wpList_append_own _ rfl _ _ 84 rfl B 5 i0 (.int .u8 0) 1 1 Tryz.underlying84 hi hz0 hzz hz2 rfl (by decide) _ _ _ rfl (HOW5.out.alloc _) ⟨w5.heap.size, 0, none⟩ 1 1 [.int .u8 58] rfl rfl (by exact fun j u hu => newsN w5 _ _ j u hu) (by intro u hu; simp at hu; subst hu; rfl) hmM5 (by omega) (by simp; omega) ?_
            intro v6 w6 hown6 hg6 _
            have hO6 : Out B w6 v6 ((acc ++ sep ((pieces t).take i)) ++ quo t.keys[i].data.toList ++ [58]) := Out.more hown6 (by rw [HM5.out]; rfl) rfl
            have hKV6 : KeptV B w ov acc w6 v6 := (HKV5.out.none hB5 (galloc w5 _ none)).grown (HO5.out.none (galloc w5 _ none)) (by simp; omega) hg6 hO6 (by first | exact List.prefix_append _ _ | (simp only [List.append_assoc]; exact List.prefix_append _ _))
            have HKV6 := hid hKV6
            have hK6 : Kept B W1 w6 := ((Kept.refl B W1)).trans (HK5.out.trans (((Kept.refl B w5).none hB5 (galloc w5 _ none)).grown (HO5.out.none (galloc w5 _ none)) (by simp; omega) hg6))
            have HO6 := hid hO6
            have HK6 := hid hK6
            have q := HL1.out w6 hK6
            obtain ⟨⟨q0, q1, q2, q3, q4, q5⟩, qf⟩ := cells6 q
            clear hO6 hK6 hKV6 hown6 hg6 q)
          refine (HIH.out w6 v6 (acc ++ sep ((pieces t).take i) ++ quo t.keys[i].data.toList ++ [58]) HK6.out HO6.out HPi.out (by simp only [List.length_append]; omega)).mono ?_
          rintro e w9 ⟨v9, rfl, hO9, hK9⟩
          have HO9 := hid hO9
          have HK9 := hid ((HKO.out.trans HK6.out).trans hK9.1)
          have HKV9 := hid ((HKV6.out).trans hK9 (by first | exact List.prefix_append _ _ | (simp only [List.append_assoc]; exact List.prefix_append _ _)))
          clear hO9 hK9
          go_wp2_with fail
          exact ⟨⟨i + 1, rfl, by omega, HKV9, HK9, HO9⟩, by simp only [intOf]; omega⟩
        · have hgt : decide ((0 : Int) < (i : Int)) = true := decide_eq_true (by omega)
          have hgn : 0 < i := by omega
          have hkl : i < t.keys.length := by have h1 := (HC6.out HKK.out).1; omega
          have HKG : Hid (good t.keys[i] = true) := hid ((HC6.out HKK.out).2 _ (List.getElem_mem hkl))
          obtain ⟨gk, ok, rfl, hgk, hFk, hck⟩ := HKR.out (by omega)
          have HZK : Hid (∀ u : World, Kept B W1 u → u.cell? ⟨gk, ok + i, none⟩ = some (.string t.keys[i])) := fun u hu => by
            have zk := hck i _ (List.getElem?_eq_getElem hkl)
            rw [← World.cell?_of_block (w := w) (a := ⟨gk, ok + i, none⟩) ((HKp0.out.trans (HKO.out.trans hu)).1.block gk hFk)] at zk
            exact zk
          have hKNi : (i : Int) < (KN : Int) := by have := HKN.out; omega
          clear hck
          have hOW1 : W1.ownsRow B 5 1 u0 (acc ++ sep ((pieces t).take i)).length (Lib.byteCells (acc ++ sep ((pieces t).take i))) := HO1.out
          have HOW1 := hid hOW1
          obtain ⟨M, HM⟩ : ∃ M, Hid ((acc ++ sep ((pieces t).take i)).length = M) := ⟨_, hid rfl⟩
          rw [HM.out] at HOW1
          have hM : M + 1 ≤ 35184372088832 := by
            have h1 := HM.out
            have h2 := HSt.out.2
            have h3 := HLen.out
            have h4 := HSt.out.1
            rw [if_neg h0] at h4
            have h5 := congrArg List.length h4
            simp only [List.length_append, List.length_cons] at h1 h5
            omega
          have hmM : M + 1 ≤ maxLen := by unfold maxLen; omega
          have hB1 : B ≤ W1.heap.size := by omega
          clear hOW1
          go_wp2_with (
            at_builtin
            refine wpList_append_own _ rfl _ _ 84 rfl B 5 i0 (.int .u8 0) 1 1 Tryz.underlying84 hi hz0 hzz hz2 rfl (by decide) _ _ _ rfl (HOW1.out.alloc _) ⟨W1.heap.size, 0, none⟩ 1 1 [.int .u8 44] rfl rfl (by exact fun j u hu => newsN W1 _ _ j u hu) (by intro u hu; simp at hu; subst hu; rfl) hmM (by omega) (by simp; omega) ?_
            intro v2 w2 hown2 hg2 _
            have hO2 : Out B w2 v2 (acc ++ sep ((pieces t).take i) ++ [44]) := Out.more hown2 (by rw [HM.out]; rfl) rfl
            have hKV2 : KeptV B w ov acc w2 v2 := (HKV1.out.none hB1 (galloc W1 _ none)).grown (HO1.out.none (galloc W1 _ none)) (by simp; omega) hg2 hO2 (by first | exact List.prefix_append _ _ | (simp only [List.append_assoc]; exact List.prefix_append _ _))
            have HKV2 := hid hKV2
            have hK2 : Kept B W1 w2 := ((Kept.refl B W1).none hB1 (galloc W1 _ none)).grown (HO1.out.none (galloc W1 _ none)) (by simp; omega) hg2
            have HO2 := hid hO2
            have HK2 := hid hK2
            have q := HL1.out w2 hK2
            have y := HL.out w2 (HKO.out.trans hK2)
            have hz2' := hK2.1.size
            obtain ⟨⟨q0, q1, q2, q3, q4, q5⟩, qf⟩ := cells6 q
            obtain ⟨⟨y0, y1, y2, y3, y4, y5⟩, yf⟩ := cells6 y
            have zk := HZK.out w2 hK2
            clear hO2 hK2 hKV2 hown2 hg2 q y)
          have HPi : Hid ((acc ++ sep ((pieces t).take i) ++ [44]) ++ quo t.keys[i].data.toList ++ [58] ++ pr t.items[i] = acc ++ sep ((pieces t).take (i + 1))) := by
            refine hid ?_
            have e : (pieces t)[i] = quo t.keys[i].data.toList ++ 58 :: pr t.items[i] := by
              have hp : pieces t = ents t.keys (t.items.map pr) := by unfold pieces; rw [if_pos HKK.out]
              simp only [hp, ents, List.getElem_zipWith, List.getElem_map]
            rw [HSt.out.1, e]
            rw [if_neg h0]; simp
          have hlq : (acc ++ sep ((pieces t).take i) ++ [44]).length + 6 * t.keys[i].size + 2 ≤ 35184372088832 := by
            have h1 := congrArg List.length HPi.out
            have h2 := HSt.out.2
            have h3 := HLen.out
            have h4 := escL_ge t.keys[i].data.toList
            rw [Array.length_toList] at h4
            have h5 : t.keys[i].size ≤ (escL t.keys[i].data.toList).length := h4
            simp only [List.length_append, List.length_cons, List.length_nil, quo] at h1 ⊢
            omega
          have HLQ := hid hlq
          have HCK : Hid (Calls Tryz.prog 72 #[v2, .string t.keys[i]] w2 fun e w' => ∃ v', e = .returned v' ∧ Out B w' v' ((acc ++ sep ((pieces t).take i) ++ [44]) ++ quo t.keys[i].data.toList) ∧ KeptV B w2 v2 (acc ++ sep ((pieces t).take i) ++ [44]) w' v') := hid (appendText_any B w2 v2 (acc ++ sep ((pieces t).take i) ++ [44]) t.keys[i] HKG.out HO2.out hlq (show B ≤ w2.heap.size by omega))
          clear hlq
          refine HCK.out.mono ?_
          rintro e w5 ⟨v5, rfl, hO5, hK5⟩
          have HO5 := hid hO5
          have HK5 := hid hK5.1
          have HKV5 := hid ((HKV2.out).trans hK5 (by first | exact List.prefix_append _ _ | (simp only [List.append_assoc]; exact List.prefix_append _ _)))
          have hOW5 : w5.ownsRow B 5 1 v5 (((acc ++ sep ((pieces t).take i) ++ [44])) ++ quo t.keys[i].data.toList).length (Lib.byteCells ((acc ++ sep ((pieces t).take i) ++ [44]) ++ quo t.keys[i].data.toList)) := hO5
          have HOW5 := hid hOW5
          obtain ⟨M5, HM5⟩ : ∃ M, Hid (((acc ++ sep ((pieces t).take i) ++ [44]) ++ quo t.keys[i].data.toList).length = M) := ⟨_, hid rfl⟩
          rw [HM5.out] at HOW5
          have hM5 : M5 + 1 ≤ 35184372088832 := by
            have h0 := HM5.out
            have h1 := congrArg List.length HPi.out
            have h2 := HSt.out.2
            have h3 := HLen.out
            simp only [List.length_append, List.length_cons, List.length_nil] at h1 h0
            omega
          have hmM5 : M5 + 1 ≤ maxLen := by unfold maxLen; omega
          have hB5 : B ≤ w5.heap.size := by have h1 := hK5.1.1.size; have h2 := (show B ≤ w2.heap.size by omega); omega
          clear hOW5 hO5 hK5
          go_wp2_with (
            at_builtin
            refine wpList_append_own _ rfl _ _ 84 rfl B 5 i0 (.int .u8 0) 1 1 Tryz.underlying84 hi hz0 hzz hz2 rfl (by decide) _ _ _ rfl (HOW5.out.alloc _) ⟨w5.heap.size, 0, none⟩ 1 1 [.int .u8 58] rfl rfl (by exact fun j u hu => newsN w5 _ _ j u hu) (by intro u hu; simp at hu; subst hu; rfl) hmM5 (by omega) (by simp; omega) ?_
            intro v6 w6 hown6 hg6 _
            have hO6 : Out B w6 v6 ((acc ++ sep ((pieces t).take i) ++ [44]) ++ quo t.keys[i].data.toList ++ [58]) := Out.more hown6 (by rw [HM5.out]; rfl) rfl
            have hKV6 : KeptV B w ov acc w6 v6 := (HKV5.out.none hB5 (galloc w5 _ none)).grown (HO5.out.none (galloc w5 _ none)) (by simp; omega) hg6 hO6 (by first | exact List.prefix_append _ _ | (simp only [List.append_assoc]; exact List.prefix_append _ _))
            have HKV6 := hid hKV6
            have hK6 : Kept B W1 w6 := (HK2.out).trans (HK5.out.trans (((Kept.refl B w5).none hB5 (galloc w5 _ none)).grown (HO5.out.none (galloc w5 _ none)) (by simp; omega) hg6))
            have HO6 := hid hO6
            have HK6 := hid hK6
            have q := HL1.out w6 hK6
            obtain ⟨⟨q0, q1, q2, q3, q4, q5⟩, qf⟩ := cells6 q
            clear hO6 hK6 hKV6 hown6 hg6 q)
          refine (HIH.out w6 v6 (acc ++ sep ((pieces t).take i) ++ [44] ++ quo t.keys[i].data.toList ++ [58]) HK6.out HO6.out HPi.out (by simp only [List.length_append]; omega)).mono ?_
          rintro e w9 ⟨v9, rfl, hO9, hK9⟩
          have HO9 := hid hO9
          have HK9 := hid ((HKO.out.trans HK6.out).trans hK9.1)
          have HKV9 := hid ((HKV6.out).trans hK9 (by first | exact List.prefix_append _ _ | (simp only [List.append_assoc]; exact List.prefix_append _ _)))
          clear hO9 hK9
          go_wp2_with fail
          exact ⟨⟨i + 1, rfl, by omega, HKV9, HK9, HO9⟩, by simp only [intOf]; omega⟩
      · have hkb : (K == 6) = false := beq_eq_false_iff_ne.2 hk6
        by_cases h0 : i = 0
        · have hgt : decide ((0 : Int) < (i : Int)) = false := decide_eq_false (by omega)
          have hgn : ¬ (0 < i) := by omega
          have HPi : Hid ((acc ++ sep ((pieces t).take i)) ++ pr t.items[i] = acc ++ sep ((pieces t).take (i + 1))) := by
            refine hid ?_
            have e : (pieces t)[i] = pr t.items[i] := by
              have hp : pieces t = t.items.map pr := by unfold pieces; rw [if_neg (by rw [HKK.out]; exact hk6)]
              simp only [hp, List.getElem_map]
            rw [HSt.out.1, e]
            rw [if_pos h0]; simp [h0, sep]
          clear h0
          go_wp2_with fail
          refine (HIH.out W1 u0 (acc ++ sep ((pieces t).take i)) (Kept.refl B W1) HO1.out HPi.out (by simp only [List.length_append]; omega)).mono ?_
          rintro e w9 ⟨v9, rfl, hO9, hK9⟩
          have HO9 := hid hO9
          have HK9 := hid ((HKO.out.trans (Kept.refl B W1)).trans hK9.1)
          have HKV9 := hid ((HKV1.out).trans hK9 (by first | exact List.prefix_append _ _ | (simp only [List.append_assoc]; exact List.prefix_append _ _)))
          clear hO9 hK9
          go_wp2_with fail
          exact ⟨⟨i + 1, rfl, by omega, HKV9, HK9, HO9⟩, by simp only [intOf]; omega⟩
        · have hgt : decide ((0 : Int) < (i : Int)) = true := decide_eq_true (by omega)
          have hgn : 0 < i := by omega
          have HPi : Hid ((acc ++ sep ((pieces t).take i) ++ [44]) ++ pr t.items[i] = acc ++ sep ((pieces t).take (i + 1))) := by
            refine hid ?_
            have e : (pieces t)[i] = pr t.items[i] := by
              have hp : pieces t = t.items.map pr := by unfold pieces; rw [if_neg (by rw [HKK.out]; exact hk6)]
              simp only [hp, List.getElem_map]
            rw [HSt.out.1, e]
            rw [if_neg h0]; simp
          have hOW1 : W1.ownsRow B 5 1 u0 (acc ++ sep ((pieces t).take i)).length (Lib.byteCells (acc ++ sep ((pieces t).take i))) := HO1.out
          have HOW1 := hid hOW1
          obtain ⟨M, HM⟩ : ∃ M, Hid ((acc ++ sep ((pieces t).take i)).length = M) := ⟨_, hid rfl⟩
          rw [HM.out] at HOW1
          have hM : M + 1 ≤ 35184372088832 := by
            have h1 := HM.out
            have h2 := HSt.out.2
            have h3 := HLen.out
            have h4 := HSt.out.1
            rw [if_neg h0] at h4
            have h5 := congrArg List.length h4
            simp only [List.length_append, List.length_cons] at h1 h5
            omega
          have hmM : M + 1 ≤ maxLen := by unfold maxLen; omega
          have hB1 : B ≤ W1.heap.size := by omega
          clear hOW1
          go_wp2_with (
            at_builtin
            refine wpList_append_own _ rfl _ _ 84 rfl B 5 i0 (.int .u8 0) 1 1 Tryz.underlying84 hi hz0 hzz hz2 rfl (by decide) _ _ _ rfl (HOW1.out.alloc _) ⟨W1.heap.size, 0, none⟩ 1 1 [.int .u8 44] rfl rfl (by exact fun j u hu => newsN W1 _ _ j u hu) (by intro u hu; simp at hu; subst hu; rfl) hmM (by omega) (by simp; omega) ?_
            intro v2 w2 hown2 hg2 _
            have hO2 : Out B w2 v2 (acc ++ sep ((pieces t).take i) ++ [44]) := Out.more hown2 (by rw [HM.out]; rfl) rfl
            have hKV2 : KeptV B w ov acc w2 v2 := (HKV1.out.none hB1 (galloc W1 _ none)).grown (HO1.out.none (galloc W1 _ none)) (by simp; omega) hg2 hO2 (by first | exact List.prefix_append _ _ | (simp only [List.append_assoc]; exact List.prefix_append _ _))
            have HKV2 := hid hKV2
            have hK2 : Kept B W1 w2 := ((Kept.refl B W1).none hB1 (galloc W1 _ none)).grown (HO1.out.none (galloc W1 _ none)) (by simp; omega) hg2
            have HO2 := hid hO2
            have HK2 := hid hK2
            have q := HL1.out w2 hK2
            have y := HL.out w2 (HKO.out.trans hK2)
            have hz2' := hK2.1.size
            obtain ⟨⟨q0, q1, q2, q3, q4, q5⟩, qf⟩ := cells6 q
            obtain ⟨⟨y0, y1, y2, y3, y4, y5⟩, yf⟩ := cells6 y
            clear hO2 hK2 hKV2 hown2 hg2 q y)
          refine (HIH.out w2 v2 (acc ++ sep ((pieces t).take i) ++ [44]) HK2.out HO2.out HPi.out (by simp only [List.length_append]; omega)).mono ?_
          rintro e w9 ⟨v9, rfl, hO9, hK9⟩
          have HO9 := hid hO9
          have HK9 := hid ((HKO.out.trans HK2.out).trans hK9.1)
          have HKV9 := hid ((HKV2.out).trans hK9 (by first | exact List.prefix_append _ _ | (simp only [List.append_assoc]; exact List.prefix_append _ _)))
          clear hO9 hK9
          go_wp2_with fail
          exact ⟨⟨i + 1, rfl, by omega, HKV9, HK9, HO9⟩, by simp only [intOf]; omega⟩
    · have hd : decide ((i : Int) < (A : Int)) = false := decide_eq_false (by omega)
      go_wp2_with fail
      go_ret
      refine ⟨_, rfl, ?_, HKV.out⟩
      have := HOr.out
      rw [List.take_of_length_le (by have := HPL.out; omega)] at this
      exact this
end Go.Proofs.YtdmnhkgiojkphaaGreatDoor
