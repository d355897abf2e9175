/- Grow's law for drawn regions, where what is waited for comes by longer chains. -/
import Derived.Test.YtpbiofnncdneoaaGreatDoorX00
import Derived.Laws.IdiomRangeMap
import Derived.Shelf.LaysM
import Derived.Shelf.Strconv.Clone
import Derived.Lib.LazyBuf
namespace Go.Proofs.YtpbiofnncdneoaaGreatDoor
open Go Go.RowKit

section
variable {P : Program} {ops : Array Oper} {Q : Exit → Act → World → Prop} {Φ : Nat → Value → World → Prop} {a0 : Act} {w0 : World} {n : Nat} {row0 : Option Nat} {row : Nat → Option Nat}

def seqBX (ops : Array Oper) (n : Nat) : Bool := (List.range ops.size).all fun i => decide (i < n) || (List.range i).all fun k => below .any ops 9 i k
theorem seq_listedX {i k : Nat} {listed : Array Bool} (hq : seqBX ops n = true) (hc : Closed .any ops listed) (hi : i ∈ Region.ready .any ops listed) (hn : n ≤ i) (hk : k < i) : listed.getD k false = true := by
 obtain ⟨_, o, ho, hall⟩ := mem_ready.1 hi
 have h1 := List.all_eq_true.1 hq i (List.mem_range.2 (Array.getElem?_eq_some_iff.1 ho).1)
 have h2 : ((List.range i).all fun k => below .any ops 9 i k) = true := by
  rcases Bool.or_eq_true _ _ ▸ h1 with h | h
  ·have : i < n := by simpa using h
   omega
  ·exact h
 have h3 := List.all_eq_true.1 h2 k (List.mem_range.2 hk)
 refine below_listed hc 9 i k (fun o' ho' => ?_) h3
 rw [ho] at ho'
 injection ho' with ho'
 subst ho'
 exact hall
theorem seq_goX (hb : backB ops = true) (hq : seqBX ops n = true) : ∀ (r m : Nat), m + r = ops.size → n ≤ m → ∀ (fuel : Nat) (listed : Array Bool) (a : Act) (w : World), r ≤ fuel → listed.size = ops.size → Closed .any ops listed → (∀ k, k < m → listed.getD k false = true) → (∀ k, m ≤ k → listed.getD k false = false) →
  wpList P ops Q (ops.toList.drop m) a w → wpAny P .any ops Q fuel listed a w
 | 0, m, hm, _, fuel, listed, a, w, _, hls, _, hl, _, h => by
  have hr : Region.ready .any ops listed = [] := by
   apply List.eq_nil_iff_forall_not_mem.2
   intro j hj
   obtain ⟨hun, o, ho, _⟩ := mem_ready.1 hj
   have := (Array.getElem?_eq_some_iff.1 ho).1
   exact getD_two (hl j (by omega)) hun
  rw [List.drop_of_length_le (by simp; omega)] at h
  cases fuel with
  | zero => exact ⟨hr, h⟩
  | succ f => exact ⟨fun _ => h, fun j hj => by rw [hr] at hj; cases hj⟩
 | r + 1, m, hm, hn, fuel, listed, a, w, hf, hls, hc, hl, hu, h => by
  obtain ⟨f, rfl⟩ : ∃ f, fuel = f + 1 := ⟨fuel - 1, by omega⟩
  have hms : m < ops.size := by omega
  have ho : ops[m]? = some ops[m] := Array.getElem?_eq_getElem hms
  refine ⟨fun h0 => absurd h0 (first_unlisted hb hls m hms (hu m (Nat.le_refl _))), fun i hi => ?_⟩
  have hi' := mem_ready.1 hi
  obtain ⟨hun, o, hoi, _⟩ := hi'
  have his := (Array.getElem?_eq_some_iff.1 hoi).1
  have him : i = m := by
   rcases Nat.lt_trichotomy i m with h1 | h1 | h1
   ·exact (getD_two (hl i h1) hun).elim
   ·exact h1
   ·have := seq_listedX hq hc hi (by omega) h1
    rw [hu m (Nat.le_refl _)] at this
    cases this
  subst him
  have hd : ops.toList.drop i = ops[i] :: ops.toList.drop (i + 1) := by
   rw [List.drop_eq_getElem_cons (by simpa using hms)]
   simp
  rw [hd] at h
  have hnext : ∀ a' w', wpList P ops Q (ops.toList.drop (i + 1)) a' w' → wpAny P .any ops Q f (listed.setIfInBounds i true) a' w' := fun a' w' hw => by
   refine seq_goX hb hq r (i + 1) (by omega) (by omega) f _ a' w' (by omega) (by rw [set_size]; exact hls) (closed_set hc hi) (fun k hk => ?_) (fun k hk => ?_) hw
   ·by_cases e : k = i
    ·subst e
     rw [Array.getD_eq_getD_getElem?, Array.getElem?_setIfInBounds_self_of_lt (by omega)]
     rfl
    ·exact getD_set_true (hl k (by omega))
   ·rw [getD_set_ne false (by omega)]
    exact hu k (by omega)
  unfold wpList at h
  unfold wpOp
  rw [ho]
  simp only
  split
  ·rename_i hw
   rw [if_pos hw] at h
   exact h.imp (Oper.wp_mono hnext) id
  ·rename_i hw
   rw [if_neg hw] at h
   exact hnext _ _ h
theorem wpAny_eachX (hdst : dstB ops = true) (hlt : dltB ops a0.tmps.size = true) (hb : backB ops = true) (hq : seqBX ops n = true) (hns : n ≤ ops.size)
  (hone : ∀ i j, row i ≠ none → row j ≠ none → i = j) (hrow : ∀ i, row i = none ∨ row i = row0) (hst : ∀ i k v u u', k ≠ i → Φ k v u → u.grownBy u' (row i) → Φ k v u') (hstep : ∀ i o, ops[i]? = some o → i < n → Shown P ops Q Φ row0 row a0 w0 i o)
  (hlast : ∀ (A : Act) (u : World) (listed : Array Bool), Held ops Φ row0 row a0 w0 listed A u → (∀ k, k < n → listed.getD k false = true) → (∀ k, n ≤ k → listed.getD k false = false) → wpList P ops Q (ops.toList.drop n) A u) :
  ∀ (fuel : Nat) (listed : Array Bool) (a : Act) (w : World), listed.size = ops.size → (∀ k, n ≤ k → listed.getD k false = false) → Closed .any ops listed → Held ops Φ row0 row a0 w0 listed a w → left n listed + (ops.size - n) ≤ fuel → wpAny P .any ops Q fuel listed a w := by
 intro fuel
 induction fuel with
 | zero =>
  intro listed a w hls hn hc hh hf
  have hall : ∀ k, k < n → listed.getD k false = true := fun k hk => by
   cases h : listed.getD k false with
   | true => rfl
   | false =>
    have : 0 < left n listed := List.countP_pos_iff.2 ⟨k, List.mem_range.2 hk, by simp only [h]; rfl⟩
    omega
  exact seq_goX hb hq (ops.size - n) n (by omega) (Nat.le_refl _) 0 listed a w (by omega) hls hc hall hn (hlast a w listed hh hall hn)
 | succ fuel ih =>
  intro listed a w hls hn hc hh hf
  by_cases hex : ∃ k, k < n ∧ listed.getD k false = false
  ·obtain ⟨k0, hk0, hk0l⟩ := hex
   refine ⟨fun h0 => absurd h0 (first_unlisted hb hls k0 (by omega) hk0l), fun i hi => ?_⟩
   obtain ⟨hun, o, ho, hall⟩ := mem_ready.1 hi
   have his : i < ops.size := (Array.getElem?_eq_some_iff.1 ho).1
   have hin : i < n := by
    rcases Nat.lt_or_ge i n with h | h
    ·exact h
    ·have := seq_listedX hq hc hi h (by omega : k0 < i)
     rw [hk0l] at this
     cases this
   have hiu0 : listed.getD i false = false := by
    rw [Array.getD_eq_getD_getElem?, Array.getElem?_eq_getElem (by omega)] at hun ⊢
    simpa using hun
   have hs := hstep i o ho hin a w hh.grown (fun hri => hh.pure_ (fun k hk => by rw [hone k i hk hri]; exact hiu0)) hh.sz hh.out (fun e' he' hbi o' d' ho' hd' => hh.got _ _ _ ho' hd' (hall e' he' hbi))
   have hnext : ∀ (v : Value) (u' : World), (∀ k v, k ≠ i → Φ k v w → Φ k v u') → w0.grownBy u' row0 → (row i = none → w.grownBy u' none) → Φ i v u' → wpAny P .any ops Q fuel (listed.setIfInBounds i true) (a.put o.dst v) u' := fun v u' hkp hg hpu hv => by
    refine ih _ _ _ (by rw [set_size]; exact hls) (fun k hk => ?_) (closed_set hc hi) ⟨?_, ?_, ?_, fun s hs' => ?_, fun k o' d hk hd hl => ?_, fun k hl => ?_, fun hall0 => ?_⟩ ?_
    ·rw [getD_set_ne false (by omega)]; exact hn k hk
    ·exact hg
    ·rw [← hh.sz]
     cases hd : o.dst with
     | none => rfl
     | some d => rw [ev_size]
    ·rw [← hh.defers]
     cases hd : o.dst with
     | none => rfl
     | some d => rfl
    ·rw [← hh.out s hs']
     cases hd : o.dst with
     | none => rfl
     | some d => exact ev_ne a d s v (fun e' => noDst_ne hs' ho (by rw [hd, e']))
    ·by_cases hki : k = i
     ·subst hki
      rw [ho] at hk
      injection hk with hk
      subst hk
      rw [hd, ev_same a d v (by rw [hh.sz]; exact dst_lt hlt ho hd)]
      exact hv
     ·have hl' : listed.getD k false = true := (getD_set_iff hl).resolve_left hki
      have hold := hkp _ _ hki (hh.got k o' d hk hd hl')
      cases hdo : o.dst with
      | none => exact hold
      | some di =>
       rw [ev_ne a di d v (dst_ne hdst ho hk hdo hd (fun e' => hki e'.symm))]
       exact hold
    ·by_cases hki : k = i
     ·subst hki; exact ⟨v, hv⟩
     ·obtain ⟨v', hv'⟩ := hh.stored k ((getD_set_iff hl).resolve_left hki)
      exact ⟨v', hkp _ _ hki hv'⟩
    ·have hri : row i = none := by
      cases hr : row i with
      | none => rfl
      | some x =>
       have := hall0 i (by rw [hr]; simp)
       rw [Array.getD_eq_getD_getElem?, Array.getElem?_setIfInBounds_self_of_lt (by omega)] at this
       cases this
     have h1 := hh.pure_ (fun k hk => by
      have := hall0 k hk
      by_cases hki : k = i
      ·rw [hki, hri] at hk; exact absurd rfl hk
      ·rw [getD_set_ne false (fun e => hki e.symm)] at this; exact this)
     have h2 := hpu hri
     exact ⟨h2.os.trans h1.os, h2.tape.trans h1.tape, h2.output.trans h1.output, Nat.le_trans h1.size h2.size, fun j hj hr => (h2.block j (Nat.lt_of_lt_of_le hj h1.size) hr).trans (h1.block j hj hr)⟩
    ·have hiu : listed.getD i false = false := by
      rw [Array.getD_eq_getD_getElem?, Array.getElem?_eq_getElem (by omega)] at hun ⊢
      simpa using hun
     have : left n (listed.setIfInBounds i true) < left n listed := by
      refine countP_less _ (fun x _ hx => ?_) i (List.mem_range.2 hin) (by simp only [hiu]; rfl) ?_
      ·cases hxl : listed.getD x false with
       | false => rfl
       | true => rw [getD_set_true hxl] at hx; exact hx
      ·rw [Array.getD_eq_getD_getElem?, Array.getElem?_setIfInBounds_self_of_lt (by omega)]
       rfl
     omega
   unfold wpOp
   simp only [ho]
   split
   ·rename_i hw
    rw [if_pos hw] at hs
    refine .inl (Oper.wp_mono (fun a' w' hq => ?_) hs)
    obtain ⟨v, rfl, hg, hv⟩ := hq
    refine hnext v w' (fun k v' hk h => hst i k v' _ _ hk h hg) ?_ (fun hr => by rw [hr] at hg; exact hg) hv
    have h1 := hh.grown
    refine ⟨hg.os.trans h1.os, hg.tape.trans h1.tape, hg.output.trans h1.output, Nat.le_trans h1.size hg.size, fun j hj hr => (hg.block j (Nat.lt_of_lt_of_le hj h1.size) ?_).trans (h1.block j hj hr)⟩
    rcases hrow i with e | e
    ·rw [e]; simp
    ·rw [e]; exact hr
   ·rename_i hw
    rw [if_neg hw] at hs
    exact hnext undef w (fun _ _ _ h => h) hh.grown (fun _ => ⟨rfl, rfl, rfl, Nat.le_refl _, fun _ _ _ => rfl⟩) hs
  ·have hall : ∀ k, k < n → listed.getD k false = true := fun k hk => by
    cases h : listed.getD k false with
    | true => rfl
    | false => exact absurd ⟨k, hk, h⟩ hex
   exact seq_goX hb hq (ops.size - n) n (by omega) (Nat.le_refl _) _ listed a w (by omega) hls hc hall hn (hlast a w listed hh hall hn)
theorem wp_region_eachX {id : Nat} {a : Act} {w : World} (hm : P.follows .mixedOrders = true) (Φ : Nat → Value → World → Prop) (row0 : Option Nat) (row : Nat → Option Nat) (n : Nat) (hdst : dstB ops = true) (hlt : dltB ops a.tmps.size = true) (hb : backB ops = true) (hq : seqBX ops n = true) (hns : n ≤ ops.size)
  (hone : ∀ i j, row i ≠ none → row j ≠ none → i = j) (hrow : ∀ i, row i = none ∨ row i = row0) (hst : ∀ i k v u u', k ≠ i → Φ k v u → u.grownBy u' (row i) → Φ k v u') (hstep : ∀ i o, ops[i]? = some o → i < n → Shown P ops Q Φ row0 row a w i o)
  (hlast : ∀ (A : Act) (u : World) (listed : Array Bool), Held ops Φ row0 row a w listed A u → (∀ k, k < n → listed.getD k false = true) → (∀ k, n ≤ k → listed.getD k false = false) → wpList P ops Q (ops.toList.drop n) A u) : (Code.region id ops true).wp P Q a w := by
 have hr : ∀ k, (Array.replicate ops.size false).getD k false = false := fun k => by
  rw [Array.getD_eq_getD_getElem?, Array.getElem?_replicate]; split <;> rfl
 refine wp_region_any hm (wpAny_eachX hdst hlt hb hq hns hone hrow hst hstep hlast _ _ _ _ (by simp) (fun k _ => hr k) (closed_none _) ⟨⟨rfl, rfl, rfl, Nat.le_refl _, fun _ _ _ => rfl⟩, rfl, rfl, fun _ _ => rfl, fun k o d _ _ hl => ?_, fun k hl => ?_, fun _ => ⟨rfl, rfl, rfl, Nat.le_refl _, fun _ _ _ => rfl⟩⟩ ?_)
 ·rw [hr k] at hl; cases hl
 ·rw [hr k] at hl; cases hl
 ·have : left n (Array.replicate ops.size false) ≤ n := Nat.le_trans List.countP_le_length (by simp)
  omega
theorem wp_region_listX {id : Nat} {a : Act} {w : World} (hm : P.follows .mixedOrders = true) (Φs : List (Value → World → Prop)) (row0 : Option Nat) (row : Nat → Option Nat) (n : Nat) (hdst : dstB ops = true) (hlt : dltB ops a.tmps.size = true) (hb : backB ops = true) (hq : seqBX ops n = true) (hns : n ≤ ops.size)
  (hone : ∀ i j, row i ≠ none → row j ≠ none → i = j) (hrow : ∀ i, row i = none ∨ row i = row0)
  (hst : AllIdx (fun k p => ∀ i v u u', k ≠ i → p v u → u.grownBy u' (row i) → p v u') 0 Φs)
  (hstep : AllIdx (Shown P ops Q (fun k => Φs.getD k (fun _ _ => True)) row0 row a w) 0 (ops.toList.take n))
  (hlast : ∀ (A : Act) (u : World) (listed : Array Bool), Held ops (fun k => Φs.getD k (fun _ _ => True)) row0 row a w listed A u → (∀ k, k < n → listed.getD k false = true) → wpList P ops Q (ops.toList.drop n) A u) : (Code.region id ops true).wp P Q a w := by
 refine wp_region_eachX hm (fun k => Φs.getD k (fun _ _ => True)) row0 row n hdst hlt hb hq hns hone hrow (fun i k v u u' hki h hg => ?_) (fun i o ho hin => ?_) (fun A u listed hh hall _ => hlast A u listed hh hall)
 ·cases hk : Φs[k]? with
  | none =>
   show (Φs.getD k (fun _ _ => True)) v u'
   rw [List.getD_eq_getElem?_getD, hk]
   trivial
  | some p =>
   have := hst.get k p hk
   rw [Nat.zero_add] at this
   have h' : p v u := by
    have h2 : (Φs.getD k (fun _ _ => True)) v u := h
    rw [List.getD_eq_getElem?_getD, hk] at h2
    exact h2
   show (Φs.getD k (fun _ _ => True)) v u'
   rw [List.getD_eq_getElem?_getD, hk]
   exact this i v u u' hki h' hg
 ·have := hstep.get i o (by rw [List.getElem?_take, if_pos hin, Array.getElem?_toList]; exact ho)
  rw [Nat.zero_add] at this
  exact this
end
end Go.Proofs.YtpbiofnncdneoaaGreatDoor

namespace Go.Proofs.YtpbiofnncdneoaaGreatDoor
open Go Go.RowKit Go.MapKept
open Go.RowKit (wrap32 wrap64)

/-- A file as the map has it: its name, the slice, the bytes. -/
structure Fl where
 nm : ByteArray
 v : Value
 bs : List UInt8
def entF (f : Fl) : Value × Value := (.string f.nm, f.v)
def kv (e : MapEntry) : Value × Value := (e.key, e.val)
/-- Block m is a map of these files. -/
def MapAt (w : World) (m : Nat) (F : List Fl) : Prop := ∃ es clock, w.heap[m]? = some (.map es clock) ∧ Stamped es clock ∧ es.toList.map kv = F.map entF
/-- Where a file stands. -/
def fpos : List Fl → ByteArray → Nat → Option (Nat × Fl)
 | [], _, _ => none
 | f :: F, k, i => if f.nm = k then some (i, f) else fpos F k (i + 1)
def getF (F : List Fl) (k : ByteArray) : Option Fl := (fpos F k 0).map (·.2)
def setF : List Fl → ByteArray → Value → List UInt8 → List Fl
 | [], k, v, b => [⟨k, v, b⟩]
 | f :: F, k, v, b => if f.nm = k then ⟨k, v, b⟩ :: F else f :: setF F k v b
def delF : List Fl → ByteArray → List Fl
 | [], _ => []
 | f :: F, k => if f.nm = k then F else f :: delF F k
theorem fpos_none : ∀ (F : List Fl) (k : ByteArray) (i : Nat), fpos F k i = none → (∀ f ∈ F, f.nm ≠ k) ∧ delF F k = F ∧ ∀ v b, setF F k v b = F ++ [⟨k, v, b⟩]
 | [], k, i, _ => ⟨(fun f hf => by cases hf), rfl, fun v b => rfl⟩
 | f :: F, k, i, h => by
  unfold fpos at h
  by_cases e : f.nm = k
  ·rw [if_pos e] at h; cases h
  ·rw [if_neg e] at h
   obtain ⟨h1, h2, h3⟩ := fpos_none F k (i + 1) h
   refine ⟨fun g hg => ?_, ?_, fun v b => ?_⟩
   ·rcases List.mem_cons.1 hg with rfl | hg
    ·exact e
    ·exact h1 g hg
   ·unfold delF; rw [if_neg e, h2]
   ·unfold setF; rw [if_neg e, h3]; rfl
theorem fpos_some : ∀ (F : List Fl) (k : ByteArray) (i j : Nat) (f : Fl), fpos F k i = some (j, f) → ∃ n, j = i + n ∧ F[n]? = some f ∧ f.nm = k ∧ delF F k = F.eraseIdx n ∧ ∀ v b, setF F k v b = F.set n ⟨k, v, b⟩
 | [], k, i, j, f, h => by cases h
 | g :: F, k, i, j, f, h => by
  unfold fpos at h
  by_cases e : g.nm = k
  ·rw [if_pos e] at h
   injection h with h
   injection h with h1 h2
   subst h1 h2
   exact ⟨0, rfl, rfl, e, by unfold delF; rw [if_pos e]; rfl, fun v b => by unfold setF; rw [if_pos e]; rfl⟩
  ·rw [if_neg e] at h
   obtain ⟨n, h1, h2, h3, h4, h5⟩ := fpos_some F k (i + 1) j f h
   exact ⟨n + 1, by omega, h2, h3, by unfold delF; rw [if_neg e, h4]; rfl, fun v b => by unfold setF; rw [if_neg e, h5]; rfl⟩
theorem beq_ba (a b : ByteArray) : (a == b) = decide (a = b) := by
 by_cases h : a = b
 ·rw [(bytes_beq a b).2 h, decide_eq_true h]
 ·rw [decide_eq_false h]
  cases hc : a == b with
  | false => rfl
  | true => exact absurd ((bytes_beq a b).1 hc) h
theorem findNow_F (k : ByteArray) : ∀ (l : List MapEntry) (F : List Fl) (i : Nat), l.map kv = F.map entF → Instr.findNow .string (.string k) l i = some ((fpos F k i).map (fun p => (p.1, p.2.v)))
 | [], [], i, _ => rfl
 | [], _ :: _, i, h => by cases h
 | _ :: _, [], i, h => by cases h
 | e :: l, f :: F, i, h => by
  simp only [List.map_cons, List.cons.injEq] at h
  obtain ⟨h1, h2⟩ := h
  have hk : e.key = .string f.nm := congrArg Prod.fst h1
  have hv : e.val = f.v := congrArg Prod.snd h1
  unfold Instr.findNow fpos
  rw [hk]
  simp only [Instr.sameNow, beq_ba]
  by_cases c : f.nm = k
  ·have c' : k = f.nm := c.symm
   rw [decide_eq_true c', if_pos c]
   simp [hv]
  ·have c' : ¬ k = f.nm := fun e => c e.symm
   rw [decide_eq_false c', if_neg c]
   exact findNow_F k l F (i + 1) h2
variable {w : World} {m : Nat} {F : List Fl}
theorem kstr (k : ByteArray) : IsKey .string (.string k) := trivial
theorem run_find {es : Array MapEntry} (k : ByteArray) (h : es.toList.map kv = F.map entF) (u : World) : (Instr.findKey 9 (.string k) es.toList).run Tryz.prog u = .ok ((fpos F k 0).map (fun p => (p.1, p.2.v))) u :=
 run_findKey Tryz.underlying9 (findNow_F k es.toList F 0 h)
/-- What a look-up tells: the slice, whether it is there. -/
def lookV (F : List Fl) (k : ByteArray) : Value := match getF F k with | some f => f.v | none => .slice none 0 0
def hasF (F : List Fl) (k : ByteArray) : Bool := (getF F k).isSome
theorem run_look2 (h : MapAt w m F) (k : ByteArray) : (Instr.lookup 80 (.map (some m)) (.string k) true).run Tryz.prog w = .ok (.tuple #[lookV F k, .bool (hasF F k)]) w := by
 obtain ⟨es, clock, hb, _, hF⟩ := h
 have hfk := run_find k hF w
 unfold lookV hasF getF
 simp only [Instr.lookup, Sem.run_bind, run_underlying Tryz.underlying80, Result.andThen, MapKept.run_getObj_map hb, run_checkKey Tryz.underlying9 (kstr k)]
 cases hp : fpos F k 0 with
 | none =>
  rw [hp] at hfk
  simp [hfk, Tryz.zeroValue74]
 | some p =>
  rw [hp] at hfk
  simp [hfk]
theorem run_look1 (h : MapAt w m F) (k : ByteArray) : (Instr.lookup 80 (.map (some m)) (.string k) false).run Tryz.prog w = .ok (lookV F k) w := by
 obtain ⟨es, clock, hb, _, hF⟩ := h
 have hfk := run_find k hF w
 unfold lookV getF
 simp only [Instr.lookup, Sem.run_bind, run_underlying Tryz.underlying80, Result.andThen, MapKept.run_getObj_map hb, run_checkKey Tryz.underlying9 (kstr k)]
 cases hp : fpos F k 0 with
 | none =>
  rw [hp] at hfk
  simp [hfk, Tryz.zeroValue74]
 | some p =>
  rw [hp] at hfk
  simp [hfk]
/-- One object laid in the place of another. -/
def World.put (w : World) (m : Nat) (o : Obj) : World := { w with heap := w.heap.setIfInBounds m o }
theorem put_grown (w : World) (m : Nat) (o : Obj) : w.grownBy (World.put w m o) (some m) := ⟨rfl, rfl, rfl, by simp [World.put], fun k hk hne => by
 have : m ≠ k := fun e => hne (by rw [e])
 simp [World.put, this]⟩
theorem put_at {o o' : Obj} (h : w.heap[m]? = some o) : (World.put w m o').heap[m]? = some o' := by
 have := (Array.getElem?_eq_some_iff.1 h).1
 simp [World.put, this]
theorem map_erase {α β : Type} (f : α → β) : ∀ (l : List α) (n : Nat), (l.eraseIdx n).map f = (l.map f).eraseIdx n
 | [], n => by simp
 | a :: l, 0 => rfl
 | a :: l, n + 1 => by simp [map_erase f l n]
theorem map_modify {l : List MapEntry} {n : Nat} {k v : Value} : (l.modify n (fun e => { e with key := k, val := v })).map kv = (l.map kv).set n (k, v) := by
 induction l generalizing n with
 | nil => simp
 | cons e l ih =>
  cases n with
  | zero => simp [kv]
  | succ n => simp [ih]
set_option maxRecDepth 100000 in
theorem run_update (h : MapAt w m F) (k : ByteArray) (v : Value) (bs : List UInt8) : ∃ o, (Instr.mapUpdate 80 (.map (some m)) (.string k) v).run Tryz.prog w = .ok () (World.put w m o) ∧ MapAt (World.put w m o) m (setF F k v bs) := by
 obtain ⟨es, clock, hb, hst, hF⟩ := h
 have hfk := run_find k hF w
 cases hp : fpos F k 0 with
 | none =>
  rw [hp] at hfk
  obtain ⟨h1, h2, h3⟩ := fpos_none F k 0 hp
  refine ⟨.map (es.push { key := .string k, val := v, born := clock }) (clock + 1), ?_, es.push { key := .string k, val := v, born := clock }, clock + 1, put_at hb, stamped_push hst (fun x hx e => ?_), ?_⟩
  ·simp only [Instr.mapUpdate, Sem.run_bind, run_underlying Tryz.underlying80, Result.andThen, MapKept.run_getObj_map hb, run_checkKey Tryz.underlying9 (kstr k), hfk, Option.map_none]
   rw [run_setObj_map _ hb]
   rfl
  ·have hm : kv x ∈ F.map entF := by rw [← hF]; exact List.mem_map.2 ⟨x, hx, rfl⟩
   obtain ⟨f, hf, he⟩ := List.mem_map.1 hm
   have : Value.string f.nm = x.key := congrArg Prod.fst he
   rw [e] at this
   injection this with this
   exact h1 f hf this
  ·rw [h3, Array.toList_push, List.map_append, hF, List.map_append]
   rfl
 | some p =>
  rw [hp] at hfk
  obtain ⟨j, f⟩ := p
  obtain ⟨n, h1, h2, h3, h4, h5⟩ := fpos_some F k 0 j f hp
  have hj : j = n := by omega
  subst hj
  have hen : (es.toList.map kv)[j]? = some (entF f) := by rw [hF, List.getElem?_map, h2]; rfl
  rw [List.getElem?_map] at hen
  obtain ⟨e, he, hek⟩ := Option.map_eq_some_iff.1 hen
  have hk : e.key = .string k := by have := congrArg Prod.fst hek; rw [show (entF f).1 = .string f.nm from rfl, h3] at this; exact this
  have he' : es[j]? = some e := by rw [← Array.getElem?_toList]; exact he
  refine ⟨.map (es.modify j fun e => { e with key := .string k, val := v }) clock, ?_, es.modify j fun e => { e with key := .string k, val := v }, clock, put_at hb, stamped_modify hst j _ (fun _ _ => rfl) (fun x _ hx => ?_), ?_⟩
  ·simp only [Instr.mapUpdate, Sem.run_bind, run_underlying Tryz.underlying80, Result.andThen, MapKept.run_getObj_map hb, run_checkKey Tryz.underlying9 (kstr k), hfk, Option.map_some, he', hk, Option.getD_some]
   have hs : (Instr.keyThatStays (.string k) (.string k)).run Tryz.prog w = .ok (.string k) w := by
    unfold Instr.keyThatStays
    have : Instr.sameBits 10000 (.string k) (.string k) = true := by
     unfold Instr.sameBits
     exact (bytes_beq k k).2 rfl
    rw [if_pos this]
    rfl
   rw [hs]
   simp only []
   rw [run_setObj_map _ hb]
   rfl
  ·have hx' : x = e := Option.some.inj (hx.symm.trans he')
   show Value.string k = x.key
   rw [hx']
   exact hk.symm
  ·rw [h5, Array.toList_modify, map_modify, hF, List.map_set]
   rfl
theorem run_delete (h : MapAt w m F) (k : ByteArray) (ty : TypeId) : ∃ o, (Builtin.delete_ #[80, 9] ty #[.map (some m), .string k]).run Tryz.prog w = .ok (.tuple #[]) (World.put w m o) ∧ MapAt (World.put w m o) m (delF F k) := by
 obtain ⟨es, clock, hb, hst, hF⟩ := h
 have hfk := run_find k hF w
 cases hp : fpos F k 0 with
 | none =>
  rw [hp] at hfk
  obtain ⟨h1, h2, h3⟩ := fpos_none F k 0 hp
  refine ⟨.map es clock, ?_, es, clock, put_at hb, hst, by rw [h2]; exact hF⟩
  simp only [Builtin.delete_, List.getElem?_toArray, List.getElem?_cons_zero, List.getElem?_cons_succ, Sem.run_bind, run_underlying Tryz.underlying80, Result.andThen, MapKept.run_getObj_map hb, run_checkKey Tryz.underlying9 (kstr k), hfk, Option.map_none]
  rw [run_setObj_map _ hb]
  rfl
 | some p =>
  rw [hp] at hfk
  obtain ⟨j, f⟩ := p
  obtain ⟨n, h1, h2, h3, h4, h5⟩ := fpos_some F k 0 j f hp
  have hj : j = n := by omega
  subst hj
  refine ⟨.map (es.eraseIdxIfInBounds j) clock, ?_, es.eraseIdxIfInBounds j, clock, put_at hb, stamped_erase hst j, ?_⟩
  ·simp only [Builtin.delete_, List.getElem?_toArray, List.getElem?_cons_zero, List.getElem?_cons_succ, Sem.run_bind, run_underlying Tryz.underlying80, Result.andThen, MapKept.run_getObj_map hb, run_checkKey Tryz.underlying9 (kstr k), hfk, Option.map_some]
   rw [run_setObj_map _ hb]
   rfl
  ·have hlt : j < F.length := (List.getElem?_eq_some_iff.1 h2).1
   have hlen : es.toList.length = F.length := by have := congrArg List.length hF; simpa using this
   have hsz : j < es.size := by rw [← Array.length_toList]; omega
   rw [h4]
   unfold Array.eraseIdxIfInBounds
   rw [dif_pos hsz, Array.toList_eraseIdx, map_erase, hF, ← map_erase]
theorem run_lenM (h : MapAt w m F) (ty : TypeId) : (Builtin.len_ #[80] ty #[.map (some m)]).run Tryz.prog w = .ok (.int .i64 (F.length : Nat)) w := by
 obtain ⟨es, clock, hb, hst, hF⟩ := h
 have hlen : es.size = F.length := by have := congrArg List.length hF; simpa using this
 simp [Builtin.len_, run_underlying Tryz.underlying80, Result.andThen, MapKept.run_getObj_map hb, hlen, goInt]
theorem MapAt.on {w' : World} {row : Option Nat} (h : MapAt w m F) (hg : w.grownBy w' row) (hr : row ≠ some m) : MapAt w' m F := by
 obtain ⟨es, clock, hb, hst, hF⟩ := h
 exact ⟨es, clock, heap_at hg hr hb, hst, hF⟩
theorem MapAt.keep {w' : World} (h : MapAt w m F) (hg : w.grownBy w' none) : MapAt w' m F := h.on hg (by simp)
theorem MapAt.lt (h : MapAt w m F) : m < w.heap.size := by obtain ⟨es, clock, hb, _⟩ := h; exact (Array.getElem?_eq_some_iff.1 hb).1
theorem MapAt.ne {b : Nat} {cs : List Value} {t : TypeId} (h : MapAt w m F) (hb : Blk w b cs t) : m ≠ b := fun e => by
 obtain ⟨es, clock, hm, _⟩ := h
 subst e
 unfold Blk at hb
 rw [hm] at hb
 cases hb
theorem MapAt.own {v : Value} {B n q e : Nat} {xs : List Value} (h : MapAt w m F) (ho : w.ownsRow B e q v n xs) : v.ownBlock ≠ some m := fun hk => by
 obtain ⟨es, clock, hm, _⟩ := h
 rcases ho.2 with ⟨rfl, _⟩ | ⟨g, cap, cur, rfl, hB, hg, _⟩
 ·cases hk
 ·injection hk with hk
  have hk' : g = m := hk
  subst hk'
  rw [hm] at hg
  cases hg
theorem MapAt.nodup (h : MapAt w m F) : (F.map (·.nm)).Nodup := by
 obtain ⟨es, clock, hm, hst, hF⟩ := h
 have h1 : es.toList.map (·.key) = F.map (fun f => Value.string f.nm) := by
  have := congrArg (List.map Prod.fst) hF
  rw [List.map_map, List.map_map] at this
  exact this
 have h2 := hst.2.2
 rw [h1, show F.map (fun f => Value.string f.nm) = (F.map (·.nm)).map Value.string by rw [List.map_map]; rfl] at h2
 exact List.Pairwise.of_map Value.string (fun a b h e => h (by rw [e])) h2
end Go.Proofs.YtpbiofnncdneoaaGreatDoor

namespace Go.Proofs.YtpbiofnncdneoaaGreatDoor
open Go.Shelf
def Tryz.laysM316_ren : Go.Shelf.Ren := ⟨fun | 316 => 104 | n => n, fun | 9 => 9 | 3 => 3 | 4 => 4 | 37 => 74 | 0 => 0 | 127 => 253 | 5 => 5 | n => n, fun | n => n⟩
theorem Tryz.laysM316 : Go.Proofs.LaysM.n316 Tryz.prog Tryz.laysM316_ren := {
 mixed := by kernel_rfl
 f316 := Tryz.func104.trans (congrArg some (by kernel_rfl))
 t0 := Tryz.underlying0
 a0 := Tryz.isAgg0
 z0 := Tryz.sizeOf0
 v0 := Tryz.zeroValue0
 t3 := Tryz.underlying3
 a3 := Tryz.isAgg3
 z3 := Tryz.sizeOf3
 v3 := Tryz.zeroValue3
 t4 := Tryz.underlying4
 a4 := Tryz.isAgg4
 z4 := Tryz.sizeOf4
 v4 := Tryz.zeroValue4
 t9 := Tryz.underlying9
 a9 := Tryz.isAgg9
 z9 := Tryz.sizeOf9
 v9 := Tryz.zeroValue9
 t37 := Tryz.underlying74
 a37 := Tryz.isAgg74
 z37 := Tryz.sizeOf74
 v37 := Tryz.zeroValue74
 t127 := Tryz.underlying253
 a127 := Tryz.isAgg253
 z127 := Tryz.sizeOf253
 v127 := Tryz.zeroValue253
 t5 := Tryz.underlying5
 a5 := Tryz.isAgg5
 z5 := Tryz.sizeOf5
 v5 := Tryz.zeroValue5
 i0 := by kernel_rfl
 i3 := by kernel_rfl
 i4 := by kernel_rfl
 i5 := by kernel_rfl
 i9 := by kernel_rfl
 i37 := by kernel_rfl
 i127 := by kernel_rfl }
open Go.RowKit in
theorem Tryz.stringslite_Clone (s : ByteArray) (w : World) (hlim : s.size ≤ 281474976710656) :
  Calls Tryz.prog 104 #[.string s] w fun e w' => e = .returned (.string s) ∧ Below w.heap.size w w' := Any.stringslite_Clone Tryz.laysM316 s w hlim
open Go Go.RowKit
/-- strings.Clone: the same text. -/
theorem clone_any (s : ByteArray) (w : World) (hlim : s.size ≤ 281474976710656) : Calls Tryz.prog 49 #[.string s] w fun e w' => e = .returned (.string s) ∧ w.grownBy w' none := by
 have HC : Hid (Calls Tryz.prog 104 #[.string s] w fun e w' => e = .returned (.string s) ∧ Below w.heap.size w w') := Tryz.stringslite_Clone s w hlim
 clear hlim
 go_enter Tryz.func49, Tryz.ntmps49
 go_wp2_with (go_at_call 104; refine HC.out.mono ?_; rintro e w2 ⟨rfl, hb⟩; have HB := hid hb; clear hb)
 go_ret
 exact ⟨rfl, gof HB.out none⟩
end Go.Proofs.YtpbiofnncdneoaaGreatDoor

namespace Go.Proofs.YtpbiofnncdneoaaGreatDoor
open Go Go.RowKit
open Go.RowKit (wrap32 wrap64)

/-- A byte that may stand in a name. -/
def gbI (X : Int) : Bool := decide (97 ≤ X ∧ X ≤ 122 ∨ 48 ≤ X ∧ X ≤ 57 ∨ X = 46 ∨ X = 45 ∨ X = 95)
set_option maxRecDepth 100000 in
theorem goodByte_any (X : Int) (w : World) : Calls Tryz.prog 168 #[.int .u8 X] w fun e w' => e = .returned (.bool (gbI X)) ∧ w' = w := by
 by_cases a1 : 97 ≤ X
 ·by_cases a2 : X ≤ 122
  ·have hr : gbI X = true := decide_eq_true (by omega)
   rw [hr]
   go_enter Tryz.func168, Tryz.ntmps168
   go_wp2
   go_ret
   exact ⟨rfl, rfl⟩
  ·have hr : gbI X = false := decide_eq_false (by omega)
   have a3 : 48 ≤ X := by omega
   have a4 : ¬ X ≤ 57 := by omega
   have a5 : ¬ X = 46 := by omega
   have a6 : ¬ X = 45 := by omega
   have a7 : ¬ X = 95 := by omega
   have b5 : (X == 46) = false := beq_eq_false_iff_ne.2 a5
   have b6 : (X == 45) = false := beq_eq_false_iff_ne.2 a6
   have b7 : (X == 95) = false := beq_eq_false_iff_ne.2 a7
   rw [hr]
   go_enter Tryz.func168, Tryz.ntmps168
   go_wp2
   go_ret
   exact ⟨rfl, rfl⟩
 ·by_cases a3 : 48 ≤ X
  ·by_cases a4 : X ≤ 57
   ·have hr : gbI X = true := decide_eq_true (by omega)
    rw [hr]
    go_enter Tryz.func168, Tryz.ntmps168
    go_wp2
    go_ret
    exact ⟨rfl, rfl⟩
   ·have a5 : ¬ X = 46 := by omega
    have a6 : ¬ X = 45 := by omega
    by_cases a7 : X = 95
    ·have hr : gbI X = true := decide_eq_true (by omega)
     rw [hr]
     subst a7
     go_enter Tryz.func168, Tryz.ntmps168
     go_wp2
     go_ret
     exact ⟨rfl, rfl⟩
    ·have hr : gbI X = false := decide_eq_false (by omega)
     have b5 : (X == 46) = false := beq_eq_false_iff_ne.2 a5
     have b6 : (X == 45) = false := beq_eq_false_iff_ne.2 a6
     have b7 : (X == 95) = false := beq_eq_false_iff_ne.2 a7
     rw [hr]
     go_enter Tryz.func168, Tryz.ntmps168
     go_wp2
     go_ret
     exact ⟨rfl, rfl⟩
  ·by_cases a5 : X = 46
   ·subst a5
    go_enter Tryz.func168, Tryz.ntmps168
    go_wp2
    go_ret
    exact ⟨rfl, rfl⟩
   ·by_cases a6 : X = 45
    ·subst a6
     go_enter Tryz.func168, Tryz.ntmps168
     go_wp2
     go_ret
     exact ⟨rfl, rfl⟩
    ·have a7 : ¬ X = 95 := by omega
     have hr : gbI X = false := decide_eq_false (by omega)
     have b5 : (X == 46) = false := beq_eq_false_iff_ne.2 a5
     have b6 : (X == 45) = false := beq_eq_false_iff_ne.2 a6
     have b7 : (X == 95) = false := beq_eq_false_iff_ne.2 a7
     rw [hr]
     go_enter Tryz.func168, Tryz.ntmps168
     go_wp2
     go_ret
     exact ⟨rfl, rfl⟩
/-- A name that may be. -/
def goodN (s : ByteArray) : Bool := decide (1 ≤ s.size) && (decide (s.size ≤ 64) && s.data.toList.all (fun c => gbI c.toNat))
theorem goodN_no {s : ByteArray} {i : Nat} (h : i < s.size) (hb : gbI (s[i].toNat) = false) : goodN s = false := by
 have : s.data.toList.all (fun c => gbI c.toNat) = false := by
  rw [List.all_eq_false]
  exact ⟨s[i], Array.mem_toList_iff.2 (Array.getElem_mem h), by simp [hb]⟩
 unfold goodN
 rw [this]
 simp
theorem goodN_yes {s : ByteArray} (h1 : 1 ≤ s.size) (h2 : s.size ≤ 64) (h : ∀ j (hj : j < s.size), gbI (s[j].toNat) = true) : goodN s = true := by
 unfold goodN
 rw [decide_eq_true h1, decide_eq_true h2, Bool.true_and, Bool.true_and, List.all_eq_true]
 intro c hc
 obtain ⟨j, hj, rfl⟩ := Array.getElem_of_mem (Array.mem_toList_iff.1 hc)
 exact h j hj
set_option maxRecDepth 100000 in
set_option maxHeartbeats 1600000 in
theorem goodName_any (s : ByteArray) (w : World) : Calls Tryz.prog 151 #[.string s] w fun e w' => e = .returned (.bool (goodN s)) ∧ w.grownBy w' none := by
 obtain ⟨R, HR⟩ : ∃ x, Hid (goodN s = x) := ⟨_, hid rfl⟩
 rw [HR.out]
 by_cases h1 : s.size < 1
 ·have hR : R = false := by rw [← HR.out]; unfold goodN; rw [decide_eq_false (by omega)]; rfl
  subst hR
  have h1' : (s.size : Int) < 1 := by omega
  clear h1
  go_enter Tryz.func151, Tryz.ntmps151
  go_wp2_with fail
  go_ret
  exact ⟨rfl, grefl _ _⟩
 ·by_cases h2 : 64 < s.size
  ·have hR : R = false := by rw [← HR.out]; unfold goodN; rw [decide_eq_false (show ¬ s.size ≤ 64 by omega)]; simp
   subst hR
   have h1' : ¬ (s.size : Int) < 1 := by omega
   have h2' : (64 : Int) < (s.size : Int) := by omega
   clear h1 h2
   go_enter Tryz.func151, Tryz.ntmps151
   go_wp2_with fail
   go_ret
   exact ⟨rfl, grefl _ _⟩
  ·have h1' : ¬ (s.size : Int) < 1 := by omega
   have h2' : ¬ (64 : Int) < (s.size : Int) := by omega
   have HS : Hid (1 ≤ s.size ∧ s.size ≤ 64) := hid ⟨by omega, by omega⟩
   have HB : Hid (∀ (X : Int) (u : World), Calls Tryz.prog 168 #[.int .u8 X] u fun e w' => e = .returned (.bool (gbI X)) ∧ w' = u) := goodByte_any
   clear h1 h2
   go_enter Tryz.func151, Tryz.ntmps151
   go_wp2_with fail
   go_loopw [14] (fun iv wr => ∃ i : Nat, iv = .int .i64 i ∧ i ≤ 64 ∧ Hid (i ≤ s.size) ∧ Hid (∀ j (hj : j < s.size), j < i → gbI (s[j].toNat) = true) ∧ Hid (w.grownBy wr none)) (fun iv _ => 64 - (intOf iv).toNat)
   case atStart => exact ⟨0, rfl, by omega, hid (by omega), hid (fun j hj h => by omega), hid (grefl _ _)⟩
   case round =>
    obtain ⟨i, rfl, hi, HL, HA, HG⟩ := hrel
    by_cases hlt : i < s.size
    ·as_aux_lemma =>
     have hlt' : (i : Int) < (s.size : Int) := by omega
     have hi64 : i < 64 := by have := HS.out; omega
     cases hb : gbI (s[i].toNat) with
     | false =>
      have HC : Hid (∀ u : World, Calls Tryz.prog 168 #[.int .u8 (s[i].toNat : Int)] u fun e w' => e = .returned (.bool false) ∧ w' = u) := hid (fun u => by have := HB.out (s[i].toNat : Int) u; rw [hb] at this; exact this)
      have HRf : Hid (R = false) := hid (by rw [← HR.out]; exact goodN_no hlt hb)
      go_wp2_with (go_at_call 168; refine (HC.out _).mono ?_; rintro e w' ⟨rfl, rfl⟩)
      go_ret
      exact ⟨by rw [HRf.out]; rfl, HG.out⟩
     | true =>
      have HC : Hid (∀ u : World, Calls Tryz.prog 168 #[.int .u8 (s[i].toNat : Int)] u fun e w' => e = .returned (.bool true) ∧ w' = u) := hid (fun u => by have := HB.out (s[i].toNat : Int) u; rw [hb] at this; exact this)
      go_wp2_with (go_at_call 168; refine (HC.out _).mono ?_; rintro e w' ⟨rfl, rfl⟩)
      go_roundw
      case rel => exact ⟨i + 1, by go_num, by omega, hid (by omega), hid (fun j hj h => by
       by_cases e : j = i
       ·subst e; exact hb
       ·exact HA.out j hj (by omega)), HG⟩
      case measure => simp [intOf]; omega
    ·as_aux_lemma =>
     have hlt' : ¬ (i : Int) < (s.size : Int) := by omega
     have HRt : Hid (R = true) := hid (by rw [← HR.out]; exact goodN_yes HS.out.1 HS.out.2 (fun j hj => HA.out j hj (by omega)))
     go_wp2_with fail
     go_ret
     exact ⟨by rw [HRt.out]; rfl, HG.out⟩
theorem made0 (w : World) : Out w.heap.size (w.alloc (.cells #[] 5)) (.slice (some ⟨w.heap.size, 0, none⟩) 0 0) [] :=
 ⟨rfl, .inr ⟨w.heap.size, 0, #[], rfl, Nat.le_refl _, heap_new w _ _, Nat.le_refl _, by decide, rfl, rfl⟩⟩
set_option maxRecDepth 100000 in
set_option maxHeartbeats 1600000 in
/-- bytes.Clone: the same bytes in a row of its own; nil of nil. -/
theorem bclone_any (w : World) (v : Value) (F : Nat → Prop) (l : List UInt8) (hr : Rd w F v l) (hl : l.length ≤ 140737488355328) :
  Calls Tryz.prog 64 #[v] w fun e w' => ∃ v', e = .returned v' ∧ Out w.heap.size w' v' l ∧ w.grownBy w' none := by
 have HR := hid hr
 obtain ⟨a, b, off, c, rfl, hc, hn, ha, hcell⟩ := hr
 clear hcell
 have hnil := fun w a l c => Go.run_eql_slice_nil (P := Tryz.prog) w 74 5 a l c Tryz.underlying74
 cases a with
 | none =>
  have c0 := hn rfl
  have hl0 : l = [] := List.eq_nil_of_length_eq_zero (by omega)
  subst hl0
  subst c0
  go_enter Tryz.func64, Tryz.ntmps64
  go_wp2_with fail
  go_ret
  exact ⟨_, rfl, Out.nil _ _, grefl _ _⟩
 | some q =>
  clear ha hn
  go_enter Tryz.func64, Tryz.ntmps64
  go_wp2_with (at_builtin; refine wpList_append_rd rfl _ _ rfl w.heap.size F [] l (made0 w) (HR.out.keep (galloc w _ none)) (by simp; omega) (by simp) ?_; intro v2 w2 hO2 hg2 _)
  go_ret
  exact ⟨_, rfl, hO2, (galloc w _ none).andThen hg2 (fun j hj => .inl ((made0 w).block j hj))⟩
end Go.Proofs.YtpbiofnncdneoaaGreatDoor
