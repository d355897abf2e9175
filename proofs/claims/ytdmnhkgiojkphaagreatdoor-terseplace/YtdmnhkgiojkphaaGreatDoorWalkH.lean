/- The walk of list. -/
import Derived.Test.YtdmnhkgiojkphaaGreatDoorMem
import Derived.Test.YtdmnhkgiojkphaaGreatDoorTreeS
import Derived.Deep.CutRange
import Derived.Test.YtdmnhkgiojkphaaGreatDoorWalkG
import Derived.Deep.RegionLaw
import Derived.Deep.AppendLies
import Derived.Deep.RegionWith
namespace Go.Proofs.YtdmnhkgiojkphaaGreatDoor
open Go Go.RowKit
open Go.RowKit (wrap32 wrap64)

theorem Tryz.info26 : (Tryz.prog.info? 26).map (fun i => (i.zero, i.size, i.bytes)) = some (some (.agg #[.int .i64 0, .bool false, .int .i64 0, .string ⟨#[]⟩, .slice none 0 0, .slice none 0 0]), 6, 88) := by kernel_rfl
theorem Tryz.info9 : (Tryz.prog.info? 9).map (fun i => (i.zero, i.size, i.bytes)) = some (some (.string ⟨#[]⟩), 1, 16) := by kernel_rfl

/-- How a reader of an item ends, in blocks from B on. -/
def ItemEnds (r : Res Tree) (B b : Nat) (s : ByteArray) (d : Int) (e : Ending) (w' : World) : Prop :=
  match r with
  | .ok t q => ∃ v, e = .returned v ∧ RdT w' (fun g => B ≤ g) t v ∧ ∃ p : Nat, p ≤ s.size ∧ q = from_ s p ∧ Rdr w' b s p d
  | .bad c q => ∃ p : Nat, p ≤ s.size ∧ q = from_ s p ∧ e = faulted c p
/-- item reads as itemR k does. -/
def ItemOk (k : Nat) : Prop := ∀ (w : World) (b : Nat) (s : ByteArray) (p : Nat) (d about : Int), Rdr w b s p d → Glob w → 8 ≤ b → p ≤ s.size → s.size ≤ 4294967280 → 0 ≤ about → about + k = d → d ≤ 32 →
  Calls Tryz.prog 46 #[.pointer (some ⟨b, 0, none⟩), .int .i64 about] w fun e w' => ItemEnds (itemR k (from_ s p)) w.heap.size b s d e w' ∧ w.grownBy w' (some b)

theorem listR_eq (it : List UInt8 → Res Tree) (l : List UInt8) : (∀ q, skip l ≠ 93 :: q) → listR it l = listGo it (l.length + 1) l [] := by
  intro h
  unfold listR
  split
  · rename_i q hq; exact absurd hq (h q)
  · rfl
theorem listGo_ok {it : List UInt8 → Res Tree} {f : Nat} {l q : List UInt8} {acc : List Tree} {t : Tree} (h : it l = .ok t q) : listGo it (f + 1) l acc = match skip q with
      | 93 :: q' => .ok (.mk 5 false 0 ⟨#[]⟩ [] (acc ++ [t])) q'
      | 44 :: q' => listGo it f q' (acc ++ [t])
      | p => .bad 22 p := by
  conv => lhs; unfold listGo
  rw [h]
  rfl
theorem listGo_bad {it : List UInt8 → Res Tree} {f : Nat} {l q : List UInt8} {acc : List Tree} {c : Int} (h : it l = .bad c q) : listGo it (f + 1) l acc = .bad c q := by
  conv => lhs; unfold listGo
  rw [h]

theorem news_new (w : World) (cs : Array Value) (t : TypeId) : ∀ j u, cs.toList[j]? = some u → (w.alloc (.cells cs t)).cell? ((⟨w.heap.size, 0, none⟩ : Addr).add j) = some u :=
  World.news_of_block (B := w.heap.size) (cs := cs) (t := t) (fr := (0, 0)) (by show (w.heap.push _)[w.heap.size]? = _; simp)
theorem one6 (k : Int) (f : Bool) (n : Int) (t : ByteArray) (ka ia : Option Addr) (kn kc il ic : Nat) : ∀ u ∈ [Value.int .i64 k, .bool f, .int .i64 n, .string t, .slice ka kn kc, .slice ia il ic], u.oneCell' = true := by
  intro u hu
  simp at hu
  rcases hu with rfl | rfl | rfl | rfl | rfl | rfl <;> rfl
/-- One tree more behind a row: the trees that were there stay, the new one too. -/
theorem elems_more {wr w2 w3 : World} {b B n g : Nat} {iv : Value} {acc : List Tree} {xs : List Value} {t : Tree} {a0 a1 a2 a3 a4 a5 : Value} {o : Obj} {X : Nat → Prop}
    (hbB : b < B) (hBr : B ≤ wr.heap.size) (hO : wr.ownsRow B 26 6 iv n xs) (hE : Elems wr (fun g => (B ≤ g ∧ X g) ∧ some g ≠ iv.ownBlock) acc xs) (hg2 : wr.grownBy w2 (some b))
    (hT : RdT w2 (fun g => wr.heap.size ≤ g) t (.agg #[a0, a1, a2, a3, a4, a5])) (hX : ∀ g, wr.heap.size ≤ g → X g) (hg3 : (w2.alloc o).grownBy w3 iv.ownBlock) (hat : iv.ownBlock = some g ∨ g = w2.heap.size + 1) :
    Elems w3 (fun x => (B ≤ x ∧ X x) ∧ some x ≠ some g) (acc ++ [t]) (xs ++ [a0, a1, a2, a3, a4, a5]) := by
  have hz2 := hg2.size
  have hlt := fun k (hk : iv.ownBlock = some k) => hO.lt k hk
  refine Elems.snoc ?_ ?_
  · refine RdT.kept (F := fun g => wr.heap.size ≤ g) ?_ ?_ t hT
    · refine (Stays.grown (galloc w2 o none) (fun _ _ => by simp)).trans (Stays.grown hg3 fun x hx e => ?_)
      have := (hlt x e.symm).2
      omega
    · intro x hx hl
      refine ⟨⟨by omega, hX x hx⟩, fun e => ?_⟩
      injection e with e
      rcases hat with h | h
      · have := (hlt g h).2; omega
      · omega
  · refine Elems.kept (F := fun g => (B ≤ g ∧ X g) ∧ some g ≠ iv.ownBlock) ?_ ?_ hE
    · refine ((Stays.grown hg2 fun x hx e => ?_).trans (Stays.grown (galloc w2 o none) (fun _ _ => by simp))).trans (Stays.grown hg3 fun x hx => hx.2)
      injection e with e
      omega
    · intro x hx hl
      refine ⟨hx.1, fun e => ?_⟩
      injection e with e
      rcases hat with h | h
      · exact hx.2 (by rw [h, e])
      · omega
theorem Elems.on {w w' : World} {F : Nat → Prop} {l : List Tree} {xs : List Value} (h : Elems w F l xs) (hs : Stays F w w') : Elems w' F l xs := Elems.kept hs (fun _ h _ => h) h
theorem set5_heap {w : World} {k : Nat} {a b c d e f : Value} {t : TypeId} (h : w.heap[k]? = some (.cells #[a, b, c, d, e, f] t (0, 0))) (v : Value) : (w.setCell ⟨k, 5, none⟩ v).heap[k]? = some (.cells #[a, b, c, d, e, v] t (0, 0)) := by
  simp [World.setCell, Array.getElem?_modify, h]
theorem set4_heap {w : World} {k : Nat} {a b c d e f : Value} {t : TypeId} (h : w.heap[k]? = some (.cells #[a, b, c, d, e, f] t (0, 0))) (v : Value) : (w.setCell ⟨k, 4, none⟩ v).heap[k]? = some (.cells #[a, b, c, d, v, f] t (0, 0)) := by
  simp [World.setCell, Array.getElem?_modify, h]

theorem skip_skip (l : List UInt8) : skip (skip l) = skip l := by
  induction l with
  | nil => rfl
  | cons c r ih =>
    unfold skip at ih ⊢
    rw [List.dropWhile_cons]
    split
    · exact ih
    · rename_i h
      rw [List.dropWhile_cons, if_neg h]
theorem itemR_skip (k : Nat) (l : List UInt8) : itemR k (skip l) = itemR k l := by
  have key : ∀ d, itemW d (skip l) = itemW d l := fun d => by
    unfold itemW
    rw [skip_skip]
  cases k with
  | zero => exact key none
  | succ k => exact key (some (itemR k))
theorem listGo_skip (k f : Nat) (l : List UInt8) (acc : List Tree) : listGo (itemR k) (f + 1) (skip l) acc = listGo (itemR k) (f + 1) l acc := by
  conv => lhs; unfold listGo
  conv => rhs; unfold listGo
  rw [itemR_skip]

set_option maxRecDepth 100000 in
set_option maxHeartbeats 2000000 in
theorem list_any (k : Nat) (hk : ItemOk k) (w : World) (b : Nat) (s : ByteArray) (p : Nat) (d about : Int) (h : Rdr w b s p d) (hG : Glob w) (hb8 : 8 ≤ b) (hp : p ≤ s.size) (hs : s.size ≤ 4294967280) (ha0 : 0 ≤ about) (had : about + k = d) (hd : d ≤ 32) :
    Calls Tryz.prog 77 #[.pointer (some ⟨b, 0, none⟩), .int .i64 about] w fun e w' => ItemEnds (listR (itemR k) (from_ s p)) w.heap.size b s d e w' ∧ w.grownBy w' (some b) := by
  have HK := hid hk
  have hlt := h.lt
  have HAD := hid had
  obtain ⟨R, HRR⟩ : ∃ R, Hid (listR (itemR k) (from_ s p) = R) := ⟨_, hid rfl⟩
  rw [HRR.out]
  have hab : about ≤ 32 := by omega
  clear hk had
  have hr0 : Rdr ((w.alloc (.cells #[.int .i64 0, .bool false, .int .i64 0, .string ⟨#[]⟩, .slice none 0 0, .slice none 0 0] 26)).alloc (.cells #[.int .i64 5, .bool false, .int .i64 0, .string ⟨#[]⟩, .slice none 0 0, .slice none 0 0] 26)) b s p d := (h.kept (galloc _ _ none)).kept (galloc _ _ none)
  have HR0 := hid hr0
  clear hr0 h
  go_enter Tryz.func77, Tryz.ntmps77
  go_wp2_with fail
  refine (takes_any _ b s p d 93 (by decide) HR0.out hp (by omega)).mono ?_
  rintro e w1 ⟨q, hq, hr1, hg1, ht⟩
  have hg01 : w.grownBy w1 (some b) := (((galloc w _ (some b)).andThen (galloc _ _ none) (fun j hj => by cases hj)).andThen hg1 (fun j hj => .inr hj))
  have c0 : w1.heap[w.heap.size]? = some (.cells #[.int .i64 0, .bool false, .int .i64 0, .string ⟨#[]⟩, .slice none 0 0, .slice none 0 0] 26 (0, 0)) := by
    rw [hg1.block _ (by simp; omega) (by simp; omega)]
    exact alloc_keeps (heap_alloc_new w _) _
  have c1 : w1.heap[w.heap.size + 1]? = some (.cells #[.int .i64 5, .bool false, .int .i64 0, .string ⟨#[]⟩, .slice none 0 0, .slice none 0 0] 26 (0, 0)) := by
    rw [hg1.block _ (by simp) (by simp; omega)]
    have := heap_alloc_new (w.alloc (.cells #[.int .i64 0, .bool false, .int .i64 0, .string ⟨#[]⟩, .slice none 0 0, .slice none 0 0] 26)) (.cells #[.int .i64 5, .bool false, .int .i64 0, .string ⟨#[]⟩, .slice none 0 0, .slice none 0 0] 26)
    simpa using this
  have HG01 := hid hg01
  have HC0 := hid c0
  have HC1 := hid c1
  have HR1 := hid hr1
  have hz1 : w.heap.size + 1 < w1.heap.size := (Array.getElem?_eq_some_iff.1 c1).1
  obtain ⟨⟨x0, x1, x2, x3, x4, x5⟩, xf⟩ := cells6 c0
  obtain ⟨⟨y0, y1, y2, y3, y4, y5⟩, yf⟩ := cells6 c1
  clear hg1 hg01 c0 c1 hr1
  rcases ht with ⟨rfl, hsk⟩ | ⟨rfl, hsk, hnh⟩
  · -- no item
    have HF : Hid (listR (itemR k) (from_ s p) = .ok (.mk 5 false 0 ⟨#[]⟩ [] []) (from_ s q)) := by unfold listR; rw [hsk]; exact rfl
    clear hsk
    go_wp2_with fail
    have HFin := put6_heap (k := w.heap.size) HC0.out (.int .i64 5) (.bool false) (.int .i64 0) (.string ⟨#[]⟩) (.slice none 0 0) (.slice none 0 0)
    have HPg := put6_grown w1 w.heap.size (.int .i64 5) (.bool false) (.int .i64 0) (.string ⟨#[]⟩) (.slice none 0 0) (.slice none 0 0)
    obtain ⟨⟨k0, k1, k2, k3, k4, k5⟩, _⟩ := cells6 HFin
    unfold put6 at k0 k1 k2 k3 k4 k5
    refine bodyPost_ret (v := .agg #[.int .i64 5, .bool false, .int .i64 0, .string ⟨#[]⟩, .slice none 0 0, .slice none 0 0]) ?_ rfl ⟨?_, ?_⟩
    · simp [results, Tryz.results77, go_sem, k0, k1, k2, k3, k4, k5]
    · rw [← HRR.out, HF.out]
      exact ⟨_, rfl, RdT.leaf _ _ _ _ _ _, q, hq, rfl, HR1.out.far HPg (by omega)⟩
    · exact HG01.out.andThen HPg (fun j hj => .inl (by injection hj with hj; omega))
  · have HF : Hid (listR (itemR k) (from_ s p) = listGo (itemR k) ((from_ s p).length + 1) (from_ s p) []) := listR_eq _ _ (fun q' hq' => by
      rw [hsk] at hq'
      rw [hq'] at hnh
      simp at hnh)
    have HF2 : Hid (listR (itemR k) (from_ s p) = listGo (itemR k) ((from_ s p).length + 1) (from_ s q) []) := by
      rw [HF.out, ← listGo_skip, hsk]; exact rfl
    have hfl := from_length s p
    have hqp : s.size - q ≤ s.size - p := by
      have : (from_ s q).length ≤ (from_ s p).length := by
        rw [← hsk]
        unfold skip
        exact List.Sublist.length_le (List.dropWhile_sublist _)
      rw [from_length, from_length] at this
      exact this
    rw [HRR.out] at HF2
    rw [hfl] at HF2
    have inf := info_parts Tryz.info26
    obtain ⟨i26, hi26, hz26, hs26, hb26⟩ := inf
    clear HF hsk hnh x0 x1 x2 x3 x4 x5 xf y0 y1 y2 y3 y4 y5 yf hfl
    go_wp2_with fail
    go_loopw [] (fun wr => ∃ (q f : Nat) (acc : List Tree) (iv : Value) (xs : List Value), q ≤ s.size ∧ s.size - q < f ∧ acc.length ≤ q ∧ Hid (Rdr wr b s q d) ∧ Hid (w.grownBy wr (some b)) ∧ Hid (wr.heap[w.heap.size]? = some (.cells #[.int .i64 0, .bool false, .int .i64 0, .string ⟨#[]⟩, .slice none 0 0, .slice none 0 0] 26 (0, 0))) ∧ Hid (wr.heap[w.heap.size + 1]? = some (.cells #[.int .i64 5, .bool false, .int .i64 0, .string ⟨#[]⟩, .slice none 0 0, iv] 26 (0, 0))) ∧ Hid (wr.ownsRow (w.heap.size + 2) 26 6 iv acc.length xs) ∧ Hid (Elems wr (fun g => (w.heap.size + 2 ≤ g ∧ True) ∧ some g ≠ iv.ownBlock) acc xs) ∧ Hid (R = listGo (itemR k) f (from_ s q) acc)) (fun wr => s.size - atOf wr b)
    case atStart => exact ⟨q, s.size - p + 1, [], .slice none 0 0, [], hq, by omega, Nat.zero_le _, HR1, HG01, HC0, HC1, World.ownsRow_nil _ _ _ _, rfl, HF2⟩
    case round =>
      obtain ⟨q', f, acc, iv, xs, hq', hf, hacc, HR, HG, HZ, HV, HO, HE, HL⟩ := hrel
      obtain ⟨f, rfl⟩ : ∃ g, f = g + 1 := ⟨f - 1, by omega⟩
      have hGl : Glob wr := hG.grown HG.out (fun k hk => by injection hk with hk; omega)
      have hit := HK.out
      have HGl := hid hGl
      obtain ⟨⟨y0, y1, y2, y3, y4, y5⟩, yf⟩ := cells6 HV.out
      have hzr : w.heap.size + 1 < wr.heap.size := (Array.getElem?_eq_some_iff.1 HV.out).1
      have SO : Hid (∀ wx : World, wx.heap[w.heap.size + 1]? = wr.heap[w.heap.size + 1]? → wx.cell? ⟨w.heap.size + 1, 5, none⟩ = some iv) := fun wx hx => by
        rw [World.cell?_of_block (w := wr) (a := ⟨w.heap.size + 1, 5, none⟩) hx]; exact y5
      cases hres : itemR k (from_ s q') with
      | bad c r =>
        rw [listGo_bad hres] at HL
        have HC : Hid (∀ n : Nat, Calls Tryz.prog 46 #[.pointer (some ⟨b, 0, none⟩), .int .i64 about] (wr.drewN n) fun e w' => ∃ p' : Nat, p' ≤ s.size ∧ r = from_ s p' ∧ e = .panicked [{ v := faultV c p', recovered := false }] ∧ wr.grownBy w' (some b)) := fun n => by
          refine (hit (wr.drewN n) b s q' d about (HR.out.drew n) (HGl.out.grown (gdrew wr n none) (fun k hk => by cases hk)) hb8 hq' hs ha0 HAD.out hd).mono ?_
          rintro e w' ⟨he, hg⟩
          rw [hres] at he
          obtain ⟨p', h1, h2, h3⟩ := he
          exact ⟨p', h1, h2, h3, gtrans (gdrew wr n _) hg⟩
        clear hres hit hGl
        go_wp2_with fail
        refine wp_region_any (by kernel_rfl) ?_
        change wpAny _ _ _ _ _ _ _ (World.drew _)
        refine wpAny_take (i := 0) (v := ?_) rfl (by kernel_rfl) (by kernel_rfl) (by kernel_rfl) (fun _ _ _ h => h) (Or.inl ⟨by rfl, by intro w; go_simp; first | done | with_reducible rfl⟩) ?_
        refine wpAny_take (i := 2) (v := ?_) rfl (by kernel_rfl) (by kernel_rfl) (by kernel_rfl) (fun _ _ _ h => h) (Or.inl ⟨by rfl, by intro w; go_simp; first | done | with_reducible rfl⟩) ?_
        refine wpAny_take (i := 3) (v := ?_) rfl (by kernel_rfl) (by kernel_rfl) (by kernel_rfl) (fun _ _ _ h => h) (Or.inl ⟨by rfl, by intro w; go_simp; first | done | with_reducible rfl⟩) ?_
        refine wpAny_ready (rs := [1, 4]) (by kernel_rfl) (by simp) ?_
        refine AllReady.cons rfl (fun K hK => ?_) (AllReady.cons rfl (fun K hK => ?_) AllReady.nil)
        · go_simp
          refine hK _ _ ?_
          clear hK K
          refine wpAny_ready (rs := [4]) (by kernel_rfl) (by simp) ?_
          refine AllReady.cons rfl (fun K hK => ?_) AllReady.nil
          go_simp
          refine (HC.out 1).mono ?_
          rintro e w2 ⟨p', h1, h2, rfl, h5⟩
          exact ⟨rfl, by rw [HL.out]; exact ⟨p', h1, h2, rfl⟩, gtrans HG.out h5⟩
        · go_simp
          refine (HC.out 1).mono ?_
          rintro e w2 ⟨p', h1, h2, rfl, h5⟩
          exact ⟨rfl, by rw [HL.out]; exact ⟨p', h1, h2, rfl⟩, gtrans HG.out h5⟩
      | ok t r =>
        rw [listGo_ok hres] at HL
        have hrl := itemR_shrinks k _ _ _ hres
        rw [from_length] at hrl
        have HC : Hid (∀ n : Nat, Calls Tryz.prog 46 #[.pointer (some ⟨b, 0, none⟩), .int .i64 about] (wr.drewN n) fun e w' => ∃ (ka ia : Option Addr) (kn kc il ic p' : Nat), e = .returned (.agg #[.int .i64 t.kind, .bool t.flag, .int .i64 t.n, .string t.text, .slice ka kn kc, .slice ia il ic]) ∧ RdT w' (fun g => wr.heap.size ≤ g) t (.agg #[.int .i64 t.kind, .bool t.flag, .int .i64 t.n, .string t.text, .slice ka kn kc, .slice ia il ic]) ∧ p' ≤ s.size ∧ r = from_ s p' ∧ Rdr w' b s p' d ∧ wr.grownBy w' (some b)) := fun n => by
          refine (hit (wr.drewN n) b s q' d about (HR.out.drew n) (HGl.out.grown (gdrew wr n none) (fun k hk => by cases hk)) hb8 hq' hs ha0 HAD.out hd).mono ?_
          rintro e w' ⟨he, hg⟩
          rw [hres] at he
          obtain ⟨v, rfl, h2, p', h3, h4, h5⟩ := he
          have h2' := h2
          rw [RdT_eq] at h2'
          obtain ⟨kv, ia, ic, rfl, hkv, _, _⟩ := h2'
          obtain ⟨ka, kc, rfl, _⟩ := hkv
          exact ⟨ka, ia, _, kc, _, ic, p', rfl, h2, h3, h4, h5, gtrans (gdrew wr n _) hg⟩
        have hne1 : some (w.heap.size + 1) ≠ iv.ownBlock := fun e => by have := (HO.out.lt _ e.symm).1; omega
        have hneb : iv.ownBlock ≠ some b := fun e => by have := (HO.out.lt _ e).1; omega
        clear hres hit hGl
        go_wp2_with fail
        go_cut [] from 10 to 22 (fun wc => ∃ (q2 : Nat) (iv2 : Value) (xs2 : List Value), q2 ≤ s.size ∧ Hid (r = from_ s q2) ∧ Hid (Rdr wc b s q2 d) ∧ Hid (w.grownBy wc (some b)) ∧ Hid (wc.heap[w.heap.size]? = some (.cells #[.int .i64 0, .bool false, .int .i64 0, .string ⟨#[]⟩, .slice none 0 0, .slice none 0 0] 26 (0, 0))) ∧ Hid (wc.heap[w.heap.size + 1]? = some (.cells #[.int .i64 5, .bool false, .int .i64 0, .string ⟨#[]⟩, .slice none 0 0, iv2] 26 (0, 0))) ∧ Hid (wc.ownsRow (w.heap.size + 2) 26 6 iv2 (acc.length + 1) xs2) ∧ Hid (Elems wc (fun g => (w.heap.size + 2 ≤ g ∧ True) ∧ some g ≠ iv2.ownBlock) (acc ++ [t]) xs2))
        case first =>
          refine wp_region_any (by kernel_rfl) ?_
          change wpAny _ _ _ _ _ _ _ (World.drew _)
          refine wpAny_take (i := 0) (v := ?_) rfl (by kernel_rfl) (by kernel_rfl) (by kernel_rfl) (fun _ _ _ h => h) (Or.inl ⟨by rfl, by intro w; go_simp; first | done | with_reducible rfl⟩) ?_
          refine wpAny_take (i := 2) (v := ?_) rfl (by kernel_rfl) (by kernel_rfl) (by kernel_rfl) (fun _ _ _ h => h) (Or.inl ⟨by rfl, by intro w; go_simp; first | done | with_reducible rfl⟩) ?_
          refine wpAny_take (i := 3) (v := ?_) rfl (by kernel_rfl) (by kernel_rfl) (by kernel_rfl) (fun _ _ _ h => h) (Or.inl ⟨by rfl, by intro w; go_simp; first | done | with_reducible rfl⟩) ?_
          refine wpAny_ready (rs := [1, 4]) (by kernel_rfl) (by simp) ?_
          refine AllReady.cons rfl (fun K hK => ?_) (AllReady.cons rfl (fun K hK => ?_) AllReady.nil)
          · go_simp
            refine hK _ _ ?_
            clear hK K
            refine wpAny_ready (rs := [4]) (by kernel_rfl) (by simp) (AllReady.cons rfl (fun K hK => ?_) AllReady.nil)
            go_simp
            refine (HC.out 1).mono ?_
            rintro e w2 ⟨ka, ia, kn, kc, il, ic, p', rfl, hT2, hp', hr', hR2, hg2⟩
            have hv2 := hg2.block (w.heap.size + 1) hzr (by simp; omega)
            have hz2 := hg2.size
            have hO2 := HO.out.kept hg2 (.inr hneb)
            have hc2 := SO.out _ hv2
            have hc22 := fun o => SO.out (w2.alloc o) ((Below.heap_alloc _ _ _ (by omega)).trans hv2)
            refine hK _ _ ?_
            clear hK K
            refine wpAny_ready (rs := [5]) (by kernel_rfl) (by simp) (AllReady.cons rfl (fun K hK => ?_) AllReady.nil)
            go_simp
            refine hK _ _ ?_
            clear hK K
            refine wpAny_ready (rs := [6]) (by kernel_rfl) (by simp) (AllReady.cons rfl (fun K hK => ?_) AllReady.nil)
            refine step_append_lies _ (by rfl) _ _ 22 (by rfl) (w.heap.size + 2) 26 i26 _ 6 88 Tryz.underlying22 hi26 hz26 hs26 hb26 (by rfl) (by decide) iv acc.length xs (by rfl) (by exact hO2.alloc _) ⟨w2.heap.size, 0, none⟩ 1 1 [.int .i64 t.kind, .bool t.flag, .int .i64 t.n, .string t.text, .slice ka kn kc, .slice ia il ic] (by rfl) (by rfl) (by exact news_new w2 _ _) (by exact one6 _ _ _ _ _ _ _ _ _ _) (by decide) (by unfold maxLen; omega) (by omega) (by simp; omega) (w2.heap.size + 1) (by simp) ?_
            intro g cap w3 hown3 hg3 hat3 hlt3
            have hv3 := (hg3.block (w.heap.size + 1) (by simp; omega) hne1).trans ((Below.heap_alloc _ _ _ (by omega)).trans hv2)
            have hc3 := SO.out _ hv3
            have hf3 := (World.frozen?_of_block (w := wr) (a := ⟨w.heap.size + 1, 5, none⟩) hv3).trans (yf 5)
            refine hK _ _ ?_
            clear hK K
            refine wpAny_ready (rs := [7]) (by kernel_rfl) (by simp) (AllReady.cons rfl (fun K hK => ?_) AllReady.nil)
            go_simp
            refine hK _ _ ?_
            clear hK K
            refine wpAny_ready (rs := [8]) (by kernel_rfl) (by simp) (AllReady.cons rfl (fun K hK => ?_) AllReady.nil)
            go_simp
            refine hK _ _ ?_
            clear hK K
            refine wpAny_done (by kernel_rfl) ?_ _
            go_wp2_with fail
            go_meet
            have hE3 := elems_more (B := w.heap.size + 2) (b := b) (by omega) (by omega) HO.out HE.out hg2 hT2 (fun _ _ => trivial) hg3 hat3
            have hR3 : Rdr w3 b s p' d := by
              unfold Rdr at hR2 ⊢
              rw [hg3.block b (by simp; omega) (fun e => hneb e.symm), Below.heap_alloc _ _ _ (by omega)]
              exact hR2
            have hG3 : w.grownBy w3 (some b) := ((HG.out.andThen hg2 (fun j hj => .inr hj)).andThen (galloc w2 _ none) (fun j hj => by cases hj)).andThen hg3 (fun j hj => .inl (by have := (HO.out.lt j hj).1; omega))
            have hZ3 : w3.heap[w.heap.size]? = wr.heap[w.heap.size]? := by
              rw [hg3.block _ (by simp; omega) (fun e => by have := (HO.out.lt _ e.symm).1; omega), Below.heap_alloc _ _ _ (by omega), hg2.block _ (by omega) (by simp; omega)]
            have hz3 : w2.heap.size < w3.heap.size := by have := hg3.size; simp at this; omega
            have gs : w3.grownBy (w3.setCell ⟨w.heap.size + 1, 5, none⟩ (.slice (some ⟨g, 0, none⟩) (acc.length + 1) cap)) (some (w.heap.size + 1)) := gset w3 ⟨w.heap.size + 1, 5, none⟩ _
            refine ⟨p', _, _, hp', hr', hR3.far gs (by omega), hG3.andThen gs (fun j hj => .inl (by injection hj with hj; omega)), ?_, set5_heap (hv3.trans HV.out) _, hown3.kept gs (.inr ?_), hE3.on (Stays.grown gs fun x hx e => ?_)⟩
            · refine hid ?_
              rw [gs.block _ (by omega) (by simp), hZ3]
              exact HZ.out
            · intro e
              have := (hown3.lt _ e).1
              omega
            · injection e with e
              omega
          · go_simp
            refine (HC.out 1).mono ?_
            rintro e w2 ⟨ka, ia, kn, kc, il, ic, p', rfl, hT2, hp', hr', hR2, hg2⟩
            have hv2 := hg2.block (w.heap.size + 1) hzr (by simp; omega)
            have hz2 := hg2.size
            have hO2 := HO.out.kept hg2 (.inr hneb)
            have hc2 := SO.out _ hv2
            have hc22 := fun o => SO.out (w2.alloc o) ((Below.heap_alloc _ _ _ (by omega)).trans hv2)
            refine hK _ _ ?_
            clear hK K
            refine wpAny_ready (rs := [1, 5]) (by kernel_rfl) (by simp) ?_
            refine AllReady.cons rfl (fun K hK => ?_) (AllReady.cons rfl (fun K hK => ?_) AllReady.nil)
            · go_simp
              refine hK _ _ ?_
              clear hK K
              refine wpAny_ready (rs := [5]) (by kernel_rfl) (by simp) (AllReady.cons rfl (fun K hK => ?_) AllReady.nil)
              go_simp
              refine hK _ _ ?_
              clear hK K
              refine wpAny_ready (rs := [6]) (by kernel_rfl) (by simp) (AllReady.cons rfl (fun K hK => ?_) AllReady.nil)
              refine step_append_lies _ (by rfl) _ _ 22 (by rfl) (w.heap.size + 2) 26 i26 _ 6 88 Tryz.underlying22 hi26 hz26 hs26 hb26 (by rfl) (by decide) iv acc.length xs (by rfl) (by exact hO2.alloc _) ⟨w2.heap.size, 0, none⟩ 1 1 [.int .i64 t.kind, .bool t.flag, .int .i64 t.n, .string t.text, .slice ka kn kc, .slice ia il ic] (by rfl) (by rfl) (by exact news_new w2 _ _) (by exact one6 _ _ _ _ _ _ _ _ _ _) (by decide) (by unfold maxLen; omega) (by omega) (by simp; omega) (w2.heap.size + 1) (by simp) ?_
              intro g cap w3 hown3 hg3 hat3 hlt3
              have hv3 := (hg3.block (w.heap.size + 1) (by simp; omega) hne1).trans ((Below.heap_alloc _ _ _ (by omega)).trans hv2)
              have hc3 := SO.out _ hv3
              have hf3 := (World.frozen?_of_block (w := wr) (a := ⟨w.heap.size + 1, 5, none⟩) hv3).trans (yf 5)
              refine hK _ _ ?_
              clear hK K
              refine wpAny_ready (rs := [7]) (by kernel_rfl) (by simp) (AllReady.cons rfl (fun K hK => ?_) AllReady.nil)
              go_simp
              refine hK _ _ ?_
              clear hK K
              refine wpAny_ready (rs := [8]) (by kernel_rfl) (by simp) (AllReady.cons rfl (fun K hK => ?_) AllReady.nil)
              go_simp
              refine hK _ _ ?_
              clear hK K
              refine wpAny_done (by kernel_rfl) ?_ _
              go_wp2_with fail
              go_meet
              have hE3 := elems_more (B := w.heap.size + 2) (b := b) (by omega) (by omega) HO.out HE.out hg2 hT2 (fun _ _ => trivial) hg3 hat3
              have hR3 : Rdr w3 b s p' d := by
                unfold Rdr at hR2 ⊢
                rw [hg3.block b (by simp; omega) (fun e => hneb e.symm), Below.heap_alloc _ _ _ (by omega)]
                exact hR2
              have hG3 : w.grownBy w3 (some b) := ((HG.out.andThen hg2 (fun j hj => .inr hj)).andThen (galloc w2 _ none) (fun j hj => by cases hj)).andThen hg3 (fun j hj => .inl (by have := (HO.out.lt j hj).1; omega))
              have hZ3 : w3.heap[w.heap.size]? = wr.heap[w.heap.size]? := by
                rw [hg3.block _ (by simp; omega) (fun e => by have := (HO.out.lt _ e.symm).1; omega), Below.heap_alloc _ _ _ (by omega), hg2.block _ (by omega) (by simp; omega)]
              have hz3 : w2.heap.size < w3.heap.size := by have := hg3.size; simp at this; omega
              have gs : w3.grownBy (w3.setCell ⟨w.heap.size + 1, 5, none⟩ (.slice (some ⟨g, 0, none⟩) (acc.length + 1) cap)) (some (w.heap.size + 1)) := gset w3 ⟨w.heap.size + 1, 5, none⟩ _
              refine ⟨p', _, _, hp', hr', hR3.far gs (by omega), hG3.andThen gs (fun j hj => .inl (by injection hj with hj; omega)), ?_, set5_heap (hv3.trans HV.out) _, hown3.kept gs (.inr ?_), hE3.on (Stays.grown gs fun x hx e => ?_)⟩
              · refine hid ?_
                rw [gs.block _ (by omega) (by simp), hZ3]
                exact HZ.out
              · intro e
                have := (hown3.lt _ e).1
                omega
              · injection e with e
                omega
            · go_simp
              refine hK _ _ ?_
              clear hK K
              refine wpAny_ready (rs := [1]) (by kernel_rfl) (by simp) (AllReady.cons rfl (fun K hK => ?_) AllReady.nil)
              go_simp
              refine hK _ _ ?_
              clear hK K
              refine wpAny_ready (rs := [6]) (by kernel_rfl) (by simp) (AllReady.cons rfl (fun K hK => ?_) AllReady.nil)
              refine step_append_lies _ (by rfl) _ _ 22 (by rfl) (w.heap.size + 2) 26 i26 _ 6 88 Tryz.underlying22 hi26 hz26 hs26 hb26 (by rfl) (by decide) iv acc.length xs (by rfl) (by exact hO2.alloc _) ⟨w2.heap.size, 0, none⟩ 1 1 [.int .i64 t.kind, .bool t.flag, .int .i64 t.n, .string t.text, .slice ka kn kc, .slice ia il ic] (by rfl) (by rfl) (by exact news_new w2 _ _) (by exact one6 _ _ _ _ _ _ _ _ _ _) (by decide) (by unfold maxLen; omega) (by omega) (by simp; omega) (w2.heap.size + 1) (by simp) ?_
              intro g cap w3 hown3 hg3 hat3 hlt3
              have hv3 := (hg3.block (w.heap.size + 1) (by simp; omega) hne1).trans ((Below.heap_alloc _ _ _ (by omega)).trans hv2)
              have hc3 := SO.out _ hv3
              have hf3 := (World.frozen?_of_block (w := wr) (a := ⟨w.heap.size + 1, 5, none⟩) hv3).trans (yf 5)
              refine hK _ _ ?_
              clear hK K
              refine wpAny_ready (rs := [7]) (by kernel_rfl) (by simp) (AllReady.cons rfl (fun K hK => ?_) AllReady.nil)
              go_simp
              refine hK _ _ ?_
              clear hK K
              refine wpAny_ready (rs := [8]) (by kernel_rfl) (by simp) (AllReady.cons rfl (fun K hK => ?_) AllReady.nil)
              go_simp
              refine hK _ _ ?_
              clear hK K
              refine wpAny_done (by kernel_rfl) ?_ _
              go_wp2_with fail
              go_meet
              have hE3 := elems_more (B := w.heap.size + 2) (b := b) (by omega) (by omega) HO.out HE.out hg2 hT2 (fun _ _ => trivial) hg3 hat3
              have hR3 : Rdr w3 b s p' d := by
                unfold Rdr at hR2 ⊢
                rw [hg3.block b (by simp; omega) (fun e => hneb e.symm), Below.heap_alloc _ _ _ (by omega)]
                exact hR2
              have hG3 : w.grownBy w3 (some b) := ((HG.out.andThen hg2 (fun j hj => .inr hj)).andThen (galloc w2 _ none) (fun j hj => by cases hj)).andThen hg3 (fun j hj => .inl (by have := (HO.out.lt j hj).1; omega))
              have hZ3 : w3.heap[w.heap.size]? = wr.heap[w.heap.size]? := by
                rw [hg3.block _ (by simp; omega) (fun e => by have := (HO.out.lt _ e.symm).1; omega), Below.heap_alloc _ _ _ (by omega), hg2.block _ (by omega) (by simp; omega)]
              have hz3 : w2.heap.size < w3.heap.size := by have := hg3.size; simp at this; omega
              have gs : w3.grownBy (w3.setCell ⟨w.heap.size + 1, 5, none⟩ (.slice (some ⟨g, 0, none⟩) (acc.length + 1) cap)) (some (w.heap.size + 1)) := gset w3 ⟨w.heap.size + 1, 5, none⟩ _
              refine ⟨p', _, _, hp', hr', hR3.far gs (by omega), hG3.andThen gs (fun j hj => .inl (by injection hj with hj; omega)), ?_, set5_heap (hv3.trans HV.out) _, hown3.kept gs (.inr ?_), hE3.on (Stays.grown gs fun x hx e => ?_)⟩
              · refine hid ?_
                rw [gs.block _ (by omega) (by simp), hZ3]
                exact HZ.out
              · intro e
                have := (hown3.lt _ e).1
                omega
              · injection e with e
                omega
        case rest =>
          obtain ⟨q2, iv2, xs2, hq2, HQ2, HR2, HG2, HZ2, HV2, HO2, HE2⟩ := hcut
          have hq2q : q' ≤ q2 := by
            have := hrl
            rw [HQ2.out, from_length] at this
            omega
          clear y0 y1 y2 y3 y4 y5 yf SO HC hne1 hneb hrl
          go_wp2_with fail
          refine (takes_any _ b s q2 d 93 (by decide) HR2.out hq2 (by omega)).mono ?_
          rintro e w4 ⟨q4, hq4, hr4, hg4, ht4⟩
          have hz4 : w.heap.size + 1 < wc.heap.size := (Array.getElem?_eq_some_iff.1 HV2.out).1
          have hz44 := hg4.size
          have c0 : w4.heap[w.heap.size]? = some (.cells #[.int .i64 0, .bool false, .int .i64 0, .string ⟨#[]⟩, .slice none 0 0, .slice none 0 0] 26 (0, 0)) := by
            rw [hg4.block _ (by omega) (by simp; omega)]; exact HZ2.out
          have c1 : w4.heap[w.heap.size + 1]? = some (.cells #[.int .i64 5, .bool false, .int .i64 0, .string ⟨#[]⟩, .slice none 0 0, iv2] 26 (0, 0)) := by
            rw [hg4.block _ (by omega) (by simp; omega)]; exact HV2.out
          have hgg4 : w.grownBy w4 (some b) := gtrans HG2.out hg4
          have hO4 := HO2.out.kept hg4 (.inr (fun e => by have := (HO2.out.lt _ e).1; omega))
          have hE4 := HE2.out.on (Stays.grown hg4 fun x hx e => by injection e with e; omega)
          have HC0 := hid c0
          have HC1 := hid c1
          have HR4 := hid hr4
          have HGG4 := hid hgg4
          have HO4 := hid hO4
          have HE4 := hid hE4
          clear hr4 hg4 hgg4 hO4 hE4
          rcases ht4 with ⟨rfl, hsk⟩ | ⟨rfl, hsk, hnh⟩
          · -- the list's end
            have HF : Hid (R = .ok (.mk 5 false 0 ⟨#[]⟩ [] (acc ++ [t])) (from_ s q4)) := by
              rw [HL.out, HQ2.out, hsk]; exact rfl
            obtain ⟨ia2, ic2, hiv2, hil2, hit2⟩ := items_of (l := acc ++ [t]) (F := fun g => w.heap.size + 2 ≤ g) (by rw [List.length_append]; exact HO4.out) (Elems.kept (Stays.refl _ _) (fun g hg _ => hg.1.1) HE4.out) (fun g hg => (HO4.out.lt g hg).1)
            rw [List.length_append] at hiv2
            have hiv3 : iv2 = .slice ia2 (acc.length + 1) ic2 := hiv2
            clear hiv2
            subst hiv3
            obtain ⟨⟨x0, x1, x2, x3, x4, x5⟩, xf⟩ := cells6 c0
            obtain ⟨⟨y0, y1, y2, y3, y4, y5⟩, yf⟩ := cells6 c1
            have HIT := hid hit2
            have HIL := hid hil2
            clear hsk c0 c1 hit2 hil2
            go_wp2_with fail
            have HFin := put6_heap (k := w.heap.size) HC0.out (.int .i64 5) (.bool false) (.int .i64 0) (.string ⟨#[]⟩) (.slice none 0 0) (.slice ia2 (acc.length + 1) ic2)
            have HPg := put6_grown w4 w.heap.size (.int .i64 5) (.bool false) (.int .i64 0) (.string ⟨#[]⟩) (.slice none 0 0) (.slice ia2 (acc.length + 1) ic2)
            obtain ⟨⟨k0, k1, k2, k3, k4, k5⟩, _⟩ := cells6 HFin
            unfold put6 at k0 k1 k2 k3 k4 k5
            refine bodyPost_ret (v := .agg #[.int .i64 5, .bool false, .int .i64 0, .string ⟨#[]⟩, .slice none 0 0, .slice ia2 (acc.length + 1) ic2]) ?_ rfl ⟨?_, ?_⟩
            · simp [results, Tryz.results77, go_sem, k0, k1, k2, k3, k4, k5]
            · rw [HF.out]
              refine ⟨_, rfl, ?_, q4, hq4, rfl, HR4.out.far HPg (by omega)⟩
              rw [RdT_eq]
              refine ⟨_, ia2, ic2, by simp [Tree.items, Tree.kind, Tree.flag, Tree.n, Tree.text], RdK.nil _ _, HIL.out, fun h0 => ?_⟩
              obtain ⟨g, o, h1, h2, h3, h4⟩ := HIT.out h0
              refine ⟨g, o, h1, Nat.lt_of_lt_of_le h2 HPg.size, by omega, ?_⟩
              exact RdIs.kept (F := fun g => w.heap.size + 2 ≤ g) (Stays.grown HPg fun x hx e => by injection e with e; omega) (fun x hx _ => by omega) h3 h2 _ h4
            · exact HGG4.out.andThen HPg (fun j hj => .inl (by injection hj with hj; omega))
          · have HSK := hid hsk
            have HNH := hid hnh
            clear hsk hnh c0 c1
            go_wp2_with fail
            refine (wants_any _ b s q4 d 44 (by decide) HR4.out hq4 (by omega)).mono ?_
            unfold faulted
            rintro e w5 ⟨q5, hq5, hr5, hg5, ht5⟩
            have hsk2 : skip r = skip (from_ s q4) := by rw [HQ2.out, ← HSK.out, skip_skip]
            rcases ht5 with ⟨rfl, hsk5⟩ | ⟨rfl, hsk5, hnh5⟩
            · have HF : Hid (R = listGo (itemR k) f (from_ s q5) (acc ++ [t])) := by
                rw [HL.out, hsk2, hsk5]; exact rfl
              have hq5q : q2 + 1 ≤ q5 := by
                have h1 := skip_le (from_ s q2)
                rw [← HQ2.out, hsk2, hsk5, List.length_cons, from_length] at h1
                rw [HQ2.out, from_length] at h1
                omega
              have hO5 := HO4.out.kept hg5 (.inr (fun e => by have := (HO4.out.lt _ e).1; omega))
              have hE5 := HE4.out.on (Stays.grown hg5 fun x hx e => by injection e with e; omega)
              have hz5 : w5.heap[w.heap.size]? = some (.cells #[.int .i64 0, .bool false, .int .i64 0, .string ⟨#[]⟩, .slice none 0 0, .slice none 0 0] 26 (0, 0)) := by
                rw [hg5.block _ (by omega) (by simp; omega)]; exact HC0.out
              have hv5 : w5.heap[w.heap.size + 1]? = some (.cells #[.int .i64 5, .bool false, .int .i64 0, .string ⟨#[]⟩, .slice none 0 0, iv2] 26 (0, 0)) := by
                rw [hg5.block _ (by omega) (by simp; omega)]; exact HC1.out
              have HR5 := hid hr5
              have HG5 := hid (gtrans HGG4.out hg5)
              have HZ5 := hid hz5
              have HV5 := hid hv5
              have HO5 := hid hO5
              have HE5 := hid hE5
              clear hO5 hE5 hz5 hv5 hr5 hg5 hsk2 hsk5
              go_wp2_with fail
              refine ⟨⟨q5, f, acc ++ [t], iv2, xs2, hq5, by omega, by rw [List.length_append]; show acc.length + 1 ≤ q5; omega, HR5, HG5, HZ5, HV5, by rw [List.length_append]; exact HO5, HE5, HF⟩, ?_⟩
              rw [HR5.out.atOf, HR.out.atOf]
              omega
            · have HF : Hid (R = .bad 22 (from_ s q5)) := by
                rw [HL.out, hsk2, hsk5]
                have hn93 : ∀ q', from_ s q5 ≠ 93 :: q' := fun q' e => by
                  apply HNH.out
                  have : skip (from_ s q4) = from_ s q4 := by rw [← HSK.out, skip_skip]
                  rw [← this, hsk5, e]
                  rfl
                have hn44 : ∀ q', from_ s q5 ≠ 44 :: q' := fun q' e => by
                  apply hnh5
                  rw [e]
                  rfl
                generalize from_ s q5 = l at hn93 hn44
                show (match l with | 93 :: q' => _ | 44 :: q' => _ | p => _) = _
                split
                · exact absurd rfl (hn93 _)
                · exact absurd rfl (hn44 _)
                · rfl
              have HG5 := hid (gtrans HGG4.out hg5)
              clear hsk2 hsk5 hnh5 hr5 hg5
              go_wp2_with fail
              exact ⟨rfl, by rw [HF.out]; exact ⟨q5, hq5, rfl, rfl⟩, HG5.out⟩
end Go.Proofs.YtdmnhkgiojkphaaGreatDoor
