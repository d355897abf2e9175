/- The walks of appendValue, Print. -/
import Derived.Test.YtdmnhkgiojkphaaGreatDoorWalkS
import Derived.Deep.RegionHeld3
namespace Go.Proofs.YtdmnhkgiojkphaaGreatDoor
open Go Go.RowKit
open Go.RowKit (wrap32 wrap64)

theorem lit_new (u : World) (cs : Array Value) (t : TypeId) (b : Nat) (hb : b = u.heap.size) : (u.alloc (.cells cs t)).heap[b]? = some (.cells cs t (0, 0)) := by subst hb; exact heap_alloc_new u _
theorem lit_old {u : World} {b : Nat} {x : Obj} (h : u.heap[b]? = some x) (o : Obj) : (u.alloc o).heap[b]? = some x := alloc_keeps h o
theorem galloc1 {W u : World} {o : Obj} (h1 : u.os = W.os) (h2 : u.tape = W.tape) (h3 : u.output = W.output) (h4 : u.heap = (W.alloc o).heap) : W.grownBy u none :=
  have g := galloc W o none
  ⟨h1, h2, h3, by rw [h4]; exact g.size, fun k hk hn => by rw [h4]; exact g.block k hk hn⟩
theorem galloc2 {W u : World} {o p : Obj} (h1 : u.os = W.os) (h2 : u.tape = W.tape) (h3 : u.output = W.output) (h4 : u.heap = ((W.alloc o).alloc p).heap) : W.grownBy u none :=
  have g := gtrans (galloc W o none) (galloc (W.alloc o) p none)
  ⟨h1, h2, h3, by rw [h4]; exact g.size, fun k hk hn => by rw [h4]; exact g.block k hk hn⟩
theorem news1 {u : World} {b : Nat} {x : Value} {t : TypeId} {fr : Nat × Nat} (h : u.heap[b]? = some (.cells #[x] t fr)) : ∀ j v, [x][j]? = some v → u.cell? ((⟨b, 0, none⟩ : Addr).add j) = some v :=
  World.news_of_block h
theorem Lit.grown {B : Nat} {w w' : World} {v v' : Value} {acc' : List UInt8} {L : Nat} {c : UInt8} (h : Lit w v L c) (hg : w.grownBy w' v.ownBlock) (ho' : Out B w' v' acc') (hn : NotLit acc' c) : Lit w' v' L c := by
  have h2 := (hg.block L (Array.getElem?_eq_some_iff.1 h.1).1 (fun e => h.2 e.symm)).trans h.1
  exact ⟨h2, ho'.notLit hn h2⟩
theorem KeptV.step {B : Nat} {a W u w' : World} {va v v' : Value} {acc0 acc acc' : List UInt8} (h : KeptV B a va acc0 W v) (ho : Out B W v acc) (hB : B ≤ W.heap.size) (g : W.grownBy u Option.none) (hg : u.grownBy w' v.ownBlock) (ho' : Out B w' v' acc') (hp : acc0 <+: acc') : KeptV B a va acc0 w' v' :=
  (h.none hB g).grown (ho.none g) (Nat.le_trans hB g.size) hg ho' hp
theorem notLit_snoc (acc : List UInt8) (a c : UInt8) (h : a ≠ c) : NotLit (acc ++ [a]) c := by
  refine ⟨by simp, fun e => ?_⟩
  have := congrArg List.getLast? e
  simp at this
  exact h this

set_option maxRecDepth 100000 in
set_option maxHeartbeats 4000000 in
theorem appendList (n : Nat) (hA : AppV n) (hn : n ≤ 1099511627776) (t : Tree) (hcn : cntL t.items ≤ n) (hc : ∃ about, ∀ x ∈ t.items, checkT x about = 0) (hf : FitsL t.items) (h5 : t.kind = 5)
    (B : Nat) (w : World) (ov : Value) (acc : List UInt8) (v : Value) (ho : Out B w ov acc) (hv : RdT w (fun g => g < B) t v) (hB : B ≤ w.heap.size) (h8 : 8 ≤ B) (hG : Glob w)
    (hlen : acc.length + 2 + 6 * (sep (pieces t)).length + 64 ≤ 35184372088832) :
    Calls Tryz.prog 41 #[ov, v] w fun e w' => ∃ v', e = .returned v' ∧ Out B w' v' (acc ++ 91 :: (sep (pieces t) ++ [93])) ∧ KeptV B w ov acc w' v' := by
  obtain ⟨i0, hi, hz0, hzz, hz2⟩ := info_parts Tryz.info5
  have hv' := hv
  rw [RdT_eq] at hv'
  obtain ⟨kv, ia, ic, rfl, ⟨ka, kc, rfl, _⟩, _, _⟩ := hv'
  obtain ⟨A, HA⟩ : ∃ A, Hid (t.items.length = A) := ⟨_, hid rfl⟩
  obtain ⟨KN, HKN⟩ : ∃ A, Hid (t.keys.length = A) := ⟨_, hid rfl⟩
  rw [HA.out, HKN.out, h5] at hv ⊢
  obtain ⟨N, HN⟩ : ∃ N, Hid (acc.length = N) := ⟨_, hid rfl⟩
  have hown : w.ownsRow B 5 1 ov acc.length (Lib.byteCells acc) := ho
  rw [HN.out] at hown hlen
  have hlt := fun k (hk : ov.ownBlock = some k) => (ho.lt k hk).2
  have g0 : w.grownBy (w.alloc (.cells #[.int .i64 5, .bool t.flag, .int .i64 t.n, .string t.text, .slice ka KN kc, .slice ia A ic] 26)) none := galloc _ _ none
  obtain ⟨W0, hW0⟩ : ∃ W0, w.alloc (.cells #[.int .i64 5, .bool t.flag, .int .i64 t.n, .string t.text, .slice ka KN kc, .slice ia A ic] 26) = W0 := ⟨_, rfl⟩
  have c0 := boxed w (.int .i64 5) (.bool t.flag) (.int .i64 t.n) (.string t.text) (.slice ka KN kc) (.slice ia A ic)
  have hzW : W0.heap.size = w.heap.size + 1 := by rw [← hW0]; simp
  rw [hW0] at c0 g0
  have HW0 : Hid (W0.ownsRow B 5 1 ov N (Lib.byteCells acc)) := by
    have := ho.none g0
    unfold Out at this
    rw [HN.out] at this
    exact this
  have HO0 : Hid (Out B W0 ov acc) := ho.none g0
  have HKV0 : Hid (KeptV B w ov acc W0 ov) := (KeptV.refl B w ov acc).none hB g0
  have HB0 := hid c0
  have HLT := hid hlt
  have HS : Hid (∀ u : World, u.heap[w.heap.size]? = some (.cells #[.int .i64 5, .bool t.flag, .int .i64 t.n, .string t.text, .slice ka KN kc, .slice ia A ic] 26 (0, 0)) → (u.cell? ⟨w.heap.size, 0, none⟩ = some (.int .i64 5) ∧ u.cell? ⟨w.heap.size, 1, none⟩ = some (.bool t.flag) ∧ u.cell? ⟨w.heap.size, 2, none⟩ = some (.int .i64 t.n) ∧ u.cell? ⟨w.heap.size, 3, none⟩ = some (.string t.text) ∧ u.cell? ⟨w.heap.size, 4, none⟩ = some (.slice ka KN kc) ∧ u.cell? ⟨w.heap.size, 5, none⟩ = some (.slice ia A ic))) := fun u hu => (cells6 hu).1
  have HCI : Hid (∀ (wx : World) (vx : Value), KeptV B w ov acc wx vx → Out B wx vx (acc ++ [91]) → Calls Tryz.prog 73 #[vx, .agg #[.int .i64 5, .bool t.flag, .int .i64 t.n, .string t.text, .slice ka KN kc, .slice ia A ic]] wx fun e w' => ∃ v', e = .returned v' ∧ Out B w' v' (acc ++ [91] ++ sep (pieces t)) ∧ KeptV B wx vx (acc ++ [91]) w' v') := fun wx vx hk hox =>
    appendItems_any n hA hn t hcn hc hf (fun h => by rw [h5] at h; exact absurd h (by decide)) B wx vx (acc ++ [91]) _ hox (hv.on hk.1.stays) (by have := hk.1.1.size; omega) h8 (hG.kept hk.1 h8) (by simp only [List.length_append, List.length_cons, List.length_nil]; have := HN.out; omega)
  obtain ⟨⟨x0, x1, x2, x3, x4, x5⟩, xf⟩ := cells6 c0
  have hm1 : N + 1 ≤ maxLen := by unfold maxLen; omega
  obtain ⟨M, HM⟩ : ∃ M, Hid ((acc ++ [91] ++ sep (pieces t)).length = M) := ⟨_, hid rfl⟩
  have hM : M + 1 ≤ 35184372088832 := by
    have := HM.out
    simp only [List.length_append, List.length_cons, List.length_nil] at this
    have h2 := HN.out
    omega
  have hmM : M + 1 ≤ maxLen := by unfold maxLen; omega
  have hN : N + 2 ≤ 35184372088832 := by omega
  have HLen := hid hlen
  clear hv hA hn hcn hc hf ho hG hlen c0 g0 hown hlt
  go_enter Tryz.func41, Tryz.ntmps41
  go_wp2_with fail
  go_region_held3 (fun u => u.cell? ⟨w.heap.size, 0, none⟩ = some (.int .i64 5) ∧ u.cell? ⟨w.heap.size, 1, none⟩ = some (.bool t.flag) ∧ u.cell? ⟨w.heap.size, 2, none⟩ = some (.int .i64 t.n) ∧ u.cell? ⟨w.heap.size, 3, none⟩ = some (.string t.text) ∧ u.cell? ⟨w.heap.size, 4, none⟩ = some (.slice ka KN kc) ∧ u.cell? ⟨w.heap.size, 5, none⟩ = some (.slice ia A ic))
    (exact HS.out _ (by first | exact HB0.out | assumption | exact lit_old HB0.out _ | exact lit_old (lit_old HB0.out _) _ | exact lit_old (by assumption) _))
    (first
      | (refine step_append_lies _ rfl (.tmp 31) (.tmp 32) 84 rfl B 5 i0 (.int .u8 0) 1 1 Tryz.underlying84 hi hz0 hzz hz2 rfl (by decide) ov N (Lib.byteCells acc) rfl (by first | exact HW0.out.alloc _ | exact (HW0.out.alloc _).alloc _) _ 1 1 [.int .u8 91] rfl rfl (news1 (t := 5) (fr := (0, 0)) (by first | exact lit_new _ _ _ _ (by first | omega | (simp; omega)) | exact lit_old (lit_new _ _ _ _ (by first | omega | (simp; omega))) _)) (by intro u hu; simp at hu; subst hu; rfl) (by decide) hm1 (by omega) (by first | omega | (simp; omega)) _ rfl ?_
         intro g2 cap2 w2 hown2 hg2 hat2 hlt2
         have hO2 : Out B w2 (.slice (some ⟨g2, 0, none⟩) (N + 1) cap2) (acc ++ [91]) := Out.more hown2 (by rw [HN.out]; rfl) rfl
         have hb2 : w2.heap[w.heap.size]? = some (.cells #[.int .i64 5, .bool t.flag, .int .i64 t.n, .string t.text, .slice ka KN kc, .slice ia A ic] 26 (0, 0)) := (hg2.block _ (by first | omega | (simp; omega)) (fun e => absurd (HLT.out _ e.symm) (Nat.lt_irrefl _))).trans (by first | exact lit_old HB0.out _ | exact lit_old (lit_old HB0.out _) _)
         have hK2 : KeptV B w ov acc w2 (.slice (some ⟨g2, 0, none⟩) (N + 1) cap2) := KeptV.step HKV0.out HO0.out (by omega) (by first | exact galloc1 rfl rfl rfl rfl | exact galloc2 rfl rfl rfl rfl) hg2 hO2 (List.prefix_append _ _)
         first
           | have hL2 : Lit w2 (.slice (some ⟨g2, 0, none⟩) (N + 1) cap2) (w.heap.size + 1) 93 := Lit.grown ⟨by exact lit_old (lit_new _ _ _ _ (by first | omega | (simp; omega))) _, fun e => absurd (HLT.out _ e) (by omega)⟩ hg2 hO2 (notLit_snoc acc 91 93 (by decide))
           | have hL2 : Lit w2 (.slice (some ⟨g2, 0, none⟩) (N + 1) cap2) (w.heap.size + 2) 93 := Lit.grown ⟨by exact lit_new _ _ _ _ (by first | omega | (simp; omega)), fun e => absurd (HLT.out _ e) (by omega)⟩ hg2 hO2 (notLit_snoc acc 91 93 (by decide))
           | skip)
      | (go_at_call 73
         refine (HCI.out _ _ (by first | exact hK2 | exact hK2.none (by have := hK2.1.1.size; omega) (galloc1 rfl rfl rfl rfl)) (by first | exact hO2 | exact hO2.none (galloc1 rfl rfl rfl rfl))).mono ?_
         rintro e w3 ⟨v3, rfl, hO3, hK3⟩
         have hb3 : w3.heap[w.heap.size]? = some (.cells #[.int .i64 5, .bool t.flag, .int .i64 t.n, .string t.text, .slice ka KN kc, .slice ia A ic] 26 (0, 0)) := hK3.1.2 _ _ (by first | exact hb2 | exact lit_old hb2 _) (by simp) (fun c fz e => by injection e with _ e _; exact absurd e (by decide))
         have hW3 : w3.ownsRow B 5 1 v3 M (Lib.byteCells (acc ++ [91] ++ sep (pieces t))) := by have := hO3; unfold Out at this; rw [HM.out] at this; exact this
         have hK3' : KeptV B w ov acc w3 v3 := KeptV.trans (by first | exact hK2 | exact hK2.none (by have := hK2.1.1.size; omega) (galloc1 rfl rfl rfl rfl)) hK3 (List.prefix_append _ _)
         have hB3 : B ≤ w3.heap.size := by have := hK3'.1.1.size; omega
         first
           | have hL3 := hK3.2 _ _ hL2 (notLit_snoc acc 91 93 (by decide))
           | have hL3 := hK3.2 w2.heap.size 93 ⟨by exact lit_new _ _ _ _ rfl, fun e => by simp [Value.ownBlock] at e; omega⟩ (notLit_snoc acc 91 93 (by decide))
           | skip)
      | (refine step_append_lies _ rfl (.tmp 35) (.tmp 36) 84 rfl B 5 i0 (.int .u8 0) 1 1 Tryz.underlying84 hi hz0 hzz hz2 rfl (by decide) v3 M (Lib.byteCells (acc ++ [91] ++ sep (pieces t))) rfl (by first | exact hW3 | exact hW3.alloc _) _ 1 1 [.int .u8 93] rfl rfl (news1 (t := 5) (fr := (0, 0)) (by first | exact hL3.1 | exact lit_new _ _ _ _ rfl)) (by intro u hu; simp at hu; subst hu; rfl) (by decide) hmM (by omega) (by first | exact hB3 | (simp; omega)) _ rfl ?_
         intro g4 cap4 w4 hown4 hg4 hat4 hlt4
         have hO4 : Out B w4 (.slice (some ⟨g4, 0, none⟩) (M + 1) cap4) (acc ++ [91] ++ sep (pieces t) ++ [93]) := Out.more hown4 (by rw [HM.out]; rfl) rfl
         have hK4 : KeptV B w ov acc w4 (.slice (some ⟨g4, 0, none⟩) (M + 1) cap4) := KeptV.grown (by first | exact hK3' | exact hK3'.none hB3 (galloc1 rfl rfl rfl rfl)) (by first | exact hO3 | exact hO3.none (galloc1 rfl rfl rfl rfl)) (by first | exact hB3 | (simp; omega)) hg4 hO4 (by simp only [List.append_assoc]; exact List.prefix_append _ _)
         have hb4 : w4.heap[w.heap.size]? = some (.cells #[.int .i64 5, .bool t.flag, .int .i64 t.n, .string t.text, .slice ka KN kc, .slice ia A ic] 26 (0, 0)) := (KeptV.grown (KeptV.refl B _ v3 []) (by first | exact hO3 | exact hO3.none (galloc1 rfl rfl rfl rfl)) (by first | exact hB3 | (simp; omega)) hg4 hO4 (List.nil_prefix)).1.2 _ _ (by first | exact hb3 | exact lit_old hb3 _) (by simp) (fun c fz e => by injection e with _ e _; exact absurd e (by decide))))
  all_goals
    have HO4 := hid hO4
    have HK4 := hid hK4
    clear hO4 hK4 hb4 hown4 hg4
    go_wp2_with fail
    go_ret
    refine ⟨_, rfl, ?_, HK4.out⟩
    have := HO4.out
    simp only [List.append_assoc, List.cons_append, List.nil_append] at this ⊢
    exact this

set_option maxRecDepth 100000 in
set_option maxHeartbeats 4000000 in
theorem appendMap (n : Nat) (hA : AppV n) (hn : n ≤ 1099511627776) (t : Tree) (hcn : cntL t.items ≤ n) (hc : ∃ about, ∀ x ∈ t.items, checkT x about = 0) (hf : FitsL t.items) (h5 : t.kind = 6) (hk6 : t.keys.length = t.items.length ∧ ∀ k ∈ t.keys, good k = true)
    (B : Nat) (w : World) (ov : Value) (acc : List UInt8) (v : Value) (ho : Out B w ov acc) (hv : RdT w (fun g => g < B) t v) (hB : B ≤ w.heap.size) (h8 : 8 ≤ B) (hG : Glob w)
    (hlen : acc.length + 2 + 6 * (sep (pieces t)).length + 64 ≤ 35184372088832) :
    Calls Tryz.prog 41 #[ov, v] w fun e w' => ∃ v', e = .returned v' ∧ Out B w' v' (acc ++ 123 :: (sep (pieces t) ++ [125])) ∧ KeptV B w ov acc w' v' := by
  obtain ⟨i0, hi, hz0, hzz, hz2⟩ := info_parts Tryz.info5
  have hv' := hv
  rw [RdT_eq] at hv'
  obtain ⟨kv, ia, ic, rfl, ⟨ka, kc, rfl, _⟩, _, _⟩ := hv'
  obtain ⟨A, HA⟩ : ∃ A, Hid (t.items.length = A) := ⟨_, hid rfl⟩
  obtain ⟨KN, HKN⟩ : ∃ A, Hid (t.keys.length = A) := ⟨_, hid rfl⟩
  rw [HA.out, HKN.out, h5] at hv ⊢
  obtain ⟨N, HN⟩ : ∃ N, Hid (acc.length = N) := ⟨_, hid rfl⟩
  have hown : w.ownsRow B 5 1 ov acc.length (Lib.byteCells acc) := ho
  rw [HN.out] at hown hlen
  have hlt := fun k (hk : ov.ownBlock = some k) => (ho.lt k hk).2
  have g0 : w.grownBy (w.alloc (.cells #[.int .i64 6, .bool t.flag, .int .i64 t.n, .string t.text, .slice ka KN kc, .slice ia A ic] 26)) none := galloc _ _ none
  obtain ⟨W0, hW0⟩ : ∃ W0, w.alloc (.cells #[.int .i64 6, .bool t.flag, .int .i64 t.n, .string t.text, .slice ka KN kc, .slice ia A ic] 26) = W0 := ⟨_, rfl⟩
  have c0 := boxed w (.int .i64 6) (.bool t.flag) (.int .i64 t.n) (.string t.text) (.slice ka KN kc) (.slice ia A ic)
  have hzW : W0.heap.size = w.heap.size + 1 := by rw [← hW0]; simp
  rw [hW0] at c0 g0
  have HW0 : Hid (W0.ownsRow B 5 1 ov N (Lib.byteCells acc)) := by
    have := ho.none g0
    unfold Out at this
    rw [HN.out] at this
    exact this
  have HO0 : Hid (Out B W0 ov acc) := ho.none g0
  have HKV0 : Hid (KeptV B w ov acc W0 ov) := (KeptV.refl B w ov acc).none hB g0
  have HB0 := hid c0
  have HLT := hid hlt
  have HS : Hid (∀ u : World, u.heap[w.heap.size]? = some (.cells #[.int .i64 6, .bool t.flag, .int .i64 t.n, .string t.text, .slice ka KN kc, .slice ia A ic] 26 (0, 0)) → (u.cell? ⟨w.heap.size, 0, none⟩ = some (.int .i64 6) ∧ u.cell? ⟨w.heap.size, 1, none⟩ = some (.bool t.flag) ∧ u.cell? ⟨w.heap.size, 2, none⟩ = some (.int .i64 t.n) ∧ u.cell? ⟨w.heap.size, 3, none⟩ = some (.string t.text) ∧ u.cell? ⟨w.heap.size, 4, none⟩ = some (.slice ka KN kc) ∧ u.cell? ⟨w.heap.size, 5, none⟩ = some (.slice ia A ic))) := fun u hu => (cells6 hu).1
  have HCI : Hid (∀ (wx : World) (vx : Value), KeptV B w ov acc wx vx → Out B wx vx (acc ++ [123]) → Calls Tryz.prog 73 #[vx, .agg #[.int .i64 6, .bool t.flag, .int .i64 t.n, .string t.text, .slice ka KN kc, .slice ia A ic]] wx fun e w' => ∃ v', e = .returned v' ∧ Out B w' v' (acc ++ [123] ++ sep (pieces t)) ∧ KeptV B wx vx (acc ++ [123]) w' v') := fun wx vx hk hox =>
    appendItems_any n hA hn t hcn hc hf (fun _ => hk6) B wx vx (acc ++ [123]) _ hox (hv.on hk.1.stays) (by have := hk.1.1.size; omega) h8 (hG.kept hk.1 h8) (by simp only [List.length_append, List.length_cons, List.length_nil]; have := HN.out; omega)
  obtain ⟨⟨x0, x1, x2, x3, x4, x5⟩, xf⟩ := cells6 c0
  have hm1 : N + 1 ≤ maxLen := by unfold maxLen; omega
  obtain ⟨M, HM⟩ : ∃ M, Hid ((acc ++ [123] ++ sep (pieces t)).length = M) := ⟨_, hid rfl⟩
  have hM : M + 1 ≤ 35184372088832 := by
    have := HM.out
    simp only [List.length_append, List.length_cons, List.length_nil] at this
    have h2 := HN.out
    omega
  have hmM : M + 1 ≤ maxLen := by unfold maxLen; omega
  have hN : N + 2 ≤ 35184372088832 := by omega
  have HLen := hid hlen
  clear hv hA hn hcn hc hf ho hG hlen c0 g0 hown hlt
  go_enter Tryz.func41, Tryz.ntmps41
  go_wp2_with fail
  go_region_held3 (fun u => u.cell? ⟨w.heap.size, 0, none⟩ = some (.int .i64 6) ∧ u.cell? ⟨w.heap.size, 1, none⟩ = some (.bool t.flag) ∧ u.cell? ⟨w.heap.size, 2, none⟩ = some (.int .i64 t.n) ∧ u.cell? ⟨w.heap.size, 3, none⟩ = some (.string t.text) ∧ u.cell? ⟨w.heap.size, 4, none⟩ = some (.slice ka KN kc) ∧ u.cell? ⟨w.heap.size, 5, none⟩ = some (.slice ia A ic))
    (exact HS.out _ (by first | exact HB0.out | assumption | exact lit_old HB0.out _ | exact lit_old (lit_old HB0.out _) _ | exact lit_old (by assumption) _))
    (first
      | (refine step_append_lies _ rfl (.tmp 38) (.tmp 39) 84 rfl B 5 i0 (.int .u8 0) 1 1 Tryz.underlying84 hi hz0 hzz hz2 rfl (by decide) ov N (Lib.byteCells acc) rfl (by first | exact HW0.out.alloc _ | exact (HW0.out.alloc _).alloc _) _ 1 1 [.int .u8 123] rfl rfl (news1 (t := 5) (fr := (0, 0)) (by first | exact lit_new _ _ _ _ (by first | omega | (simp; omega)) | exact lit_old (lit_new _ _ _ _ (by first | omega | (simp; omega))) _)) (by intro u hu; simp at hu; subst hu; rfl) (by decide) hm1 (by omega) (by first | omega | (simp; omega)) _ rfl ?_
         intro g2 cap2 w2 hown2 hg2 hat2 hlt2
         have hO2 : Out B w2 (.slice (some ⟨g2, 0, none⟩) (N + 1) cap2) (acc ++ [123]) := Out.more hown2 (by rw [HN.out]; rfl) rfl
         have hb2 : w2.heap[w.heap.size]? = some (.cells #[.int .i64 6, .bool t.flag, .int .i64 t.n, .string t.text, .slice ka KN kc, .slice ia A ic] 26 (0, 0)) := (hg2.block _ (by first | omega | (simp; omega)) (fun e => absurd (HLT.out _ e.symm) (Nat.lt_irrefl _))).trans (by first | exact lit_old HB0.out _ | exact lit_old (lit_old HB0.out _) _)
         have hK2 : KeptV B w ov acc w2 (.slice (some ⟨g2, 0, none⟩) (N + 1) cap2) := KeptV.step HKV0.out HO0.out (by omega) (by first | exact galloc1 rfl rfl rfl rfl | exact galloc2 rfl rfl rfl rfl) hg2 hO2 (List.prefix_append _ _)
         first
           | have hL2 : Lit w2 (.slice (some ⟨g2, 0, none⟩) (N + 1) cap2) (w.heap.size + 1) 125 := Lit.grown ⟨by exact lit_old (lit_new _ _ _ _ (by first | omega | (simp; omega))) _, fun e => absurd (HLT.out _ e) (by omega)⟩ hg2 hO2 (notLit_snoc acc 123 125 (by decide))
           | have hL2 : Lit w2 (.slice (some ⟨g2, 0, none⟩) (N + 1) cap2) (w.heap.size + 2) 125 := Lit.grown ⟨by exact lit_new _ _ _ _ (by first | omega | (simp; omega)), fun e => absurd (HLT.out _ e) (by omega)⟩ hg2 hO2 (notLit_snoc acc 123 125 (by decide))
           | skip)
      | (go_at_call 73
         refine (HCI.out _ _ (by first | exact hK2 | exact hK2.none (by have := hK2.1.1.size; omega) (galloc1 rfl rfl rfl rfl)) (by first | exact hO2 | exact hO2.none (galloc1 rfl rfl rfl rfl))).mono ?_
         rintro e w3 ⟨v3, rfl, hO3, hK3⟩
         have hb3 : w3.heap[w.heap.size]? = some (.cells #[.int .i64 6, .bool t.flag, .int .i64 t.n, .string t.text, .slice ka KN kc, .slice ia A ic] 26 (0, 0)) := hK3.1.2 _ _ (by first | exact hb2 | exact lit_old hb2 _) (by simp) (fun c fz e => by injection e with _ e _; exact absurd e (by decide))
         have hW3 : w3.ownsRow B 5 1 v3 M (Lib.byteCells (acc ++ [123] ++ sep (pieces t))) := by have := hO3; unfold Out at this; rw [HM.out] at this; exact this
         have hK3' : KeptV B w ov acc w3 v3 := KeptV.trans (by first | exact hK2 | exact hK2.none (by have := hK2.1.1.size; omega) (galloc1 rfl rfl rfl rfl)) hK3 (List.prefix_append _ _)
         have hB3 : B ≤ w3.heap.size := by have := hK3'.1.1.size; omega
         first
           | have hL3 := hK3.2 _ _ hL2 (notLit_snoc acc 123 125 (by decide))
           | have hL3 := hK3.2 w2.heap.size 125 ⟨by exact lit_new _ _ _ _ rfl, fun e => by simp [Value.ownBlock] at e; omega⟩ (notLit_snoc acc 123 125 (by decide))
           | skip)
      | (refine step_append_lies _ rfl (.tmp 42) (.tmp 43) 84 rfl B 5 i0 (.int .u8 0) 1 1 Tryz.underlying84 hi hz0 hzz hz2 rfl (by decide) v3 M (Lib.byteCells (acc ++ [123] ++ sep (pieces t))) rfl (by first | exact hW3 | exact hW3.alloc _) _ 1 1 [.int .u8 125] rfl rfl (news1 (t := 5) (fr := (0, 0)) (by first | exact hL3.1 | exact lit_new _ _ _ _ rfl)) (by intro u hu; simp at hu; subst hu; rfl) (by decide) hmM (by omega) (by first | exact hB3 | (simp; omega)) _ rfl ?_
         intro g4 cap4 w4 hown4 hg4 hat4 hlt4
         have hO4 : Out B w4 (.slice (some ⟨g4, 0, none⟩) (M + 1) cap4) (acc ++ [123] ++ sep (pieces t) ++ [125]) := Out.more hown4 (by rw [HM.out]; rfl) rfl
         have hK4 : KeptV B w ov acc w4 (.slice (some ⟨g4, 0, none⟩) (M + 1) cap4) := KeptV.grown (by first | exact hK3' | exact hK3'.none hB3 (galloc1 rfl rfl rfl rfl)) (by first | exact hO3 | exact hO3.none (galloc1 rfl rfl rfl rfl)) (by first | exact hB3 | (simp; omega)) hg4 hO4 (by simp only [List.append_assoc]; exact List.prefix_append _ _)
         have hb4 : w4.heap[w.heap.size]? = some (.cells #[.int .i64 6, .bool t.flag, .int .i64 t.n, .string t.text, .slice ka KN kc, .slice ia A ic] 26 (0, 0)) := (KeptV.grown (KeptV.refl B _ v3 []) (by first | exact hO3 | exact hO3.none (galloc1 rfl rfl rfl rfl)) (by first | exact hB3 | (simp; omega)) hg4 hO4 (List.nil_prefix)).1.2 _ _ (by first | exact hb3 | exact lit_old hb3 _) (by simp) (fun c fz e => by injection e with _ e _; exact absurd e (by decide))))
  all_goals
    have HO4 := hid hO4
    have HK4 := hid hK4
    clear hO4 hK4 hb4 hown4 hg4
    go_wp2_with fail
    go_ret
    refine ⟨_, rfl, ?_, HK4.out⟩
    have := HO4.out
    simp only [List.append_assoc, List.cons_append, List.nil_append] at this ⊢
    exact this

set_option maxRecDepth 100000 in
set_option maxHeartbeats 2000000 in
theorem appendLeaf (t : Tree) (B : Nat) (w : World) (ov : Value) (acc : List UInt8) (v : Value) (h14 : t.kind = 1 ∨ t.kind = 2 ∨ t.kind = 3 ∨ t.kind = 4) (hg : good t.text = true) (hf : fitsN t.n) (ho : Out B w ov acc) (hv : RdT w (fun g => g < B) t v) (hB : B ≤ w.heap.size) (h8 : 8 ≤ B) (hG : Glob w)
    (hlen : acc.length + 6 * t.text.size + 30 ≤ 35184372088832) :
    Calls Tryz.prog 41 #[ov, v] w fun e w' => ∃ v', e = .returned v' ∧ Out B w' v' (acc ++ pr t) ∧ KeptV B w ov acc w' v' := by
  obtain ⟨i0, hi, hz0, hzz, hz2⟩ := info_parts Tryz.info5
  rw [RdT_eq] at hv
  obtain ⟨kv, ia, ic, rfl, ⟨ka, kc, rfl, _⟩, _, _⟩ := hv
  obtain ⟨A, HA⟩ : ∃ A, Hid (t.items.length = A) := ⟨_, hid rfl⟩
  obtain ⟨KN, HKN⟩ : ∃ A, Hid (t.keys.length = A) := ⟨_, hid rfl⟩
  rw [HA.out, HKN.out]
  obtain ⟨K, HKK⟩ : ∃ K, Hid (t.kind = K) := ⟨_, hid rfl⟩
  rw [HKK.out] at h14 ⊢
  have hpr := pr_eq t
  rw [HKK.out] at hpr
  have HPR := hid hpr
  obtain ⟨N, HN⟩ : ∃ N, Hid (acc.length = N) := ⟨_, hid rfl⟩
  rw [HN.out] at hlen
  have g0 : w.grownBy (w.alloc (.cells #[.int .i64 K, .bool t.flag, .int .i64 t.n, .string t.text, .slice ka KN kc, .slice ia A ic] 26)) none := galloc _ _ none
  obtain ⟨W0, hW0⟩ : ∃ W0, w.alloc (.cells #[.int .i64 K, .bool t.flag, .int .i64 t.n, .string t.text, .slice ka KN kc, .slice ia A ic] 26) = W0 := ⟨_, rfl⟩
  have c0 := boxed w (.int .i64 K) (.bool t.flag) (.int .i64 t.n) (.string t.text) (.slice ka KN kc) (.slice ia A ic)
  rw [hW0] at c0 g0
  have HO0 : Hid (Out B W0 ov acc) := ho.none g0
  have HKV0 : Hid (KeptV B w ov acc W0 ov) := (KeptV.refl B w ov acc).none hB g0
  have HGl : Hid (Glob W0) := hG.grown g0 (fun k hk => by cases hk)
  have hB0 : B ≤ W0.heap.size := by have := g0.size; omega
  have hW : W0.ownsRow B 5 1 ov acc.length (Lib.byteCells acc) := HO0.out
  rw [HN.out] at hW
  have HW := hid hW
  have HGd := hid hg
  have HF := hid hf
  have hm4 : N + 4 ≤ maxLen := by unfold maxLen; omega
  obtain ⟨⟨x0, x1, x2, x3, x4, x5⟩, xf⟩ := cells6 c0
  clear ho hG c0 g0 hpr hg hf hW
  rcases h14 with rfl | rfl | rfl | rfl
  · have HP : Hid (pr t = nullW) := by rw [HPR.out]; exact rfl
    go_enter Tryz.func41, Tryz.ntmps41
    go_wp2_with (at_builtin; refine Lib.wpList_append_own_string _ rfl _ _ 84 9 rfl B 5 i0 Tryz.underlying84 Tryz.underlying9 hi hz0 hzz hz2 _ _ _ rfl HW.out ⟨#[110, 117, 108, 108]⟩ rfl hm4 (by show N + 4 ≤ _; omega) hB0 ?_; intro v' w2 hown' hgrow _)
    go_ret
    have hO : Out B w2 v' (acc ++ pr t) := by rw [HP.out]; exact Out.more hown' (by rw [HN.out]; rfl) rfl
    exact ⟨v', rfl, hO, HKV0.out.grown HO0.out hB0 hgrow hO (List.prefix_append _ _)⟩
  · have HP : Hid (pr t = boolW t.flag) := by rw [HPR.out]; exact rfl
    go_enter Tryz.func41, Tryz.ntmps41
    go_wp2_with fail
    refine (appendBool_any B W0 ov acc t.flag HO0.out (by have := HN.out; omega) hB0).mono ?_
    rintro e w2 ⟨v', rfl, hO, hK⟩
    have HO := hid hO
    have HK := hid hK
    clear hO hK
    go_wp2_with fail
    go_ret
    exact ⟨v', rfl, by rw [HP.out]; exact HO.out, HKV0.out.trans HK.out (List.prefix_refl _)⟩
  · have HP : Hid (pr t = Lib.itoa t.n) := by rw [HPR.out]; exact rfl
    go_enter Tryz.func41, Tryz.ntmps41
    go_wp2_with fail
    refine (appendInt_any B W0 ov acc t.n HF.out HO0.out (by have := HN.out; omega) hB0 HGl.out h8).mono ?_
    rintro e w2 ⟨v', rfl, hO, hK⟩
    have HO := hid hO
    have HK := hid hK
    clear hO hK
    go_wp2_with fail
    go_ret
    exact ⟨v', rfl, by rw [HP.out]; exact HO.out, HKV0.out.trans HK.out (List.prefix_refl _)⟩
  · have HP : Hid (pr t = quo t.text.data.toList) := by rw [HPR.out]; exact rfl
    go_enter Tryz.func41, Tryz.ntmps41
    go_wp2_with fail
    refine (appendText_any B W0 ov acc t.text HGd.out HO0.out (by have := HN.out; omega) hB0).mono ?_
    rintro e w2 ⟨v', rfl, hO, hK⟩
    have HO := hid hO
    have HK := hid hK
    clear hO hK
    go_wp2_with fail
    go_ret
    exact ⟨v', rfl, by rw [HP.out]; exact HO.out, HKV0.out.trans HK.out (List.prefix_refl _)⟩

theorem pieces_list {t : Tree} (h : t.kind = 5) : pieces t = t.items.map pr := by unfold pieces; rw [if_neg (by rw [h]; decide)]
theorem pieces_map {t : Tree} (h : t.kind = 6) : pieces t = ents t.keys (t.items.map pr) := by unfold pieces; rw [if_pos h]
theorem pr_kind5 {t : Tree} (h : t.kind = 5) : pr t = 91 :: (sep (pieces t) ++ [93]) := by rw [pr_eq, pieces_list h, h]; rfl
theorem pr_kind6 {t : Tree} (h : t.kind = 6) : pr t = 123 :: (sep (pieces t) ++ [125]) := by rw [pr_eq, pieces_map h, h]; rfl
theorem text_le {t : Tree} {about : Nat} (h : oneE t about = 0) : t.text.size ≤ (pr t).length := by
  by_cases hk : t.kind = 4
  · have e : pr t = quo t.text.data.toList := by rw [pr_eq, hk]; rfl
    rw [e]
    have := escL_ge t.text.data.toList
    rw [Array.length_toList] at this
    have h2 : t.text.size ≤ (escL t.text.data.toList).length := this
    simp only [quo, List.length_cons, List.length_append]
    omega
  · have hs := (one_kind h).2.2.1
    unfold spareB at hs
    simp only [Bool.and_eq_true, Bool.or_eq_true, beq_iff_eq] at hs
    rcases hs.1.1.2 with h0 | h0
    · omega
    · exact absurd h0 hk
/-- appendValue appends a tree's text. -/
theorem appendValue_any : ∀ n, AppV n
  | 0 => fun _ t hct => by rw [cntT_eq] at hct; omega
  | n + 1 => by
    intro hn t hct ⟨about, hc⟩ hf B w ov acc v ho hv hB h8 hG hlen
    have h1 := check_one hc
    have hk := one_kind h1.1
    rw [Fits_eq] at hf
    have hcl : cntL t.items ≤ n := by rw [cntT_eq] at hct; omega
    by_cases h5 : t.kind = 5
    · have e := pr_kind5 h5
      rw [e] at hlen ⊢
      refine appendList n (appendValue_any n) (by omega) t hcl ⟨about + 1, h1.2⟩ hf.2 h5 B w ov acc v ho hv hB h8 hG ?_
      simp only [List.length_cons, List.length_append, List.length_nil] at hlen
      omega
    · by_cases h6 : t.kind = 6
      · have e := pr_kind6 h6
        rw [e] at hlen ⊢
        refine appendMap n (appendValue_any n) (by omega) t hcl ⟨about + 1, h1.2⟩ hf.2 h6 ⟨(hk.2.2.2.2.2.1 h6).1, List.all_eq_true.1 hk.2.2.2.2.1⟩ B w ov acc v ho hv hB h8 hG ?_
        simp only [List.length_cons, List.length_append, List.length_nil] at hlen
        omega
      · have h14 : t.kind = 1 ∨ t.kind = 2 ∨ t.kind = 3 ∨ t.kind = 4 := by omega
        have := text_le h1.1
        exact appendLeaf t B w ov acc v h14 hk.2.2.2.1 hf.1 ho hv hB h8 hG (by omega)
end Go.Proofs.YtdmnhkgiojkphaaGreatDoor

namespace Go.Proofs.YtdmnhkgiojkphaaGreatDoor
open Go Go.RowKit Go.Maps
open Go.RowKit (wrap32 wrap64)

set_option maxRecDepth 100000 in
theorem hasItems_any (w : World) (k : Int) : Calls Tryz.prog 134 #[.int .i64 k] w fun e w' => e = .returned (.bool (hasItems k)) ∧ w' = w := by
  by_cases h5 : k = 5
  · subst h5
    go_enter Tryz.func134, Tryz.ntmps134
    go_wp2_with fail
    go_ret
    exact ⟨rfl, rfl⟩
  · have e5 : (k == 5) = false := beq_eq_false_iff_ne.2 h5
    by_cases h6 : k = 6
    · subst h6
      go_enter Tryz.func134, Tryz.ntmps134
      go_wp2_with fail
      go_ret
      exact ⟨rfl, rfl⟩
    · have e6 : (k == 6) = false := beq_eq_false_iff_ne.2 h6
      have HE : Hid (hasItems k = false) := by unfold hasItems; rw [e5, e6]; exact rfl
      go_enter Tryz.func134, Tryz.ntmps134
      go_wp2_with fail
      go_ret
      exact ⟨by rw [HE.out]; rfl, rfl⟩
set_option maxRecDepth 100000 in
theorem good_any (w : World) (s : ByteArray) (hG : Glob w) (hs : s.size ≤ 1099511627776) : Calls Tryz.prog 23 #[.string s] w fun e w' => e = .returned (.bool (good s)) ∧ w.grownBy w' none := by
  have HC := hid (Tryz.utf8_ValidString s w (by omega) hG.here.1)
  go_enter Tryz.func23, Tryz.ntmps23
  go_wp2_with fail
  refine HC.out.mono ?_
  rintro e w' ⟨rfl, hb⟩
  have HB := hid hb
  clear hb
  go_wp2_with fail
  go_ret
  exact ⟨rfl, gof HB.out none⟩
set_option maxRecDepth 100000 in
set_option maxHeartbeats 1000000 in
theorem allGood_any (ks : List ByteArray) (w : World) (F : Nat → Prop) (v : Value) (hv : RdK w F ks v) (hG : Glob w) (hn : keyN ks ≤ 1099511627776) :
    Calls Tryz.prog 136 #[v] w fun e w' => e = .returned (.bool (ks.all good)) ∧ w.grownBy w' none := by
  have hkl := keyN_length ks
  have hkm : ∀ k ∈ ks, k.size ≤ 1099511627776 := fun k hk => by have := keyN_mem hk; omega
  have HKM := hid hkm
  obtain ⟨pa, ca, rfl, hca, hka⟩ := hv
  obtain ⟨A, HA⟩ : ∃ A, Hid (ks.length = A) := ⟨_, hid rfl⟩
  rw [HA.out] at hca hkl ⊢
  have hA : A ≤ 1099511627776 := by omega
  have HKA := hid hka
  clear hka hkm hkl hn
  go_enter Tryz.func136, Tryz.ntmps136
  go_wp2_with fail
  go_loopw [7] (fun iv wr => ∃ (i : Nat), iv = .int .i64 i ∧ i ≤ A ∧ Hid (w.grownBy wr none) ∧ Hid (ks.all good = (ks.drop i).all good)) (fun iv _ => A - (intOf iv).toNat)
  case atStart => exact ⟨0, rfl, Nat.zero_le _, grefl _ _, rfl⟩
  case round =>
    obtain ⟨i, rfl, hi, HG, HD⟩ := hrel
    by_cases hlt : i < A
    · have hd : decide ((i : Int) < (A : Int)) = true := decide_eq_true (by omega)
      have hit : i < ks.length := by have := HA.out; omega
      obtain ⟨g, o, rfl, hg, _, hc⟩ := HKA.out (by omega)
      have z := hc i _ (List.getElem?_eq_getElem hit)
      rw [← World.cell?_of_block (w := w) (a := ⟨g, o + i, none⟩) (HG.out.block g hg (by simp))] at z
      have hGr : Glob wr := hG.grown HG.out (fun k hk => by cases hk)
      have HC := hid (good_any wr ks[i] hGr (HKM.out _ (List.getElem_mem hit)))
      have hdr : (ks.drop i).all good = (good ks[i] && (ks.drop (i + 1)).all good) := by rw [List.drop_eq_getElem_cons hit, List.all_cons]
      have HDR := hid hdr
      clear hc hGr hdr
      go_wp2_with fail
      refine HC.out.mono ?_
      rintro e w' ⟨rfl, hg'⟩
      have HG' := hid (gtrans HG.out hg')
      clear hg'
      cases hgd : good ks[i] with
      | true =>
        have HGD := hid hgd
        clear hgd
        go_wp2_with fail
        exact ⟨⟨i + 1, rfl, by omega, HG', hid (by rw [HD.out, HDR.out, HGD.out]; rfl)⟩, by simp only [intOf]; omega⟩
      | false =>
        have HGD := hid hgd
        clear hgd
        go_wp2_with fail
        go_ret
        exact ⟨by rw [HD.out, HDR.out, HGD.out]; rfl, HG'.out⟩
    · have hd : decide ((i : Int) < (A : Int)) = false := decide_eq_false (by omega)
      go_wp2_with fail
      go_ret
      refine ⟨?_, HG.out⟩
      rw [HD.out, List.drop_eq_nil_of_le (by have := HA.out; omega)]
      rfl

/-! ### places -/
/-- How many unlike ones. -/
def distG (seen : List ByteArray) : List ByteArray → Nat
  | [] => 0
  | k :: r => (if hasK seen k = true then 0 else 1) + distG (seen ++ [k]) r
theorem distG_le (l : List ByteArray) : ∀ seen, distG seen l ≤ l.length := by
  induction l with
  | nil => intro seen; simp [distG]
  | cons k r ih =>
    intro seen
    rw [distG, List.length_cons]
    have := ih (seen ++ [k])
    split <;> omega
theorem distG_iff (l : List ByteArray) : ∀ seen, distG seen l = l.length ↔ (∀ x ∈ l, x ∉ seen) ∧ nodup l = true := by
  induction l with
  | nil => intro seen; simp [distG, nodup]
  | cons k r ih =>
    intro seen
    rw [distG, List.length_cons]
    have hle := distG_le r (seen ++ [k])
    have ih' := ih (seen ++ [k])
    simp only [nodup, Bool.and_eq_true, Bool.not_eq_true', hasK_false]
    by_cases hk : hasK seen k = true
    · rw [if_pos hk]
      constructor
      · intro h; omega
      · intro h; exact absurd (hasK_iff.1 hk) (h.1 k (by simp))
    · rw [if_neg hk]
      have hk' : k ∉ seen := fun h => hk (hasK_iff.2 h)
      constructor
      · intro h
        have h2 := ih'.1 (by omega)
        refine ⟨fun x hx => ?_, fun hm => ?_, h2.2⟩
        · rcases List.mem_cons.1 hx with rfl | hx
          · exact hk'
          · exact fun hs => h2.1 x hx (by simp [hs])
        · exact h2.1 k hm (by simp)
      · rintro ⟨h1, h2, h3⟩
        have := ih'.2 ⟨fun x hx hs => by
          rcases List.mem_append.1 hs with hs | hs
          · exact h1 x (by simp [hx]) hs
          · rw [List.mem_singleton.1 hs] at hx; exact h2 hx, h3⟩
        omega
theorem distG_nodup (l : List ByteArray) : ((l.length : Int) == (distG [] l : Int)) = nodup l := by
  have := distG_iff l []
  cases h : nodup l with
  | true =>
    have h2 := this.2 ⟨fun x _ => by simp, h⟩
    rw [h2]; simp
  | false =>
    have h2 : distG [] l ≠ l.length := fun e => by have := (this.1 e).2; rw [h] at this; cases this
    simp only [beq_eq_false_iff_ne, ne_eq]
    omega
theorem mk_mapN (w : World) (n : Nat) : (Instr.makeMap 159 (some (.int .i64 (n : Int)))).run Tryz.prog w = .ok (.map (some w.heap.size)) (w.alloc (.map #[] 0)) := by
  simp [Instr.makeMap, go_sem]

set_option maxRecDepth 100000 in
set_option maxHeartbeats 1000000 in
theorem places_any (ks : List ByteArray) (w : World) (F : Nat → Prop) (v : Value) (hv : RdK w F ks v) (hn : keyN ks ≤ 1099511627776) :
    Calls Tryz.prog 174 #[v] w fun e w' => ∃ (mb n : Nat) (D : DataW Unit), e = .returned (.map (some mb)) ∧ w.grownBy w' none ∧ w'.ownsMap Tryz.prog 9 (plainElem Tryz.prog 3) mb n D ∧ Maps.size D = distG [] ks := by
  have hkl := keyN_length ks
  have hkm : ∀ k ∈ ks, k.size ≤ 1099511627776 := fun k hk => by have := keyN_mem hk; omega
  have HKM := hid hkm
  obtain ⟨pa, ca, rfl, hca, hka⟩ := hv
  obtain ⟨A, HA⟩ : ∃ A, Hid (ks.length = A) := ⟨_, hid rfl⟩
  rw [HA.out] at hca hkl ⊢
  have hA : A ≤ 1099511627776 := by omega
  have HKA := hid hka
  have hmk := mk_mapN w A
  clear hka hkm hkl hn
  go_enter Tryz.func174, Tryz.ntmps174
  go_wp2_with fail
  go_loopw [11] (fun iv wr => ∃ (i : Nat) (D : DataW Unit), iv = .int .i64 i ∧ i ≤ A ∧ Hid (w.grownBy wr none) ∧ Hid (wr.ownsMap Tryz.prog 9 (plainElem Tryz.prog 3) w.heap.size i D) ∧ Hid (∀ k : ByteArray, Maps.has D (.string k.data.toList) = hasK (ks.take i) k) ∧ Hid (distG [] ks = Maps.size D + distG (ks.take i) (ks.drop i))) (fun iv _ => A - (intOf iv).toNat)
  case atStart => exact ⟨0, _, rfl, Nat.zero_le _, galloc _ _ none, World.ownsMap_made w Tryz.prog 9 _, fun _ => rfl, hid (by simp [Maps.size])⟩
  case round =>
    obtain ⟨i, D, rfl, hi, HG, HM, HH, HD⟩ := hrel
    by_cases hlt : i < A
    · have hd : decide ((i : Int) < (A : Int)) = true := decide_eq_true (by omega)
      have hit : i < ks.length := by have := HA.out; omega
      obtain ⟨g, o, rfl, hg, _, hc⟩ := HKA.out (by omega)
      have z := hc i _ (List.getElem?_eq_getElem hit)
      rw [← World.cell?_of_block (w := w) (a := ⟨g, o + i, none⟩) (HG.out.block g hg (by simp))] at z
      obtain ⟨K, HK⟩ : ∃ K, Hid (ks[i] = K) := ⟨_, hid rfl⟩
      rw [HK.out] at z
      have hKs : K.size ≤ 1099511627776 := by rw [← HK.out]; exact HKM.out _ (List.getElem_mem hit)
      have hkey : keyOf Tryz.prog 9 (.string K) = some (.string K.data.toList) := WideMaps.keyOf_string_mk Tryz.underlying9 (by unfold maxLen; omega)
      have hmn : i < maxLen := by unfold maxLen; omega
      have hwz : (Lit.int IntKind.i64 (i : Int)).wf = true := by
        simp [Lit.wf, IntKind.min, IntKind.max, IntKind.bits, IntKind.signed]
        omega
      have hown := HM.out
      clear hc
      go_wp2_with (at_mapUpdate; refine wpList_mapUpdate_own _ rfl _ _ _ 159 rfl 9 3 law9 Tryz.underlying159 _ w.heap.size i D rfl hown hmn _ _ _ rfl rfl hkey _ _ (plainElem_int Tryz.underlying3 hwz) ?_; intro w4 hown4 hg4)
      refine ⟨⟨i + 1, _, rfl, by omega, HG.out.andThen hg4 (fun j hj => .inl (by injection hj with hj; omega)), hown4, ?_, ?_⟩, by simp only [intOf]; omega⟩
      · rw [List.take_succ_eq_append_getElem hit, HK.out]
        obtain ⟨es, he⟩ := hown.isMap
        exact has_snoc he HH.out
      · refine hid ?_
        rw [HD.out, List.drop_eq_getElem_cons hit, distG, HK.out, Maps.size_put (hown.tidy law9), HH.out K, List.take_succ_eq_append_getElem hit, HK.out]
        cases hasK (ks.take i) K with
        | true => simp
        | false => simp; omega
    · have hd : decide ((i : Int) < (A : Int)) = false := decide_eq_false (by omega)
      go_wp2_with fail
      go_ret
      refine ⟨w.heap.size, i, D, rfl, HG.out, HM.out, ?_⟩
      have := HD.out
      rw [List.drop_eq_nil_of_le (by have := HA.out; omega)] at this
      simp [distG] at this
      exact this.symm
end Go.Proofs.YtdmnhkgiojkphaaGreatDoor

namespace Go.Proofs.YtdmnhkgiojkphaaGreatDoor
open Go Go.RowKit Go.Maps
open Go.RowKit (wrap32 wrap64)

set_option maxRecDepth 100000 in
set_option maxHeartbeats 1000000 in
theorem keysFit_any (t : Tree) (w : World) (F : Nat → Prop) (v : Value) (hv : RdT w F t v) (hn : cntT t ≤ 1099511627776) :
    Calls Tryz.prog 137 #[v] w fun e w' => e = .returned (.bool (keysFit t)) ∧ w.grownBy w' none := by
  have hkn : keyN t.keys ≤ 1099511627776 := by rw [cntT_eq] at hn; omega
  rw [RdT_eq] at hv
  obtain ⟨kv, ia, ic, rfl, hkv, _, _⟩ := hv
  have hkv0 := hkv
  obtain ⟨ka, kc, rfl, _⟩ := hkv
  have hPl : ∀ u : World, w.grownBy u none → Calls Tryz.prog 174 #[.slice ka t.keys.length kc] u fun e w' => ∃ (mb : Nat), e = .returned (.map (some mb)) ∧ u.grownBy w' none ∧ ∀ ty, (Builtin.len_ #[159] ty #[.map (some mb)]).run Tryz.prog w' = .ok (.int .i64 (distG [] t.keys : Nat)) w' := fun u hu => by
    refine (places_any t.keys u F _ (hkv0.kept (Stays.none hu) (fun _ h _ => h)) hkn).mono ?_
    rintro e w' ⟨mb, n, D, rfl, h1, h2, h3⟩
    exact ⟨mb, rfl, h1, fun ty => by rw [h2.len Tryz.underlying159 ty, h3]⟩
  have hkf : keysFit t = (((t.keys.length : Int) == (t.items.length : Int)) && ((t.keys.length : Int) == (distG [] t.keys : Int))) := by
    unfold keysFit
    rw [distG_nodup]
    congr 1
    by_cases h : t.keys.length = t.items.length
    · rw [h]; simp
    · rw [beq_eq_false_iff_ne.2 h, beq_eq_false_iff_ne.2 (by omega)]
  have HKF := hid hkf
  obtain ⟨A, HA⟩ : ∃ A, Hid (t.items.length = A) := ⟨_, hid rfl⟩
  obtain ⟨KN, HKN⟩ : ∃ A, Hid (t.keys.length = A) := ⟨_, hid rfl⟩
  obtain ⟨DN, HDN⟩ : ∃ A, Hid (distG [] t.keys = A) := ⟨_, hid rfl⟩
  rw [HA.out, HKN.out, HDN.out] at HKF
  rw [HKN.out, HDN.out] at hPl
  have HPl := hid hPl
  rw [HA.out, HKN.out]
  have g0 : w.grownBy (w.alloc (.cells #[.int .i64 t.kind, .bool t.flag, .int .i64 t.n, .string t.text, .slice ka KN kc, .slice ia A ic] 26)) none := galloc _ _ none
  obtain ⟨W0, hW0⟩ : ∃ W0, w.alloc (.cells #[.int .i64 t.kind, .bool t.flag, .int .i64 t.n, .string t.text, .slice ka KN kc, .slice ia A ic] 26) = W0 := ⟨_, rfl⟩
  have c0 := boxed w (.int .i64 t.kind) (.bool t.flag) (.int .i64 t.n) (.string t.text) (.slice ka KN kc) (.slice ia A ic)
  rw [hW0] at c0 g0
  have HG0 := hid g0
  have HC0 := hid c0
  obtain ⟨⟨x0, x1, x2, x3, x4, x5⟩, xf⟩ := cells6 c0
  have SO : Hid (∀ u : World, u.heap[w.heap.size]? = some (.cells #[.int .i64 t.kind, .bool t.flag, .int .i64 t.n, .string t.text, .slice ka KN kc, .slice ia A ic] 26 (0, 0)) → u.cell? ⟨w.heap.size, 4, none⟩ = some (.slice ka KN kc) ∧ u.cell? ⟨w.heap.size, 5, none⟩ = some (.slice ia A ic)) := fun u hu => ⟨(cells6 hu).1.2.2.2.2.1, (cells6 hu).1.2.2.2.2.2⟩
  clear c0 g0 hPl hkf hkv0 hn hkn
  by_cases hlen : KN = A
  · subst hlen
    have hbb : ((KN : Int) == (KN : Int)) = true := by simp
    have HBB := hid hbb
    clear hbb
    go_enter Tryz.func137, Tryz.ntmps137
    go_wp2_with fail
    go_region_held (fun u => u.cell? ⟨w.heap.size, 4, none⟩ = some (.slice ka KN kc) ∧ u.cell? ⟨w.heap.size, 5, none⟩ = some (.slice ia KN ic))
      (exact SO.out _ (by first | exact HC0.out | assumption))
      (first | (go_at_call 174; refine (HPl.out _ (gtrans HG0.out (gdrew1 W0 none))).mono ?_; rintro e w2 ⟨mb, rfl, hg2, hm2⟩; have hb2 : w2.heap[w.heap.size]? = some (.cells #[.int .i64 t.kind, .bool t.flag, .int .i64 t.n, .string t.text, .slice ka KN kc, .slice ia KN ic] 26 (0, 0)) := (hg2.block _ (Array.getElem?_eq_some_iff.1 HC0.out).1 (by simp)).trans HC0.out))
    all_goals
      have HG2 := hid (gtrans (gtrans HG0.out (gdrew1 W0 none)) hg2)
      clear hg2 hb2
      go_wp2_with fail
      go_ret
      refine ⟨?_, HG2.out⟩
      rw [HKF.out, HBB.out, Bool.true_and]
      rfl
  · have hbb : ((KN : Int) == (A : Int)) = false := beq_eq_false_iff_ne.2 (by omega)
    have hbn : (KN == A) = false := beq_eq_false_iff_ne.2 hlen
    go_enter Tryz.func137, Tryz.ntmps137
    go_wp2_with fail
    go_quiet (fail)
    go_wp2_with fail
    go_ret
    refine ⟨?_, gtrans HG0.out (gdrew W0 _ none)⟩
    rw [HKF.out, hbb, Bool.false_and]
    rfl
end Go.Proofs.YtdmnhkgiojkphaaGreatDoor
