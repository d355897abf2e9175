/- The reference's one, check, Check, walked. -/
import Derived.Test.YtdmnhkgiojkphaaGreatDoorPgG
import Derived.Test.YtdmnhkgiojkphaaGreatDoorPgC
import Derived.Test.YtdmnhkgiojkphaaGreatDoorX20
namespace Go.Proofs.YtdmnhkgiojkphaaGreatDoor
open Go Go.RowKit Go.Maps
open Go.RowKit (wrap32 wrap64)

theorem keyN_len (ks : List ByteArray) : ks.length ≤ keyN ks := by
  induction ks with
  | nil => simp [keyN]
  | cons x r ih => rw [keyN, List.length_cons]; omega

set_option maxRecDepth 100000 in
set_option maxHeartbeats 8000000 in
theorem oneR_deep5 (t : Tree) (about : Nat) (w : World) (F : Nat → Prop) (v : Value) (hv : RdT w F t v) (hn : cntT t ≤ 1099511627776) (ha : about ≤ 1000) (hcl : t.kind = 5 ∧ 32 ≤ about) :
    Calls Tryz.prog 67 #[v, .int .i64 about] w fun e w' => e = .returned (.int .i64 (oneE t about)) ∧ w.grownBy w' none := by
  rw [RdT_eq] at hv
  obtain ⟨kv, ia, ic, rfl, hkv, _, _⟩ := hv
  obtain ⟨ka, kc, rfl⟩ := hkv.slice
  have hkn : keyN t.keys ≤ 1099511627776 := by rw [cntT_eq] at hn; omega
  have htn : t.text.size ≤ 1099511627776 := by rw [cntT_eq] at hn; omega
  have hkl := keyN_len t.keys
  have hGood : ∀ u : World, Calls Tryz.prog 24 #[.string t.text] u fun e w' => e = .returned (.bool (good t.text)) ∧ w' = u := fun u => goodR_any t.text u htn
  have hKey : ∀ k ∈ t.keys, ∀ (u : World), Calls Tryz.prog 24 #[.string k] u fun e w' => e = .returned (.bool (good k)) ∧ w' = u := fun k hk u => goodR_any _ u (by have := keyN_mem hk; omega)
  have hTw : ∀ u : World, w.grownBy u none → Calls Tryz.prog 129 #[.slice ka t.keys.length kc] u fun e w' => e = .returned (.bool (!nodup t.keys)) ∧ u.grownBy w' none := fun u hu => twice_any t.keys (by omega) u (fun _ => True) _ (hkv.kept (Stays.grown hu (fun _ _ => by simp)) (fun _ _ _ => trivial))
  have hAt : 0 < t.keys.length → ∃ g o, ka = some ⟨g, o, none⟩ ∧ ∀ (i : Nat) (k : ByteArray), t.keys[i]? = some k → ∀ (u : World), w.grownBy u none → u.cell? ⟨g, o + i, none⟩ = some (.string k) := fun h0 => by
    obtain ⟨g, o, e, hg, -, hc⟩ := (show _ from hkv.choose_spec.choose_spec.2.2) h0
    have e0 := hkv.choose_spec.choose_spec.1
    injection e0 with e1 e2 e3
    refine ⟨g, o, by rw [e1]; exact e, fun i k hi u hu => ?_⟩
    rw [World.cell?_of_block (w := w) (a := ⟨g, o + i, none⟩) (hu.block g hg (by simp))]
    exact hc i k hi
  have hoe : oneE t about = oneE t about := rfl
  conv at hoe => rhs; unfold oneE
  rw [spareB_eq] at hoe
  unfold keysFit at hoe
  obtain ⟨A, HA⟩ : ∃ A, Hid (t.items.length = A) := ⟨_, hid rfl⟩
  obtain ⟨ks, HKS⟩ : ∃ A, Hid (t.keys = A) := ⟨_, hid rfl⟩
  rw [HKS.out] at hTw hKey hAt hoe hkn hkl hkv ⊢
  obtain ⟨KN, HKN⟩ : ∃ A, Hid (ks.length = A) := ⟨_, hid rfl⟩
  obtain ⟨K, HKK⟩ : ∃ K, Hid (t.kind = K) := ⟨_, hid rfl⟩
  rw [HA.out, HKN.out, HKK.out] at hoe
  rw [HKN.out] at hTw hkl hAt
  rw [HKK.out] at hcl
  rw [HA.out, HKN.out, HKK.out]
  obtain ⟨R, HR⟩ : ∃ R, Hid (oneE t about = R) := ⟨_, hid rfl⟩
  rw [HR.out] at hoe ⊢
  have HOE := hid hoe
  have HTw := hid hTw
  have HKey := hid hKey
  have HGood := hid hGood
  have HAt := hid hAt
  have hKNb : KN ≤ 1099511627776 := by omega
  have g0 : w.grownBy (w.alloc (.cells #[.int .i64 K, .bool t.flag, .int .i64 t.n, .string t.text, .slice ka KN kc, .slice ia A ic] 26)) none := galloc _ _ none
  obtain ⟨W0, hW0⟩ : ∃ W0, w.alloc (.cells #[.int .i64 K, .bool t.flag, .int .i64 t.n, .string t.text, .slice ka KN kc, .slice ia A ic] 26) = W0 := ⟨_, rfl⟩
  have c0 := boxed w (.int .i64 K) (.bool t.flag) (.int .i64 t.n) (.string t.text) (.slice ka KN kc) (.slice ia A ic)
  rw [hW0] at c0 g0
  have HG0 := hid g0
  have HB : Hid (∀ u : World, w.grownBy W0 none → W0.grownBy u none → u.heap[w.heap.size]? = some (.cells #[.int .i64 K, .bool t.flag, .int .i64 t.n, .string t.text, .slice ka KN kc, .slice ia A ic] 26 (0, 0))) := fun u _ hu => (hu.block _ (Array.getElem?_eq_some_iff.1 c0).1 (by simp)).trans c0
  replace HB : Hid (∀ u : World, W0.grownBy u none → u.heap[w.heap.size]? = some (.cells #[.int .i64 K, .bool t.flag, .int .i64 t.n, .string t.text, .slice ka KN kc, .slice ia A ic] 26 (0, 0))) := fun u hu => HB.out u HG0.out hu
  replace HTw : Hid (∀ u : World, W0.grownBy u none → Calls Tryz.prog 129 #[.slice ka KN kc] u fun e w' => e = .returned (.bool (!nodup ks)) ∧ u.grownBy w' none) := fun u hu => HTw.out u (gtrans HG0.out hu)
  have HU : Hid (∀ u : World, Calls Tryz.prog 128 #[.agg #[.int .i64 K, .bool t.flag, .int .i64 t.n, .string t.text, .slice ka KN kc, .slice ia A ic]] u fun e w' => e = .returned (.bool (spareV K t.flag t.n t.text KN A)) ∧ u.grownBy w' none) := fun u => spareR_any u K t.flag t.n t.text ka ia KN kc A ic
  obtain ⟨SP, HSP⟩ : ∃ SP, Hid (spareV K t.flag t.n t.text KN A = SP) := ⟨_, hid rfl⟩
  obtain ⟨GD, HGD⟩ : ∃ SP, Hid (good t.text = SP) := ⟨_, hid rfl⟩
  obtain ⟨ND, HND⟩ : ∃ SP, Hid (nodup ks = SP) := ⟨_, hid rfl⟩
  rw [HSP.out] at HU HOE
  rw [HGD.out] at HGood HOE
  rw [HND.out] at HTw HOE
  have hcur : W0.grownBy W0 none := grefl _ _
  obtain ⟨⟨x0, x1, x2, x3, x4, x5⟩, xf⟩ := cells6 c0
  clear c0 g0 hTw hKey hGood hoe hn hkn htn hAt hkl hkv
  obtain ⟨rfl, h32⟩ := hcl
  have h32i : (32 : Int) ≤ (about : Int) := by omega
  have o1 : decide (32 ≤ about) = true := decide_eq_true h32
  have o2 : hasItems 5 = true := by decide
  go_enter Tryz.func67, Tryz.ntmps67
  go_wp2_with (first
    | (go_at_call 128; refine (HU.out _).mono ?_; rintro e u2 ⟨rfl, hg2⟩; have hcur := gtrans hcur hg2; obtain ⟨⟨x0, x1, x2, x3, x4, x5⟩, xf⟩ := cells6 (HB.out _ hcur); clear hg2)
    | (go_at_call 24; with_reducible refine (HGood.out _).mono ?_; rintro e u3 ⟨rfl, rfl⟩)
    | (go_at_call 129; with_reducible refine (HTw.out _ hcur).mono ?_; rintro e u5 ⟨rfl, hg5⟩; have hcur := gtrans hcur hg5; obtain ⟨⟨x0, x1, x2, x3, x4, x5⟩, xf⟩ := cells6 (HB.out _ hcur); clear hg5))
  go_ret
  exact ⟨by rw [HOE.out]; simp [o1, o2], gtrans HG0.out hcur⟩
set_option maxRecDepth 100000 in
set_option maxHeartbeats 8000000 in
theorem oneR_deep6 (t : Tree) (about : Nat) (w : World) (F : Nat → Prop) (v : Value) (hv : RdT w F t v) (hn : cntT t ≤ 1099511627776) (ha : about ≤ 1000) (hcl : t.kind = 6 ∧ 32 ≤ about) :
    Calls Tryz.prog 67 #[v, .int .i64 about] w fun e w' => e = .returned (.int .i64 (oneE t about)) ∧ w.grownBy w' none := by
  rw [RdT_eq] at hv
  obtain ⟨kv, ia, ic, rfl, hkv, _, _⟩ := hv
  obtain ⟨ka, kc, rfl⟩ := hkv.slice
  have hkn : keyN t.keys ≤ 1099511627776 := by rw [cntT_eq] at hn; omega
  have htn : t.text.size ≤ 1099511627776 := by rw [cntT_eq] at hn; omega
  have hkl := keyN_len t.keys
  have hGood : ∀ u : World, Calls Tryz.prog 24 #[.string t.text] u fun e w' => e = .returned (.bool (good t.text)) ∧ w' = u := fun u => goodR_any t.text u htn
  have hKey : ∀ k ∈ t.keys, ∀ (u : World), Calls Tryz.prog 24 #[.string k] u fun e w' => e = .returned (.bool (good k)) ∧ w' = u := fun k hk u => goodR_any _ u (by have := keyN_mem hk; omega)
  have hTw : ∀ u : World, w.grownBy u none → Calls Tryz.prog 129 #[.slice ka t.keys.length kc] u fun e w' => e = .returned (.bool (!nodup t.keys)) ∧ u.grownBy w' none := fun u hu => twice_any t.keys (by omega) u (fun _ => True) _ (hkv.kept (Stays.grown hu (fun _ _ => by simp)) (fun _ _ _ => trivial))
  have hAt : 0 < t.keys.length → ∃ g o, ka = some ⟨g, o, none⟩ ∧ ∀ (i : Nat) (k : ByteArray), t.keys[i]? = some k → ∀ (u : World), w.grownBy u none → u.cell? ⟨g, o + i, none⟩ = some (.string k) := fun h0 => by
    obtain ⟨g, o, e, hg, -, hc⟩ := (show _ from hkv.choose_spec.choose_spec.2.2) h0
    have e0 := hkv.choose_spec.choose_spec.1
    injection e0 with e1 e2 e3
    refine ⟨g, o, by rw [e1]; exact e, fun i k hi u hu => ?_⟩
    rw [World.cell?_of_block (w := w) (a := ⟨g, o + i, none⟩) (hu.block g hg (by simp))]
    exact hc i k hi
  have hoe : oneE t about = oneE t about := rfl
  conv at hoe => rhs; unfold oneE
  rw [spareB_eq] at hoe
  unfold keysFit at hoe
  obtain ⟨A, HA⟩ : ∃ A, Hid (t.items.length = A) := ⟨_, hid rfl⟩
  obtain ⟨ks, HKS⟩ : ∃ A, Hid (t.keys = A) := ⟨_, hid rfl⟩
  rw [HKS.out] at hTw hKey hAt hoe hkn hkl hkv ⊢
  obtain ⟨KN, HKN⟩ : ∃ A, Hid (ks.length = A) := ⟨_, hid rfl⟩
  obtain ⟨K, HKK⟩ : ∃ K, Hid (t.kind = K) := ⟨_, hid rfl⟩
  rw [HA.out, HKN.out, HKK.out] at hoe
  rw [HKN.out] at hTw hkl hAt
  rw [HKK.out] at hcl
  rw [HA.out, HKN.out, HKK.out]
  obtain ⟨R, HR⟩ : ∃ R, Hid (oneE t about = R) := ⟨_, hid rfl⟩
  rw [HR.out] at hoe ⊢
  have HOE := hid hoe
  have HTw := hid hTw
  have HKey := hid hKey
  have HGood := hid hGood
  have HAt := hid hAt
  have hKNb : KN ≤ 1099511627776 := by omega
  have g0 : w.grownBy (w.alloc (.cells #[.int .i64 K, .bool t.flag, .int .i64 t.n, .string t.text, .slice ka KN kc, .slice ia A ic] 26)) none := galloc _ _ none
  obtain ⟨W0, hW0⟩ : ∃ W0, w.alloc (.cells #[.int .i64 K, .bool t.flag, .int .i64 t.n, .string t.text, .slice ka KN kc, .slice ia A ic] 26) = W0 := ⟨_, rfl⟩
  have c0 := boxed w (.int .i64 K) (.bool t.flag) (.int .i64 t.n) (.string t.text) (.slice ka KN kc) (.slice ia A ic)
  rw [hW0] at c0 g0
  have HG0 := hid g0
  have HB : Hid (∀ u : World, w.grownBy W0 none → W0.grownBy u none → u.heap[w.heap.size]? = some (.cells #[.int .i64 K, .bool t.flag, .int .i64 t.n, .string t.text, .slice ka KN kc, .slice ia A ic] 26 (0, 0))) := fun u _ hu => (hu.block _ (Array.getElem?_eq_some_iff.1 c0).1 (by simp)).trans c0
  replace HB : Hid (∀ u : World, W0.grownBy u none → u.heap[w.heap.size]? = some (.cells #[.int .i64 K, .bool t.flag, .int .i64 t.n, .string t.text, .slice ka KN kc, .slice ia A ic] 26 (0, 0))) := fun u hu => HB.out u HG0.out hu
  replace HTw : Hid (∀ u : World, W0.grownBy u none → Calls Tryz.prog 129 #[.slice ka KN kc] u fun e w' => e = .returned (.bool (!nodup ks)) ∧ u.grownBy w' none) := fun u hu => HTw.out u (gtrans HG0.out hu)
  have HU : Hid (∀ u : World, Calls Tryz.prog 128 #[.agg #[.int .i64 K, .bool t.flag, .int .i64 t.n, .string t.text, .slice ka KN kc, .slice ia A ic]] u fun e w' => e = .returned (.bool (spareV K t.flag t.n t.text KN A)) ∧ u.grownBy w' none) := fun u => spareR_any u K t.flag t.n t.text ka ia KN kc A ic
  obtain ⟨SP, HSP⟩ : ∃ SP, Hid (spareV K t.flag t.n t.text KN A = SP) := ⟨_, hid rfl⟩
  obtain ⟨GD, HGD⟩ : ∃ SP, Hid (good t.text = SP) := ⟨_, hid rfl⟩
  obtain ⟨ND, HND⟩ : ∃ SP, Hid (nodup ks = SP) := ⟨_, hid rfl⟩
  rw [HSP.out] at HU HOE
  rw [HGD.out] at HGood HOE
  rw [HND.out] at HTw HOE
  have hcur : W0.grownBy W0 none := grefl _ _
  obtain ⟨⟨x0, x1, x2, x3, x4, x5⟩, xf⟩ := cells6 c0
  clear c0 g0 hTw hKey hGood hoe hn hkn htn hAt hkl hkv
  obtain ⟨rfl, h32⟩ := hcl
  have h32i : (32 : Int) ≤ (about : Int) := by omega
  have o1 : decide (32 ≤ about) = true := decide_eq_true h32
  have o2 : hasItems 6 = true := by decide
  go_enter Tryz.func67, Tryz.ntmps67
  go_wp2_with (first
    | (go_at_call 128; refine (HU.out _).mono ?_; rintro e u2 ⟨rfl, hg2⟩; have hcur := gtrans hcur hg2; obtain ⟨⟨x0, x1, x2, x3, x4, x5⟩, xf⟩ := cells6 (HB.out _ hcur); clear hg2)
    | (go_at_call 24; with_reducible refine (HGood.out _).mono ?_; rintro e u3 ⟨rfl, rfl⟩)
    | (go_at_call 129; with_reducible refine (HTw.out _ hcur).mono ?_; rintro e u5 ⟨rfl, hg5⟩; have hcur := gtrans hcur hg5; obtain ⟨⟨x0, x1, x2, x3, x4, x5⟩, xf⟩ := cells6 (HB.out _ hcur); clear hg5))
  go_ret
  exact ⟨by rw [HOE.out]; simp [o1, o2], gtrans HG0.out hcur⟩
set_option maxRecDepth 100000 in
set_option maxHeartbeats 8000000 in
theorem oneR_low (t : Tree) (about : Nat) (w : World) (F : Nat → Prop) (v : Value) (hv : RdT w F t v) (hn : cntT t ≤ 1099511627776) (hcl : t.kind < 1) :
    Calls Tryz.prog 67 #[v, .int .i64 about] w fun e w' => e = .returned (.int .i64 (oneE t about)) ∧ w.grownBy w' none := by
  rw [RdT_eq] at hv
  obtain ⟨kv, ia, ic, rfl, hkv, _, _⟩ := hv
  obtain ⟨ka, kc, rfl⟩ := hkv.slice
  have hkn : keyN t.keys ≤ 1099511627776 := by rw [cntT_eq] at hn; omega
  have htn : t.text.size ≤ 1099511627776 := by rw [cntT_eq] at hn; omega
  have hkl := keyN_len t.keys
  have hGood : ∀ u : World, Calls Tryz.prog 24 #[.string t.text] u fun e w' => e = .returned (.bool (good t.text)) ∧ w' = u := fun u => goodR_any t.text u htn
  have hKey : ∀ k ∈ t.keys, ∀ (u : World), Calls Tryz.prog 24 #[.string k] u fun e w' => e = .returned (.bool (good k)) ∧ w' = u := fun k hk u => goodR_any _ u (by have := keyN_mem hk; omega)
  have hTw : ∀ u : World, w.grownBy u none → Calls Tryz.prog 129 #[.slice ka t.keys.length kc] u fun e w' => e = .returned (.bool (!nodup t.keys)) ∧ u.grownBy w' none := fun u hu => twice_any t.keys (by omega) u (fun _ => True) _ (hkv.kept (Stays.grown hu (fun _ _ => by simp)) (fun _ _ _ => trivial))
  have hAt : 0 < t.keys.length → ∃ g o, ka = some ⟨g, o, none⟩ ∧ ∀ (i : Nat) (k : ByteArray), t.keys[i]? = some k → ∀ (u : World), w.grownBy u none → u.cell? ⟨g, o + i, none⟩ = some (.string k) := fun h0 => by
    obtain ⟨g, o, e, hg, -, hc⟩ := (show _ from hkv.choose_spec.choose_spec.2.2) h0
    have e0 := hkv.choose_spec.choose_spec.1
    injection e0 with e1 e2 e3
    refine ⟨g, o, by rw [e1]; exact e, fun i k hi u hu => ?_⟩
    rw [World.cell?_of_block (w := w) (a := ⟨g, o + i, none⟩) (hu.block g hg (by simp))]
    exact hc i k hi
  have hoe : oneE t about = oneE t about := rfl
  conv at hoe => rhs; unfold oneE
  rw [spareB_eq] at hoe
  unfold keysFit at hoe
  obtain ⟨A, HA⟩ : ∃ A, Hid (t.items.length = A) := ⟨_, hid rfl⟩
  obtain ⟨ks, HKS⟩ : ∃ A, Hid (t.keys = A) := ⟨_, hid rfl⟩
  rw [HKS.out] at hTw hKey hAt hoe hkn hkl hkv ⊢
  obtain ⟨KN, HKN⟩ : ∃ A, Hid (ks.length = A) := ⟨_, hid rfl⟩
  obtain ⟨K, HKK⟩ : ∃ K, Hid (t.kind = K) := ⟨_, hid rfl⟩
  rw [HA.out, HKN.out, HKK.out] at hoe
  rw [HKN.out] at hTw hkl hAt
  rw [HKK.out] at hcl
  rw [HA.out, HKN.out, HKK.out]
  obtain ⟨R, HR⟩ : ∃ R, Hid (oneE t about = R) := ⟨_, hid rfl⟩
  rw [HR.out] at hoe ⊢
  have HOE := hid hoe
  have HTw := hid hTw
  have HKey := hid hKey
  have HGood := hid hGood
  have HAt := hid hAt
  have hKNb : KN ≤ 1099511627776 := by omega
  have g0 : w.grownBy (w.alloc (.cells #[.int .i64 K, .bool t.flag, .int .i64 t.n, .string t.text, .slice ka KN kc, .slice ia A ic] 26)) none := galloc _ _ none
  obtain ⟨W0, hW0⟩ : ∃ W0, w.alloc (.cells #[.int .i64 K, .bool t.flag, .int .i64 t.n, .string t.text, .slice ka KN kc, .slice ia A ic] 26) = W0 := ⟨_, rfl⟩
  have c0 := boxed w (.int .i64 K) (.bool t.flag) (.int .i64 t.n) (.string t.text) (.slice ka KN kc) (.slice ia A ic)
  rw [hW0] at c0 g0
  have HG0 := hid g0
  have HB : Hid (∀ u : World, w.grownBy W0 none → W0.grownBy u none → u.heap[w.heap.size]? = some (.cells #[.int .i64 K, .bool t.flag, .int .i64 t.n, .string t.text, .slice ka KN kc, .slice ia A ic] 26 (0, 0))) := fun u _ hu => (hu.block _ (Array.getElem?_eq_some_iff.1 c0).1 (by simp)).trans c0
  replace HB : Hid (∀ u : World, W0.grownBy u none → u.heap[w.heap.size]? = some (.cells #[.int .i64 K, .bool t.flag, .int .i64 t.n, .string t.text, .slice ka KN kc, .slice ia A ic] 26 (0, 0))) := fun u hu => HB.out u HG0.out hu
  replace HTw : Hid (∀ u : World, W0.grownBy u none → Calls Tryz.prog 129 #[.slice ka KN kc] u fun e w' => e = .returned (.bool (!nodup ks)) ∧ u.grownBy w' none) := fun u hu => HTw.out u (gtrans HG0.out hu)
  have HU : Hid (∀ u : World, Calls Tryz.prog 128 #[.agg #[.int .i64 K, .bool t.flag, .int .i64 t.n, .string t.text, .slice ka KN kc, .slice ia A ic]] u fun e w' => e = .returned (.bool (spareV K t.flag t.n t.text KN A)) ∧ u.grownBy w' none) := fun u => spareR_any u K t.flag t.n t.text ka ia KN kc A ic
  obtain ⟨SP, HSP⟩ : ∃ SP, Hid (spareV K t.flag t.n t.text KN A = SP) := ⟨_, hid rfl⟩
  obtain ⟨GD, HGD⟩ : ∃ SP, Hid (good t.text = SP) := ⟨_, hid rfl⟩
  obtain ⟨ND, HND⟩ : ∃ SP, Hid (nodup ks = SP) := ⟨_, hid rfl⟩
  rw [HSP.out] at HU HOE
  rw [HGD.out] at HGood HOE
  rw [HND.out] at HTw HOE
  have hcur : W0.grownBy W0 none := grefl _ _
  obtain ⟨⟨x0, x1, x2, x3, x4, x5⟩, xf⟩ := cells6 c0
  clear c0 g0 hTw hKey hGood hoe hn hkn htn hAt hkl hkv
  have q5 : (K == 5) = false := by rw [beq_eq_false_iff_ne]; omega
  have q6 : (K == 6) = false := by rw [beq_eq_false_iff_ne]; omega
  have o2 : hasItems K = false := by unfold hasItems; rw [q5, q6]; rfl
  have o1 : decide (K < 1) = true := decide_eq_true hcl
  go_enter Tryz.func67, Tryz.ntmps67
  go_wp2_with (first
    | (go_at_call 128; refine (HU.out _).mono ?_; rintro e u2 ⟨rfl, hg2⟩; have hcur := gtrans hcur hg2; obtain ⟨⟨x0, x1, x2, x3, x4, x5⟩, xf⟩ := cells6 (HB.out _ hcur); clear hg2)
    | (go_at_call 24; with_reducible refine (HGood.out _).mono ?_; rintro e u3 ⟨rfl, rfl⟩)
    | (go_at_call 129; with_reducible refine (HTw.out _ hcur).mono ?_; rintro e u5 ⟨rfl, hg5⟩; have hcur := gtrans hcur hg5; obtain ⟨⟨x0, x1, x2, x3, x4, x5⟩, xf⟩ := cells6 (HB.out _ hcur); clear hg5))
  go_ret
  exact ⟨by rw [HOE.out]; simp [o2, o1], gtrans HG0.out hcur⟩
set_option maxRecDepth 100000 in
set_option maxHeartbeats 8000000 in
theorem oneR_high (t : Tree) (about : Nat) (w : World) (F : Nat → Prop) (v : Value) (hv : RdT w F t v) (hn : cntT t ≤ 1099511627776) (hcl : 6 < t.kind) :
    Calls Tryz.prog 67 #[v, .int .i64 about] w fun e w' => e = .returned (.int .i64 (oneE t about)) ∧ w.grownBy w' none := by
  rw [RdT_eq] at hv
  obtain ⟨kv, ia, ic, rfl, hkv, _, _⟩ := hv
  obtain ⟨ka, kc, rfl⟩ := hkv.slice
  have hkn : keyN t.keys ≤ 1099511627776 := by rw [cntT_eq] at hn; omega
  have htn : t.text.size ≤ 1099511627776 := by rw [cntT_eq] at hn; omega
  have hkl := keyN_len t.keys
  have hGood : ∀ u : World, Calls Tryz.prog 24 #[.string t.text] u fun e w' => e = .returned (.bool (good t.text)) ∧ w' = u := fun u => goodR_any t.text u htn
  have hKey : ∀ k ∈ t.keys, ∀ (u : World), Calls Tryz.prog 24 #[.string k] u fun e w' => e = .returned (.bool (good k)) ∧ w' = u := fun k hk u => goodR_any _ u (by have := keyN_mem hk; omega)
  have hTw : ∀ u : World, w.grownBy u none → Calls Tryz.prog 129 #[.slice ka t.keys.length kc] u fun e w' => e = .returned (.bool (!nodup t.keys)) ∧ u.grownBy w' none := fun u hu => twice_any t.keys (by omega) u (fun _ => True) _ (hkv.kept (Stays.grown hu (fun _ _ => by simp)) (fun _ _ _ => trivial))
  have hAt : 0 < t.keys.length → ∃ g o, ka = some ⟨g, o, none⟩ ∧ ∀ (i : Nat) (k : ByteArray), t.keys[i]? = some k → ∀ (u : World), w.grownBy u none → u.cell? ⟨g, o + i, none⟩ = some (.string k) := fun h0 => by
    obtain ⟨g, o, e, hg, -, hc⟩ := (show _ from hkv.choose_spec.choose_spec.2.2) h0
    have e0 := hkv.choose_spec.choose_spec.1
    injection e0 with e1 e2 e3
    refine ⟨g, o, by rw [e1]; exact e, fun i k hi u hu => ?_⟩
    rw [World.cell?_of_block (w := w) (a := ⟨g, o + i, none⟩) (hu.block g hg (by simp))]
    exact hc i k hi
  have hoe : oneE t about = oneE t about := rfl
  conv at hoe => rhs; unfold oneE
  rw [spareB_eq] at hoe
  unfold keysFit at hoe
  obtain ⟨A, HA⟩ : ∃ A, Hid (t.items.length = A) := ⟨_, hid rfl⟩
  obtain ⟨ks, HKS⟩ : ∃ A, Hid (t.keys = A) := ⟨_, hid rfl⟩
  rw [HKS.out] at hTw hKey hAt hoe hkn hkl hkv ⊢
  obtain ⟨KN, HKN⟩ : ∃ A, Hid (ks.length = A) := ⟨_, hid rfl⟩
  obtain ⟨K, HKK⟩ : ∃ K, Hid (t.kind = K) := ⟨_, hid rfl⟩
  rw [HA.out, HKN.out, HKK.out] at hoe
  rw [HKN.out] at hTw hkl hAt
  rw [HKK.out] at hcl
  rw [HA.out, HKN.out, HKK.out]
  obtain ⟨R, HR⟩ : ∃ R, Hid (oneE t about = R) := ⟨_, hid rfl⟩
  rw [HR.out] at hoe ⊢
  have HOE := hid hoe
  have HTw := hid hTw
  have HKey := hid hKey
  have HGood := hid hGood
  have HAt := hid hAt
  have hKNb : KN ≤ 1099511627776 := by omega
  have g0 : w.grownBy (w.alloc (.cells #[.int .i64 K, .bool t.flag, .int .i64 t.n, .string t.text, .slice ka KN kc, .slice ia A ic] 26)) none := galloc _ _ none
  obtain ⟨W0, hW0⟩ : ∃ W0, w.alloc (.cells #[.int .i64 K, .bool t.flag, .int .i64 t.n, .string t.text, .slice ka KN kc, .slice ia A ic] 26) = W0 := ⟨_, rfl⟩
  have c0 := boxed w (.int .i64 K) (.bool t.flag) (.int .i64 t.n) (.string t.text) (.slice ka KN kc) (.slice ia A ic)
  rw [hW0] at c0 g0
  have HG0 := hid g0
  have HB : Hid (∀ u : World, w.grownBy W0 none → W0.grownBy u none → u.heap[w.heap.size]? = some (.cells #[.int .i64 K, .bool t.flag, .int .i64 t.n, .string t.text, .slice ka KN kc, .slice ia A ic] 26 (0, 0))) := fun u _ hu => (hu.block _ (Array.getElem?_eq_some_iff.1 c0).1 (by simp)).trans c0
  replace HB : Hid (∀ u : World, W0.grownBy u none → u.heap[w.heap.size]? = some (.cells #[.int .i64 K, .bool t.flag, .int .i64 t.n, .string t.text, .slice ka KN kc, .slice ia A ic] 26 (0, 0))) := fun u hu => HB.out u HG0.out hu
  replace HTw : Hid (∀ u : World, W0.grownBy u none → Calls Tryz.prog 129 #[.slice ka KN kc] u fun e w' => e = .returned (.bool (!nodup ks)) ∧ u.grownBy w' none) := fun u hu => HTw.out u (gtrans HG0.out hu)
  have HU : Hid (∀ u : World, Calls Tryz.prog 128 #[.agg #[.int .i64 K, .bool t.flag, .int .i64 t.n, .string t.text, .slice ka KN kc, .slice ia A ic]] u fun e w' => e = .returned (.bool (spareV K t.flag t.n t.text KN A)) ∧ u.grownBy w' none) := fun u => spareR_any u K t.flag t.n t.text ka ia KN kc A ic
  obtain ⟨SP, HSP⟩ : ∃ SP, Hid (spareV K t.flag t.n t.text KN A = SP) := ⟨_, hid rfl⟩
  obtain ⟨GD, HGD⟩ : ∃ SP, Hid (good t.text = SP) := ⟨_, hid rfl⟩
  obtain ⟨ND, HND⟩ : ∃ SP, Hid (nodup ks = SP) := ⟨_, hid rfl⟩
  rw [HSP.out] at HU HOE
  rw [HGD.out] at HGood HOE
  rw [HND.out] at HTw HOE
  have hcur : W0.grownBy W0 none := grefl _ _
  obtain ⟨⟨x0, x1, x2, x3, x4, x5⟩, xf⟩ := cells6 c0
  clear c0 g0 hTw hKey hGood hoe hn hkn htn hAt hkl hkv
  have q5 : (K == 5) = false := by rw [beq_eq_false_iff_ne]; omega
  have q6 : (K == 6) = false := by rw [beq_eq_false_iff_ne]; omega
  have l1 : ¬ K < 1 := by omega
  have o2 : hasItems K = false := by unfold hasItems; rw [q5, q6]; rfl
  have o1 : decide (6 < K) = true := decide_eq_true hcl
  have o3 : decide (K < 1) = false := decide_eq_false l1
  go_enter Tryz.func67, Tryz.ntmps67
  go_wp2_with (first
    | (go_at_call 128; refine (HU.out _).mono ?_; rintro e u2 ⟨rfl, hg2⟩; have hcur := gtrans hcur hg2; obtain ⟨⟨x0, x1, x2, x3, x4, x5⟩, xf⟩ := cells6 (HB.out _ hcur); clear hg2)
    | (go_at_call 24; with_reducible refine (HGood.out _).mono ?_; rintro e u3 ⟨rfl, rfl⟩)
    | (go_at_call 129; with_reducible refine (HTw.out _ hcur).mono ?_; rintro e u5 ⟨rfl, hg5⟩; have hcur := gtrans hcur hg5; obtain ⟨⟨x0, x1, x2, x3, x4, x5⟩, xf⟩ := cells6 (HB.out _ hcur); clear hg5))
  go_ret
  exact ⟨by rw [HOE.out]; simp [o2, o1, o3], gtrans HG0.out hcur⟩
set_option maxRecDepth 100000 in
set_option maxHeartbeats 8000000 in
theorem oneR_mid (t : Tree) (about : Nat) (w : World) (F : Nat → Prop) (v : Value) (hv : RdT w F t v) (hn : cntT t ≤ 1099511627776) (hcl : 1 ≤ t.kind ∧ t.kind < 5) :
    Calls Tryz.prog 67 #[v, .int .i64 about] w fun e w' => e = .returned (.int .i64 (oneE t about)) ∧ w.grownBy w' none := by
  rw [RdT_eq] at hv
  obtain ⟨kv, ia, ic, rfl, hkv, _, _⟩ := hv
  obtain ⟨ka, kc, rfl⟩ := hkv.slice
  have hkn : keyN t.keys ≤ 1099511627776 := by rw [cntT_eq] at hn; omega
  have htn : t.text.size ≤ 1099511627776 := by rw [cntT_eq] at hn; omega
  have hkl := keyN_len t.keys
  have hGood : ∀ u : World, Calls Tryz.prog 24 #[.string t.text] u fun e w' => e = .returned (.bool (good t.text)) ∧ w' = u := fun u => goodR_any t.text u htn
  have hKey : ∀ k ∈ t.keys, ∀ (u : World), Calls Tryz.prog 24 #[.string k] u fun e w' => e = .returned (.bool (good k)) ∧ w' = u := fun k hk u => goodR_any _ u (by have := keyN_mem hk; omega)
  have hTw : ∀ u : World, w.grownBy u none → Calls Tryz.prog 129 #[.slice ka t.keys.length kc] u fun e w' => e = .returned (.bool (!nodup t.keys)) ∧ u.grownBy w' none := fun u hu => twice_any t.keys (by omega) u (fun _ => True) _ (hkv.kept (Stays.grown hu (fun _ _ => by simp)) (fun _ _ _ => trivial))
  have hAt : 0 < t.keys.length → ∃ g o, ka = some ⟨g, o, none⟩ ∧ ∀ (i : Nat) (k : ByteArray), t.keys[i]? = some k → ∀ (u : World), w.grownBy u none → u.cell? ⟨g, o + i, none⟩ = some (.string k) := fun h0 => by
    obtain ⟨g, o, e, hg, -, hc⟩ := (show _ from hkv.choose_spec.choose_spec.2.2) h0
    have e0 := hkv.choose_spec.choose_spec.1
    injection e0 with e1 e2 e3
    refine ⟨g, o, by rw [e1]; exact e, fun i k hi u hu => ?_⟩
    rw [World.cell?_of_block (w := w) (a := ⟨g, o + i, none⟩) (hu.block g hg (by simp))]
    exact hc i k hi
  have hoe : oneE t about = oneE t about := rfl
  conv at hoe => rhs; unfold oneE
  rw [spareB_eq] at hoe
  unfold keysFit at hoe
  obtain ⟨A, HA⟩ : ∃ A, Hid (t.items.length = A) := ⟨_, hid rfl⟩
  obtain ⟨ks, HKS⟩ : ∃ A, Hid (t.keys = A) := ⟨_, hid rfl⟩
  rw [HKS.out] at hTw hKey hAt hoe hkn hkl hkv ⊢
  obtain ⟨KN, HKN⟩ : ∃ A, Hid (ks.length = A) := ⟨_, hid rfl⟩
  obtain ⟨K, HKK⟩ : ∃ K, Hid (t.kind = K) := ⟨_, hid rfl⟩
  rw [HA.out, HKN.out, HKK.out] at hoe
  rw [HKN.out] at hTw hkl hAt
  rw [HKK.out] at hcl
  rw [HA.out, HKN.out, HKK.out]
  obtain ⟨R, HR⟩ : ∃ R, Hid (oneE t about = R) := ⟨_, hid rfl⟩
  rw [HR.out] at hoe ⊢
  have HOE := hid hoe
  have HTw := hid hTw
  have HKey := hid hKey
  have HGood := hid hGood
  have HAt := hid hAt
  have hKNb : KN ≤ 1099511627776 := by omega
  have g0 : w.grownBy (w.alloc (.cells #[.int .i64 K, .bool t.flag, .int .i64 t.n, .string t.text, .slice ka KN kc, .slice ia A ic] 26)) none := galloc _ _ none
  obtain ⟨W0, hW0⟩ : ∃ W0, w.alloc (.cells #[.int .i64 K, .bool t.flag, .int .i64 t.n, .string t.text, .slice ka KN kc, .slice ia A ic] 26) = W0 := ⟨_, rfl⟩
  have c0 := boxed w (.int .i64 K) (.bool t.flag) (.int .i64 t.n) (.string t.text) (.slice ka KN kc) (.slice ia A ic)
  rw [hW0] at c0 g0
  have HG0 := hid g0
  have HB : Hid (∀ u : World, w.grownBy W0 none → W0.grownBy u none → u.heap[w.heap.size]? = some (.cells #[.int .i64 K, .bool t.flag, .int .i64 t.n, .string t.text, .slice ka KN kc, .slice ia A ic] 26 (0, 0))) := fun u _ hu => (hu.block _ (Array.getElem?_eq_some_iff.1 c0).1 (by simp)).trans c0
  replace HB : Hid (∀ u : World, W0.grownBy u none → u.heap[w.heap.size]? = some (.cells #[.int .i64 K, .bool t.flag, .int .i64 t.n, .string t.text, .slice ka KN kc, .slice ia A ic] 26 (0, 0))) := fun u hu => HB.out u HG0.out hu
  replace HTw : Hid (∀ u : World, W0.grownBy u none → Calls Tryz.prog 129 #[.slice ka KN kc] u fun e w' => e = .returned (.bool (!nodup ks)) ∧ u.grownBy w' none) := fun u hu => HTw.out u (gtrans HG0.out hu)
  have HU : Hid (∀ u : World, Calls Tryz.prog 128 #[.agg #[.int .i64 K, .bool t.flag, .int .i64 t.n, .string t.text, .slice ka KN kc, .slice ia A ic]] u fun e w' => e = .returned (.bool (spareV K t.flag t.n t.text KN A)) ∧ u.grownBy w' none) := fun u => spareR_any u K t.flag t.n t.text ka ia KN kc A ic
  obtain ⟨SP, HSP⟩ : ∃ SP, Hid (spareV K t.flag t.n t.text KN A = SP) := ⟨_, hid rfl⟩
  obtain ⟨GD, HGD⟩ : ∃ SP, Hid (good t.text = SP) := ⟨_, hid rfl⟩
  obtain ⟨ND, HND⟩ : ∃ SP, Hid (nodup ks = SP) := ⟨_, hid rfl⟩
  rw [HSP.out] at HU HOE
  rw [HGD.out] at HGood HOE
  rw [HND.out] at HTw HOE
  have hcur : W0.grownBy W0 none := grefl _ _
  obtain ⟨⟨x0, x1, x2, x3, x4, x5⟩, xf⟩ := cells6 c0
  clear c0 g0 hTw hKey hGood hoe hn hkn htn hAt hkl hkv
  have q5 : (K == 5) = false := by rw [beq_eq_false_iff_ne]; omega
  have q6 : (K == 6) = false := by rw [beq_eq_false_iff_ne]; omega
  have l1 : ¬ K < 1 := by omega
  have l6 : ¬ (6 : Int) < K := by omega
  have o2 : hasItems K = false := by unfold hasItems; rw [q5, q6]; rfl
  have o1 : decide (6 < K) = false := decide_eq_false l6
  have o3 : decide (K < 1) = false := decide_eq_false l1
  cases SP with
  | false =>
    go_enter Tryz.func67, Tryz.ntmps67
    go_wp2_with (first
      | (go_at_call 128; refine (HU.out _).mono ?_; rintro e u2 ⟨rfl, hg2⟩; have hcur := gtrans hcur hg2; obtain ⟨⟨x0, x1, x2, x3, x4, x5⟩, xf⟩ := cells6 (HB.out _ hcur); clear hg2)
      | (go_at_call 24; with_reducible refine (HGood.out _).mono ?_; rintro e u3 ⟨rfl, rfl⟩)
      | (go_at_call 129; with_reducible refine (HTw.out _ hcur).mono ?_; rintro e u5 ⟨rfl, hg5⟩; have hcur := gtrans hcur hg5; obtain ⟨⟨x0, x1, x2, x3, x4, x5⟩, xf⟩ := cells6 (HB.out _ hcur); clear hg5))
    go_ret
    exact ⟨by rw [HOE.out]; simp [o2, o1, o3], gtrans HG0.out hcur⟩
  | true =>
    cases GD with
    | false =>
      go_enter Tryz.func67, Tryz.ntmps67
      go_wp2_with (first
        | (go_at_call 128; refine (HU.out _).mono ?_; rintro e u2 ⟨rfl, hg2⟩; have hcur := gtrans hcur hg2; obtain ⟨⟨x0, x1, x2, x3, x4, x5⟩, xf⟩ := cells6 (HB.out _ hcur); clear hg2)
        | (go_at_call 24; with_reducible refine (HGood.out _).mono ?_; rintro e u3 ⟨rfl, rfl⟩)
        | (go_at_call 129; with_reducible refine (HTw.out _ hcur).mono ?_; rintro e u5 ⟨rfl, hg5⟩; have hcur := gtrans hcur hg5; obtain ⟨⟨x0, x1, x2, x3, x4, x5⟩, xf⟩ := cells6 (HB.out _ hcur); clear hg5))
      go_ret
      exact ⟨by rw [HOE.out]; simp [o2, o1, o3], gtrans HG0.out hcur⟩
    | true =>
      go_enter Tryz.func67, Tryz.ntmps67
      go_wp2_with (first
        | (go_at_call 128; refine (HU.out _).mono ?_; rintro e u2 ⟨rfl, hg2⟩; have hcur := gtrans hcur hg2; obtain ⟨⟨x0, x1, x2, x3, x4, x5⟩, xf⟩ := cells6 (HB.out _ hcur); clear hg2)
        | (go_at_call 24; with_reducible refine (HGood.out _).mono ?_; rintro e u3 ⟨rfl, rfl⟩)
        | (go_at_call 129; with_reducible refine (HTw.out _ hcur).mono ?_; rintro e u5 ⟨rfl, hg5⟩; have hcur := gtrans hcur hg5; obtain ⟨⟨x0, x1, x2, x3, x4, x5⟩, xf⟩ := cells6 (HB.out _ hcur); clear hg5))
      have HC := hid hcur
      go_loop [5] (fun i => ∃ k : Nat, i = .int .i64 k ∧ k ≤ KN ∧ Hid (∀ x ∈ ks.take k, good x = true)) (fun i => KN - (intOf i).toNat)
      case atStart => exact ⟨0, rfl, Nat.zero_le _, hid (fun x hx => by simp at hx)⟩
      case round =>
        obtain ⟨k, rfl, hk, HT⟩ := hrel
        by_cases hlt : k < KN
        · have hlti : (k : Int) < (KN : Int) := by omega
          have hkl : k < ks.length := by rw [HKN.out]; exact hlt
          obtain ⟨g, o, ea, hcell⟩ := HAt.out (by omega)
          subst ea
          have z0 := hcell k ks[k] (List.getElem?_eq_getElem hkl) _ (gtrans HG0.out HC.out)
          have hky := HKey.out ks[k] (List.getElem_mem hkl)
          have hst : ks.take (k + 1) = ks.take k ++ [ks[k]] := List.take_succ_eq_append_getElem hkl
          obtain ⟨x, HX⟩ : ∃ x, Hid (ks[k] = x) := ⟨_, hid rfl⟩
          rw [HX.out] at z0 hky hst
          have HKy := hid hky
          have HST := hid hst
          clear hky hst hcell
          cases hgx : good x with
          | true =>
            as_aux_lemma =>
            rw [hgx] at HKy
            have HT2 : Hid (∀ y ∈ ks.take (k + 1), good y = true) := hid (fun y hy => by
              rw [HST.out] at hy
              rcases List.mem_append.1 hy with q | q
              · exact HT.out y q
              · rw [List.mem_singleton.1 q]; exact hgx)
            clear HT HST
            go_wp2_with (go_at_call 24; with_reducible refine (HKy.out _).mono ?_; rintro e u3 ⟨rfl, rfl⟩)
            go_round
            case rel => exact ⟨k + 1, by go_num, by omega, HT2⟩
            case measure => simp [intOf]; omega
          | false =>
            as_aux_lemma =>
            rw [hgx] at HKy
            have HALL : Hid (ks.all good = false) := hid (by
              rw [← Bool.not_eq_true, List.all_eq_true]
              intro h
              have := h (ks[k]'hkl) (List.getElem_mem hkl)
              rw [HX.out, hgx] at this
              cases this)
            clear HT HST
            go_wp2_with (go_at_call 24; with_reducible refine (HKy.out _).mono ?_; rintro e u3 ⟨rfl, rfl⟩)
            go_ret
            exact ⟨by rw [HOE.out, HALL.out]; simp [o2, o1, o3], gtrans HG0.out HC.out⟩
        · have hlti : ¬ (k : Int) < (KN : Int) := by omega
          have HALL : Hid (ks.all good = true) := hid (by
            rw [List.all_eq_true]
            intro x hx
            refine HT.out x ?_
            rw [List.take_of_length_le (by rw [HKN.out]; omega)]
            exact hx)
          clear HT
          go_wp2_with fail
          go_ret
          exact ⟨by rw [HOE.out, HALL.out]; simp [o2, o1, o3, q6], gtrans HG0.out HC.out⟩
set_option maxRecDepth 100000 in
set_option maxHeartbeats 8000000 in
theorem oneR_five (t : Tree) (about : Nat) (w : World) (F : Nat → Prop) (v : Value) (hv : RdT w F t v) (hn : cntT t ≤ 1099511627776) (ha : about ≤ 1000) (hcl : t.kind = 5 ∧ about < 32) :
    Calls Tryz.prog 67 #[v, .int .i64 about] w fun e w' => e = .returned (.int .i64 (oneE t about)) ∧ w.grownBy w' none := by
  rw [RdT_eq] at hv
  obtain ⟨kv, ia, ic, rfl, hkv, _, _⟩ := hv
  obtain ⟨ka, kc, rfl⟩ := hkv.slice
  have hkn : keyN t.keys ≤ 1099511627776 := by rw [cntT_eq] at hn; omega
  have htn : t.text.size ≤ 1099511627776 := by rw [cntT_eq] at hn; omega
  have hkl := keyN_len t.keys
  have hGood : ∀ u : World, Calls Tryz.prog 24 #[.string t.text] u fun e w' => e = .returned (.bool (good t.text)) ∧ w' = u := fun u => goodR_any t.text u htn
  have hKey : ∀ k ∈ t.keys, ∀ (u : World), Calls Tryz.prog 24 #[.string k] u fun e w' => e = .returned (.bool (good k)) ∧ w' = u := fun k hk u => goodR_any _ u (by have := keyN_mem hk; omega)
  have hTw : ∀ u : World, w.grownBy u none → Calls Tryz.prog 129 #[.slice ka t.keys.length kc] u fun e w' => e = .returned (.bool (!nodup t.keys)) ∧ u.grownBy w' none := fun u hu => twice_any t.keys (by omega) u (fun _ => True) _ (hkv.kept (Stays.grown hu (fun _ _ => by simp)) (fun _ _ _ => trivial))
  have hAt : 0 < t.keys.length → ∃ g o, ka = some ⟨g, o, none⟩ ∧ ∀ (i : Nat) (k : ByteArray), t.keys[i]? = some k → ∀ (u : World), w.grownBy u none → u.cell? ⟨g, o + i, none⟩ = some (.string k) := fun h0 => by
    obtain ⟨g, o, e, hg, -, hc⟩ := (show _ from hkv.choose_spec.choose_spec.2.2) h0
    have e0 := hkv.choose_spec.choose_spec.1
    injection e0 with e1 e2 e3
    refine ⟨g, o, by rw [e1]; exact e, fun i k hi u hu => ?_⟩
    rw [World.cell?_of_block (w := w) (a := ⟨g, o + i, none⟩) (hu.block g hg (by simp))]
    exact hc i k hi
  have hoe : oneE t about = oneE t about := rfl
  conv at hoe => rhs; unfold oneE
  rw [spareB_eq] at hoe
  unfold keysFit at hoe
  obtain ⟨A, HA⟩ : ∃ A, Hid (t.items.length = A) := ⟨_, hid rfl⟩
  obtain ⟨ks, HKS⟩ : ∃ A, Hid (t.keys = A) := ⟨_, hid rfl⟩
  rw [HKS.out] at hTw hKey hAt hoe hkn hkl hkv ⊢
  obtain ⟨KN, HKN⟩ : ∃ A, Hid (ks.length = A) := ⟨_, hid rfl⟩
  obtain ⟨K, HKK⟩ : ∃ K, Hid (t.kind = K) := ⟨_, hid rfl⟩
  rw [HA.out, HKN.out, HKK.out] at hoe
  rw [HKN.out] at hTw hkl hAt
  rw [HKK.out] at hcl
  rw [HA.out, HKN.out, HKK.out]
  obtain ⟨R, HR⟩ : ∃ R, Hid (oneE t about = R) := ⟨_, hid rfl⟩
  rw [HR.out] at hoe ⊢
  have HOE := hid hoe
  have HTw := hid hTw
  have HKey := hid hKey
  have HGood := hid hGood
  have HAt := hid hAt
  have hKNb : KN ≤ 1099511627776 := by omega
  have g0 : w.grownBy (w.alloc (.cells #[.int .i64 K, .bool t.flag, .int .i64 t.n, .string t.text, .slice ka KN kc, .slice ia A ic] 26)) none := galloc _ _ none
  obtain ⟨W0, hW0⟩ : ∃ W0, w.alloc (.cells #[.int .i64 K, .bool t.flag, .int .i64 t.n, .string t.text, .slice ka KN kc, .slice ia A ic] 26) = W0 := ⟨_, rfl⟩
  have c0 := boxed w (.int .i64 K) (.bool t.flag) (.int .i64 t.n) (.string t.text) (.slice ka KN kc) (.slice ia A ic)
  rw [hW0] at c0 g0
  have HG0 := hid g0
  have HB : Hid (∀ u : World, w.grownBy W0 none → W0.grownBy u none → u.heap[w.heap.size]? = some (.cells #[.int .i64 K, .bool t.flag, .int .i64 t.n, .string t.text, .slice ka KN kc, .slice ia A ic] 26 (0, 0))) := fun u _ hu => (hu.block _ (Array.getElem?_eq_some_iff.1 c0).1 (by simp)).trans c0
  replace HB : Hid (∀ u : World, W0.grownBy u none → u.heap[w.heap.size]? = some (.cells #[.int .i64 K, .bool t.flag, .int .i64 t.n, .string t.text, .slice ka KN kc, .slice ia A ic] 26 (0, 0))) := fun u hu => HB.out u HG0.out hu
  replace HTw : Hid (∀ u : World, W0.grownBy u none → Calls Tryz.prog 129 #[.slice ka KN kc] u fun e w' => e = .returned (.bool (!nodup ks)) ∧ u.grownBy w' none) := fun u hu => HTw.out u (gtrans HG0.out hu)
  have HU : Hid (∀ u : World, Calls Tryz.prog 128 #[.agg #[.int .i64 K, .bool t.flag, .int .i64 t.n, .string t.text, .slice ka KN kc, .slice ia A ic]] u fun e w' => e = .returned (.bool (spareV K t.flag t.n t.text KN A)) ∧ u.grownBy w' none) := fun u => spareR_any u K t.flag t.n t.text ka ia KN kc A ic
  obtain ⟨SP, HSP⟩ : ∃ SP, Hid (spareV K t.flag t.n t.text KN A = SP) := ⟨_, hid rfl⟩
  obtain ⟨GD, HGD⟩ : ∃ SP, Hid (good t.text = SP) := ⟨_, hid rfl⟩
  obtain ⟨ND, HND⟩ : ∃ SP, Hid (nodup ks = SP) := ⟨_, hid rfl⟩
  rw [HSP.out] at HU HOE
  rw [HGD.out] at HGood HOE
  rw [HND.out] at HTw HOE
  have hcur : W0.grownBy W0 none := grefl _ _
  obtain ⟨⟨x0, x1, x2, x3, x4, x5⟩, xf⟩ := cells6 c0
  clear c0 g0 hTw hKey hGood hoe hn hkn htn hAt hkl hkv
  obtain ⟨rfl, h32⟩ := hcl
  have h32i : ¬ (32 : Int) ≤ (about : Int) := by omega
  have o1 : decide (32 ≤ about) = false := decide_eq_false (by omega)
  cases SP with
  | false =>
    go_enter Tryz.func67, Tryz.ntmps67
    go_wp2_with (first
      | (go_at_call 128; refine (HU.out _).mono ?_; rintro e u2 ⟨rfl, hg2⟩; have hcur := gtrans hcur hg2; obtain ⟨⟨x0, x1, x2, x3, x4, x5⟩, xf⟩ := cells6 (HB.out _ hcur); clear hg2)
      | (go_at_call 24; with_reducible refine (HGood.out _).mono ?_; rintro e u3 ⟨rfl, rfl⟩)
      | (go_at_call 129; with_reducible refine (HTw.out _ hcur).mono ?_; rintro e u5 ⟨rfl, hg5⟩; have hcur := gtrans hcur hg5; obtain ⟨⟨x0, x1, x2, x3, x4, x5⟩, xf⟩ := cells6 (HB.out _ hcur); clear hg5))
    go_ret
    exact ⟨by rw [HOE.out]; simp [o1], gtrans HG0.out hcur⟩
  | true =>
    cases GD with
    | false =>
      go_enter Tryz.func67, Tryz.ntmps67
      go_wp2_with (first
        | (go_at_call 128; refine (HU.out _).mono ?_; rintro e u2 ⟨rfl, hg2⟩; have hcur := gtrans hcur hg2; obtain ⟨⟨x0, x1, x2, x3, x4, x5⟩, xf⟩ := cells6 (HB.out _ hcur); clear hg2)
        | (go_at_call 24; with_reducible refine (HGood.out _).mono ?_; rintro e u3 ⟨rfl, rfl⟩)
        | (go_at_call 129; with_reducible refine (HTw.out _ hcur).mono ?_; rintro e u5 ⟨rfl, hg5⟩; have hcur := gtrans hcur hg5; obtain ⟨⟨x0, x1, x2, x3, x4, x5⟩, xf⟩ := cells6 (HB.out _ hcur); clear hg5))
      go_ret
      exact ⟨by rw [HOE.out]; simp [o1], gtrans HG0.out hcur⟩
    | true =>
      go_enter Tryz.func67, Tryz.ntmps67
      go_wp2_with (first
        | (go_at_call 128; refine (HU.out _).mono ?_; rintro e u2 ⟨rfl, hg2⟩; have hcur := gtrans hcur hg2; obtain ⟨⟨x0, x1, x2, x3, x4, x5⟩, xf⟩ := cells6 (HB.out _ hcur); clear hg2)
        | (go_at_call 24; with_reducible refine (HGood.out _).mono ?_; rintro e u3 ⟨rfl, rfl⟩)
        | (go_at_call 129; with_reducible refine (HTw.out _ hcur).mono ?_; rintro e u5 ⟨rfl, hg5⟩; have hcur := gtrans hcur hg5; obtain ⟨⟨x0, x1, x2, x3, x4, x5⟩, xf⟩ := cells6 (HB.out _ hcur); clear hg5))
      have HC := hid hcur
      go_loop [5] (fun i => ∃ k : Nat, i = .int .i64 k ∧ k ≤ KN ∧ Hid (∀ x ∈ ks.take k, good x = true)) (fun i => KN - (intOf i).toNat)
      case atStart => exact ⟨0, rfl, Nat.zero_le _, hid (fun x hx => by simp at hx)⟩
      case round =>
        obtain ⟨k, rfl, hk, HT⟩ := hrel
        by_cases hlt : k < KN
        · have hlti : (k : Int) < (KN : Int) := by omega
          have hkl : k < ks.length := by rw [HKN.out]; exact hlt
          obtain ⟨g, o, ea, hcell⟩ := HAt.out (by omega)
          subst ea
          have z0 := hcell k ks[k] (List.getElem?_eq_getElem hkl) _ (gtrans HG0.out HC.out)
          have hky := HKey.out ks[k] (List.getElem_mem hkl)
          have hst : ks.take (k + 1) = ks.take k ++ [ks[k]] := List.take_succ_eq_append_getElem hkl
          obtain ⟨x, HX⟩ : ∃ x, Hid (ks[k] = x) := ⟨_, hid rfl⟩
          rw [HX.out] at z0 hky hst
          have HKy := hid hky
          have HST := hid hst
          clear hky hst hcell
          cases hgx : good x with
          | true =>
            as_aux_lemma =>
            rw [hgx] at HKy
            have HT2 : Hid (∀ y ∈ ks.take (k + 1), good y = true) := hid (fun y hy => by
              rw [HST.out] at hy
              rcases List.mem_append.1 hy with q | q
              · exact HT.out y q
              · rw [List.mem_singleton.1 q]; exact hgx)
            clear HT HST
            go_wp2_with (go_at_call 24; with_reducible refine (HKy.out _).mono ?_; rintro e u3 ⟨rfl, rfl⟩)
            go_round
            case rel => exact ⟨k + 1, by go_num, by omega, HT2⟩
            case measure => simp [intOf]; omega
          | false =>
            as_aux_lemma =>
            rw [hgx] at HKy
            have HALL : Hid (ks.all good = false) := hid (by
              rw [← Bool.not_eq_true, List.all_eq_true]
              intro h
              have := h (ks[k]'hkl) (List.getElem_mem hkl)
              rw [HX.out, hgx] at this
              cases this)
            clear HT HST
            go_wp2_with (go_at_call 24; with_reducible refine (HKy.out _).mono ?_; rintro e u3 ⟨rfl, rfl⟩)
            go_ret
            exact ⟨by rw [HOE.out, HALL.out]; simp [o1], gtrans HG0.out HC.out⟩
        · have hlti : ¬ (k : Int) < (KN : Int) := by omega
          have HALL : Hid (ks.all good = true) := hid (by
            rw [List.all_eq_true]
            intro x hx
            refine HT.out x ?_
            rw [List.take_of_length_le (by rw [HKN.out]; omega)]
            exact hx)
          clear HT
          go_wp2_with fail
          go_ret
          exact ⟨by rw [HOE.out, HALL.out]; simp [o1], gtrans HG0.out HC.out⟩
set_option maxRecDepth 100000 in
set_option maxHeartbeats 8000000 in
theorem oneR_six (t : Tree) (about : Nat) (w : World) (F : Nat → Prop) (v : Value) (hv : RdT w F t v) (hn : cntT t ≤ 1099511627776) (ha : about ≤ 1000) (hcl : t.kind = 6 ∧ about < 32) :
    Calls Tryz.prog 67 #[v, .int .i64 about] w fun e w' => e = .returned (.int .i64 (oneE t about)) ∧ w.grownBy w' none := by
  rw [RdT_eq] at hv
  obtain ⟨kv, ia, ic, rfl, hkv, _, _⟩ := hv
  obtain ⟨ka, kc, rfl⟩ := hkv.slice
  have hkn : keyN t.keys ≤ 1099511627776 := by rw [cntT_eq] at hn; omega
  have htn : t.text.size ≤ 1099511627776 := by rw [cntT_eq] at hn; omega
  have hkl := keyN_len t.keys
  have hGood : ∀ u : World, Calls Tryz.prog 24 #[.string t.text] u fun e w' => e = .returned (.bool (good t.text)) ∧ w' = u := fun u => goodR_any t.text u htn
  have hKey : ∀ k ∈ t.keys, ∀ (u : World), Calls Tryz.prog 24 #[.string k] u fun e w' => e = .returned (.bool (good k)) ∧ w' = u := fun k hk u => goodR_any _ u (by have := keyN_mem hk; omega)
  have hTw : ∀ u : World, w.grownBy u none → Calls Tryz.prog 129 #[.slice ka t.keys.length kc] u fun e w' => e = .returned (.bool (!nodup t.keys)) ∧ u.grownBy w' none := fun u hu => twice_any t.keys (by omega) u (fun _ => True) _ (hkv.kept (Stays.grown hu (fun _ _ => by simp)) (fun _ _ _ => trivial))
  have hAt : 0 < t.keys.length → ∃ g o, ka = some ⟨g, o, none⟩ ∧ ∀ (i : Nat) (k : ByteArray), t.keys[i]? = some k → ∀ (u : World), w.grownBy u none → u.cell? ⟨g, o + i, none⟩ = some (.string k) := fun h0 => by
    obtain ⟨g, o, e, hg, -, hc⟩ := (show _ from hkv.choose_spec.choose_spec.2.2) h0
    have e0 := hkv.choose_spec.choose_spec.1
    injection e0 with e1 e2 e3
    refine ⟨g, o, by rw [e1]; exact e, fun i k hi u hu => ?_⟩
    rw [World.cell?_of_block (w := w) (a := ⟨g, o + i, none⟩) (hu.block g hg (by simp))]
    exact hc i k hi
  have hoe : oneE t about = oneE t about := rfl
  conv at hoe => rhs; unfold oneE
  rw [spareB_eq] at hoe
  unfold keysFit at hoe
  obtain ⟨A, HA⟩ : ∃ A, Hid (t.items.length = A) := ⟨_, hid rfl⟩
  obtain ⟨ks, HKS⟩ : ∃ A, Hid (t.keys = A) := ⟨_, hid rfl⟩
  rw [HKS.out] at hTw hKey hAt hoe hkn hkl hkv ⊢
  obtain ⟨KN, HKN⟩ : ∃ A, Hid (ks.length = A) := ⟨_, hid rfl⟩
  obtain ⟨K, HKK⟩ : ∃ K, Hid (t.kind = K) := ⟨_, hid rfl⟩
  rw [HA.out, HKN.out, HKK.out] at hoe
  rw [HKN.out] at hTw hkl hAt
  rw [HKK.out] at hcl
  rw [HA.out, HKN.out, HKK.out]
  obtain ⟨R, HR⟩ : ∃ R, Hid (oneE t about = R) := ⟨_, hid rfl⟩
  rw [HR.out] at hoe ⊢
  have HOE := hid hoe
  have HTw := hid hTw
  have HKey := hid hKey
  have HGood := hid hGood
  have HAt := hid hAt
  have hKNb : KN ≤ 1099511627776 := by omega
  have g0 : w.grownBy (w.alloc (.cells #[.int .i64 K, .bool t.flag, .int .i64 t.n, .string t.text, .slice ka KN kc, .slice ia A ic] 26)) none := galloc _ _ none
  obtain ⟨W0, hW0⟩ : ∃ W0, w.alloc (.cells #[.int .i64 K, .bool t.flag, .int .i64 t.n, .string t.text, .slice ka KN kc, .slice ia A ic] 26) = W0 := ⟨_, rfl⟩
  have c0 := boxed w (.int .i64 K) (.bool t.flag) (.int .i64 t.n) (.string t.text) (.slice ka KN kc) (.slice ia A ic)
  rw [hW0] at c0 g0
  have HG0 := hid g0
  have HB : Hid (∀ u : World, w.grownBy W0 none → W0.grownBy u none → u.heap[w.heap.size]? = some (.cells #[.int .i64 K, .bool t.flag, .int .i64 t.n, .string t.text, .slice ka KN kc, .slice ia A ic] 26 (0, 0))) := fun u _ hu => (hu.block _ (Array.getElem?_eq_some_iff.1 c0).1 (by simp)).trans c0
  replace HB : Hid (∀ u : World, W0.grownBy u none → u.heap[w.heap.size]? = some (.cells #[.int .i64 K, .bool t.flag, .int .i64 t.n, .string t.text, .slice ka KN kc, .slice ia A ic] 26 (0, 0))) := fun u hu => HB.out u HG0.out hu
  replace HTw : Hid (∀ u : World, W0.grownBy u none → Calls Tryz.prog 129 #[.slice ka KN kc] u fun e w' => e = .returned (.bool (!nodup ks)) ∧ u.grownBy w' none) := fun u hu => HTw.out u (gtrans HG0.out hu)
  have HU : Hid (∀ u : World, Calls Tryz.prog 128 #[.agg #[.int .i64 K, .bool t.flag, .int .i64 t.n, .string t.text, .slice ka KN kc, .slice ia A ic]] u fun e w' => e = .returned (.bool (spareV K t.flag t.n t.text KN A)) ∧ u.grownBy w' none) := fun u => spareR_any u K t.flag t.n t.text ka ia KN kc A ic
  obtain ⟨SP, HSP⟩ : ∃ SP, Hid (spareV K t.flag t.n t.text KN A = SP) := ⟨_, hid rfl⟩
  obtain ⟨GD, HGD⟩ : ∃ SP, Hid (good t.text = SP) := ⟨_, hid rfl⟩
  obtain ⟨ND, HND⟩ : ∃ SP, Hid (nodup ks = SP) := ⟨_, hid rfl⟩
  rw [HSP.out] at HU HOE
  rw [HGD.out] at HGood HOE
  rw [HND.out] at HTw HOE
  have hcur : W0.grownBy W0 none := grefl _ _
  obtain ⟨⟨x0, x1, x2, x3, x4, x5⟩, xf⟩ := cells6 c0
  clear c0 g0 hTw hKey hGood hoe hn hkn htn hAt hkl hkv
  obtain ⟨rfl, h32⟩ := hcl
  have h32i : ¬ (32 : Int) ≤ (about : Int) := by omega
  have o1 : decide (32 ≤ about) = false := decide_eq_false (by omega)
  cases SP with
  | false =>
    go_enter Tryz.func67, Tryz.ntmps67
    go_wp2_with (first
      | (go_at_call 128; refine (HU.out _).mono ?_; rintro e u2 ⟨rfl, hg2⟩; have hcur := gtrans hcur hg2; obtain ⟨⟨x0, x1, x2, x3, x4, x5⟩, xf⟩ := cells6 (HB.out _ hcur); clear hg2)
      | (go_at_call 24; with_reducible refine (HGood.out _).mono ?_; rintro e u3 ⟨rfl, rfl⟩)
      | (go_at_call 129; with_reducible refine (HTw.out _ hcur).mono ?_; rintro e u5 ⟨rfl, hg5⟩; have hcur := gtrans hcur hg5; obtain ⟨⟨x0, x1, x2, x3, x4, x5⟩, xf⟩ := cells6 (HB.out _ hcur); clear hg5))
    go_ret
    exact ⟨by rw [HOE.out]; simp [o1], gtrans HG0.out hcur⟩
  | true =>
    cases GD with
    | false =>
      go_enter Tryz.func67, Tryz.ntmps67
      go_wp2_with (first
        | (go_at_call 128; refine (HU.out _).mono ?_; rintro e u2 ⟨rfl, hg2⟩; have hcur := gtrans hcur hg2; obtain ⟨⟨x0, x1, x2, x3, x4, x5⟩, xf⟩ := cells6 (HB.out _ hcur); clear hg2)
        | (go_at_call 24; with_reducible refine (HGood.out _).mono ?_; rintro e u3 ⟨rfl, rfl⟩)
        | (go_at_call 129; with_reducible refine (HTw.out _ hcur).mono ?_; rintro e u5 ⟨rfl, hg5⟩; have hcur := gtrans hcur hg5; obtain ⟨⟨x0, x1, x2, x3, x4, x5⟩, xf⟩ := cells6 (HB.out _ hcur); clear hg5))
      go_ret
      exact ⟨by rw [HOE.out]; simp [o1], gtrans HG0.out hcur⟩
    | true =>
      go_enter Tryz.func67, Tryz.ntmps67
      go_wp2_with (first
        | (go_at_call 128; refine (HU.out _).mono ?_; rintro e u2 ⟨rfl, hg2⟩; have hcur := gtrans hcur hg2; obtain ⟨⟨x0, x1, x2, x3, x4, x5⟩, xf⟩ := cells6 (HB.out _ hcur); clear hg2)
        | (go_at_call 24; with_reducible refine (HGood.out _).mono ?_; rintro e u3 ⟨rfl, rfl⟩)
        | (go_at_call 129; with_reducible refine (HTw.out _ hcur).mono ?_; rintro e u5 ⟨rfl, hg5⟩; have hcur := gtrans hcur hg5; obtain ⟨⟨x0, x1, x2, x3, x4, x5⟩, xf⟩ := cells6 (HB.out _ hcur); clear hg5))
      have HC := hid hcur
      go_loop [5] (fun i => ∃ k : Nat, i = .int .i64 k ∧ k ≤ KN ∧ Hid (∀ x ∈ ks.take k, good x = true)) (fun i => KN - (intOf i).toNat)
      case atStart => exact ⟨0, rfl, Nat.zero_le _, hid (fun x hx => by simp at hx)⟩
      case round =>
        obtain ⟨k, rfl, hk, HT⟩ := hrel
        by_cases hlt : k < KN
        · have hlti : (k : Int) < (KN : Int) := by omega
          have hkl : k < ks.length := by rw [HKN.out]; exact hlt
          obtain ⟨g, o, ea, hcell⟩ := HAt.out (by omega)
          subst ea
          have z0 := hcell k ks[k] (List.getElem?_eq_getElem hkl) _ (gtrans HG0.out HC.out)
          have hky := HKey.out ks[k] (List.getElem_mem hkl)
          have hst : ks.take (k + 1) = ks.take k ++ [ks[k]] := List.take_succ_eq_append_getElem hkl
          obtain ⟨x, HX⟩ : ∃ x, Hid (ks[k] = x) := ⟨_, hid rfl⟩
          rw [HX.out] at z0 hky hst
          have HKy := hid hky
          have HST := hid hst
          clear hky hst hcell
          cases hgx : good x with
          | true =>
            as_aux_lemma =>
            rw [hgx] at HKy
            have HT2 : Hid (∀ y ∈ ks.take (k + 1), good y = true) := hid (fun y hy => by
              rw [HST.out] at hy
              rcases List.mem_append.1 hy with q | q
              · exact HT.out y q
              · rw [List.mem_singleton.1 q]; exact hgx)
            clear HT HST
            go_wp2_with (go_at_call 24; with_reducible refine (HKy.out _).mono ?_; rintro e u3 ⟨rfl, rfl⟩)
            go_round
            case rel => exact ⟨k + 1, by go_num, by omega, HT2⟩
            case measure => simp [intOf]; omega
          | false =>
            as_aux_lemma =>
            rw [hgx] at HKy
            have HALL : Hid (ks.all good = false) := hid (by
              rw [← Bool.not_eq_true, List.all_eq_true]
              intro h
              have := h (ks[k]'hkl) (List.getElem_mem hkl)
              rw [HX.out, hgx] at this
              cases this)
            clear HT HST
            go_wp2_with (go_at_call 24; with_reducible refine (HKy.out _).mono ?_; rintro e u3 ⟨rfl, rfl⟩)
            go_ret
            exact ⟨by rw [HOE.out, HALL.out]; simp [o1], gtrans HG0.out HC.out⟩
        · have hlti : ¬ (k : Int) < (KN : Int) := by omega
          have HALL : Hid (ks.all good = true) := hid (by
            rw [List.all_eq_true]
            intro x hx
            refine HT.out x ?_
            rw [List.take_of_length_le (by rw [HKN.out]; omega)]
            exact hx)
          clear HT
          by_cases hKA : KN = A
          · have hq : ((KN : Int) != (A : Int)) = false := by rw [bne_eq_false_iff_eq]; omega
            have ho : (KN == A) = true := beq_iff_eq.2 hKA
            have hcur := HC.out
            clear hKA
            cases ND with
            | true =>
              go_wp2_with (go_at_call 129; with_reducible refine (HTw.out _ hcur).mono ?_; rintro e u5 ⟨rfl, hg5⟩; have hcur := gtrans hcur hg5; obtain ⟨⟨x0, x1, x2, x3, x4, x5⟩, xf⟩ := cells6 (HB.out _ hcur); clear hg5)
              go_ret
              exact ⟨by rw [HOE.out, HALL.out]; simp [ho, o1], gtrans HG0.out hcur⟩
            | false =>
              go_wp2_with (go_at_call 129; with_reducible refine (HTw.out _ hcur).mono ?_; rintro e u5 ⟨rfl, hg5⟩; have hcur := gtrans hcur hg5; obtain ⟨⟨x0, x1, x2, x3, x4, x5⟩, xf⟩ := cells6 (HB.out _ hcur); clear hg5)
              go_ret
              exact ⟨by rw [HOE.out, HALL.out]; simp [ho, o1], gtrans HG0.out hcur⟩
          · have hq : ((KN : Int) != (A : Int)) = true := by rw [bne_iff_ne]; omega
            have ho : (KN == A) = false := beq_eq_false_iff_ne.2 hKA
            clear hKA
            go_wp2_with fail
            go_ret
            exact ⟨by rw [HOE.out, HALL.out]; simp [ho, o1], gtrans HG0.out HC.out⟩
theorem oneR_any (t : Tree) (about : Nat) (w : World) (F : Nat → Prop) (v : Value) (hv : RdT w F t v) (hn : cntT t ≤ 1099511627776) (ha : about ≤ 1000) :
    Calls Tryz.prog 67 #[v, .int .i64 about] w fun e w' => e = .returned (.int .i64 (oneE t about)) ∧ w.grownBy w' none := by
  by_cases h5 : t.kind = 5
  · by_cases h : 32 ≤ about
    · exact oneR_deep5 t about w F v hv hn ha ⟨h5, h⟩
    · exact oneR_five t about w F v hv hn ha ⟨h5, by omega⟩
  · by_cases h6 : t.kind = 6
    · by_cases h : 32 ≤ about
      · exact oneR_deep6 t about w F v hv hn ha ⟨h6, h⟩
      · exact oneR_six t about w F v hv hn ha ⟨h6, by omega⟩
    · by_cases h1 : t.kind < 1
      · exact oneR_low t about w F v hv hn h1
      · by_cases h7 : 6 < t.kind
        · exact oneR_high t about w F v hv hn h7
        · exact oneR_mid t about w F v hv hn ⟨by omega, by omega⟩
end Go.Proofs.YtdmnhkgiojkphaaGreatDoor
