/- TersePrints' walk. -/
import Derived.Test.YtdmnhkgiojkphaaGreatDoorPgQ
import Derived.Test.YtdmnhkgiojkphaaGreatDoorPgM
import Derived.Test.YtdmnhkgiojkphaaGreatDoorBackB
import Derived.Test.YtdmnhkgiojkphaaGreatDoorX27
import Derived.Test.YtdmnhkgiojkphaaGreatDoorX26
namespace Go.Proofs.YtdmnhkgiojkphaaGreatDoor
open Go Go.RowKit Go.Maps
open Go.RowKit (wrap32 wrap64)

theorem muchL_mem {l : List Tree} {t : Tree} (h : t ∈ l) : muchT t ≤ muchL l := by
  induction l with
  | nil => cases h
  | cons a r ih =>
    rw [muchL]
    rcases List.mem_cons.1 h with rfl | q
    · omega
    · have := ih q; omega
/-- What both Prints tell of a tree. -/
def toldP (t : Tree) : ByteArray := if checkT t 0 = 0 then str (pr t) else ⟨#[]⟩
theorem backLend (t : Tree) (hc : cntT t ≤ 1099511627776) (w : World) (v : Value) (hv : RdT w (fun _ => True) t v) : Calls Tryz.prog 10 #[v] w fun e w' => ∃ k' f' n' s' ka' kn' kc' ia' il' ic', e = .returned (.agg #[.int .i64 k', .bool f', .int .i64 n', .string s', .slice ka' kn' kc', .slice ia' il' ic']) ∧ Hid (LentT w' (fun g => w.heap.size ≤ g) t (.agg #[.int .i64 k', .bool f', .int .i64 n', .string s', .slice ka' kn' kc', .slice ia' il' ic'])) ∧ w.grownBy w' none := by
  refine (lendValue_any 1099511627776 (Nat.le_refl _) t hc w _ v hv).mono ?_
  rintro e w' ⟨v', rfl, hL, hg⟩
  obtain ⟨ka, kn, kc, ia, il, ic, e⟩ := lentT_six hL.out
  subst e
  exact ⟨_, _, _, _, _, _, _, _, _, _, rfl, hL, hg⟩
theorem neI (x y : Operand) (E : Int) (u : World) : (do eqGuard .neq 3 x y (.int .i64 E) (.int .i64 E); binOp .neq 3 (.int .i64 E) (.int .i64 E) : Sem Value).run Tryz.prog u = .ok (.bool false) u := by
  go_simp
theorem neS (x y : Operand) (T : ByteArray) (u : World) : (do eqGuard .neq 9 x y (.string T) (.string T); binOp .neq 9 (.string T) (.string T) : Sem Value).run Tryz.prog u = .ok (.bool false) u := by
  have h : (T.toList == T.toList) = true := by simp
  go_simp
set_option maxRecDepth 100000 in
set_option maxHeartbeats 8000000 in
theorem prints_walk (w : World) (l : List Tree) (hb : BndL l) (hf : FitsL l) (hll : l.length ≤ 140737488355328) (hG : Glob w) (v : Value) (hv : RdS w (fun _ => True) l v) :
    Calls Tryz.prog 3 #[v] w fun e w' => e = .returned (.bool true) ∧ w.grownBy w' none := by
  have HMu := hid (much_any _ l (Nat.le_refl _) hb hll 40000 (Nat.le_refl _) w (fun _ => True) v hv)
  obtain ⟨a, c, rfl, hc, hk⟩ := hv
  have HWk : Hid (∀ u : World, w.grownBy u none → Calls Tryz.prog 17 #[] u fun e w' => e = .returned (.bool true) ∧ u.grownBy w' none) := hid (fun u hu => wakes_any u (hG.grown hu (fun k hk => by cases hk)))
  have HGl : Hid (∀ u : World, w.grownBy u none → Glob u) := hid (fun u hu => hG.grown hu (fun k hk => by cases hk))
  have HIt : Hid (muchL l ≤ 40000 → ∀ i (hi : i < l.length), ∃ (g o : Nat) (k : Int) (f : Bool) (z : Int) (x : ByteArray) (ka : Option Addr) (kn kc : Nat) (ia : Option Addr) (il ic : Nat), a = some ⟨g, o, none⟩ ∧ cntT l[i] ≤ 2560000 ∧ Fits l[i] ∧
      (∀ u : World, w.grownBy u none → u.cell? ⟨g, o + i * 6, none⟩ = some (.int .i64 k) ∧ u.cell? ⟨g, o + i * 6 + 1, none⟩ = some (.bool f) ∧ u.cell? ⟨g, o + i * 6 + 2, none⟩ = some (.int .i64 z) ∧ u.cell? ⟨g, o + i * 6 + 3, none⟩ = some (.string x) ∧ u.cell? ⟨g, o + i * 6 + 4, none⟩ = some (.slice ka kn kc) ∧ u.cell? ⟨g, o + i * 6 + 5, none⟩ = some (.slice ia il ic) ∧ RdT u (fun _ => True) l[i] (.agg #[.int .i64 k, .bool f, .int .i64 z, .string x, .slice ka kn kc, .slice ia il ic]))) := hid (fun hmu i hi => by
    obtain ⟨g, o, e, hg, hFg, hr⟩ := hk (by omega)
    obtain ⟨k, f, z, x, ka, kn, kc, ia, il, ic, c0, c1, c2, c3, c4, c5, hT⟩ := hr.shaped (Stays.refl _ _) hFg hg i hi
    refine ⟨g, o, k, f, z, x, ka, kn, kc, ia, il, ic, e, ?_, FitsL_mem hf _ (List.getElem_mem hi), fun u hu => ?_⟩
    · have h1 := cntT_much l[i]
      have h2 := muchL_mem (List.getElem_mem hi)
      omega
    · have hs : Stays (fun _ => True) w u := Stays.none hu
      exact ⟨hs.cell trivial hg c0, hs.cell trivial hg c1, hs.cell trivial hg c2, hs.cell trivial hg c3, hs.cell trivial hg c4, hs.cell trivial hg c5, hT.on hs⟩)
  have HNum : Hid (∀ (u : World) (E : Int), Calls Tryz.prog 14 #[.int .i64 E] u fun e w' => e = .returned (.int .i64 E) ∧ u.grownBy w' none) := hid (fun u E => (num_any u E).mono (by rintro e w' ⟨rfl, rfl⟩; exact ⟨rfl, grefl _ _⟩))
  obtain ⟨n, HN⟩ : ∃ n, Hid (l.length = n) := ⟨_, hid rfl⟩
  rw [HN.out] at HMu hc hll ⊢
  clear hk hb hf hG
  go_enter Tryz.func3, Tryz.ntmps3
  go_wp2_with fail
  refine HMu.out.mono ?_
  rintro e w1 ⟨r, rfl, hg1, hr⟩
  have HG1 := hid hg1
  by_cases h4 : (40000 : Int) < (r : Int)
  · clear HIt hr hg1
    go_wp2_with fail
    go_ret
    exact ⟨rfl, HG1.out⟩
  · have HML : Hid (muchL l ≤ 40000) := hid (by rcases hr with h | h <;> omega)
    replace HIt := hid (HIt.out HML.out)
    clear hr hg1 HML HMu
    go_wp2_with fail
    go_loopw [3] (fun iv wr => ∃ i : Nat, iv = .int .i64 i ∧ i ≤ n ∧ Hid (w.grownBy wr none)) (fun iv _ => n - (intOf iv).toNat)
    case atStart => exact ⟨0, rfl, Nat.zero_le _, HG1⟩
    case round =>
      clear HG1
      obtain ⟨i, rfl, hi, HGW⟩ := hrel
      obtain ⟨w0, hw0⟩ : ∃ x : World, x = wr := ⟨_, rfl⟩
      rw [← hw0] at HGW ⊢
      clear hw0
      by_cases hlt : i < n
      · have hlt' : (i : Int) < (n : Int) := by omega
        have hil : i < l.length := by rw [HN.out]; exact hlt
        obtain ⟨g, o, k, f, z, x, ka, kn, kc, ia, il, ic, rfl, hcn, hft, hcell⟩ := HIt.out i hil
        have HFt := hid hft
        have HCN := hid hcn
        obtain ⟨t, HT⟩ : ∃ t, Hid (l[i] = t) := ⟨_, hid rfl⟩
        rw [HT.out] at hcell HFt HCN
        have HPL : Hid ((pr t).length ≤ 1099511627776) := hid (by have := pr_le t HFt.out; have := HCN.out; omega)
        have HCL : Hid (cntT t ≤ 1099511627776) := hid (by have := HCN.out; omega)
        have HCell : Hid (∀ u : World, w0.grownBy u none → u.cell? ⟨g, o + i * 6, none⟩ = some (.int .i64 k) ∧ u.cell? ⟨g, o + i * 6 + 1, none⟩ = some (.bool f) ∧ u.cell? ⟨g, o + i * 6 + 2, none⟩ = some (.int .i64 z) ∧ u.cell? ⟨g, o + i * 6 + 3, none⟩ = some (.string x) ∧ u.cell? ⟨g, o + i * 6 + 4, none⟩ = some (.slice ka kn kc) ∧ u.cell? ⟨g, o + i * 6 + 5, none⟩ = some (.slice ia il ic) ∧ RdT u (fun _ => True) t (.agg #[.int .i64 k, .bool f, .int .i64 z, .string x, .slice ka kn kc, .slice ia il ic])) := hid (fun u hu => hcell u (gtrans HGW.out hu))
        obtain ⟨z0, z1, z2, z3, z4, z5, hT⟩ := HCell.out w0 (grefl _ _)
        have HC10 := hid (backLend t HCL.out w0 _ hT)
        clear hcell hft hcn hT
        go_upto_region 7 with (first
          | ((with_reducible refine wpList_store_all (by with_unfolding_all rfl) 26 _ _ (by with_unfolding_all rfl) w2.heap.size Z6 [.int .i64 k', .bool f', .int .i64 n', .string s', .slice ka' kn' kc', .slice ia' il' ic'] 26 (by with_unfolding_all rfl) (by with_unfolding_all rfl) HB3.out (by with_unfolding_all rfl) (by with_unfolding_all exact Tryz.size26) (one6 _ _ _ _ _ _ _ _ _ _) ?_); intro w4 B4 g4 s4; have HB4 := hid B4; have HG4 : Hid (w3.grownBy w4 (some w2.heap.size)) := hid g4; clear B4 g4 s4)
          | ((with_reducible refine wpList_alloc_row (by with_unfolding_all rfl) 26 (by with_unfolding_all rfl) Z6 Tryz.zero26 ?_); intro w3 B3 s3 g3; have HB3 := hid B3; have HG3 := hid g3; clear B3 s3 g3)
          | (go_at_call 10; (with_reducible refine HC10.out.mono ?_); rintro e w2 ⟨k', f', n', s', ka', kn', kc', ia', il', ic', rfl, hL, hg2⟩; have HL2 := hL; have HG2 := hid hg2; clear hL hg2))
        obtain ⟨b4, hb4⟩ : ∃ b, w2.heap.size = b := ⟨_, rfl⟩
        have HBS := hid hb4
        rw [hb4] at HB4 HG4 ⊢
        clear hb4
        have HCUR : Hid (w0.grownBy w4 none) := hid ((gtrans HG2.out HG3.out).andThen HG4.out (fun j hj => .inl (by injection hj with hj; have := HG2.out.size; have := HBS.out; omega)))
        have HX : Hid (∀ u : World, w4.grownBy u none → u.heap[b4]? = some (.cells #[.int .i64 k', .bool f', .int .i64 n', .string s', .slice ka' kn' kc', .slice ia' il' ic'] 26 (0, 0)) ∧ LentT u (fun q => w0.heap.size ≤ q ∧ q ≠ b4) t (.agg #[.int .i64 k', .bool f', .int .i64 n', .string s', .slice ka' kn' kc', .slice ia' il' ic'])) := hid (fun u hu => by
          refine ⟨(HB4.out.keep hu), ?_⟩
          refine LentT.kept (F := fun q => w0.heap.size ≤ q ∧ q ≠ b4) (((Stays.none HG3.out).trans (Stays.grown HG4.out (fun q hq e => hq.2 (by injection e)))).trans (Stays.none hu)) (fun _ h _ => h) t ?_
          exact LentT.kept (F := fun q => w0.heap.size ≤ q) (Stays.refl _ _) (fun q hq hlt => ⟨hq, by have := HBS.out; omega⟩) t HL2.out)
        have HV : Hid (∀ u : World, w4.grownBy u none → u.cell? ⟨g, o + i * 6, none⟩ = some (.int .i64 k) ∧ u.cell? ⟨g, o + i * 6 + 1, none⟩ = some (.bool f) ∧ u.cell? ⟨g, o + i * 6 + 2, none⟩ = some (.int .i64 z) ∧ u.cell? ⟨g, o + i * 6 + 3, none⟩ = some (.string x) ∧ u.cell? ⟨g, o + i * 6 + 4, none⟩ = some (.slice ka kn kc) ∧ u.cell? ⟨g, o + i * 6 + 5, none⟩ = some (.slice ia il ic) ∧ RdT u (fun _ => True) t (.agg #[.int .i64 k, .bool f, .int .i64 z, .string x, .slice ka kn kc, .slice ia il ic])) := hid (fun u hu => HCell.out u (gtrans HCUR.out hu))
        obtain ⟨E, HE⟩ : ∃ E, Hid (checkT t 0 = E) := ⟨_, hid rfl⟩
        obtain ⟨T, HTT⟩ : ∃ T, Hid (toldP t = T) := ⟨_, hid rfl⟩
        have HC11 : Hid (∀ u : World, w4.grownBy u none → Calls Tryz.prog 11 #[.agg #[.int .i64 k, .bool f, .int .i64 z, .string x, .slice ka kn kc, .slice ia il ic]] u fun e w' => e = .returned (.int .i64 E) ∧ u.grownBy w' none) := hid (fun u hu => by rw [← HE.out]; exact checkRf_any t HCL.out u _ _ (HV.out u hu).2.2.2.2.2.2)
        have HC12 : Hid (∀ u : World, w4.grownBy u none → Calls Tryz.prog 12 #[.agg #[.int .i64 k, .bool f, .int .i64 z, .string x, .slice ka kn kc, .slice ia il ic]] u fun e w' => e = .returned (.tuple #[.string T, .int .i64 E]) ∧ u.grownBy w' none) := hid (fun u hu => by
          rw [← HE.out, ← HTT.out]
          unfold toldP
          by_cases h0 : checkT t 0 = 0
          · rw [if_pos h0, h0]; exact printRf_ok t h0 HFt.out HCL.out HPL.out u _ _ (HV.out u hu).2.2.2.2.2.2
          · rw [if_neg h0]; exact printRf_bad t h0 HCL.out u _ _ (HV.out u hu).2.2.2.2.2.2)
        have HC13 : Hid (∀ u : World, w4.grownBy u none → Calls Tryz.prog 13 #[.agg #[.int .i64 k', .bool f', .int .i64 n', .string s', .slice ka' kn' kc', .slice ia' il' ic']] u fun e w' => e = .returned (.tuple #[.string T, .int .i64 E]) ∧ u.grownBy w' none) := hid (fun u hu => by
          rw [← HE.out, ← HTT.out]
          have hGu := HGl.out u (gtrans HGW.out (gtrans HCUR.out hu))
          have hR := LentT.rd t (HX.out u hu).2
          unfold toldP
          by_cases h0 : checkT t 0 = 0
          · rw [if_pos h0, h0]; exact print_ok t h0 HFt.out HCL.out HPL.out u _ _ hR hGu
          · rw [if_neg h0]; exact print_bad t h0 HCL.out u _ _ hR hGu)
        have HC15' : Hid (∀ u : World, w4.grownBy u none → Calls Tryz.prog 15 #[.agg #[.int .i64 k', .bool f', .int .i64 n', .string s', .slice ka' kn' kc', .slice ia' il' ic']] u fun e w' => e = .returned (.int .i64 E) ∧ u.grownBy w' none) := hid (fun u hu => by rw [← HE.out]; exact checkF_any t HCL.out u _ _ (LentT.rd t (HX.out u hu).2) (HGl.out u (gtrans HGW.out (gtrans HCUR.out hu))))
        have HC16' : Hid (∀ u : World, w4.grownBy u none → Calls Tryz.prog 16 #[.agg #[.int .i64 k', .bool f', .int .i64 n', .string s', .slice ka' kn' kc', .slice ia' il' ic'], .agg #[.int .i64 k, .bool f, .int .i64 z, .string x, .slice ka kn kc, .slice ia il ic]] u fun e w' => e = .returned (.bool true) ∧ u.grownBy w' none) := hid (fun u hu => backValue_any 1099511627776 (Nat.le_refl _) t HCL.out u _ _ _ _ (HX.out u hu).2 (HV.out u hu).2.2.2.2.2.2)
        clear HE HTT HC10 HL2 HB3 HB4 HG2 HG3 HG4 HCell HBS HIt HFt HCN HPL HCL HGl HT
        have hcur : w4.grownBy w4 none := grefl _ _
        obtain ⟨z0, z1, z2, z3, z4, z5, -⟩ := HV.out w4 hcur
        obtain ⟨⟨x0, x1, x2, x3, x4, x5⟩, xf⟩ := cells6 (HX.out w4 hcur).1
        go_upto_region 11 with (first
          | (go_at_call 11; (with_reducible refine (HC11.out _ hcur).mono ?_); rintro e w5 ⟨rfl, hg5⟩; have hcur := gtrans hcur hg5; obtain ⟨z0, z1, z2, z3, z4, z5, -⟩ := HV.out w5 hcur; obtain ⟨⟨x0, x1, x2, x3, x4, x5⟩, xf⟩ := cells6 (HX.out w5 hcur).1; clear hg5)
          | (go_at_call 12; (with_reducible refine (HC12.out _ hcur).mono ?_); rintro e w6 ⟨rfl, hg6⟩; have hcur := gtrans hcur hg6; obtain ⟨z0, z1, z2, z3, z4, z5, -⟩ := HV.out w6 hcur; obtain ⟨⟨x0, x1, x2, x3, x4, x5⟩, xf⟩ := cells6 (HX.out w6 hcur).1; clear hg6)
          | (go_at_call 13; (with_reducible refine (HC13.out _ hcur).mono ?_); rintro e w7 ⟨rfl, hg7⟩; have hcur := gtrans hcur hg7; obtain ⟨z0, z1, z2, z3, z4, z5, -⟩ := HV.out w7 hcur; obtain ⟨⟨x0, x1, x2, x3, x4, x5⟩, xf⟩ := cells6 (HX.out w7 hcur).1; clear hg7))
        have HC4 := hid hcur
        have HXR : Hid (∀ u : World, w7.grownBy u none → u.rangeAt b4 0 [.int .i64 k', .bool f', .int .i64 n', .string s', .slice ka' kn' kc', .slice ia' il' ic']) := hid (fun u hu => by
          obtain ⟨⟨p0, p1, p2, p3, p4, p5⟩, -⟩ := cells6 (HX.out u (gtrans HC4.out hu)).1
          exact range6 p0 p1 p2 p3 p4 p5)
        have HVR : Hid (∀ u : World, w7.grownBy u none → u.rangeAt g (o + i * 6) [.int .i64 k, .bool f, .int .i64 z, .string x, .slice ka kn kc, .slice ia il ic]) := hid (fun u hu => by
          obtain ⟨p0, p1, p2, p3, p4, p5, -⟩ := HV.out u (gtrans HC4.out hu)
          exact range6 p0 p1 p2 p3 p4 p5)
        have HC15 : Hid (∀ u : World, w7.grownBy u none → Calls Tryz.prog 15 #[.agg ([.int .i64 k', .bool f', .int .i64 n', .string s', .slice ka' kn' kc', .slice ia' il' ic'] : List Value).toArray] u fun e w' => e = .returned (.int .i64 E) ∧ u.grownBy w' none) := hid (fun u hu => HC15'.out u (gtrans HC4.out hu))
        have HC16 : Hid (∀ u : World, w7.grownBy u none → Calls Tryz.prog 16 #[.agg ([.int .i64 k', .bool f', .int .i64 n', .string s', .slice ka' kn' kc', .slice ia' il' ic'] : List Value).toArray, .agg ([.int .i64 k, .bool f, .int .i64 z, .string x, .slice ka kn kc, .slice ia il ic] : List Value).toArray] u fun e w' => e = .returned (.bool true) ∧ u.grownBy w' none) := hid (fun u hu => HC16'.out u (gtrans HC4.out hu))
        replace HCUR : Hid (w0.grownBy w7 none) := hid (gtrans HCUR.out hcur)
        obtain ⟨X6, hX6⟩ : ∃ X : List Value, [.int .i64 k', .bool f', .int .i64 n', .string s', .slice ka' kn' kc', .slice ia' il' ic'] = X := ⟨_, rfl⟩
        have HXL : Hid (X6.length = 6) := hid (by rw [← hX6]; rfl)
        rw [hX6] at HXR HC15 HC16
        obtain ⟨V6, hV6⟩ : ∃ X : List Value, [.int .i64 k, .bool f, .int .i64 z, .string x, .slice ka kn kc, .slice ia il ic] = X := ⟨_, rfl⟩
        have HVL : Hid (V6.length = 6) := hid (by rw [← hV6]; rfl)
        rw [hV6] at HVR HC16
        have HNeI := hid (fun (x y : Operand) (u : World) => neI x y E u)
        have HNeS := hid (fun (x y : Operand) (u : World) => neS x y T u)
        clear hX6 hV6 hcur z0 z1 z2 z3 z4 z5 x0 x1 x2 x3 x4 x5 xf HX HV HC4 HC11 HC12 HC13 HC15' HC16'
        refine wp_region_listX (by kernel_rfl) [fun v _ => v = (Value.agg X6.toArray), fun v _ => v = (Value.int .i64 E), fun v _ => v = (Value.int .i64 E), fun v _ => v = (Value.int .i64 E), fun v _ => v = (Value.bool false), fun v _ => v = (Value.bool false), fun v _ => v = (Value.string T), fun v _ => v = (Value.string T), fun v _ => v = (Value.bool false), fun v _ => v = (Value.bool false), fun v _ => v = (Value.bool false), fun v _ => v = (Value.int .i64 E), fun v _ => v = (Value.int .i64 E), fun v _ => v = (Value.int .i64 E), fun v _ => v = (Value.bool false), fun v _ => v = (Value.bool false), fun v _ => v = (Value.bool false), fun v _ => v = (Value.string T), fun v _ => v = (Value.string T), fun v _ => v = (Value.bool false), fun v _ => v = (Value.bool false), fun v _ => v = (Value.bool false), fun v _ => v = (Value.int .i64 E), fun v _ => v = (Value.int .i64 E), fun v _ => v = (Value.int .i64 E), fun v _ => v = (Value.bool false), fun v _ => v = (Value.bool false), fun v _ => v = (Value.bool false), fun v _ => v = (Value.agg X6.toArray), fun v _ => v = (Value.slice (some ⟨g, o, none⟩) n c), fun v _ => v = (Value.int .i64 (i : Nat)), fun v _ => v = (Value.pointer (some ⟨g, o + i * 6, none⟩)), fun v _ => v = (Value.agg V6.toArray), fun v _ => v = (Value.bool true), fun v _ => v = (Value.bool false), fun v _ => v = (Value.bool false)] (none) (fun _ => none) 36 (by kernel_rfl) (by kernel_rfl) (by kernel_rfl) (by kernel_rfl) (by decide) noRow_one (fun _ => .inl rfl) ⟨fun i v u u' hki h hg => h, fun i v u u' hki h hg => h, fun i v u u' hki h hg => h, fun i v u u' hki h hg => h, fun i v u u' hki h hg => h, fun i v u u' hki h hg => h, fun i v u u' hki h hg => h, fun i v u u' hki h hg => h, fun i v u u' hki h hg => h, fun i v u u' hki h hg => h, fun i v u u' hki h hg => h, fun i v u u' hki h hg => h, fun i v u u' hki h hg => h, fun i v u u' hki h hg => h, fun i v u u' hki h hg => h, fun i v u u' hki h hg => h, fun i v u u' hki h hg => h, fun i v u u' hki h hg => h, fun i v u u' hki h hg => h, fun i v u u' hki h hg => h, fun i v u u' hki h hg => h, fun i v u u' hki h hg => h, fun i v u u' hki h hg => h, fun i v u u' hki h hg => h, fun i v u u' hki h hg => h, fun i v u u' hki h hg => h, fun i v u u' hki h hg => h, fun i v u u' hki h hg => h, fun i v u u' hki h hg => h, fun i v u u' hki h hg => h, fun i v u u' hki h hg => h, fun i v u u' hki h hg => h, fun i v u u' hki h hg => h, fun i v u u' hki h hg => h, fun i v u u' hki h hg => h, fun i v u u' hki h hg => h, trivial⟩ ⟨?_, ?_, ?_, ?_, ?_, ?_, ?_, ?_, ?_, ?_, ?_, ?_, ?_, ?_, ?_, ?_, ?_, ?_, ?_, ?_, ?_, ?_, ?_, ?_, ?_, ?_, ?_, ?_, ?_, ?_, ?_, ?_, ?_, ?_, ?_, ?_, trivial⟩ ?_
        · intro A u hu hpu hsz hout hdeps
          have e4 : A.eval (.tmp 4) = (.pointer (some ⟨b4, 0, none⟩)) := (hout 4 (by kernel_rfl)).trans rfl
          refine ifw_none rfl ?_
          with_reducible refine shown_q (Value.agg X6.toArray) ?qq_1_0 (fun _ _ => ?qr_1_0)
          case qr_1_0 => exact (rfl : (Value.agg X6.toArray) = (Value.agg X6.toArray))
          with_reducible refine quietAt_load 26 (.tmp 4) ?h0_1_0 b4 0 X6 (.struct (Tryz.prog.fieldsOf 26)) ?h1_1_0 ?h2_1_0 ?h3_1_0 ?h4_1_0 ?h5_1_0
          case h0_1_0 => rfl
          case h1_1_0 => exact e4
          case h2_1_0 => exact (HXR.out u hu)
          case h3_1_0 => exact Tryz.underlying26
          case h4_1_0 => rfl
          case h5_1_0 => exact (by rw [HXL.out]; exact Tryz.size26)
        · intro A u hu hpu hsz hout hdeps
          have e49 : A.eval (.tmp 49) = (.agg X6.toArray) := by have h := depL hdeps 0 (by kernel_rfl) 49 (by kernel_rfl); exact h
          refine ifw_none rfl ?_
          with_reducible refine shown_q (Value.int .i64 E) ?qq_1_1 (fun _ _ => ?qr_1_1)
          case qr_1_1 => exact (rfl : (Value.int .i64 E) = (Value.int .i64 E))
          with_reducible refine quietAt_call 15 Tryz.f15 ?h0_1_1 ?h1_1_1 ?h2_1_1 #[.tmp 49] #[26] ?h3_1_1 (Value.int .i64 E) #[(Value.agg X6.toArray)] ?h4_1_1 ?h5_1_1
          case h0_1_1 => exact Tryz.func15
          case h1_1_1 => kernel_rfl
          case h2_1_1 => kernel_rfl
          case h3_1_1 => rfl
          case h4_1_1 => exact map1 _ _ _ e49
          case h5_1_1 => exact HC15.out u hu
        · intro A u hu hpu hsz hout hdeps
          have e50 : A.eval (.tmp 50) = (.int .i64 E) := by have h := depL hdeps 1 (by kernel_rfl) 50 (by kernel_rfl); exact h
          refine ifw_none rfl ?_
          with_reducible refine shown_q (Value.int .i64 E) ?qq_1_2 (fun _ _ => ?qr_1_2)
          case qr_1_2 => exact (rfl : (Value.int .i64 E) = (Value.int .i64 E))
          with_reducible refine quietAt_call 14 Tryz.f14 ?h0_1_2 ?h1_1_2 ?h2_1_2 #[.tmp 50] #[31] ?h3_1_2 (Value.int .i64 E) #[(Value.int .i64 E)] ?h4_1_2 ?h5_1_2
          case h0_1_2 => exact Tryz.func14
          case h1_1_2 => kernel_rfl
          case h2_1_2 => kernel_rfl
          case h3_1_2 => rfl
          case h4_1_2 => exact map1 _ _ _ e50
          case h5_1_2 => exact HNum.out u E
        · intro A u hu hpu hsz hout hdeps
          have e5 : A.eval (.tmp 5) = (.int .i64 E) := (hout 5 (by kernel_rfl)).trans rfl
          refine ifw_none rfl ?_
          with_reducible refine shown_q (Value.int .i64 E) ?qq_1_3 (fun _ _ => ?qr_1_3)
          case qr_1_3 => exact (rfl : (Value.int .i64 E) = (Value.int .i64 E))
          with_reducible refine quietAt_mv (.tmp 5) (Value.int .i64 E) ?h0_1_3 ?h1_1_3
          case h0_1_3 => rfl
          case h1_1_3 => exact e5
        · intro A u hu hpu hsz hout hdeps
          have e51 : A.eval (.tmp 51) = (.int .i64 E) := by have h := depL hdeps 2 (by kernel_rfl) 51 (by kernel_rfl); exact h
          have e52 : A.eval (.tmp 52) = (.int .i64 E) := by have h := depL hdeps 3 (by kernel_rfl) 52 (by kernel_rfl); exact h
          refine ifw_none rfl ?_
          with_reducible refine shown_q (Value.bool false) ?qq_1_4 (fun _ _ => ?qr_1_4)
          case qr_1_4 => exact (rfl : (Value.bool false) = (Value.bool false))
          with_reducible refine quietAt_bin .neq 3 (.tmp 51) (.tmp 52) 3 (Value.int .i64 E) (Value.int .i64 E) (Value.bool false) ?h0_1_4 ?h1_1_4 ?h2_1_4 ?h3_1_4
          case h0_1_4 => rfl
          case h1_1_4 => exact e51
          case h2_1_4 => exact e52
          case h3_1_4 => exact HNeI.out _ _ u
        · intro A u hu hpu hsz hout hdeps
          have e53 : A.eval (.tmp 53) = (.bool false) := by have h := depL hdeps 4 (by kernel_rfl) 53 (by kernel_rfl); exact h
          refine ifw_none rfl ?_
          with_reducible refine shown_q (Value.bool false) ?qq_1_5 (fun _ _ => ?qr_1_5)
          case qr_1_5 => exact (rfl : (Value.bool false) = (Value.bool false))
          with_reducible refine quietAt_mv (.tmp 53) (Value.bool false) ?h0_1_5 ?h1_1_5
          case h0_1_5 => rfl
          case h1_1_5 => exact e53
        · intro A u hu hpu hsz hout hdeps
          have e54 : A.eval (.tmp 54) = (.bool false) := by have h := depL hdeps 5 (by kernel_rfl) 54 (by kernel_rfl); exact h
          have e8 : A.eval (.tmp 8) = (.string T) := (hout 8 (by kernel_rfl)).trans rfl
          refine ifw_want 5 false 54 rfl rfl e54 ?_
          with_reducible refine shown_q (Value.string T) ?qq_1_6 (fun _ _ => ?qr_1_6)
          case qr_1_6 => exact (rfl : (Value.string T) = (Value.string T))
          with_reducible refine quietAt_mv (.tmp 8) (Value.string T) ?h0_1_6 ?h1_1_6
          case h0_1_6 => rfl
          case h1_1_6 => exact e8
        · intro A u hu hpu hsz hout hdeps
          have e54 : A.eval (.tmp 54) = (.bool false) := by have h := depL hdeps 5 (by kernel_rfl) 54 (by kernel_rfl); exact h
          have e6 : A.eval (.tmp 6) = (.string T) := (hout 6 (by kernel_rfl)).trans rfl
          refine ifw_want 5 false 54 rfl rfl e54 ?_
          with_reducible refine shown_q (Value.string T) ?qq_1_7 (fun _ _ => ?qr_1_7)
          case qr_1_7 => exact (rfl : (Value.string T) = (Value.string T))
          with_reducible refine quietAt_mv (.tmp 6) (Value.string T) ?h0_1_7 ?h1_1_7
          case h0_1_7 => rfl
          case h1_1_7 => exact e6
        · intro A u hu hpu hsz hout hdeps
          have e54 : A.eval (.tmp 54) = (.bool false) := by have h := depL hdeps 5 (by kernel_rfl) 54 (by kernel_rfl); exact h
          have e55 : A.eval (.tmp 55) = (.string T) := by have h := depL hdeps 6 (by kernel_rfl) 55 (by kernel_rfl); exact h
          have e56 : A.eval (.tmp 56) = (.string T) := by have h := depL hdeps 7 (by kernel_rfl) 56 (by kernel_rfl); exact h
          refine ifw_want 5 false 54 rfl rfl e54 ?_
          with_reducible refine shown_q (Value.bool false) ?qq_1_8 (fun _ _ => ?qr_1_8)
          case qr_1_8 => exact (rfl : (Value.bool false) = (Value.bool false))
          with_reducible refine quietAt_bin .neq 9 (.tmp 55) (.tmp 56) 9 (Value.string T) (Value.string T) (Value.bool false) ?h0_1_8 ?h1_1_8 ?h2_1_8 ?h3_1_8
          case h0_1_8 => rfl
          case h1_1_8 => exact e55
          case h2_1_8 => exact e56
          case h3_1_8 => exact HNeS.out _ _ u
        · intro A u hu hpu hsz hout hdeps
          have e54 : A.eval (.tmp 54) = (.bool false) := by have h := depL hdeps 5 (by kernel_rfl) 54 (by kernel_rfl); exact h
          have e57 : A.eval (.tmp 57) = (.bool false) := by have h := depL hdeps 8 (by kernel_rfl) 57 (by kernel_rfl); exact h
          refine ifw_none rfl ?_
          with_reducible refine shown_q (Value.bool false) ?qq_1_9 (fun _ _ => ?qr_1_9)
          case qr_1_9 => exact (rfl : (Value.bool false) = (Value.bool false))
          with_reducible refine quietAt_pick (.tmp 54) (.const (.bool true)) (.tmp 57) false (Value.bool false) ?h0_1_9 ?h1_1_9 ?h2_1_9
          case h0_1_9 => rfl
          case h1_1_9 => exact e54
          case h2_1_9 => rw [if_neg (by decide)]; exact e57
        · intro A u hu hpu hsz hout hdeps
          have e58 : A.eval (.tmp 58) = (.bool false) := by have h := depL hdeps 9 (by kernel_rfl) 58 (by kernel_rfl); exact h
          refine ifw_none rfl ?_
          with_reducible refine shown_q (Value.bool false) ?qq_1_10 (fun _ _ => ?qr_1_10)
          case qr_1_10 => exact (rfl : (Value.bool false) = (Value.bool false))
          with_reducible refine quietAt_mv (.tmp 58) (Value.bool false) ?h0_1_10 ?h1_1_10
          case h0_1_10 => rfl
          case h1_1_10 => exact e58
        · intro A u hu hpu hsz hout hdeps
          have e59 : A.eval (.tmp 59) = (.bool false) := by have h := depL hdeps 10 (by kernel_rfl) 59 (by kernel_rfl); exact h
          have e9 : A.eval (.tmp 9) = (.int .i64 E) := (hout 9 (by kernel_rfl)).trans rfl
          refine ifw_want 10 false 59 rfl rfl e59 ?_
          with_reducible refine shown_q (Value.int .i64 E) ?qq_1_11 (fun _ _ => ?qr_1_11)
          case qr_1_11 => exact (rfl : (Value.int .i64 E) = (Value.int .i64 E))
          with_reducible refine quietAt_mv (.tmp 9) (Value.int .i64 E) ?h0_1_11 ?h1_1_11
          case h0_1_11 => rfl
          case h1_1_11 => exact e9
        · intro A u hu hpu hsz hout hdeps
          have e59 : A.eval (.tmp 59) = (.bool false) := by have h := depL hdeps 10 (by kernel_rfl) 59 (by kernel_rfl); exact h
          have e60 : A.eval (.tmp 60) = (.int .i64 E) := by have h := depL hdeps 11 (by kernel_rfl) 60 (by kernel_rfl); exact h
          refine ifw_want 10 false 59 rfl rfl e59 ?_
          with_reducible refine shown_q (Value.int .i64 E) ?qq_1_12 (fun _ _ => ?qr_1_12)
          case qr_1_12 => exact (rfl : (Value.int .i64 E) = (Value.int .i64 E))
          with_reducible refine quietAt_call 14 Tryz.f14 ?h0_1_12 ?h1_1_12 ?h2_1_12 #[.tmp 60] #[31] ?h3_1_12 (Value.int .i64 E) #[(Value.int .i64 E)] ?h4_1_12 ?h5_1_12
          case h0_1_12 => exact Tryz.func14
          case h1_1_12 => kernel_rfl
          case h2_1_12 => kernel_rfl
          case h3_1_12 => rfl
          case h4_1_12 => exact map1 _ _ _ e60
          case h5_1_12 => exact HNum.out u E
        · intro A u hu hpu hsz hout hdeps
          have e59 : A.eval (.tmp 59) = (.bool false) := by have h := depL hdeps 10 (by kernel_rfl) 59 (by kernel_rfl); exact h
          have e7 : A.eval (.tmp 7) = (.int .i64 E) := (hout 7 (by kernel_rfl)).trans rfl
          refine ifw_want 10 false 59 rfl rfl e59 ?_
          with_reducible refine shown_q (Value.int .i64 E) ?qq_1_13 (fun _ _ => ?qr_1_13)
          case qr_1_13 => exact (rfl : (Value.int .i64 E) = (Value.int .i64 E))
          with_reducible refine quietAt_mv (.tmp 7) (Value.int .i64 E) ?h0_1_13 ?h1_1_13
          case h0_1_13 => rfl
          case h1_1_13 => exact e7
        · intro A u hu hpu hsz hout hdeps
          have e59 : A.eval (.tmp 59) = (.bool false) := by have h := depL hdeps 10 (by kernel_rfl) 59 (by kernel_rfl); exact h
          have e61 : A.eval (.tmp 61) = (.int .i64 E) := by have h := depL hdeps 12 (by kernel_rfl) 61 (by kernel_rfl); exact h
          have e62 : A.eval (.tmp 62) = (.int .i64 E) := by have h := depL hdeps 13 (by kernel_rfl) 62 (by kernel_rfl); exact h
          refine ifw_want 10 false 59 rfl rfl e59 ?_
          with_reducible refine shown_q (Value.bool false) ?qq_1_14 (fun _ _ => ?qr_1_14)
          case qr_1_14 => exact (rfl : (Value.bool false) = (Value.bool false))
          with_reducible refine quietAt_bin .neq 3 (.tmp 61) (.tmp 62) 3 (Value.int .i64 E) (Value.int .i64 E) (Value.bool false) ?h0_1_14 ?h1_1_14 ?h2_1_14 ?h3_1_14
          case h0_1_14 => rfl
          case h1_1_14 => exact e61
          case h2_1_14 => exact e62
          case h3_1_14 => exact HNeI.out _ _ u
        · intro A u hu hpu hsz hout hdeps
          have e59 : A.eval (.tmp 59) = (.bool false) := by have h := depL hdeps 10 (by kernel_rfl) 59 (by kernel_rfl); exact h
          have e63 : A.eval (.tmp 63) = (.bool false) := by have h := depL hdeps 14 (by kernel_rfl) 63 (by kernel_rfl); exact h
          refine ifw_none rfl ?_
          with_reducible refine shown_q (Value.bool false) ?qq_1_15 (fun _ _ => ?qr_1_15)
          case qr_1_15 => exact (rfl : (Value.bool false) = (Value.bool false))
          with_reducible refine quietAt_pick (.tmp 59) (.const (.bool true)) (.tmp 63) false (Value.bool false) ?h0_1_15 ?h1_1_15 ?h2_1_15
          case h0_1_15 => rfl
          case h1_1_15 => exact e59
          case h2_1_15 => rw [if_neg (by decide)]; exact e63
        · intro A u hu hpu hsz hout hdeps
          have e64 : A.eval (.tmp 64) = (.bool false) := by have h := depL hdeps 15 (by kernel_rfl) 64 (by kernel_rfl); exact h
          refine ifw_none rfl ?_
          with_reducible refine shown_q (Value.bool false) ?qq_1_16 (fun _ _ => ?qr_1_16)
          case qr_1_16 => exact (rfl : (Value.bool false) = (Value.bool false))
          with_reducible refine quietAt_mv (.tmp 64) (Value.bool false) ?h0_1_16 ?h1_1_16
          case h0_1_16 => rfl
          case h1_1_16 => exact e64
        · intro A u hu hpu hsz hout hdeps
          have e65 : A.eval (.tmp 65) = (.bool false) := by have h := depL hdeps 16 (by kernel_rfl) 65 (by kernel_rfl); exact h
          have e10 : A.eval (.tmp 10) = (.string T) := (hout 10 (by kernel_rfl)).trans rfl
          refine ifw_want 16 false 65 rfl rfl e65 ?_
          with_reducible refine shown_q (Value.string T) ?qq_1_17 (fun _ _ => ?qr_1_17)
          case qr_1_17 => exact (rfl : (Value.string T) = (Value.string T))
          with_reducible refine quietAt_mv (.tmp 10) (Value.string T) ?h0_1_17 ?h1_1_17
          case h0_1_17 => rfl
          case h1_1_17 => exact e10
        · intro A u hu hpu hsz hout hdeps
          have e65 : A.eval (.tmp 65) = (.bool false) := by have h := depL hdeps 16 (by kernel_rfl) 65 (by kernel_rfl); exact h
          have e6 : A.eval (.tmp 6) = (.string T) := (hout 6 (by kernel_rfl)).trans rfl
          refine ifw_want 16 false 65 rfl rfl e65 ?_
          with_reducible refine shown_q (Value.string T) ?qq_1_18 (fun _ _ => ?qr_1_18)
          case qr_1_18 => exact (rfl : (Value.string T) = (Value.string T))
          with_reducible refine quietAt_mv (.tmp 6) (Value.string T) ?h0_1_18 ?h1_1_18
          case h0_1_18 => rfl
          case h1_1_18 => exact e6
        · intro A u hu hpu hsz hout hdeps
          have e65 : A.eval (.tmp 65) = (.bool false) := by have h := depL hdeps 16 (by kernel_rfl) 65 (by kernel_rfl); exact h
          have e66 : A.eval (.tmp 66) = (.string T) := by have h := depL hdeps 17 (by kernel_rfl) 66 (by kernel_rfl); exact h
          have e67 : A.eval (.tmp 67) = (.string T) := by have h := depL hdeps 18 (by kernel_rfl) 67 (by kernel_rfl); exact h
          refine ifw_want 16 false 65 rfl rfl e65 ?_
          with_reducible refine shown_q (Value.bool false) ?qq_1_19 (fun _ _ => ?qr_1_19)
          case qr_1_19 => exact (rfl : (Value.bool false) = (Value.bool false))
          with_reducible refine quietAt_bin .neq 9 (.tmp 66) (.tmp 67) 9 (Value.string T) (Value.string T) (Value.bool false) ?h0_1_19 ?h1_1_19 ?h2_1_19 ?h3_1_19
          case h0_1_19 => rfl
          case h1_1_19 => exact e66
          case h2_1_19 => exact e67
          case h3_1_19 => exact HNeS.out _ _ u
        · intro A u hu hpu hsz hout hdeps
          have e65 : A.eval (.tmp 65) = (.bool false) := by have h := depL hdeps 16 (by kernel_rfl) 65 (by kernel_rfl); exact h
          have e68 : A.eval (.tmp 68) = (.bool false) := by have h := depL hdeps 19 (by kernel_rfl) 68 (by kernel_rfl); exact h
          refine ifw_none rfl ?_
          with_reducible refine shown_q (Value.bool false) ?qq_1_20 (fun _ _ => ?qr_1_20)
          case qr_1_20 => exact (rfl : (Value.bool false) = (Value.bool false))
          with_reducible refine quietAt_pick (.tmp 65) (.const (.bool true)) (.tmp 68) false (Value.bool false) ?h0_1_20 ?h1_1_20 ?h2_1_20
          case h0_1_20 => rfl
          case h1_1_20 => exact e65
          case h2_1_20 => rw [if_neg (by decide)]; exact e68
        · intro A u hu hpu hsz hout hdeps
          have e69 : A.eval (.tmp 69) = (.bool false) := by have h := depL hdeps 20 (by kernel_rfl) 69 (by kernel_rfl); exact h
          refine ifw_none rfl ?_
          with_reducible refine shown_q (Value.bool false) ?qq_1_21 (fun _ _ => ?qr_1_21)
          case qr_1_21 => exact (rfl : (Value.bool false) = (Value.bool false))
          with_reducible refine quietAt_mv (.tmp 69) (Value.bool false) ?h0_1_21 ?h1_1_21
          case h0_1_21 => rfl
          case h1_1_21 => exact e69
        · intro A u hu hpu hsz hout hdeps
          have e70 : A.eval (.tmp 70) = (.bool false) := by have h := depL hdeps 21 (by kernel_rfl) 70 (by kernel_rfl); exact h
          have e11 : A.eval (.tmp 11) = (.int .i64 E) := (hout 11 (by kernel_rfl)).trans rfl
          refine ifw_want 21 false 70 rfl rfl e70 ?_
          with_reducible refine shown_q (Value.int .i64 E) ?qq_1_22 (fun _ _ => ?qr_1_22)
          case qr_1_22 => exact (rfl : (Value.int .i64 E) = (Value.int .i64 E))
          with_reducible refine quietAt_mv (.tmp 11) (Value.int .i64 E) ?h0_1_22 ?h1_1_22
          case h0_1_22 => rfl
          case h1_1_22 => exact e11
        · intro A u hu hpu hsz hout hdeps
          have e70 : A.eval (.tmp 70) = (.bool false) := by have h := depL hdeps 21 (by kernel_rfl) 70 (by kernel_rfl); exact h
          have e71 : A.eval (.tmp 71) = (.int .i64 E) := by have h := depL hdeps 22 (by kernel_rfl) 71 (by kernel_rfl); exact h
          refine ifw_want 21 false 70 rfl rfl e70 ?_
          with_reducible refine shown_q (Value.int .i64 E) ?qq_1_23 (fun _ _ => ?qr_1_23)
          case qr_1_23 => exact (rfl : (Value.int .i64 E) = (Value.int .i64 E))
          with_reducible refine quietAt_call 14 Tryz.f14 ?h0_1_23 ?h1_1_23 ?h2_1_23 #[.tmp 71] #[31] ?h3_1_23 (Value.int .i64 E) #[(Value.int .i64 E)] ?h4_1_23 ?h5_1_23
          case h0_1_23 => exact Tryz.func14
          case h1_1_23 => kernel_rfl
          case h2_1_23 => kernel_rfl
          case h3_1_23 => rfl
          case h4_1_23 => exact map1 _ _ _ e71
          case h5_1_23 => exact HNum.out u E
        · intro A u hu hpu hsz hout hdeps
          have e70 : A.eval (.tmp 70) = (.bool false) := by have h := depL hdeps 21 (by kernel_rfl) 70 (by kernel_rfl); exact h
          have e7 : A.eval (.tmp 7) = (.int .i64 E) := (hout 7 (by kernel_rfl)).trans rfl
          refine ifw_want 21 false 70 rfl rfl e70 ?_
          with_reducible refine shown_q (Value.int .i64 E) ?qq_1_24 (fun _ _ => ?qr_1_24)
          case qr_1_24 => exact (rfl : (Value.int .i64 E) = (Value.int .i64 E))
          with_reducible refine quietAt_mv (.tmp 7) (Value.int .i64 E) ?h0_1_24 ?h1_1_24
          case h0_1_24 => rfl
          case h1_1_24 => exact e7
        · intro A u hu hpu hsz hout hdeps
          have e70 : A.eval (.tmp 70) = (.bool false) := by have h := depL hdeps 21 (by kernel_rfl) 70 (by kernel_rfl); exact h
          have e72 : A.eval (.tmp 72) = (.int .i64 E) := by have h := depL hdeps 23 (by kernel_rfl) 72 (by kernel_rfl); exact h
          have e73 : A.eval (.tmp 73) = (.int .i64 E) := by have h := depL hdeps 24 (by kernel_rfl) 73 (by kernel_rfl); exact h
          refine ifw_want 21 false 70 rfl rfl e70 ?_
          with_reducible refine shown_q (Value.bool false) ?qq_1_25 (fun _ _ => ?qr_1_25)
          case qr_1_25 => exact (rfl : (Value.bool false) = (Value.bool false))
          with_reducible refine quietAt_bin .neq 3 (.tmp 72) (.tmp 73) 3 (Value.int .i64 E) (Value.int .i64 E) (Value.bool false) ?h0_1_25 ?h1_1_25 ?h2_1_25 ?h3_1_25
          case h0_1_25 => rfl
          case h1_1_25 => exact e72
          case h2_1_25 => exact e73
          case h3_1_25 => exact HNeI.out _ _ u
        · intro A u hu hpu hsz hout hdeps
          have e70 : A.eval (.tmp 70) = (.bool false) := by have h := depL hdeps 21 (by kernel_rfl) 70 (by kernel_rfl); exact h
          have e74 : A.eval (.tmp 74) = (.bool false) := by have h := depL hdeps 25 (by kernel_rfl) 74 (by kernel_rfl); exact h
          refine ifw_none rfl ?_
          with_reducible refine shown_q (Value.bool false) ?qq_1_26 (fun _ _ => ?qr_1_26)
          case qr_1_26 => exact (rfl : (Value.bool false) = (Value.bool false))
          with_reducible refine quietAt_pick (.tmp 70) (.const (.bool true)) (.tmp 74) false (Value.bool false) ?h0_1_26 ?h1_1_26 ?h2_1_26
          case h0_1_26 => rfl
          case h1_1_26 => exact e70
          case h2_1_26 => rw [if_neg (by decide)]; exact e74
        · intro A u hu hpu hsz hout hdeps
          have e75 : A.eval (.tmp 75) = (.bool false) := by have h := depL hdeps 26 (by kernel_rfl) 75 (by kernel_rfl); exact h
          refine ifw_none rfl ?_
          with_reducible refine shown_q (Value.bool false) ?qq_1_27 (fun _ _ => ?qr_1_27)
          case qr_1_27 => exact (rfl : (Value.bool false) = (Value.bool false))
          with_reducible refine quietAt_mv (.tmp 75) (Value.bool false) ?h0_1_27 ?h1_1_27
          case h0_1_27 => rfl
          case h1_1_27 => exact e75
        · intro A u hu hpu hsz hout hdeps
          have e76 : A.eval (.tmp 76) = (.bool false) := by have h := depL hdeps 27 (by kernel_rfl) 76 (by kernel_rfl); exact h
          have e4 : A.eval (.tmp 4) = (.pointer (some ⟨b4, 0, none⟩)) := (hout 4 (by kernel_rfl)).trans rfl
          refine ifw_want 27 false 76 rfl rfl e76 ?_
          with_reducible refine shown_q (Value.agg X6.toArray) ?qq_1_28 (fun _ _ => ?qr_1_28)
          case qr_1_28 => exact (rfl : (Value.agg X6.toArray) = (Value.agg X6.toArray))
          with_reducible refine quietAt_load 26 (.tmp 4) ?h0_1_28 b4 0 X6 (.struct (Tryz.prog.fieldsOf 26)) ?h1_1_28 ?h2_1_28 ?h3_1_28 ?h4_1_28 ?h5_1_28
          case h0_1_28 => rfl
          case h1_1_28 => exact e4
          case h2_1_28 => exact (HXR.out u hu)
          case h3_1_28 => exact Tryz.underlying26
          case h4_1_28 => rfl
          case h5_1_28 => exact (by rw [HXL.out]; exact Tryz.size26)
        · intro A u hu hpu hsz hout hdeps
          have e76 : A.eval (.tmp 76) = (.bool false) := by have h := depL hdeps 27 (by kernel_rfl) 76 (by kernel_rfl); exact h
          have e0 : A.eval (.tmp 0) = (.slice (some ⟨g, o, none⟩) n c) := (hout 0 (by kernel_rfl)).trans rfl
          refine ifw_want 27 false 76 rfl rfl e76 ?_
          with_reducible refine shown_q (Value.slice (some ⟨g, o, none⟩) n c) ?qq_1_29 (fun _ _ => ?qr_1_29)
          case qr_1_29 => exact (rfl : (Value.slice (some ⟨g, o, none⟩) n c) = (Value.slice (some ⟨g, o, none⟩) n c))
          with_reducible refine quietAt_mv (.tmp 0) (Value.slice (some ⟨g, o, none⟩) n c) ?h0_1_29 ?h1_1_29
          case h0_1_29 => rfl
          case h1_1_29 => exact e0
        · intro A u hu hpu hsz hout hdeps
          have e76 : A.eval (.tmp 76) = (.bool false) := by have h := depL hdeps 27 (by kernel_rfl) 76 (by kernel_rfl); exact h
          have e3 : A.eval (.tmp 3) = (.int .i64 (i : Nat)) := (hout 3 (by kernel_rfl)).trans rfl
          refine ifw_want 27 false 76 rfl rfl e76 ?_
          with_reducible refine shown_q (Value.int .i64 (i : Nat)) ?qq_1_30 (fun _ _ => ?qr_1_30)
          case qr_1_30 => exact (rfl : (Value.int .i64 (i : Nat)) = (Value.int .i64 (i : Nat)))
          with_reducible refine quietAt_mv (.tmp 3) (Value.int .i64 (i : Nat)) ?h0_1_30 ?h1_1_30
          case h0_1_30 => rfl
          case h1_1_30 => exact e3
        · intro A u hu hpu hsz hout hdeps
          have e76 : A.eval (.tmp 76) = (.bool false) := by have h := depL hdeps 27 (by kernel_rfl) 76 (by kernel_rfl); exact h
          have e78 : A.eval (.tmp 78) = (.slice (some ⟨g, o, none⟩) n c) := by have h := depL hdeps 29 (by kernel_rfl) 78 (by kernel_rfl); exact h
          have e79 : A.eval (.tmp 79) = (.int .i64 (i : Nat)) := by have h := depL hdeps 30 (by kernel_rfl) 79 (by kernel_rfl); exact h
          refine ifw_want 27 false 76 rfl rfl e76 ?_
          with_reducible refine shown_q (Value.pointer (some ⟨g, o + i * 6, none⟩)) ?qq_1_31 (fun _ _ => ?qr_1_31)
          case qr_1_31 => exact (rfl : (Value.pointer (some ⟨g, o + i * 6, none⟩)) = (Value.pointer (some ⟨g, o + i * 6, none⟩)))
          with_reducible refine quietAt_idx 22 (.tmp 78) (.tmp 79) (Value.slice (some ⟨g, o, none⟩) n c) (Value.int .i64 (i : Nat)) (Value.pointer (some ⟨g, o + i * 6, none⟩)) ?h0_1_31 ?h1_1_31 ?h2_1_31 ?h3_1_31
          case h0_1_31 => rfl
          case h1_1_31 => exact e78
          case h2_1_31 => exact e79
          case h3_1_31 => exact idx22 g o n c i hlt u
        · intro A u hu hpu hsz hout hdeps
          have e76 : A.eval (.tmp 76) = (.bool false) := by have h := depL hdeps 27 (by kernel_rfl) 76 (by kernel_rfl); exact h
          have e80 : A.eval (.tmp 80) = (.pointer (some ⟨g, o + i * 6, none⟩)) := by have h := depL hdeps 31 (by kernel_rfl) 80 (by kernel_rfl); exact h
          refine ifw_want 27 false 76 rfl rfl e76 ?_
          with_reducible refine shown_q (Value.agg V6.toArray) ?qq_1_32 (fun _ _ => ?qr_1_32)
          case qr_1_32 => exact (rfl : (Value.agg V6.toArray) = (Value.agg V6.toArray))
          with_reducible refine quietAt_load 26 (.tmp 80) ?h0_1_32 g (o + i * 6) V6 (.struct (Tryz.prog.fieldsOf 26)) ?h1_1_32 ?h2_1_32 ?h3_1_32 ?h4_1_32 ?h5_1_32
          case h0_1_32 => rfl
          case h1_1_32 => exact e80
          case h2_1_32 => exact (HVR.out u hu)
          case h3_1_32 => exact Tryz.underlying26
          case h4_1_32 => rfl
          case h5_1_32 => exact (by rw [HVL.out]; exact Tryz.size26)
        · intro A u hu hpu hsz hout hdeps
          have e76 : A.eval (.tmp 76) = (.bool false) := by have h := depL hdeps 27 (by kernel_rfl) 76 (by kernel_rfl); exact h
          have e77 : A.eval (.tmp 77) = (.agg X6.toArray) := by have h := depL hdeps 28 (by kernel_rfl) 77 (by kernel_rfl); exact h
          have e81 : A.eval (.tmp 81) = (.agg V6.toArray) := by have h := depL hdeps 32 (by kernel_rfl) 81 (by kernel_rfl); exact h
          refine ifw_want 27 false 76 rfl rfl e76 ?_
          with_reducible refine shown_q (Value.bool true) ?qq_1_33 (fun _ _ => ?qr_1_33)
          case qr_1_33 => exact (rfl : (Value.bool true) = (Value.bool true))
          with_reducible refine quietAt_call 16 Tryz.f16 ?h0_1_33 ?h1_1_33 ?h2_1_33 #[.tmp 77, .tmp 81] #[26, 26] ?h3_1_33 (Value.bool true) #[(Value.agg X6.toArray), (Value.agg V6.toArray)] ?h4_1_33 ?h5_1_33
          case h0_1_33 => exact Tryz.func16
          case h1_1_33 => kernel_rfl
          case h2_1_33 => kernel_rfl
          case h3_1_33 => rfl
          case h4_1_33 => exact map2 _ _ _ _ _ e77 e81
          case h5_1_33 => exact HC16.out u hu
        · intro A u hu hpu hsz hout hdeps
          have e76 : A.eval (.tmp 76) = (.bool false) := by have h := depL hdeps 27 (by kernel_rfl) 76 (by kernel_rfl); exact h
          have e82 : A.eval (.tmp 82) = (.bool true) := by have h := depL hdeps 33 (by kernel_rfl) 82 (by kernel_rfl); exact h
          refine ifw_want 27 false 76 rfl rfl e76 ?_
          with_reducible refine shown_q (Value.bool false) ?qq_1_34 (fun _ _ => ?qr_1_34)
          case qr_1_34 => exact (rfl : (Value.bool false) = (Value.bool false))
          with_reducible refine quietAt_un .not 4 (.tmp 82) (Value.bool true) (Value.bool false) ?h0_1_34 ?h1_1_34 ?h2_1_34
          case h0_1_34 => rfl
          case h1_1_34 => exact e82
          case h2_1_34 => rfl
        · intro A u hu hpu hsz hout hdeps
          have e76 : A.eval (.tmp 76) = (.bool false) := by have h := depL hdeps 27 (by kernel_rfl) 76 (by kernel_rfl); exact h
          have e83 : A.eval (.tmp 83) = (.bool false) := by have h := depL hdeps 34 (by kernel_rfl) 83 (by kernel_rfl); exact h
          refine ifw_none rfl ?_
          with_reducible refine shown_q (Value.bool false) ?qq_1_35 (fun _ _ => ?qr_1_35)
          case qr_1_35 => exact (rfl : (Value.bool false) = (Value.bool false))
          with_reducible refine quietAt_pick (.tmp 76) (.const (.bool true)) (.tmp 83) false (Value.bool false) ?h0_1_35 ?h1_1_35 ?h2_1_35
          case h0_1_35 => rfl
          case h1_1_35 => exact e76
          case h2_1_35 => rw [if_neg (by decide)]; exact e83
        · intro A u8 listed hh hall
          have hA := hh.frame
          have HU := hid hh.grown
          obtain ⟨x49, hx49⟩ : ∃ x, A.eval (.tmp 49) = x := ⟨_, rfl⟩
          have f49 : (fun v _ => v = (Value.agg X6.toArray)) x49 u8 := by rw [← hx49]; exact hh.got 0 _ 49 rfl rfl (hall 0 (by decide))
          obtain ⟨x50, hx50⟩ : ∃ x, A.eval (.tmp 50) = x := ⟨_, rfl⟩
          have f50 : (fun v _ => v = (Value.int .i64 E)) x50 u8 := by rw [← hx50]; exact hh.got 1 _ 50 rfl rfl (hall 1 (by decide))
          obtain ⟨x51, hx51⟩ : ∃ x, A.eval (.tmp 51) = x := ⟨_, rfl⟩
          have f51 : (fun v _ => v = (Value.int .i64 E)) x51 u8 := by rw [← hx51]; exact hh.got 2 _ 51 rfl rfl (hall 2 (by decide))
          obtain ⟨x52, hx52⟩ : ∃ x, A.eval (.tmp 52) = x := ⟨_, rfl⟩
          have f52 : (fun v _ => v = (Value.int .i64 E)) x52 u8 := by rw [← hx52]; exact hh.got 3 _ 52 rfl rfl (hall 3 (by decide))
          obtain ⟨x53, hx53⟩ : ∃ x, A.eval (.tmp 53) = x := ⟨_, rfl⟩
          have f53 : (fun v _ => v = (Value.bool false)) x53 u8 := by rw [← hx53]; exact hh.got 4 _ 53 rfl rfl (hall 4 (by decide))
          obtain ⟨x54, hx54⟩ : ∃ x, A.eval (.tmp 54) = x := ⟨_, rfl⟩
          have f54 : (fun v _ => v = (Value.bool false)) x54 u8 := by rw [← hx54]; exact hh.got 5 _ 54 rfl rfl (hall 5 (by decide))
          obtain ⟨x55, hx55⟩ : ∃ x, A.eval (.tmp 55) = x := ⟨_, rfl⟩
          have f55 : (fun v _ => v = (Value.string T)) x55 u8 := by rw [← hx55]; exact hh.got 6 _ 55 rfl rfl (hall 6 (by decide))
          obtain ⟨x56, hx56⟩ : ∃ x, A.eval (.tmp 56) = x := ⟨_, rfl⟩
          have f56 : (fun v _ => v = (Value.string T)) x56 u8 := by rw [← hx56]; exact hh.got 7 _ 56 rfl rfl (hall 7 (by decide))
          obtain ⟨x57, hx57⟩ : ∃ x, A.eval (.tmp 57) = x := ⟨_, rfl⟩
          have f57 : (fun v _ => v = (Value.bool false)) x57 u8 := by rw [← hx57]; exact hh.got 8 _ 57 rfl rfl (hall 8 (by decide))
          obtain ⟨x58, hx58⟩ : ∃ x, A.eval (.tmp 58) = x := ⟨_, rfl⟩
          have f58 : (fun v _ => v = (Value.bool false)) x58 u8 := by rw [← hx58]; exact hh.got 9 _ 58 rfl rfl (hall 9 (by decide))
          obtain ⟨x59, hx59⟩ : ∃ x, A.eval (.tmp 59) = x := ⟨_, rfl⟩
          have f59 : (fun v _ => v = (Value.bool false)) x59 u8 := by rw [← hx59]; exact hh.got 10 _ 59 rfl rfl (hall 10 (by decide))
          obtain ⟨x60, hx60⟩ : ∃ x, A.eval (.tmp 60) = x := ⟨_, rfl⟩
          have f60 : (fun v _ => v = (Value.int .i64 E)) x60 u8 := by rw [← hx60]; exact hh.got 11 _ 60 rfl rfl (hall 11 (by decide))
          obtain ⟨x61, hx61⟩ : ∃ x, A.eval (.tmp 61) = x := ⟨_, rfl⟩
          have f61 : (fun v _ => v = (Value.int .i64 E)) x61 u8 := by rw [← hx61]; exact hh.got 12 _ 61 rfl rfl (hall 12 (by decide))
          obtain ⟨x62, hx62⟩ : ∃ x, A.eval (.tmp 62) = x := ⟨_, rfl⟩
          have f62 : (fun v _ => v = (Value.int .i64 E)) x62 u8 := by rw [← hx62]; exact hh.got 13 _ 62 rfl rfl (hall 13 (by decide))
          obtain ⟨x63, hx63⟩ : ∃ x, A.eval (.tmp 63) = x := ⟨_, rfl⟩
          have f63 : (fun v _ => v = (Value.bool false)) x63 u8 := by rw [← hx63]; exact hh.got 14 _ 63 rfl rfl (hall 14 (by decide))
          obtain ⟨x64, hx64⟩ : ∃ x, A.eval (.tmp 64) = x := ⟨_, rfl⟩
          have f64 : (fun v _ => v = (Value.bool false)) x64 u8 := by rw [← hx64]; exact hh.got 15 _ 64 rfl rfl (hall 15 (by decide))
          obtain ⟨x65, hx65⟩ : ∃ x, A.eval (.tmp 65) = x := ⟨_, rfl⟩
          have f65 : (fun v _ => v = (Value.bool false)) x65 u8 := by rw [← hx65]; exact hh.got 16 _ 65 rfl rfl (hall 16 (by decide))
          obtain ⟨x66, hx66⟩ : ∃ x, A.eval (.tmp 66) = x := ⟨_, rfl⟩
          have f66 : (fun v _ => v = (Value.string T)) x66 u8 := by rw [← hx66]; exact hh.got 17 _ 66 rfl rfl (hall 17 (by decide))
          obtain ⟨x67, hx67⟩ : ∃ x, A.eval (.tmp 67) = x := ⟨_, rfl⟩
          have f67 : (fun v _ => v = (Value.string T)) x67 u8 := by rw [← hx67]; exact hh.got 18 _ 67 rfl rfl (hall 18 (by decide))
          obtain ⟨x68, hx68⟩ : ∃ x, A.eval (.tmp 68) = x := ⟨_, rfl⟩
          have f68 : (fun v _ => v = (Value.bool false)) x68 u8 := by rw [← hx68]; exact hh.got 19 _ 68 rfl rfl (hall 19 (by decide))
          obtain ⟨x69, hx69⟩ : ∃ x, A.eval (.tmp 69) = x := ⟨_, rfl⟩
          have f69 : (fun v _ => v = (Value.bool false)) x69 u8 := by rw [← hx69]; exact hh.got 20 _ 69 rfl rfl (hall 20 (by decide))
          obtain ⟨x70, hx70⟩ : ∃ x, A.eval (.tmp 70) = x := ⟨_, rfl⟩
          have f70 : (fun v _ => v = (Value.bool false)) x70 u8 := by rw [← hx70]; exact hh.got 21 _ 70 rfl rfl (hall 21 (by decide))
          obtain ⟨x71, hx71⟩ : ∃ x, A.eval (.tmp 71) = x := ⟨_, rfl⟩
          have f71 : (fun v _ => v = (Value.int .i64 E)) x71 u8 := by rw [← hx71]; exact hh.got 22 _ 71 rfl rfl (hall 22 (by decide))
          obtain ⟨x72, hx72⟩ : ∃ x, A.eval (.tmp 72) = x := ⟨_, rfl⟩
          have f72 : (fun v _ => v = (Value.int .i64 E)) x72 u8 := by rw [← hx72]; exact hh.got 23 _ 72 rfl rfl (hall 23 (by decide))
          obtain ⟨x73, hx73⟩ : ∃ x, A.eval (.tmp 73) = x := ⟨_, rfl⟩
          have f73 : (fun v _ => v = (Value.int .i64 E)) x73 u8 := by rw [← hx73]; exact hh.got 24 _ 73 rfl rfl (hall 24 (by decide))
          obtain ⟨x74, hx74⟩ : ∃ x, A.eval (.tmp 74) = x := ⟨_, rfl⟩
          have f74 : (fun v _ => v = (Value.bool false)) x74 u8 := by rw [← hx74]; exact hh.got 25 _ 74 rfl rfl (hall 25 (by decide))
          obtain ⟨x75, hx75⟩ : ∃ x, A.eval (.tmp 75) = x := ⟨_, rfl⟩
          have f75 : (fun v _ => v = (Value.bool false)) x75 u8 := by rw [← hx75]; exact hh.got 26 _ 75 rfl rfl (hall 26 (by decide))
          obtain ⟨x76, hx76⟩ : ∃ x, A.eval (.tmp 76) = x := ⟨_, rfl⟩
          have f76 : (fun v _ => v = (Value.bool false)) x76 u8 := by rw [← hx76]; exact hh.got 27 _ 76 rfl rfl (hall 27 (by decide))
          obtain ⟨x77, hx77⟩ : ∃ x, A.eval (.tmp 77) = x := ⟨_, rfl⟩
          have f77 : (fun v _ => v = (Value.agg X6.toArray)) x77 u8 := by rw [← hx77]; exact hh.got 28 _ 77 rfl rfl (hall 28 (by decide))
          obtain ⟨x78, hx78⟩ : ∃ x, A.eval (.tmp 78) = x := ⟨_, rfl⟩
          have f78 : (fun v _ => v = (Value.slice (some ⟨g, o, none⟩) n c)) x78 u8 := by rw [← hx78]; exact hh.got 29 _ 78 rfl rfl (hall 29 (by decide))
          obtain ⟨x79, hx79⟩ : ∃ x, A.eval (.tmp 79) = x := ⟨_, rfl⟩
          have f79 : (fun v _ => v = (Value.int .i64 (i : Nat))) x79 u8 := by rw [← hx79]; exact hh.got 30 _ 79 rfl rfl (hall 30 (by decide))
          obtain ⟨x80, hx80⟩ : ∃ x, A.eval (.tmp 80) = x := ⟨_, rfl⟩
          have f80 : (fun v _ => v = (Value.pointer (some ⟨g, o + i * 6, none⟩))) x80 u8 := by rw [← hx80]; exact hh.got 31 _ 80 rfl rfl (hall 31 (by decide))
          obtain ⟨x81, hx81⟩ : ∃ x, A.eval (.tmp 81) = x := ⟨_, rfl⟩
          have f81 : (fun v _ => v = (Value.agg V6.toArray)) x81 u8 := by rw [← hx81]; exact hh.got 32 _ 81 rfl rfl (hall 32 (by decide))
          obtain ⟨x82, hx82⟩ : ∃ x, A.eval (.tmp 82) = x := ⟨_, rfl⟩
          have f82 : (fun v _ => v = (Value.bool true)) x82 u8 := by rw [← hx82]; exact hh.got 33 _ 82 rfl rfl (hall 33 (by decide))
          obtain ⟨x83, hx83⟩ : ∃ x, A.eval (.tmp 83) = x := ⟨_, rfl⟩
          have f83 : (fun v _ => v = (Value.bool false)) x83 u8 := by rw [← hx83]; exact hh.got 34 _ 83 rfl rfl (hall 34 (by decide))
          obtain ⟨x84, hx84⟩ : ∃ x, A.eval (.tmp 84) = x := ⟨_, rfl⟩
          have f84 : (fun v _ => v = (Value.bool false)) x84 u8 := by rw [← hx84]; exact hh.got 35 _ 84 rfl rfl (hall 35 (by decide))
          dsimp only [wrote, List.foldl] at hA
          rw [hx49, hx50, hx51, hx52, hx53, hx54, hx55, hx56, hx57, hx58, hx59, hx60, hx61, hx62, hx63, hx64, hx65, hx66, hx67, hx68, hx69, hx70, hx71, hx72, hx73, hx74, hx75, hx76, hx77, hx78, hx79, hx80, hx81, hx82, hx83, hx84] at hA
          clear hh hall hx49 hx50 hx51 hx52 hx53 hx54 hx55 hx56 hx57 hx58 hx59 hx60 hx61 hx62 hx63 hx64 hx65 hx66 hx67 hx68 hx69 hx70 hx71 hx72 hx73 hx74 hx75 hx76 hx77 hx78 hx79 hx80 hx81 hx82 hx83 hx84
          replace f49 := (f49 : x49 = (.agg X6.toArray))
          subst f49
          replace f50 := (f50 : x50 = (.int .i64 E))
          subst f50
          replace f51 := (f51 : x51 = (.int .i64 E))
          subst f51
          replace f52 := (f52 : x52 = (.int .i64 E))
          subst f52
          replace f53 := (f53 : x53 = (.bool false))
          subst f53
          replace f54 := (f54 : x54 = (.bool false))
          subst f54
          replace f55 := (f55 : x55 = (.string T))
          subst f55
          replace f56 := (f56 : x56 = (.string T))
          subst f56
          replace f57 := (f57 : x57 = (.bool false))
          subst f57
          replace f58 := (f58 : x58 = (.bool false))
          subst f58
          replace f59 := (f59 : x59 = (.bool false))
          subst f59
          replace f60 := (f60 : x60 = (.int .i64 E))
          subst f60
          replace f61 := (f61 : x61 = (.int .i64 E))
          subst f61
          replace f62 := (f62 : x62 = (.int .i64 E))
          subst f62
          replace f63 := (f63 : x63 = (.bool false))
          subst f63
          replace f64 := (f64 : x64 = (.bool false))
          subst f64
          replace f65 := (f65 : x65 = (.bool false))
          subst f65
          replace f66 := (f66 : x66 = (.string T))
          subst f66
          replace f67 := (f67 : x67 = (.string T))
          subst f67
          replace f68 := (f68 : x68 = (.bool false))
          subst f68
          replace f69 := (f69 : x69 = (.bool false))
          subst f69
          replace f70 := (f70 : x70 = (.bool false))
          subst f70
          replace f71 := (f71 : x71 = (.int .i64 E))
          subst f71
          replace f72 := (f72 : x72 = (.int .i64 E))
          subst f72
          replace f73 := (f73 : x73 = (.int .i64 E))
          subst f73
          replace f74 := (f74 : x74 = (.bool false))
          subst f74
          replace f75 := (f75 : x75 = (.bool false))
          subst f75
          replace f76 := (f76 : x76 = (.bool false))
          subst f76
          replace f77 := (f77 : x77 = (.agg X6.toArray))
          subst f77
          replace f78 := (f78 : x78 = (.slice (some ⟨g, o, none⟩) n c))
          subst f78
          replace f79 := (f79 : x79 = (.int .i64 (i : Nat)))
          subst f79
          replace f80 := (f80 : x80 = (.pointer (some ⟨g, o + i * 6, none⟩)))
          subst f80
          replace f81 := (f81 : x81 = (.agg V6.toArray))
          subst f81
          replace f82 := (f82 : x82 = (.bool true))
          subst f82
          replace f83 := (f83 : x83 = (.bool false))
          subst f83
          replace f84 := (f84 : x84 = (.bool false))
          subst f84
          subst hA
          show wpList _ _ _ [] _ _
          unfold wpList
          simp only [Act.put, List.setIfInBounds_toArray, List.set_cons_succ, List.set_cons_zero]
          go_wp2_with fail
          go_roundw
          case rel => exact ⟨i + 1, by go_num, by omega, hid (gtrans (gtrans HGW.out HCUR.out) HU.out)⟩
          case measure => simp [intOf]; omega
      · have hlt' : ¬ (i : Int) < (n : Int) := by omega
        clear HIt
        go_wp2_with (go_at_call 17; (with_reducible refine (HWk.out _ HGW.out).mono ?_); rintro e w8 ⟨rfl, hg8⟩; have HG8 := hid hg8; clear hg8)
        go_ret
        exact ⟨rfl, gtrans HGW.out HG8.out⟩
end Go.Proofs.YtdmnhkgiojkphaaGreatDoor
