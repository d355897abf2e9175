/- Rows of files that a call makes. -/
import Derived.Test.YtpbiofnncdneoaaGreatDoorX06
import Derived.BigQuiet
namespace Go.Proofs.YtpbiofnncdneoaaGreatDoor
open Go Go.RowKit Go.MapKept Go.MuLone
open Go.RowKit (wrap32 wrap64)

/-- The cells of files, one behind the other. -/
def fcs : List Fl → List Value
 | [] => []
 | f :: E => .string f.nm :: f.v :: fcs E
theorem fcs_len : ∀ E : List Fl, (fcs E).length = E.length * 2
 | [] => rfl
 | f :: E => by simp only [fcs, List.length_cons, fcs_len E]; omega
theorem fcs_app : ∀ (E : List Fl) (f : Fl), fcs (E ++ [f]) = fcs E ++ [.string f.nm, f.v]
 | [], f => rfl
 | g :: E, f => by simp only [List.cons_append, fcs, fcs_app E f]
theorem fcs_get : ∀ (E : List Fl) (i : Nat) (h : i < E.length), (fcs E)[i * 2]? = some (.string (E[i]).nm) ∧ (fcs E)[i * 2 + 1]? = some (E[i]).v
 | [], i, h => by cases h
 | f :: E, 0, h => ⟨rfl, rfl⟩
 | f :: E, i + 1, h => by
  have hi : i < E.length := by simpa using h
  have := fcs_get E i hi
  rw [show (i + 1) * 2 = i * 2 + 1 + 1 by omega, show i * 2 + 1 + 1 + 1 = (i * 2 + 1) + 1 + 1 by omega]
  simp only [fcs, List.getElem?_cons_succ, List.getElem_cons_succ]
  exact this
structure OutF (B : Nat) (w : World) (v : Value) (E : List Fl) : Prop where
 row : w.ownsRow B 117 2 v E.length (fcs E)
 own : ∀ f ∈ E, Out B w f.v f.bs
theorem own_ne {w : World} {B B' e e' q q' n n' : Nat} {v v' : Value} {xs xs' : List Value} (h : w.ownsRow B e q v n xs) (h' : w.ownsRow B' e' q' v' n' xs') (hne : e ≠ e') : ∀ k, v.ownBlock = some k → v'.ownBlock ≠ some k := fun k hk hk' => by
 rcases h.2 with ⟨rfl, _⟩ | ⟨g, cap, cur, rfl, _, hg, _⟩
 ·cases hk
 ·rcases h'.2 with ⟨rfl, _⟩ | ⟨g', cap', cur', rfl, _, hg', _⟩
  ·cases hk'
  ·injection hk with hk
   injection hk' with hk'
   have e1 : g = k := hk
   have e2 : g' = k := hk'
   subst e1
   rw [e2, hg] at hg'
   injection hg' with hg'
   injection hg' with _ h2 _
   exact hne h2
theorem OutF.keep {B : Nat} {w w' : World} {v : Value} {E : List Fl} (h : OutF B w v E) (hg : w.grownBy w' none) : OutF B w' v E := ⟨World.ownsRow.kept h.row hg (by cases v.ownBlock <;> simp), fun f hf => (h.own f hf).keep hg⟩
theorem OutF.nil {B : Nat} {w : World} {v : Value} (h : w.ownsRow B 117 2 v 0 []) : OutF B w v [] := ⟨h, fun f hf => by cases hf⟩
theorem OutF.len {B : Nat} {w : World} {v : Value} {E : List Fl} (h : OutF B w v E) : ∃ a c, v = .slice a E.length c := by
 rcases h.row.2 with ⟨h1, h2⟩ | ⟨g, cap, cur, h1, _⟩
 ·exact ⟨none, 0, by rw [h1, h2]⟩
 ·exact ⟨_, _, h1⟩
theorem Tryz.info117 : (Tryz.prog.info? 117).map (fun i => (i.zero, i.size, i.bytes)) = some (some (.agg [Value.string ⟨#[]⟩, .slice none 0 0].toArray), 2, 40) := by kernel_rfl
set_option maxRecDepth 100000 in
/-- append of one file. -/
theorem app_file {w : World} {B g : Nat} {vs : Value} {E : List Fl} {s : ByteArray} {bv : Value} {bs : List UInt8} (h : OutF B w vs E) (hb : Blk w g [.string s, bv] 117) (ho : Out B w bv bs) (hE : E.length ≤ 1000000) (hB : B ≤ w.heap.size) (ty : TypeId) :
  ∃ v' w', (Builtin.append_ #[110, 110] ty #[vs, .slice (some ⟨g, 0, none⟩) 1 1]).run Tryz.prog w = .ok v' w' ∧ OutF B w' v' (E ++ [⟨s, bv, bs⟩]) ∧ w.grownBy w' vs.ownBlock := by
 obtain ⟨inf, hi, hz0, hz1, hz2⟩ := info_parts Tryz.info117
 obtain ⟨ba, bc, hbv⟩ := ho.len
 obtain ⟨v', w', h1, h2, h3, _, h4⟩ := run_append_own_at (P := Tryz.prog) w B 110 ty 117 inf (.agg [Value.string ⟨#[]⟩, .slice none 0 0].toArray) 2 40 Tryz.underlying110 hi hz0 hz1 hz2 rfl (by decide) vs _ _ h.row ⟨g, 0, none⟩ 1 1 [.string s, bv] rfl (by
  intro j u hu
  rw [Addr.add_lit, Nat.zero_add]
  rcases (show j = 0 ∨ j = 1 ∨ 2 ≤ j by omega) with rfl | rfl | h2
  ·injection hu with hu; subst hu; exact hb.cell 0
  ·injection hu with hu; subst hu; exact hb.cell 1
  ·have : ([Value.string s, bv] : List Value)[j]? = none := by simp; omega
   rw [this] at hu; cases hu) (by rw [hbv]; exact file_one s ba bs.length bc) (by unfold maxLen; omega) (by omega) hB
 refine ⟨v', w', h1, ⟨by rw [fcs_app, List.length_append]; exact h2, fun f hf => ?_⟩, h3⟩
 have hx : ∀ f : Fl, Out B w f.v f.bs → Out B w' f.v f.bs := fun f hf => hf.on h3 (fun k hk => own_ne h.row hf (by decide) k hk)
 rcases List.mem_append.1 hf with hf | hf
 ·exact hx f (h.own f hf)
 ·rw [List.mem_singleton.1 hf]
  exact hx ⟨s, bv, bs⟩ ho
theorem OutF.ar {B : Nat} {w : World} {v : Value} {E : List Fl} (h : OutF B w v E) : ∃ a g c, v = .slice a (cont E).length c ∧ ArF w (fun k => B ≤ k ∧ k < w.heap.size) a g 0 (cont E) := by
 rcases h.row.2 with ⟨h1, h2⟩ | ⟨g, cap, cur, h1, hB, hg, hle, hm, hs, ht⟩
 ·have : E = [] := List.eq_nil_of_length_eq_zero h2
  subst this
  exact ⟨none, 0, 0, h1, (fun h => absurd h (by decide)), (fun i hi => absurd hi (by simp [cont]))⟩
 ·have hlt := (Array.getElem?_eq_some_iff.1 hg).1
  refine ⟨_, g, cap, by rw [len_cont]; exact h1, ⟨fun _ => ⟨rfl, hlt, hB, hlt⟩, fun i hi => ?_⟩⟩
  have hi' : i < E.length := by rw [len_cont] at hi; exact hi
  have hget : (cont E)[i] = ((E[i]).nm, (E[i]).bs) := by simp [cont]
  obtain ⟨c1, c2⟩ := fcs_get E i hi'
  have hcell : ∀ j x, (fcs E)[j]? = some x → w.cell? ⟨g, j, none⟩ = some x := fun j x hx => by
   rw [← ht] at hx
   have hj : j < E.length * 2 := by
    have := (List.getElem?_eq_some_iff.1 hx).1
    rw [List.length_take] at this
    omega
   rw [List.getElem?_take, if_pos hj] at hx
   have hx' : cur[j]? = some x := by rw [← Array.getElem?_toList]; exact hx
   simp [World.cell?, hg, hx']
  rw [hget]
  refine ⟨by rw [Nat.zero_add]; exact hcell _ _ c1, (E[i]).v, by rw [Nat.zero_add]; exact hcell _ _ c2, ?_⟩
  have ho := h.own E[i] (List.getElem_mem _)
  obtain ⟨a, b, off, c, hv, hc, hn, ha, hcl⟩ := ho.rd
  refine ⟨a, b, off, c, hv, hc, hn, fun hl => ?_, hcl⟩
  obtain ⟨q1, q2, q3⟩ := ha hl
  refine ⟨q1, q2, ?_, q2⟩
  exact ho.block b (by rw [hv, q1]; rfl)
/-- Files in the order of their names. -/
def srtC (C : Cn) : Cn := (srtL (C.map (fun p => p.1.data.toList))).map (fun n => (⟨n.toArray⟩, (getC C ⟨n.toArray⟩).getD []))
theorem srtC_len (C : Cn) : (srtC C).length = C.length := by
 unfold srtC srtL
 rw [List.length_map, List.length_mergeSort, List.length_map]
theorem nmL_cont (F : List Fl) : nmL F = (cont F).map (fun p => p.1.data.toList) := by
 unfold nmL cont
 rw [List.map_map]
 rfl
end Go.Proofs.YtpbiofnncdneoaaGreatDoor

namespace Go.Proofs.YtpbiofnncdneoaaGreatDoor
open Go Go.RowKit Go.MapKept Go.MuLone
open Go.RowKit (wrap32 wrap64)

variable {w w' : World} {B b m : Nat} {lk room : Int} {off : Bool} {wt ar kp : Int} {F : List Fl}
theorem make58 (w : World) (c : Nat) (hc : c ≤ 1000000) : ∃ w', (Instr.makeSlice 110 (.int .i64 0) (.int .i64 (c : Int))).run Tryz.prog w = .ok (.slice (some ⟨w.heap.size, 0, none⟩) 0 c) w' ∧ Hid (OutF w.heap.size w' (.slice (some ⟨w.heap.size, 0, none⟩) 0 c) [] ∧ w.grownBy w' none) := by
 obtain ⟨inf, hi, hz0, hz1, hz2⟩ := info_parts Tryz.info117
 obtain ⟨w', h1, h2, h3⟩ := run_make_own (P := Tryz.prog) w w.heap.size 110 117 inf _ 2 Tryz.underlying110 hi hz0 hz1 .i64 .i64 c (by rw [hz2]; omega) (by unfold maxLen; omega) (Nat.le_refl _)
 exact ⟨w', h1, hid ⟨.nil h2, h3⟩⟩
theorem OutF.base {B B' : Nat} {w : World} {v : Value} {E : List Fl} (h : OutF B w v E) (hb : B' ≤ B) : OutF B' w v E := ⟨owns_base h.row hb, fun f hf => owns_base (h.own f hf) hb⟩
theorem row_len {w : World} {B e q n : Nat} {v : Value} {xs : List Value} (h : w.ownsRow B e q v n xs) : ∃ a c, v = .slice a n c := by
 rcases h.2 with ⟨h1, h2⟩ | ⟨g, cap, cur, h1, _⟩
 ·exact ⟨none, 0, by rw [h1, h2]⟩
 ·exact ⟨_, _, h1⟩
theorem str_at {w : World} {B n : Nat} {a : Option Addr} {c : Nat} {xs : List (List UInt8)} (h : w.ownsRow B 9 1 (.slice a n c) n (xs.map encStr)) {i : Nat} (hi : i < xs.length) : ∃ g, a = some ⟨g, 0, none⟩ ∧ B ≤ g ∧ w.cell? ⟨g, i, none⟩ = some (.string ⟨(xs[i]).toArray⟩) := by
 have h0 := h.1
 rw [List.length_map, Nat.mul_one] at h0
 rcases h.2 with ⟨h1, h2⟩ | ⟨g, cap, cur, h1, hB, hg, hle, hm, hs, ht⟩
 ·omega
 ·injection h1 with h1
  refine ⟨g, h1, hB, ?_⟩
  have hx : (cur.toList.take (n * 1))[i]? = some (encStr xs[i]) := by rw [ht, List.getElem?_map, List.getElem?_eq_getElem hi]; rfl
  rw [List.getElem?_take, if_pos (by omega)] at hx
  have hx' : cur[i]? = some (encStr xs[i]) := by rw [← Array.getElem?_toList]; exact hx
  simp [World.cell?, hg, hx']
theorem row_kept {w w' : World} {B e q n : Nat} {v : Value} {xs : List Value} (h : w.ownsRow B e q v n xs) (hg : w.grownBy w' none) : w'.ownsRow B e q v n xs := World.ownsRow.kept h hg (by cases v.ownBlock <;> simp)
theorem row_on {w w' : World} {B e q n : Nat} {v : Value} {xs : List Value} {r : Option Nat} (h : w.ownsRow B e q v n xs) (hg : w.grownBy w' r) (hr : ∀ k, r = some k → v.ownBlock ≠ some k) : w'.ownsRow B e q v n xs := by
 refine World.ownsRow.kept h hg ?_
 cases hv : v.ownBlock with
 | none => exact .inl rfl
 | some g => exact .inr (fun e => hr g e.symm hv)
theorem own_low {w : World} {B e q n : Nat} {v : Value} {xs : List Value} (h : w.ownsRow B e q v n xs) : ∀ k, v.ownBlock = some k → B ≤ k := fun k hk => by
 rcases h.2 with ⟨rfl, _⟩ | ⟨g, cap, cur, rfl, hB, _⟩
 ·cases hk
 ·injection hk with hk
  have : g = k := hk
  omega
theorem yieldsIf_look {P : Program} {ops : Array Oper} {S : World → Prop} {o : Oper} {a : Act} (hw : Region.wanted o (yielded ops a.tmps) = true) (t : TypeId) (x k : Operand) (ok : Bool) (ho : o.op = .lookup t x k ok) (vx vk v : Value) (hx : a.eval x = vx) (hk : a.eval k = vk) (hr : ∀ u : World, S u → (Instr.lookup t vx vk ok).run P u = .ok v u) : YieldsIf P ops S o v a :=
 .inl ⟨hw, fun w hS => by
  subst hx hk
  unfold execOp
  simp only [ho]
  rw [Sem.run_bind, hr w hS]
  rfl⟩
theorem step_append_file {w : World} {ops : Array Oper} {o : Oper} {a : Act} {K : Act → World → Prop} {Q : Exit → Act → World → Prop} {R : Prop} (hgd : o.guard = none) (s x : Operand)
  (ho : o.op = .call { callee := .builtin .append, args := #[s, x], argTypes := #[110, 110] }) {B g : Nat} {vs : Value} {E : List Fl} {nm : ByteArray} {bv : Value} {bs : List UInt8} (h : OutF B w vs E) (hb : Blk w g [.string nm, bv] 117) (hbv : Out B w bv bs) (hs : a.eval s = vs) (hx : a.eval x = .slice (some ⟨g, 0, none⟩) 1 1) (hE : E.length ≤ 1000000) (hB : B ≤ w.heap.size)
  (hk : ∀ v' w', OutF B w' v' (E ++ [⟨nm, bv, bs⟩]) → w.grownBy w' vs.ownBlock → K (a.put o.dst v') w') : if Region.wanted o (yielded ops a.tmps) = true then Oper.wp Tryz.prog o a w K Q else R := by
 have hw : Region.wanted o (yielded ops a.tmps) = true := by simp [Region.wanted, hgd]
 rw [if_pos hw]
 obtain ⟨v', w', hr, h1, h2⟩ := app_file h hb hbv hE hB o.type
 unfold Oper.wp execOp
 simp only [ho, resolve, invoke, builtin, Sem.run_bind, Sem.run_pure, Result.andThen_ok, List.map_toArray, List.map_cons, List.map_nil, hs, hx, hr]
 exact hk v' w' h1 h2
set_option maxRecDepth 100000 in
set_option maxHeartbeats 8000000 in
theorem files_dk (h : Dk w B b m 0 room off wt ar kp F) (hl : F.length ≤ 64) (hn : ∀ f ∈ F, f.nm.size ≤ 64) (hbs : ∀ f ∈ F, f.bs.length ≤ 17592186044416) :
  Calls Tryz.prog 33 #[.pointer (some ⟨b, 0, none⟩)] w fun e w' => ∃ v E, e = .returned v ∧ OutF w.heap.size w' v E ∧ cont E = srtC (cont F) ∧ w.grownBy w' none := by
 have HFl : Hid (∀ k, Fp b m F k → k < w.heap.size) := hid (fun k hk => (h.lt hk).2)
 have HB0 := hid h.blk
 have HT9 : Hid (∀ {u v : World}, w.grownBy u (some b) → DF u v (fun k => w.heap.size ≤ k) → Dk v B b m 1 room off wt ar kp F → w.grownBy v (some b)) := hid (fun h1 h2 _ => ⟨h2.os.trans h1.os, h2.tape.trans h1.tape, h2.output.trans h1.output, Nat.le_trans h1.size h2.size, fun k hk hr => (h2.block k (Nat.lt_of_lt_of_le hk h1.size) (by omega)).trans (h1.block k hk hr)⟩)
 have HD := hid h
 have HL := hid (lock_any h)
 have HSo : Hid (∀ u, Dk u B b m 1 room off wt ar kp F → Calls Tryz.prog 63 #[.pointer (some ⟨b, 0, none⟩)] u fun e w' => ∃ v, e = .returned v ∧ w'.ownsRow u.heap.size 9 1 v F.length ((srtL (nmL F)).map encStr) ∧ u.grownBy w' none) := hid (fun u hu => sorted_any hu hl hn)
 have HMk := hid (fun u => make58 u F.length (by omega))
 have HLen : Hid (∀ u, Dk u B b m 1 room off wt ar kp F → ∀ ty, (Builtin.len_ #[80] ty #[.map (some m)]).run Tryz.prog u = .ok (.int .i64 (F.length : Nat)) u) := hid (fun u hu ty => run_lenM hu.map ty)
 have HBs := hid hbs
 have HLl := hid hl
 have HNm := hid hn
 clear h hbs hl hn
 obtain ⟨n, HN⟩ : ∃ n, Hid (F.length = n) := ⟨_, hid rfl⟩
 rw [HN.out] at HMk HLen HSo
 go_enter_defers Tryz.func33, Tryz.ntmps33
 go_upto_region 5 with (first
  | (go_at_call 52; refine HL.out.mono ?_; rintro e w1 ⟨rfl, hd, hg⟩; have HD1 := hid hd; have HG1 := hid hg; have y3 := hd.c.2.2.1; have hln := HLen.out _ hd; obtain ⟨w2, hmk, HM2⟩ := HMk.out w1; clear hd hg)
  | (go_at_call 63; refine (HSo.out _ (HD1.out.keep HM2.out.2)).mono ?_; rintro e w3 ⟨v, rfl, ho, hg⟩; obtain ⟨sa, sc, rfl⟩ := row_len ho; have HO3 := hid ho; have HG3 := hid hg; clear ho hg))
 have HNs : Hid ((srtL (nmL F)).length = n) := hid (by unfold srtL; rw [List.length_mergeSort, nmL, List.length_map, HN.out])
 have HD3 := hid ((HD1.out.keep HM2.out.2).keep HG3.out)
 have HE3 := hid ((HM2.out.1.base HG1.out.size).keep HG3.out)
 have HT3 := hid (gtrans HG1.out (gsome (gtrans HM2.out.2 HG3.out) (some b)))
 have HS3 := hid (owns_base HO3.out (Nat.le_trans HG1.out.size HM2.out.2.size))
 clear HO3 HG3 HM2 HD1 HMk HLen HSo HL hln hmk y3
 go_loopw [22, 3] (fun iv fv wr => ∃ (i : Nat) (E : List Fl), iv = .int .i64 i ∧ i ≤ n ∧ Hid (OutF w.heap.size wr fv E ∧ cont E = (srtC (cont F)).take i) ∧ Hid (Dk wr B b m 1 room off wt ar kp F) ∧ Hid (wr.ownsRow w.heap.size 9 1 (.slice sa n sc) n ((srtL (nmL F)).map encStr)) ∧ Hid (w.grownBy wr (some b))) (fun iv _ _ => n - (intOf iv).toNat)
 case atStart => exact ⟨0, [], rfl, by omega, hid ⟨HE3.out, rfl⟩, HD3, HS3, HT3⟩
 case round =>
  obtain ⟨i, E, rfl, hi, HI, HD, HS, HG⟩ := hrel
  obtain ⟨w0, hw0⟩ : ∃ x : World, x = wr := ⟨_, rfl⟩
  rw [← hw0] at HI HD HS HG ⊢
  clear hw0 HD3 HE3 HT3 HS3
  by_cases hlt : i < n
  ·as_aux_lemma =>
   have hlt' : (i : Int) < (n : Int) := by omega
   have hn64 : n ≤ 64 := by rw [← HN.out]; exact HLl.out
   have hiN : i < (srtL (nmL F)).length := by rw [HNs.out]; exact hlt
   obtain ⟨sg, rfl, hsg, hcl⟩ := str_at HS.out hiN
   obtain ⟨s, HsE⟩ : ∃ s, Hid ((⟨((srtL (nmL F))[i]).toArray⟩ : ByteArray) = s) := ⟨_, hid rfl⟩
   rw [HsE.out] at hcl
   obtain ⟨fa, fc, hfv⟩ := (HD.out.look s).1.len
   obtain ⟨ol, hol⟩ : ∃ x, oldB F s = x := ⟨_, rfl⟩
   rw [hol] at hfv
   obtain ⟨fn, HFn⟩ : ∃ x, Hid (ol.length = x) := ⟨_, hid rfl⟩
   rw [HFn.out] at hfv
   have HLk : Hid (∀ u, MapAt u m F → (Instr.lookup 80 (.map (some m)) (.string s) false).run Tryz.prog u = .ok (.slice fa fn fc) u) := hid (fun u hu => by rw [← hfv]; exact run_look1 hu s)
   have HOl : Hid (ol.length ≤ 17592186044416) := hid (by
    rw [← hol]
    unfold oldB
    cases hg : getF F s with
    | none => show 0 ≤ _; omega
    | some f => exact HBs.out f (getF_mem hg).1)
   have HBc : Hid (∀ u, Dk u B b m 1 room off wt ar kp F → Calls Tryz.prog 64 #[.slice fa fn fc] u fun e w' => ∃ v', e = .returned v' ∧ Out u.heap.size w' v' ol ∧ u.grownBy w' none) := hid (fun u hu => by
    have := (hu.look s).1
    rw [hfv, hol] at this
    exact bclone_any u _ _ ol this.rd (Nat.le_trans HOl.out (by decide)))
   have HSz : Hid (s.size ≤ 64) := hid (by
    have h1 : (srtL (nmL F))[i] ∈ nmL F := (List.mergeSort_perm (nmL F) leB).mem_iff.1 (List.getElem_mem hiN)
    obtain ⟨f, hf, he⟩ := List.mem_map.1 h1
    rw [← HsE.out]
    show ((srtL (nmL F))[i]).toArray.size ≤ 64
    rw [← he]
    exact HNm.out f hf)
   have HCl : Hid (∀ u, Calls Tryz.prog 49 #[.string s] u fun e w' => e = .returned (.string s) ∧ u.grownBy w' none) := hid (fun u => clone_any s u (by have := HSz.out; omega))
   have HEl : Hid (E.length ≤ 1000000) := hid (by
    have := congrArg List.length HI.out.2
    rw [len_cont, List.length_take] at this
    have := HLl.out
    have := HN.out
    omega)
   have HNx : Hid (∀ v, cont (E ++ [⟨s, v, ol⟩]) = (srtC (cont F)).take (i + 1)) := hid (fun v => by
    have h2 : i < (srtC (cont F)).length := by rw [srtC_len, len_cont, HN.out]; exact hlt
    rw [List.take_succ_eq_append_getElem h2, ← HI.out.2]
    show cont (E ++ [⟨s, v, ol⟩]) = cont E ++ [_]
    unfold cont
    rw [List.map_append]
    congr 1
    show [(s, ol)] = [(srtC (cont F))[i]]
    have h3 : (srtC (cont F))[i]? = some (s, ol) := by
     unfold srtC
     rw [List.getElem?_map, ← nmL_cont, List.getElem?_eq_getElem hiN]
     show some ((⟨((srtL (nmL F))[i]).toArray⟩ : ByteArray), (getC (cont F) ⟨((srtL (nmL F))[i]).toArray⟩).getD []) = _
     rw [HsE.out, ← oldB_cont, hol]
    rw [(List.getElem?_eq_some_iff.1 h3).2])
   clear hfv hol
   go_upto_region 7 with fail
   obtain ⟨u8, hu8⟩ : ∃ x, w0.drew = x := ⟨_, rfl⟩
   have HU : Hid (w0.grownBy u8 none) := hid (by rw [← hu8]; exact gdrew1 _ _)
   have HD8 := hid (HD.out.keep HU.out)
   refine wp_calm ?_
   refine wp_region_held_drew (S := (fun u => u.cell? ⟨b, 3, none⟩ = some (.map (some m)) ∧ MapAt u m F)) (by kernel_rfl) ?_ (fun hHeld => ?_)
   ·rw [hu8]; exact ⟨HD8.out.c.2.2.1, HD8.out.map⟩
   rw [hu8]
   clear hu8
   have hS8 : u8.cell? ⟨b, 3, none⟩ = some (.map (some m)) ∧ MapAt u8 m F := ⟨HD8.out.c.2.2.1, HD8.out.map⟩
   refine wpAnyH_take (i := 0) (oi := { dst := some 26, op := Op.move (Operand.tmp 3), type := 110, pos := "disk.go:146", after := #[], guard := none }) (v := u3) rfl (by kernel_rfl) (by kernel_rfl) (by kernel_rfl) (fun _ _ _ h => by cases h.1) (Or.inl ⟨by rfl, by intro u hSu; have hSc := hSu.1; clear hSu; (try dsimp only at hSc); go_simp⟩) (by assumption) ?_
   (try simp only [Act.put, List.setIfInBounds_toArray, List.set_cons_zero, List.set_cons_succ])
   refine wpAnyH_take (i := 1) (oi := { dst := some 27, op := Op.move (Operand.tmp 5), type := 9, pos := "disk.go:146", after := #[], guard := none }) (v := (.string s)) rfl (by kernel_rfl) (by kernel_rfl) (by kernel_rfl) (fun _ _ _ h => by cases h.1) (Or.inl ⟨by rfl, by intro u hSu; have hSc := hSu.1; clear hSu; (try dsimp only at hSc); go_simp⟩) (by assumption) ?_
   (try simp only [Act.put, List.setIfInBounds_toArray, List.set_cons_zero, List.set_cons_succ])
   refine wpAnyH_take (i := 3) (oi := { dst := some 29, op := Op.move (Operand.tmp 0), type := 26, pos := "disk.go:146", after := #[], guard := none }) (v := (.pointer (some ⟨b, 0, none⟩))) rfl (by kernel_rfl) (by kernel_rfl) (by kernel_rfl) (fun _ _ _ h => by cases h.1) (Or.inl ⟨by rfl, by intro u hSu; have hSc := hSu.1; clear hSu; (try dsimp only at hSc); go_simp⟩) (by assumption) ?_
   (try simp only [Act.put, List.setIfInBounds_toArray, List.set_cons_zero, List.set_cons_succ])
   refine wpAnyH_take (i := 4) (oi := { dst := some 30, op := Op.nilCheck (Operand.tmp 29), type := 0, pos := "disk.go:146", after := #[{ on := 3, ground := Ground.data }], guard := none }) (v := (.pointer (some ⟨b, 0, none⟩))) rfl (by kernel_rfl) (by kernel_rfl) (by kernel_rfl) (fun _ _ _ h => by cases h.1) (Or.inl ⟨by rfl, by intro u hSu; have hSc := hSu.1; clear hSu; (try dsimp only at hSc); go_simp⟩) (by assumption) ?_
   (try simp only [Act.put, List.setIfInBounds_toArray, List.set_cons_zero, List.set_cons_succ])
   refine wpAnyH_take (i := 5) (oi := { dst := some 31, op := Op.fieldAddr 89 (Operand.tmp 30) 2, type := 0, pos := "disk.go:146", after := #[{ on := 4, ground := Ground.data }], guard := none }) (v := (.pointer (some ⟨b, 3, none⟩))) rfl (by kernel_rfl) (by kernel_rfl) (by kernel_rfl) (fun _ _ _ h => by cases h.1) (Or.inl ⟨by rfl, by intro u hSu; have hSc := hSu.1; clear hSu; (try dsimp only at hSc); go_simp⟩) (by assumption) ?_
   (try simp only [Act.put, List.setIfInBounds_toArray, List.set_cons_zero, List.set_cons_succ])
   refine wpAnyH_take (i := 6) (oi := { dst := some 32, op := Op.load 80 (Operand.tmp 31), type := 80, pos := "disk.go:146", after := #[{ on := 5, ground := Ground.data }], guard := none }) (v := (.map (some m))) rfl (by kernel_rfl) (by kernel_rfl) (by kernel_rfl) (fun _ _ _ h => by cases h.1) (Or.inl ⟨by rfl, by intro u hSu; have hSc := hSu.1; clear hSu; (try dsimp only at hSc); go_simp⟩) (by assumption) ?_
   (try simp only [Act.put, List.setIfInBounds_toArray, List.set_cons_zero, List.set_cons_succ])
   refine wpAnyH_take (i := 7) (oi := { dst := some 33, op := Op.move (Operand.tmp 5), type := 9, pos := "disk.go:146", after := #[], guard := none }) (v := (.string s)) rfl (by kernel_rfl) (by kernel_rfl) (by kernel_rfl) (fun _ _ _ h => by cases h.1) (Or.inl ⟨by rfl, by intro u hSu; have hSc := hSu.1; clear hSu; (try dsimp only at hSc); go_simp⟩) (by assumption) ?_
   (try simp only [Act.put, List.setIfInBounds_toArray, List.set_cons_zero, List.set_cons_succ])
   refine wpAnyH_take (i := 8) (oi := { dst := some 34, op := Op.lookup 80 (Operand.tmp 32) (Operand.tmp 33) false, type := 74, pos := "disk.go:146", after := #[{ on := 6, ground := Ground.data }, { on := 7, ground := Ground.data }], guard := none }) (v := (.slice fa fn fc)) rfl (by kernel_rfl) (by kernel_rfl) (by kernel_rfl) (fun _ _ _ h => by cases h.1) (yieldsIf_look rfl 80 (.tmp 32) (.tmp 33) false rfl _ _ _ rfl rfl (fun u hu => HLk.out u hu.2)) (by assumption) ?_
   (try simp only [Act.put, List.setIfInBounds_toArray, List.set_cons_zero, List.set_cons_succ])
   refine wpAnyH_ready (rs := [2]) (by kernel_rfl) (by simp) ?_
   refine AllReadyH.cons (o := { dst := some 28, op := Op.call { callee := Callee.value (Operand.func 49), args := #[Operand.tmp 27], argTypes := #[9] }, type := 9, pos := "disk.go:146", after := #[{ on := 1, ground := Ground.data }], guard := none }) rfl (fun K hK => ?_) AllReadyH.nil
   go_simp
   go_wp2_with (go_at_call 49; refine (HCl.out _).mono ?_; rintro e w5 ⟨rfl, hg⟩; have HG5 := hid hg; clear hg)
   have HD5 := hid (HD8.out.keep HG5.out)
   refine hK.out _ _ ?_ (fun hHeld => ?_)
   ·exact ⟨HD5.out.c.2.2.1, HD5.out.map⟩
   clear hK K
   (try simp only [Act.put, List.setIfInBounds_toArray, List.set_cons_zero, List.set_cons_succ])
   refine wpAnyH_ready (rs := [9]) (by kernel_rfl) (by simp) ?_
   refine AllReadyH.cons (o := { dst := some 35, op := Op.call { callee := Callee.value (Operand.func 64), args := #[Operand.tmp 34], argTypes := #[74] }, type := 74, pos := "disk.go:146", after := #[{ on := 8, ground := Ground.data }, { on := 2, ground := Ground.chain }], guard := none }) rfl (fun K hK => ?_) AllReadyH.nil
   go_simp
   go_wp2_with (go_at_call 64; refine (HBc.out _ HD5.out).mono ?_; rintro e w6 ⟨bv, rfl, ho, hg⟩; obtain ⟨xa, xc, rfl⟩ := ho.len; have HO6 := hid ho; have HG6 := hid hg; clear ho hg)
   rw [HFn.out] at HO6 ⊢
   have HD6 := hid (HD5.out.keep HG6.out)
   refine hK.out _ _ ?_ (fun hHeld => ?_)
   ·exact ⟨HD6.out.c.2.2.1, HD6.out.map⟩
   clear hK K
   (try simp only [Act.put, List.setIfInBounds_toArray, List.set_cons_zero, List.set_cons_succ])
   refine wpAnyH_ready (rs := [10]) (by kernel_rfl) (by simp) ?_
   refine AllReadyH.cons (o := { dst := some 36, op := Op.build 117 #[(0, Operand.tmp 28), (1, Operand.tmp 35)], type := 117, pos := "disk.go:146", after := #[{ on := 2, ground := Ground.data }, { on := 9, ground := Ground.data }], guard := none }) rfl (fun K hK => ?_) AllReadyH.nil
   go_simp
   refine hK.out _ _ ?_ (fun hHeld => ?_)
   ·exact ⟨HD6.out.c.2.2.1, HD6.out.map⟩
   clear hK K
   (try simp only [Act.put, List.setIfInBounds_toArray, List.set_cons_zero, List.set_cons_succ])
   refine wpAnyH_ready (rs := [11]) (by kernel_rfl) (by simp) ?_
   refine AllReadyH.cons (o := { dst := some 37, op := Op.buildSlice 110 1 #[(0, Operand.tmp 36)], type := 110, pos := "disk.go:146", after := #[{ on := 10, ground := Ground.data }], guard := none }) rfl (fun K hK => ?_) AllReadyH.nil
   go_simp
   obtain ⟨w7, hw7⟩ : ∃ x, w6.alloc (.cells #[.string s, .slice xa fn xc] 117) = x := ⟨_, rfl⟩
   have HG7 : Hid (w6.grownBy w7 none) := hid (by rw [← hw7]; exact galloc _ _ _)
   have HB7 : Hid (Blk w7 w6.heap.size [.string s, .slice xa fn xc] 117) := hid (by rw [← hw7]; exact Blk.new w6 _ 117)
   rw [hw7]
   clear hw7
   obtain ⟨g7, hg7⟩ : ∃ x, w6.heap.size = x := ⟨_, rfl⟩
   rw [hg7] at HB7 ⊢
   clear hg7
   have HD7 := hid (HD6.out.keep HG7.out)
   refine hK.out _ _ ?_ (fun hHeld => ?_)
   ·exact ⟨HD7.out.c.2.2.1, HD7.out.map⟩
   clear hK K
   (try simp only [Act.put, List.setIfInBounds_toArray, List.set_cons_zero, List.set_cons_succ])
   have HGt := hid (gtrans HU.out (gtrans HG5.out (gtrans HG6.out HG7.out)))
   have HE7 := hid (HI.out.1.keep HGt.out)
   have HO7 : Hid (Out w.heap.size w7 (.slice xa fn xc) ol) := hid (Out.keep (owns_base HO6.out (by have := HG.out.size; have := HU.out.size; have := HG5.out.size; omega)) HG7.out)
   refine wpAnyH_ready (rs := [12]) (by kernel_rfl) (by simp) ?_
   refine AllReadyH.cons (o := { dst := some 38, op := Op.call { callee := Callee.builtin Builtin.append, args := #[Operand.tmp 26, Operand.tmp 37], argTypes := #[110, 110] }, type := 110, pos := "disk.go:146", after := #[{ on := 0, ground := Ground.data }, { on := 11, ground := Ground.data }, { on := 9, ground := Ground.chain }], guard := none }) rfl (fun K hK => ?_) AllReadyH.nil
   refine step_append_file rfl (.tmp 26) (.tmp 37) rfl HE7.out HB7.out HO7.out rfl rfl HEl.out (by have := HG.out.size; have := HGt.out.size; omega) ?_
   intro fv9 w9 hE9 hg9
   have HE9 := hid hE9
   have HG9 := hid hg9
   clear hE9 hg9
   have HF9 := hid (DF.opt HG9.out (P := fun k => w.heap.size ≤ k) (fun k hk => own_low HE7.out.row k hk))
   have HD9 := hid (HD7.out.df HF9.out (fun k hk hw => by have := HFl.out k hk; omega))
   refine hK.out _ _ ?_ (fun hHeld => ?_)
   ·exact ⟨HD9.out.c.2.2.1, HD9.out.map⟩
   clear hK K
   (try simp only [Act.put, List.setIfInBounds_toArray, List.set_cons_zero, List.set_cons_succ])
   refine wpAnyH_ready (rs := [13]) (by kernel_rfl) (by simp) ?_
   refine AllReadyH.cons (o := { dst := some 3, op := Op.assign (Operand.tmp 38), type := 110, pos := "disk.go:146", after := #[{ on := 12, ground := Ground.data }, { on := 12, ground := Ground.chain }, { on := 0, ground := Ground.phase }, { on := 1, ground := Ground.phase }, { on := 2, ground := Ground.phase }, { on := 3, ground := Ground.phase }, { on := 4, ground := Ground.phase }, { on := 5, ground := Ground.phase }, { on := 6, ground := Ground.phase }, { on := 7, ground := Ground.phase }, { on := 8, ground := Ground.phase }, { on := 9, ground := Ground.phase }, { on := 10, ground := Ground.phase }, { on := 11, ground := Ground.phase }, { on := 12, ground := Ground.phase }], guard := none }) rfl (fun K hK => ?_) AllReadyH.nil
   go_simp
   refine hK.out _ _ ?_ (fun hHeld => ?_)
   ·exact ⟨HD9.out.c.2.2.1, HD9.out.map⟩
   clear hK K
   (try simp only [Act.put, List.setIfInBounds_toArray, List.set_cons_zero, List.set_cons_succ])
   refine wpAnyH_done (by kernel_rfl) ?_ _
   refine ⟨rfl, ?_⟩
   go_wp2_with fail
   go_roundw
   case rel => exact ⟨i + 1, E ++ [⟨s, .slice xa fn xc, ol⟩], by go_num, by omega, hid ⟨HE9.out, HNx.out _⟩, HD9, hid (row_on (row_kept HS.out HGt.out) HG9.out (fun k hk => own_ne HE7.out.row (row_kept HS.out HGt.out) (by decide) k hk)), hid (HT9.out (gtrans HG.out (gsome HGt.out (some b))) HF9.out HD9.out)⟩
   case measure => simp [intOf]; omega
  ·as_aux_lemma =>
   have hge : ¬ (i : Int) < (n : Int) := by omega
   have hin : i = n := by omega
   subst hin
   have HCn : Hid (cont E = srtC (cont F)) := hid (by rw [HI.out.2, List.take_of_length_le (by rw [srtC_len, len_cont, HN.out]; omega)])
   go_wp2_with fail
   refine leaves_cons (f := 53) (args := #[.pointer (some ⟨b, 0, none⟩)]) (by simp) (by simp [go_sem]) ?_
   refine (unlock_any .returning HD.out).mono ?_
   rintro e u' w7 ⟨rfl, rfl, hd7, hg7⟩
   refine ⟨_, results_tmp rfl _ _ _, _, rfl, E, ⟨row_on HI.out.1.row hg7 (fun k hk e => ?_), fun f hf => (HI.out.1.own f hf).on hg7 (fun k hk e => ?_)⟩, HCn.out, back_same HB0.out (gtrans HG.out hg7) hd7.blk⟩
   ·injection hk with hk
    have h1 := own_low HI.out.1.row k e
    have h2 := HFl.out b (.inl rfl)
    omega
   ·injection hk with hk
    have h1 := (HI.out.1.own f hf).block k e
    have h2 := HFl.out b (.inl rfl)
    omega
end Go.Proofs.YtpbiofnncdneoaaGreatDoor

namespace Go.Proofs.YtpbiofnncdneoaaGreatDoor
open Go Go.RowKit Go.MapKept Go.MuLone
open Go.RowKit (wrap32 wrap64)

theorem u8_neq {x y : UInt8} (h : ¬ x = y) : ¬ (x.toNat : Int) = (y.toNat : Int) := fun e => h (UInt8.toNat_inj.1 (by omega))
theorem take_step {x y : List UInt8} {i : Nat} (hl : x.length = y.length) (hi : i < x.length) (h : x.take i = y.take i) (he : x[i] = y[i]'(by omega)) : x.take (i + 1) = y.take (i + 1) := by
 rw [List.take_succ_eq_append_getElem hi, List.take_succ_eq_append_getElem (by omega), h, he]

set_option maxRecDepth 100000 in
set_option maxHeartbeats 800000 in
theorem eq_any (w : World) (va vb : Value) (F G : Nat → Prop) (x y : List UInt8) (hx : Rd w F va x) (hy : Rd w G vb y) (hxl : x.length ≤ 140737488355328) :
  Calls Tryz.prog 121 #[va, vb] w fun e w' => e = .returned (.bool (decide (x = y))) ∧ ∃ k, w' = w.drewN k := by
 obtain ⟨a, b0, off, c, rfl, _, _, ha, hca⟩ := hx
 obtain ⟨a', b0', off', c', rfl, _, _, ha', hcb⟩ := hy
 by_cases hl : x.length = y.length
 ·have HL := hid hl
  have HA := hid ha
  have HA' := hid ha'
  have HCA := hid hca
  have HCB := hid hcb
  obtain ⟨n, HN⟩ : ∃ n, Hid (x.length = n) := ⟨_, hid rfl⟩
  obtain ⟨D, HD⟩ : ∃ D, Hid (decide (x = y) = D) := ⟨_, hid rfl⟩
  rw [HD.out, ← hl, HN.out]
  rw [HN.out] at hxl
  clear hl ha ha' hca hcb
  go_enter Tryz.func121, Tryz.ntmps121
  go_wp2_with fail
  go_loopw [5] (fun iv wr => ∃ i : Nat, iv = .int .i64 i ∧ i ≤ n ∧ Hid (x.take i = y.take i) ∧ ∃ k, Hid (wr = w.drewN k)) (fun iv _ => n - (intOf iv).toNat)
  case atStart => exact ⟨0, rfl, Nat.zero_le _, hid rfl, 0, hid rfl⟩
  case round =>
   obtain ⟨i, rfl, hi, HT, d, HDr⟩ := hrel
   by_cases hlt : i < n
   ·have hix : i < x.length := by rw [HN.out]; exact hlt
    have hiy : i < y.length := by rw [← HL.out]; exact hix
    obtain ⟨rfl, r1, _⟩ := HA.out (by omega)
    obtain ⟨rfl, r2, _⟩ := HA'.out (by omega)
    obtain ⟨xi, HXI⟩ : ∃ z, Hid (x[i] = z) := ⟨_, hid rfl⟩
    obtain ⟨yi, HYI⟩ : ∃ z, Hid (y[i] = z) := ⟨_, hid rfl⟩
    have q1 : wr.cell? ⟨b0, off + i, none⟩ = some (.int .u8 xi.toNat) := by rw [HDr.out, ← HXI.out]; exact HCA.out i hix
    have q2 : wr.cell? ⟨b0', off' + i, none⟩ = some (.int .u8 yi.toNat) := by rw [HDr.out, ← HYI.out]; exact HCB.out i hiy
    have s1 : b0 < wr.heap.size := by rw [HDr.out]; exact r1
    have s2 : b0' < wr.heap.size := by rw [HDr.out]; exact r2
    have hlt' : (i : Int) < (n : Int) := by omega
    clear r1 r2
    by_cases he : xi = yi
    ·have HTN : Hid (x.take (i + 1) = y.take (i + 1)) := hid (take_step HL.out hix HT.out (by rw [HXI.out, HYI.out]; exact he))
     subst he
     obtain ⟨z, HZ⟩ : ∃ z : Int, Hid ((xi.toNat : Int) = z) := ⟨_, hid rfl⟩
     rw [HZ.out] at q1 q2
     clear HXI HYI hix hiy
     go_wp2_with fail
     go_quiet (fail)
     rename_i nq
     go_wp2_with fail
     go_roundw
     case rel => exact ⟨i + 1, by go_num, by omega, HTN, d + nq, hid (by rw [HDr.out, World.drewN_drewN])⟩
     case measure => simp [intOf]; omega
    ·have hne := u8_neq he
     have HDf : Hid (D = false) := hid (by rw [← HD.out]; exact decide_eq_false (fun e => he (by rw [← HXI.out, ← HYI.out]; simp only [e])))
     obtain ⟨z, HZ⟩ : ∃ z : Int, Hid ((xi.toNat : Int) = z) := ⟨_, hid rfl⟩
     obtain ⟨z', HZ'⟩ : ∃ z : Int, Hid ((yi.toNat : Int) = z) := ⟨_, hid rfl⟩
     rw [HZ.out] at q1 hne
     rw [HZ'.out] at q2 hne
     clear HXI HYI he hix hiy
     go_wp2_with fail
     go_quiet (fail)
     rename_i nq
     go_wp2_with fail
     go_ret
     exact ⟨by rw [HDf.out]; rfl, d + nq, by rw [HDr.out, World.drewN_drewN]⟩
   ·have he : i = n := by omega
    subst he
    have HDt : Hid (D = true) := hid (by
     rw [← HD.out]
     refine decide_eq_true ?_
     have := HT.out
     rw [List.take_of_length_le (by rw [HN.out]; exact Nat.le_refl _), List.take_of_length_le (by rw [← HL.out, HN.out]; exact Nat.le_refl _)] at this
     exact this)
    go_wp2_with fail
    go_ret
    exact ⟨by rw [HDt.out]; rfl, d, HDr.out⟩
 ·have hb : ¬ (x.length : Int) = (y.length : Int) := by omega
  have HDf : Hid (decide (x = y) = false) := hid (decide_eq_false (fun e => hl (by rw [e])))
  rw [HDf.out]
  obtain ⟨n, HN⟩ : ∃ n, Hid (x.length = n) := ⟨_, hid rfl⟩
  obtain ⟨m, HM⟩ : ∃ n, Hid (y.length = n) := ⟨_, hid rfl⟩
  rw [HN.out, HM.out] at hb ⊢
  clear hl ha ha' hca hcb
  go_enter Tryz.func121, Tryz.ntmps121
  go_wp2_with fail
  go_ret
  exact ⟨rfl, 0, rfl⟩


set_option maxRecDepth 100000 in
theorem copyR_any (w : World) (v : Value) (F : Nat → Prop) (l : List UInt8) (hb : Rd w F v l) (hl : l.length ≤ 140737488355328) :
  Calls Tryz.prog 100 #[v] w fun e w' => ∃ v', e = .returned v' ∧ Out w.heap.size w' v' l ∧ w.grownBy w' none := by
 have HR := hid hb
 have HL := hid hl
 clear hb hl
 go_enter Tryz.func100, Tryz.ntmps100
 go_wp2_with (at_builtin; refine wpList_append_at rfl _ _ rfl w.heap.size F [] l (Out.nil _ _) HR.out (by have := HL.out; simp; omega) (Nat.le_refl _) ?_; intro v2 w2 hO2 hg2 _)
 go_ret
 exact ⟨_, rfl, by simpa using hO2, (grefl w none).andThen hg2 (fun j hj => by simp [Act.eval, Value.ownBlock] at hj)⟩
theorem ba_dec (a b : ByteArray) : (a.toList == b.toList) = decide (a = b) := by
 rw [Lib.toList_data, Lib.toList_data]
 by_cases h : a = b
 ·subst h; simp
 ·rw [decide_eq_false h]
  refine beq_eq_false_iff_ne.2 (fun e => h ?_)
  cases a; cases b
  simpa using e
end Go.Proofs.YtpbiofnncdneoaaGreatDoor

namespace Go.Proofs.YtpbiofnncdneoaaGreatDoor

def tabL : List Nat := [0, 498536548, 997073096, 651767980, 1994146192, 1802195444, 1303535960, 1342533948, 3988292384, 4027552580, 3604390888, 3412177804, 2607071920, 2262029012, 2685067896, 3183342108]
def tb (i : Nat) : Nat := tabL.getD i 0
/-- Four steps at once. -/
def nib (s : Nat) : Nat := s / 16 ^^^ tb (s % 16)
def crcB (s : Nat) (c : UInt8) : Nat := nib (nib (s ^^^ c.toNat))
def crcL (s : Nat) (l : List UInt8) : Nat := l.foldl crcB s
def sumL (l : List UInt8) : Nat := 4294967295 - crcL 4294967295 l

theorem tb_lt (i : Nat) : tb i < 2 ^ 32 := by
 by_cases h : i < 16
 ·have : ∀ k : Fin 16, tb k.val < 2 ^ 32 := by decide
  exact this ⟨i, h⟩
 ·have : tb i = 0 := by unfold tb; rw [List.getD_eq_getElem?_getD, List.getElem?_eq_none (by simp [tabL]; omega)]; rfl
  rw [this]; decide
theorem nib_lt (s : Nat) (h : s < 2 ^ 32) : nib s < 2 ^ 32 := Nat.xor_lt_two_pow (by omega) (tb_lt _)
theorem u8_lt32 (c : UInt8) : c.toNat < 2 ^ 32 := by have := c.toNat_lt; omega
theorem crcB_lt (s : Nat) (c : UInt8) (h : s < 2 ^ 32) : crcB s c < 2 ^ 32 := nib_lt _ (nib_lt _ (Nat.xor_lt_two_pow h (u8_lt32 c)))
theorem crcL_lt : ∀ (l : List UInt8) (s : Nat), s < 2 ^ 32 → crcL s l < 2 ^ 32
 | [], _, h => h
 | c :: l, s, h => crcL_lt l _ (crcB_lt s c h)
theorem crcL_snoc (s : Nat) (l : List UInt8) (c : UInt8) : crcL s (l ++ [c]) = crcB (crcL s l) c := by simp [crcL, List.foldl_append]
theorem sumL_lt (l : List UInt8) : sumL l < 2 ^ 32 := by unfold sumL; omega

theorem xor_div16 (a b : Nat) : (a ^^^ b) / 16 = a / 16 ^^^ b / 16 := by
 have := Nat.shiftRight_xor_distrib (a := a) (b := b) (i := 4)
 simpa [Nat.shiftRight_eq_div_pow] using this
theorem xor_mod16 (a b : Nat) : (a ^^^ b) % 16 = a % 16 ^^^ b % 16 := Nat.xor_mod_two_pow (n := 4)
theorem sub_xor (a : Nat) (h : a < 2 ^ 32) : 4294967295 - a = 4294967295 ^^^ a := by
 apply Nat.eq_of_testBit_eq
 intro i
 have e := Nat.testBit_two_pow_sub_succ h i
 rw [show 2 ^ 32 - (a + 1) = 4294967295 - a by omega] at e
 rw [e, Nat.testBit_xor, show (4294967295 : Nat) = 2 ^ 32 - 1 by decide, Nat.testBit_two_pow_sub_one]
 by_cases hi : i < 32
 ·simp [hi]
 ·have : a.testBit i = false := Nat.testBit_lt_two_pow (Nat.lt_of_lt_of_le h (Nat.pow_le_pow_right (by decide) (by omega)))
  simp [hi, this]
theorem sumL_xor (l : List UInt8) : sumL l = 4294967295 ^^^ crcL 4294967295 l := sub_xor _ (crcL_lt _ _ (by decide))
end Go.Proofs.YtpbiofnncdneoaaGreatDoor
