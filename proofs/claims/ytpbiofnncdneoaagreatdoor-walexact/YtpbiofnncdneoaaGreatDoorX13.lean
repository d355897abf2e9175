/- bytes, drop, lay of the reference's disk. -/
import Derived.Test.YtpbiofnncdneoaaGreatDoorX12
namespace Go.Proofs.YtpbiofnncdneoaaGreatDoor
open Go Go.RowKit Go.MapKept Go.MuLone
open Go.RowKit (wrap32 wrap64)

/-- A slice of files. -/
def SlF (w : World) (v : Value) (E : List Fl) : Prop := (v = .slice none 0 0 ∧ E = []) ∨ ∃ g o c, v = .slice (some ⟨g, o, none⟩) E.length c ∧ ∀ j u, (fcs E)[j]? = some u → w.cell? ⟨g, o + j, none⟩ = some u
variable {w w' : World} {B b : Nat} {A : Ab} {P : Nat → Prop} {sv : Value} {E : List Fl}
theorem fcs_append (E F : List Fl) : fcs (E ++ F) = fcs E ++ fcs F := by
 induction E with
 | nil => rfl
 | cons f E ih => simp only [List.cons_append, fcs, ih]
theorem fcs_take : ∀ (E : List Fl) (i : Nat), fcs (E.take i) = (fcs E).take (i * 2)
 | [], i => by simp [fcs]
 | f :: E, 0 => rfl
 | f :: E, i + 1 => by
  rw [show (i + 1) * 2 = i * 2 + 1 + 1 by omega]
  simp only [List.take_succ_cons, fcs, fcs_take E i]
theorem fcs_drop : ∀ (E : List Fl) (i : Nat), fcs (E.drop i) = (fcs E).drop (i * 2)
 | [], i => by simp [fcs]
 | f :: E, 0 => rfl
 | f :: E, i + 1 => by
  rw [show (i + 1) * 2 = i * 2 + 1 + 1 by omega]
  simp only [List.drop_succ_cons, fcs, fcs_drop E i]
theorem OutF.cells {g n c : Nat} (h : OutF B w (.slice (some ⟨g, 0, none⟩) n c) E) : n = E.length ∧ n ≤ c ∧ g < w.heap.size ∧ ∀ j u, (fcs E)[j]? = some u → w.cell? ⟨g, j, none⟩ = some u := by
 rcases h.row.2 with ⟨h1, _⟩ | ⟨g', cap, cur, h1, hB, hg, hle, hm, hs, ht⟩
 ·cases h1
 ·injection h1 with e1 e2 e3
  injection e1 with e1
  injection e1 with e1 _ _
  subst e1
  subst e3
  subst e2
  refine ⟨rfl, hle, (Array.getElem?_eq_some_iff.1 hg).1, fun j u hu => ?_⟩
  have hj : j < E.length * 2 := by have := (List.getElem?_eq_some_iff.1 hu).1; rw [fcs_len] at this; exact this
  rw [← ht, List.getElem?_take, if_pos hj] at hu
  have hx' : cur[j]? = some u := by rw [← Array.getElem?_toList]; exact hu
  simp [World.cell?, hg, hx']
/-- The row's own block, or none. -/
theorem OutF.shape (h : OutF B w sv E) : (sv = .slice none 0 0 ∧ E = []) ∨ ∃ g c, sv = .slice (some ⟨g, 0, none⟩) E.length c := by
 rcases h.row.2 with ⟨h1, h2⟩ | ⟨g', cap, cur, h1, _⟩
 ·exact .inl ⟨h1, List.eq_nil_of_length_eq_zero h2⟩
 ·exact .inr ⟨g', cap, h1⟩
theorem file_ones : ∀ {E : List Fl}, (∀ f ∈ E, ∃ l, Out B w f.v l) → ∀ u ∈ fcs E, u.oneCell' = true
 | [], _, u, hu => by cases hu
 | f :: E, h, u, hu => by
  rcases List.mem_cons.1 hu with rfl | hu
  ·rfl
  ·rcases List.mem_cons.1 hu with rfl | hu
   ·obtain ⟨l, hl⟩ := h f (List.mem_cons_self ..)
    obtain ⟨a, c, e⟩ := hl.len
    rw [e]; rfl
   ·exact file_ones (fun f hf => h f (List.mem_cons_of_mem _ hf)) u hu
set_option maxRecDepth 100000 in
/-- append of files of a row onto a row of the call's own. -/
theorem app_files {vs xv : Value} {E F : List Fl} (h : OutF B w vs E) (hx : SlF w xv F) (ho : ∀ f ∈ F, Out B w f.v f.bs) (hE : E.length + F.length ≤ 1000000) (hB : B ≤ w.heap.size) (ty : TypeId) :
  ∃ v' w', (Builtin.append_ #[110, 110] ty #[vs, xv]).run Tryz.prog w = .ok v' w' ∧ OutF B w' v' (E ++ F) ∧ w.grownBy w' vs.ownBlock ∧ (v'.ownBlock = vs.ownBlock ∨ v'.ownBlock = some w.heap.size) := by
 obtain ⟨inf, hi, hz0, hz1, hz2⟩ := info_parts Tryz.info117
 rcases hx with ⟨rfl, rfl⟩ | ⟨g, o, c, rfl, hc⟩
 ·have hrun := run_append_owned_none (P := Tryz.prog) (w := w) B 110 ty 117 inf 2 Tryz.underlying110 hi vs _ _ h.row
  exact ⟨vs, w, hrun, by rw [List.append_nil]; exact h, grefl _ _, .inl rfl⟩
 ·obtain ⟨v', w', h1, h2, h3, _, h4⟩ := run_append_own_at (P := Tryz.prog) w B 110 ty 117 inf (.agg [Value.string ⟨#[]⟩, .slice none 0 0].toArray) 2 40 Tryz.underlying110 hi hz0 hz1 hz2 rfl (by decide) vs _ _ h.row ⟨g, o, none⟩ F.length c (fcs F) (fcs_len F) (by
   intro j u hu
   rw [Addr.add_lit]
   exact hc j u hu) (file_ones (B := B) (w := w) (fun f hf => ⟨_, ho f hf⟩)) (by unfold maxLen; omega) (by omega) hB
  refine ⟨v', w', h1, ⟨by rw [fcs_append, List.length_append]; exact h2, fun f hf => ?_⟩, h3, h4⟩
  have hx : Out B w f.v f.bs := (List.mem_append.1 hf).elim (h.own f) (ho f)
  exact hx.on h3 (fun k hk => own_ne h.row hx (by decide) k hk)
theorem wpList_append_files {ops : Array Oper} {rest : List Oper} {o : Oper} {a : Act} {Q : Exit → Act → World → Prop} (hgd : o.guard = none) (s x : Operand)
  (ho : o.op = .call { callee := .builtin .append, args := #[s, x], argTypes := #[110, 110] }) (B : Nat) (E F : List Fl) (h : OutF B w (a.eval s) E) (hx : SlF w (a.eval x) F) (hO : ∀ f ∈ F, Out B w f.v f.bs) (hE : E.length + F.length ≤ 1000000) (hB : B ≤ w.heap.size)
  (k : ∀ v' w', OutF B w' v' (E ++ F) → w.grownBy w' (a.eval s).ownBlock → (v'.ownBlock = (a.eval s).ownBlock ∨ v'.ownBlock = some w.heap.size) → wpList Tryz.prog ops Q rest (a.put o.dst v') w') : wpList Tryz.prog ops Q (o :: rest) a w := by
 obtain ⟨v', w', h1, h2, h3, h4⟩ := app_files h hx hO hE hB o.type
 refine wpList_plain hgd fun K hK => ?_
 unfold Oper.wp
 simp [execOp, ho, resolve, invoke, builtin, h1, Result.andThen]
 exact hK _ _ (k v' w' h2 h3 h4)
theorem SlF.take {g n c i : Nat} (h : OutF B w (.slice (some ⟨g, 0, none⟩) n c) E) (hi : i ≤ E.length) : SlF w (.slice (some ⟨g, 0, none⟩) i c) (E.take i) := by
 obtain ⟨_, _, _, hc⟩ := h.cells
 refine .inr ⟨g, 0, c, by rw [List.length_take, Nat.min_eq_left hi], fun j u hu => ?_⟩
 rw [Nat.zero_add]
 rw [fcs_take, List.getElem?_take] at hu
 by_cases hj : j < i * 2
 ·rw [if_pos hj] at hu; exact hc j u hu
 ·rw [if_neg hj] at hu; cases hu
theorem SlF.drop {g n c c' i : Nat} (h : OutF B w (.slice (some ⟨g, 0, none⟩) n c) E) : SlF w (.slice (some ⟨g, i * 2, none⟩) (E.length - i) c') (E.drop i) := by
 obtain ⟨_, _, _, hc⟩ := h.cells
 refine .inr ⟨g, i * 2, c', by rw [List.length_drop], fun j u hu => ?_⟩
 rw [fcs_drop, List.getElem?_drop] at hu
 exact hc _ u hu
theorem SlF.keep {v : Value} (h : SlF w v E) (hg : w.grownBy w' none) (hl : ∀ g o c n, v = .slice (some ⟨g, o, none⟩) n c → g < w.heap.size) : SlF w' v E := by
 rcases h with h | ⟨g, o, c, rfl, hc⟩
 ·exact .inl h
 ·exact .inr ⟨g, o, c, rfl, fun j u hu => (cell_at hg (hl g o c _ rfl) (by simp)).trans (hc j u hu)⟩
/-- What bytes tells. -/
theorem cont_get {i : Nat} (hc : cont E = A.C) (hi : i < E.length) : ∃ h : i < A.C.length, A.C[i] = ((E[i]).nm, (E[i]).bs) := by
 have hl : i < A.C.length := by rw [← hc, len_cont]; exact hi
 refine ⟨hl, ?_⟩
 have : (cont E)[i]? = some ((E[i]).nm, (E[i]).bs) := by unfold cont; rw [List.getElem?_map, List.getElem?_eq_getElem hi]; rfl
 rw [hc, List.getElem?_eq_getElem hl] at this
 injection this
theorem at_get {S : Cn} (h : SrtS S) {s : ByteArray} (hi : isAt S s = true) : ∃ hp : plc S s < S.length, (S[plc S s]).1 = s ∧ getC S s = some (S[plc S s]).2 := by
 have hp : plc S s < S.length := by
  refine Decidable.byContradiction (fun hn => ?_)
  rw [plc_end hn] at hi
  cases hi
 have h1 := (plc_at hp).2
 rw [hi] at h1
 have he : (S[plc S s]).1 = s := of_decide_eq_true h1.symm
 have h2 := List.drop_eq_getElem_cons hp
 rw [drop_plc] at h2
 exact ⟨hp, he, (tl_get h).1 _ _ h2 he⟩
set_option maxRecDepth 100000 in
set_option maxHeartbeats 1600000 in
theorem rbytes_any (h : Rk w B b A sv E) (s : ByteArray) : Calls Tryz.prog 114 #[.pointer (some ⟨b, 0, none⟩), .string s] w fun e w' => ∃ v, e = .returned v ∧ Out B w' v ((getC A.C s).getD []) ∧ (∀ k, v.ownBlock = some k → Rfp b sv E k) ∧ w.grownBy w' none := by
 have HP := hid (place_any h s)
 obtain ⟨p, Hp⟩ : ∃ p, Hid (plc A.C s = p) := ⟨_, hid rfl⟩
 obtain ⟨D, HD⟩ : ∃ D, Hid (isAt A.C s = D) := ⟨_, hid rfl⟩
 rw [Hp.out, HD.out] at HP
 cases D with
 | false =>
  have hg : getC A.C s = none := by
   have := isAt_get h.srt s
   rw [HD.out] at this
   cases hx : getC A.C s with
   | none => rfl
   | some x => rw [hx] at this; cases this
  rw [hg]
  clear h hg Hp HD
  go_enter Tryz.func114, Tryz.ntmps114
  go_wp2_with (go_at_call 41; (with_reducible refine HP.out.mono ?_); rintro e w6 ⟨rfl, hg⟩; have HG := hid hg; clear hg)
  go_ret
  exact ⟨_, rfl, Out.nil _ _, (fun k hk => by cases hk), HG.out⟩
 | true =>
  obtain ⟨hp, he, hgt⟩ := at_get h.srt HD.out
  rw [hgt]
  have hpE : plc A.C s < E.length := by rw [← len_cont, h.con]; exact hp
  obtain ⟨_, hEq⟩ := cont_get h.con hpE
  rw [hEq]
  simp only [Option.getD_some]
  have HO : Hid (Out B w (E[plc A.C s]).v (E[plc A.C s]).bs) := hid (h.row.own _ (List.getElem_mem _))
  have HF : Hid (∀ k, (E[plc A.C s]).v.ownBlock = some k → Rfp b sv E k) := hid (fun k hk => .inr (.inr ⟨_, List.getElem_mem _, hk⟩))
  rcases h.row.shape with ⟨-, rfl⟩ | ⟨g, c, hsv⟩
  ·simp at hpE
  have hcl : w.cell? ⟨g, plc A.C s * 2 + 1, none⟩ = some (E[plc A.C s]).v := by
   have hr := h.row
   rw [hsv] at hr
   exact hr.cells.2.2.2 _ _ (fcs_get E _ hpE).2
  have y1 : w.cell? ⟨b, 1, none⟩ = some sv := h.blk.cell 1
  rw [hsv] at y1
  have HY : Hid (b < w.heap.size ∧ g < w.heap.size) := hid ⟨h.blk.lt, by have hr := h.row; rw [hsv] at hr; exact hr.cells.2.2.1⟩
  obtain ⟨n, hn⟩ : ∃ n, E.length = n := ⟨_, rfl⟩
  obtain ⟨fv, hfv⟩ : ∃ x, (E[plc A.C s]).v = x := ⟨_, rfl⟩
  obtain ⟨bs, hbs⟩ : ∃ x, (E[plc A.C s]).bs = x := ⟨_, rfl⟩
  rw [hfv] at HO HF hcl
  rw [hbs] at HO ⊢
  rw [Hp.out] at hcl
  rw [hn] at y1
  have hpn : p < n := by rw [← Hp.out, ← hn]; exact hpE
  have hpn' : (p : Int) < (n : Int) := by omega
  obtain ⟨xa, xc, rfl⟩ := HO.out.len
  obtain ⟨xn, hxn⟩ : ∃ x, bs.length = x := ⟨_, rfl⟩
  rw [hxn] at HO HF hcl
  have HCl := hid hcl
  have HY1 := hid y1
  clear h hp he hgt hEq hpE hn hfv hbs hxn hcl y1
  go_enter Tryz.func114, Tryz.ntmps114
  go_wp2_with (go_at_call 41; (with_reducible refine HP.out.mono ?_); rintro e w6 ⟨rfl, hg⟩; have HG := hid hg; have y1 := (cell_at hg HY.out.1 (by simp)).trans HY1.out; have hcl := (cell_at hg HY.out.2 (by simp)).trans HCl.out; clear hg)
  go_ret
  exact ⟨_, rfl, HO.out.keep HG.out, HF.out, HG.out⟩
end Go.Proofs.YtpbiofnncdneoaaGreatDoor

namespace Go.Proofs.YtpbiofnncdneoaaGreatDoor
open Go Go.RowKit Go.MapKept Go.MuLone
open Go.RowKit (wrap32 wrap64)

variable {w w' : World} {B b : Nat} {A : Ab} {P : Nat → Prop} {sv : Value} {E : List Fl}
theorem gany {w w1 : World} (h : w.grownBy w1 none) (r : Option Nat) : w.grownBy w1 r := ⟨h.os, h.tape, h.output, h.size, fun k hk _ => h.block k hk (by simp)⟩
def Ab.con (A : Ab) (C : Cn) : Ab := { A with C := C }
/-- Another row stands. -/
theorem Rk.lay {C : Cn} {sv' : Value} {E' : List Fl} {w1 w2 : World} (h : Rk w B b A sv E) (hg : w.grownBy w1 none) (hr : OutF B w1 sv' E') (hc : cont E' = C) (hs : SrtS C) (ho : (A.con C).ok) (h2 : w2 = w1.setCell ⟨b, 1, none⟩ sv') : Rk w2 B b (A.con C) sv' E' ∧ w.grownBy w2 (some b) := by
 subst h2
 have hb := (h.blk.keep hg).set 1 sv'
 have hg2 := gset w1 ⟨b, 1, none⟩ sv'
 have hbw := h.blk.keep hg
 refine ⟨⟨hb, hr.on hg2 (fun k hk => ?_), hc, hs, h.low, ho⟩, gtrans (gany hg _) hg2⟩
 injection hk with hk
 have hk' : b = k := hk
 subst hk'
 refine ⟨fun e => ?_, fun f hf e => out_ne (hr.own f hf) hbw (by decide) e⟩
 rcases hr.row.2 with ⟨h1, _⟩ | ⟨g', cap, cur, hv, hB, hgg, _⟩
 ·rw [h1] at e; cases e
 ·rw [hv] at e
  injection e with e
  have e' : g' = b := e
  subst e'
  unfold Blk at hbw
  rw [hgg] at hbw
  injection hbw with hbw
  injection hbw with _ hbw
  cases hbw
/-- What drop and lay leave of the footprint. -/
def Lef (w : World) (b : Nat) (sv : Value) (E : List Fl) (sv' : Value) (E' : List Fl) : Prop := ∀ k, Rfp b sv' E' k → Rfp b sv E k ∨ w.heap.size ≤ k
theorem Lef.refl : Lef w b sv E sv E := fun _ hk => .inl hk
set_option maxRecDepth 100000 in
set_option maxHeartbeats 1600000 in
theorem drop_any (h : Rk w B b A sv E) (s : ByteArray) : Calls Tryz.prog 99 #[.pointer (some ⟨b, 0, none⟩), .string s] w fun e w' => e = .returned (.tuple #[]) ∧ w.grownBy w' (some b) ∧ ∃ sv' E', Rk w' B b (A.con (delC A.C s)) sv' E' ∧ Lef w b sv E sv' E' := by
 have HP := hid (place_any h s)
 obtain ⟨p, Hp⟩ : ∃ p, Hid (plc A.C s = p) := ⟨_, hid rfl⟩
 obtain ⟨D, HD⟩ : ∃ D, Hid (isAt A.C s = D) := ⟨_, hid rfl⟩
 rw [Hp.out, HD.out] at HP
 have hdp := del_plc h.srt s
 rw [HD.out, Hp.out] at hdp
 cases D with
 | false =>
  rw [if_neg (by decide)] at hdp
  have H : Hid (∀ w', w.grownBy w' none → Rk w' B b (A.con (delC A.C s)) sv E) := hid (fun w' hg => by rw [hdp]; exact h.keep hg)
  clear h hdp Hp HD
  go_enter Tryz.func99, Tryz.ntmps99
  go_wp2_with (go_at_call 41; (with_reducible refine HP.out.mono ?_); rintro e w6 ⟨rfl, hg⟩; have HG := hid hg; clear hg)
  go_end0
  exact ⟨rfl, gany HG.out _, sv, E, H.out _ HG.out, Lef.refl⟩
 | true =>
  rw [if_pos rfl] at hdp
  obtain ⟨hp, he, hgt⟩ := at_get h.srt HD.out
  have hpE : p < E.length := by rw [← Hp.out, ← len_cont, h.con]; exact hp
  rcases h.row.shape with ⟨-, rfl⟩ | ⟨g, c, rfl⟩
  ·simp at hpE
  have hcl := h.row.cells
  have HR := hid h
  obtain ⟨n, Hn⟩ : ∃ n, Hid (E.length = n) := ⟨_, hid rfl⟩
  rw [Hn.out] at HR hcl hpE ⊢
  have y1 : w.cell? ⟨b, 1, none⟩ = some (.slice (some ⟨g, 0, none⟩) n c) := HR.out.blk.cell 1
  have HY1 := hid y1
  have HLt : Hid (b < w.heap.size ∧ g < w.heap.size) := hid ⟨h.blk.lt, hcl.2.2.1⟩
  have hnc : n ≤ c := hcl.2.1
  have hn64 : n ≤ 64 := by rw [← Hn.out, ← len_cont, h.con]; exact h.ok.len
  have hpc : (p : Int) ≤ (c : Int) := by omega
  have hpn : (p : Int) + 1 ≤ (n : Int) := by omega
  have HFz : Hid (∀ w1, w.grownBy w1 none → w1.frozen? ⟨b, 1, none⟩ = false) := hid (fun w1 hg => (h.blk.keep hg).frozen 1)
  have HEnd : Hid (∀ (w1 : World) (v : Value), w.grownBy w1 none → OutF B w1 v (E.take p ++ E.drop (p + 1)) → (∀ k, v.ownBlock = some k → w.heap.size ≤ k) → w.grownBy (w1.setCell ⟨b, 1, none⟩ v) (some b) ∧ ∃ sv' E', Rk (w1.setCell ⟨b, 1, none⟩ v) B b (A.con (delC A.C s)) sv' E' ∧ Lef w b (.slice (some ⟨g, 0, none⟩) n c) E sv' E') := hid (fun w1 v hg ho hk => by
   have hsub := del_sub A.C s
   have hcon : cont (E.take p ++ E.drop (p + 1)) = delC A.C s := by
    rw [hdp, ← h.con]
    unfold cont
    rw [List.map_append, List.map_take, List.map_drop]
   have hok : (A.con (delC A.C s)).ok := by
    have h1 := used_del A.C s
    have h2 := len_del A.C s
    refine ⟨h.ok.room, h.ok.wr, h.ok.ar, ?_, ?_, fun q hq => h.ok.nms q (hsub.subset hq)⟩
    ·have := h.ok.used
     show (usedC (delC A.C s) : Int) ≤ A.room
     omega
    ·have := h.ok.len
     show (delC A.C s).length ≤ 64
     split at h2 <;> omega
   obtain ⟨q1, q2⟩ := HR.out.lay hg ho hcon (h.srt.sub hsub) hok rfl
   refine ⟨q2, _, _, q1, fun k hk' => ?_⟩
   rcases hk' with hk' | hk' | ⟨f, hf, hk'⟩
   ·exact .inl (.inl hk')
   ·exact .inr (hk k hk')
   ·exact .inl (.inr (.inr ⟨f, (List.mem_append.1 hf).elim List.mem_of_mem_take List.mem_of_mem_drop, hk'⟩)))
  have HRow : Hid (∀ w1, w.grownBy w1 none → OutF B w1 (.slice (some ⟨g, 0, none⟩) n c) E) := hid (fun w1 hg => HR.out.row.keep hg)
  have HB : Hid (B ≤ w.heap.size) := hid (by have := HR.out.low; have := HR.out.blk.lt; omega)
  clear h hp he hgt hcl hdp HD Hp
  by_cases hcp : c = p + 1
  ·as_aux_lemma =>
   have hn1 : n = p + 1 := by omega
   have hd0 : E.drop (p + 1) = [] := List.drop_eq_nil_of_le (by rw [Hn.out]; omega)
   subst hcp
   subst hn1
   go_enter Tryz.func99, Tryz.ntmps99
   go_upto_region 3 with (go_at_call 41; (with_reducible refine HP.out.mono ?_); rintro e w6 ⟨rfl, hg⟩; have HG := hid hg; have y1' := (cell_at hg HLt.out.1 (by simp)).trans HY1.out; clear hg)
   have hsz := HG.out.size
   go_upto_region 4 with (at_builtin; (refine wpList_append_files rfl _ _ rfl B [] (E.take p) (OutF.nil (World.ownsRow_nil _ _ _ _)) (SlF.take (HRow.out _ HG.out) (by rw [Hn.out]; omega)) (fun f hf => (HRow.out _ HG.out).own f (List.mem_of_mem_take hf)) (by rw [List.length_take]; simp; omega) (by have := HB.out; omega) ?_); intro v7 w7 hO7 hg7 hb7; have HO7 := hid hO7; have HG7 : Hid (w6.grownBy w7 none) := hid hg7; have HB7 := hid hb7; clear hO7 hg7 hb7)
   have HG76 : Hid (w.grownBy w7 none) := hid (gtrans HG.out HG7.out)
   have hsz7 := HG7.out.size
   have y7 : w7.cell? ⟨b, 1, none⟩ = some (.slice (some ⟨g, 0, none⟩) (p + 1) (p + 1)) := (cell_at HG76.out HLt.out.1 (by simp)).trans HY1.out
   have HV7 : Hid (∀ k, v7.ownBlock = some k → w6.heap.size ≤ k) := hid (fun k hk => by
    rcases HB7.out with q | q
    ·rw [q] at hk; cases hk
    ·rw [q] at hk; injection hk with hk; omega)
   clear y1'
   have HSl : Hid (SlF w7 (.slice (some ⟨g, 0, none⟩) 0 0) (E.drop (p + 1))) := hid (.inr ⟨g, 0, 0, by rw [hd0]; rfl, fun j u hu => by rw [hd0] at hu; cases hu⟩)
   go_wp2_with (at_builtin; (refine wpList_append_files rfl _ _ rfl B ([] ++ E.take p) (E.drop (p + 1)) HO7.out HSl.out (fun f hf => (HRow.out _ HG76.out).own f (List.mem_of_mem_drop hf)) (by rw [List.nil_append, List.length_take, List.length_drop, Hn.out]; omega) (by have := HB.out; omega) ?_); intro v8 w8 hO8 hg8 hb8; obtain ⟨a8, c8, rfl⟩ := hO8.len; obtain ⟨n8, Hn8⟩ : ∃ x, Hid ((([] : List Fl) ++ E.take p ++ E.drop (p + 1)).length = x) := ⟨_, hid rfl⟩; rw [Hn8.out] at hO8 hb8 ⊢; have HO8 := hid hO8; have HG8 : Hid (w7.grownBy w8 v7.ownBlock) := hid hg8; have HB8 := hid hb8; have HGa : Hid (w.grownBy w8 none) := hid (HG76.out.andThen hg8 (fun j hj => .inl (Nat.le_trans hsz (HV7.out j hj)))); have y8 := (cell_at HGa.out HLt.out.1 (by simp)).trans HY1.out; have z8 := HFz.out w8 HGa.out; clear hO8 hg8 hb8)
   go_end0
   obtain ⟨q1, q2⟩ := HEnd.out w8 (.slice a8 n8 c8) HGa.out (by have := HO8.out; rw [List.nil_append] at this; exact this) (fun k hk => by
    rcases HB8.out with q | q
    ·have := HV7.out k (q.symm.trans hk); omega
    ·rw [q] at hk; injection hk with hk; omega)
   exact ⟨rfl, q1, q2⟩
  ·as_aux_lemma =>
   have hcp' : ¬ (c : Int) = (p : Int) + 1 := by omega
   go_enter Tryz.func99, Tryz.ntmps99
   go_upto_region 3 with (go_at_call 41; (with_reducible refine HP.out.mono ?_); rintro e w6 ⟨rfl, hg⟩; have HG := hid hg; have y1' := (cell_at hg HLt.out.1 (by simp)).trans HY1.out; clear hg)
   have hsz := HG.out.size
   go_upto_region 4 with (at_builtin; (refine wpList_append_files rfl _ _ rfl B [] (E.take p) (OutF.nil (World.ownsRow_nil _ _ _ _)) (SlF.take (HRow.out _ HG.out) (by rw [Hn.out]; omega)) (fun f hf => (HRow.out _ HG.out).own f (List.mem_of_mem_take hf)) (by rw [List.length_take]; simp; omega) (by have := HB.out; omega) ?_); intro v7 w7 hO7 hg7 hb7; have HO7 := hid hO7; have HG7 : Hid (w6.grownBy w7 none) := hid hg7; have HB7 := hid hb7; clear hO7 hg7 hb7)
   have HG76 : Hid (w.grownBy w7 none) := hid (gtrans HG.out HG7.out)
   have hsz7 := HG7.out.size
   have y7 : w7.cell? ⟨b, 1, none⟩ = some (.slice (some ⟨g, 0, none⟩) n c) := (cell_at HG76.out HLt.out.1 (by simp)).trans HY1.out
   have HV7 : Hid (∀ k, v7.ownBlock = some k → w6.heap.size ≤ k) := hid (fun k hk => by
    rcases HB7.out with q | q
    ·rw [q] at hk; cases hk
    ·rw [q] at hk; injection hk with hk; omega)
   clear y1'
   have HSl : Hid (SlF w7 (.slice (some ⟨g, (p + 1) * 2, none⟩) (n - (p + 1)) (c - (p + 1))) (E.drop (p + 1))) := hid (by have q := SlF.drop (i := p + 1) (c' := c - (p + 1)) (HRow.out _ HG76.out); rw [Hn.out] at q; exact q)
   go_wp2_with (at_builtin; (refine wpList_append_files rfl _ _ rfl B ([] ++ E.take p) (E.drop (p + 1)) HO7.out HSl.out (fun f hf => (HRow.out _ HG76.out).own f (List.mem_of_mem_drop hf)) (by rw [List.nil_append, List.length_take, List.length_drop, Hn.out]; omega) (by have := HB.out; omega) ?_); intro v8 w8 hO8 hg8 hb8; obtain ⟨a8, c8, rfl⟩ := hO8.len; obtain ⟨n8, Hn8⟩ : ∃ x, Hid ((([] : List Fl) ++ E.take p ++ E.drop (p + 1)).length = x) := ⟨_, hid rfl⟩; rw [Hn8.out] at hO8 hb8 ⊢; have HO8 := hid hO8; have HG8 : Hid (w7.grownBy w8 v7.ownBlock) := hid hg8; have HB8 := hid hb8; have HGa : Hid (w.grownBy w8 none) := hid (HG76.out.andThen hg8 (fun j hj => .inl (Nat.le_trans hsz (HV7.out j hj)))); have y8 := (cell_at HGa.out HLt.out.1 (by simp)).trans HY1.out; have z8 := HFz.out w8 HGa.out; clear hO8 hg8 hb8)
   go_end0
   obtain ⟨q1, q2⟩ := HEnd.out w8 (.slice a8 n8 c8) HGa.out (by have := HO8.out; rw [List.nil_append] at this; exact this) (fun k hk => by
    rcases HB8.out with q | q
    ·have := HV7.out k (q.symm.trans hk); omega
    ·rw [q] at hk; injection hk with hk; omega)
   exact ⟨rfl, q1, q2⟩
end Go.Proofs.YtpbiofnncdneoaaGreatDoor

namespace Go.Proofs.YtpbiofnncdneoaaGreatDoor
open Go Go.RowKit Go.MapKept Go.MuLone
open Go.RowKit (wrap32 wrap64)

variable {w w' : World} {B b : Nat} {A : Ab} {P : Nat → Prop} {sv : Value} {E : List Fl}
theorem ins_take (S : Cn) (s : ByteArray) (l : List UInt8) : insC S s l = S.take (plc S s) ++ (s, l) :: S.drop (plc S s) := by
 unfold insC
 rw [take_plc, drop_plc]
theorem lb1 {E : List Fl} {p : Nat} (h : E.length ≤ 64) : ([] : List Fl).length + (E.take p).length ≤ 1000000 := by
 rw [List.length_take, List.length_nil]; omega
theorem lb2 {E : List Fl} {p : Nat} (h : E.length ≤ 64) : (([] : List Fl) ++ E.take p).length ≤ 1000000 := by
 rw [List.nil_append, List.length_take]; omega
theorem lb3 {E : List Fl} {p : Nat} {f : Fl} (h : E.length ≤ 64) : (([] : List Fl) ++ E.take p ++ [f]).length + (E.drop p).length ≤ 1000000 := by
 rw [List.nil_append, List.length_append, List.length_take, List.length_drop, List.length_singleton]; omega
theorem SlF.none (w : World) : SlF w (.slice none 0 0) [] := .inl ⟨rfl, rfl⟩
set_option maxRecDepth 100000 in
set_option maxHeartbeats 4000000 in
/-- lay, behind its drop: a row with the file in its place. -/
theorem lay_any (h : Rk w B b A sv E) (s : ByteArray) (fa : Option Addr) (fn fc : Nat) (l : List UInt8) (hf : Out B w (.slice fa fn fc) l) (hok : (A.con (insC (delC A.C s) s l)).ok) : Calls Tryz.prog 44 #[.pointer (some ⟨b, 0, none⟩), .agg [Value.string s, .slice fa fn fc].toArray] w fun e w' => e = .returned (.tuple #[]) ∧ w.grownBy w' (some b) ∧ ∃ sv' E', Rk w' B b (A.con (insC (delC A.C s) s l)) sv' E' ∧ ∀ k, Rfp b sv' E' k → Rfp b sv E k ∨ (Value.slice fa fn fc).ownBlock = some k ∨ w.heap.size ≤ k := by
 have H := hid h
 have HF := hid hf
 have HK := hid hok
 have HBl : Hid (b < w.heap.size ∧ B ≤ w.heap.size) := hid ⟨h.blk.lt, by have := h.low; have := h.blk.lt; omega⟩
 clear h hf hok
 go_enter Tryz.func44, Tryz.ntmps44
 go_upto_region 1 with ((with_reducible refine wpList_box_row (by with_unfolding_all rfl) 117 _ (by with_unfolding_all rfl) [.string s, .slice fa fn fc] (by with_unfolding_all rfl) ?_); intro w1 B1 s1 g1; have HB1 := hid B1; have HG1 := hid g1; clear B1 s1 g1)
 obtain ⟨p3, hp3⟩ : ∃ x, w.heap.size = x := ⟨_, rfl⟩
 have HP3 : Hid (w.heap.size = p3) := hid hp3
 rw [hp3] at HB1 ⊢
 clear hp3
 have c0 := HB1.out.cell 0
 have HDr := hid (drop_any (H.out.keep HG1.out) s)
 go_upto_region 2 with (go_at_call 99; (with_reducible refine HDr.out.mono ?_); rintro e w2 ⟨rfl, hg, hx⟩; have HG2 := hid hg; have HX2 := hid hx; clear hg hx)
 obtain ⟨sv2, HX3⟩ : ∃ sv', Hid (∃ E', Rk w2 B b (A.con (delC A.C s)) sv' E' ∧ Lef w1 b sv E sv' E') := ⟨HX2.out.choose, hid HX2.out.choose_spec⟩
 obtain ⟨E2, HR2⟩ : ∃ E', Hid (Rk w2 B b (A.con (delC A.C s)) sv2 E' ∧ Lef w1 b sv E sv2 E') := ⟨HX3.out.choose, hid HX3.out.choose_spec⟩
 clear HX2 HX3 HDr
 have HB2 : Hid (Blk w2 p3 [.string s, .slice fa fn fc] 117) := hid (HB1.out.on HG2.out (by simp; have := HBl.out.1; have := HP3.out; omega))
 have c0' := HB2.out.cell 0
 have hG12 := HG2.out.size
 have hG11 := HG1.out.size
 have HF2 : Hid (Out B w2 (.slice fa fn fc) l) := hid ((HF.out.keep HG1.out).on HG2.out (fun k hk e => by injection hk with hk; have hk' : b = k := hk; subst hk'; exact out_ne (HF.out.keep HG1.out) (H.out.keep HG1.out).blk (by decide) e))
 have HPl := hid (place_any HR2.out.1 s)
 obtain ⟨p, Hp⟩ : ∃ p, Hid (plc (delC A.C s) s = p) := ⟨_, hid rfl⟩
 obtain ⟨D, HD⟩ : ∃ D, Hid (isAt (delC A.C s) s = D) := ⟨_, hid rfl⟩
 have HPl' : Hid (Calls Tryz.prog 41 #[.pointer (some ⟨b, 0, none⟩), .string s] w2 fun e w' => e = .returned (.tuple #[.int .i64 (p : Nat), .bool D]) ∧ w2.grownBy w' none) := hid (by rw [← Hp.out, ← HD.out]; exact HPl.out)
 clear HPl c0
 have hpE : p ≤ E2.length := by
  rw [← Hp.out, ← len_cont, HR2.out.1.con]
  exact plc_le _ _
 have h64 : E2.length ≤ 64 := by rw [← len_cont, HR2.out.1.con]; exact HR2.out.1.ok.len
 go_upto_region 3 with (go_at_call 41; (with_reducible refine HPl'.out.mono ?_); rintro e w3 ⟨rfl, hg⟩; have HG3 := hid hg; clear hg)
 have HR3 := hid (HR2.out.1.keep HG3.out)
 have HB3 := hid (HB2.out.keep HG3.out)
 have HF3 := hid (HF2.out.keep HG3.out)
 have hG13 := HG3.out.size
 have HEnd : Hid (∀ (w4 : World) (v : Value), w3.grownBy w4 none → OutF B w4 v (E2.take p ++ [(⟨s, .slice fa fn fc, l⟩ : Fl)] ++ E2.drop p) → (∀ k, v.ownBlock = some k → w.heap.size ≤ k) → w.grownBy (w4.setCell ⟨b, 1, none⟩ v) (some b) ∧ ∃ sv' E', Rk (w4.setCell ⟨b, 1, none⟩ v) B b (A.con (insC (delC A.C s) s l)) sv' E' ∧ ∀ k, Rfp b sv' E' k → Rfp b sv E k ∨ (Value.slice fa fn fc).ownBlock = some k ∨ w.heap.size ≤ k) := hid (fun w4 v hg ho hk => by
  have hcon : cont (E2.take p ++ [(⟨s, .slice fa fn fc, l⟩ : Fl)] ++ E2.drop p) = insC (delC A.C s) s l := by
   have q : cont E2 = delC A.C s := HR2.out.1.con
   rw [ins_take, Hp.out, ← q]
   unfold cont
   rw [List.map_append, List.map_append, List.map_take, List.map_drop, List.append_assoc]
   rfl
  have hsrt : SrtS (insC (delC A.C s) s l) := ins_srt (H.out.srt.sub (del_sub _ _)) l (by rw [get_del _ _ _ H.out.srt.nd, if_pos rfl])
  obtain ⟨q1, q2⟩ := HR3.out.lay (C := insC (delC A.C s) s l) hg ho hcon hsrt HK.out rfl
  refine ⟨gtrans (gtrans (gtrans (gany HG1.out _) HG2.out) (gany HG3.out _)) q2, _, _, q1, fun k hk' => ?_⟩
  rcases hk' with hk' | hk' | ⟨f, hf, hk'⟩
  ·exact .inl (.inl hk')
  ·exact .inr (.inr (hk k hk'))
  ·rcases List.mem_append.1 hf with hf | hf
   ·rcases List.mem_append.1 hf with hf | hf
    ·rcases HR2.out.2 k (.inr (.inr ⟨f, List.mem_of_mem_take hf, hk'⟩)) with q | q
     ·exact .inl q
     ·exact .inr (.inr (by omega))
    ·rw [List.mem_singleton.1 hf] at hk'
     exact .inr (.inl hk')
   ·rcases HR2.out.2 k (.inr (.inr ⟨f, List.mem_of_mem_drop hf, hk'⟩)) with q | q
    ·exact .inl q
    ·exact .inr (.inr (by omega)))
 have HY1 : Hid (∀ u, w3.grownBy u none → u.cell? ⟨b, 1, none⟩ = some sv2 ∧ u.frozen? ⟨b, 1, none⟩ = false) := hid (fun u hu => ⟨(HR3.out.blk.keep hu).cell 1, (HR3.out.blk.keep hu).frozen 1⟩)
 have HRw : Hid (∀ u, w3.grownBy u none → OutF B u sv2 E2) := hid (fun u hu => HR3.out.row.keep hu)
 have hwB : B ≤ w3.heap.size := by have := HBl.out.2; omega
 clear HPl' HG2 HB2 HF2 c0'
 have HL2 : Hid (E2.length ≤ 64) := hid h64
 rcases HR3.out.row.shape with ⟨hsv0, hE0⟩ | ⟨g, c, hsv⟩
 ·as_aux_lemma =>
  have hp0 : 0 = p := by rw [hE0] at hpE; have : p ≤ 0 := hpE; omega
  subst hsv0
  subst hp0
  have y1 := (HY1.out w3 (grefl _ _)).1
  have HS1 : Hid (SlF w3 (.slice none 0 0) (E2.take 0)) := hid (by rw [hE0]; exact SlF.none _)
  go_upto_region 5 with (at_builtin; (refine wpList_append_files rfl _ _ rfl B [] (E2.take 0) (OutF.nil (World.ownsRow_nil _ _ _ _)) HS1.out (fun f hf => (HRw.out _ (grefl _ _)).own f (List.mem_of_mem_take hf)) (lb1 HL2.out) hwB ?_); intro v4 w4 hO4 hg4 hb4; obtain ⟨a4, c4, rfl⟩ := hO4.len; obtain ⟨n4, Hn4⟩ : ∃ x, Hid ((([] : List Fl) ++ E2.take 0).length = x) := ⟨_, hid rfl⟩; rw [Hn4.out] at hO4 hb4 ⊢; have HO4 := hid hO4; have HG4 : Hid (w3.grownBy w4 none) := hid hg4; have HB4 := hid hb4; clear hO4 hg4 hb4)
  have HB4' := hid (HB3.out.keep HG4.out)
  have hG4 := HG4.out.size
  have HF4 : Hid (Out B w4 (.slice fa fn fc) l) := hid (HF3.out.keep HG4.out)
  have HV4 : Hid (∀ k, (Value.slice a4 n4 c4).ownBlock = some k → w3.heap.size ≤ k) := hid (fun k hk => by
   rcases HB4.out with q | q
   ·rw [q] at hk; cases hk
   ·rw [q] at hk; injection hk with hk; omega)
  go_upto_region 6 with (first
   | (with_reducible refine wpList_load_part (by with_unfolding_all rfl) 117 _ (by with_unfolding_all rfl) p3 0 [.string s, .slice fa fn fc] _ (by with_unfolding_all rfl) HB4'.out.whole Tryz.underlying117 (by with_unfolding_all rfl) (by with_unfolding_all exact Tryz.size117) ?_)
   | (at_builtin; (refine wpList_append_file rfl _ _ rfl B w4.heap.size ([] ++ E2.take 0) s (.slice fa fn fc) l (HO4.out.keep (galloc w4 _ none)) rfl (Blk.new w4 [.string s, .slice fa fn fc] 117) (HF4.out.keep (galloc w4 _ none)) (lb2 HL2.out) (by have := (galloc w4 (.cells #[.string s, .slice fa fn fc] 117) none).size; omega) ?_); intro v5 w5 hO5 hg5 hb5; obtain ⟨a5, c5, rfl⟩ := hO5.len; obtain ⟨n5, Hn5⟩ : ∃ x, Hid ((([] : List Fl) ++ E2.take 0 ++ [(⟨s, .slice fa fn fc, l⟩ : Fl)]).length = x) := ⟨_, hid rfl⟩; rw [Hn5.out] at hO5 hb5 ⊢; have HO5 := hid hO5; have HG5 := hid hg5; have HB5 := hid hb5; clear hO5 hg5 hb5))
  have HGa5 : Hid (w3.grownBy w5 none) := hid ((gtrans HG4.out (galloc w4 _ none)).andThen HG5.out (fun j hj => .inl (HV4.out j hj)))
  have HV5 : Hid (∀ k, (Value.slice a5 n5 c5).ownBlock = some k → w3.heap.size ≤ k) := hid (fun k hk => by
   rcases HB5.out with q | q
   ·exact HV4.out k (q.symm.trans hk)
   ·have h9 := (galloc w4 (.cells #[.string s, .slice fa fn fc] 117) none).size
    have h8 := q.symm.trans hk
    injection h8 with h8
    omega)
  have y5 := (HY1.out w5 HGa5.out).1
  have hG5 := HGa5.out.size
  have HS2 : Hid (SlF w5 (.slice none 0 0) (E2.drop 0)) := hid (by rw [hE0]; exact SlF.none _)
  clear y1
  go_wp2_with (at_builtin; (refine wpList_append_files rfl _ _ rfl B ([] ++ E2.take 0 ++ [(⟨s, .slice fa fn fc, l⟩ : Fl)]) (E2.drop 0) HO5.out HS2.out (fun f hf => (HRw.out _ HGa5.out).own f (List.mem_of_mem_drop hf)) (lb3 HL2.out) (by omega) ?_); intro v6 w6 hO6 hg6 hb6; obtain ⟨a6, c6, rfl⟩ := hO6.len; obtain ⟨n6, Hn6⟩ : ∃ x, Hid ((([] : List Fl) ++ E2.take 0 ++ [(⟨s, .slice fa fn fc, l⟩ : Fl)] ++ E2.drop 0).length = x) := ⟨_, hid rfl⟩; rw [Hn6.out] at hO6 hb6 ⊢; have HO6 := hid hO6; have HB6 := hid hb6; have HGa6 : Hid (w3.grownBy w6 none) := hid (HGa5.out.andThen hg6 (fun j hj => .inl (HV5.out j hj))); have y6 := (HY1.out w6 HGa6.out).1; have z6 := (HY1.out w6 HGa6.out).2; clear hO6 hg6 hb6)
  go_end0
  obtain ⟨q1, q2⟩ := HEnd.out w6 (.slice a6 n6 c6) HGa6.out (by have := HO6.out; rw [List.nil_append] at this; exact this) (fun k hk => by
   rcases HB6.out with q | q
   ·have := HV5.out k (q.symm.trans hk); omega
   ·have h8 := q.symm.trans hk
    injection h8 with h8
    omega)
  exact ⟨rfl, q1, q2⟩
 ·obtain ⟨n, Hn⟩ : ∃ n, Hid (E2.length = n) := ⟨_, hid rfl⟩
  rw [Hn.out] at hsv hpE h64
  subst hsv
  have hnc : n ≤ c := (HR3.out.row.cells).2.1
  have hpc : (p : Int) ≤ (c : Int) := by omega
  have hpn : (p : Int) ≤ (n : Int) := by omega
  have y1 := (HY1.out w3 (grefl _ _)).1
  by_cases hcp : c = p
  ·as_aux_lemma =>
   have hn1 : p = n := by omega
   have hcp2 : p = c := hcp.symm
   clear hcp
   subst hcp2
   subst hn1
   have HS1 : Hid (SlF w3 (.slice (some ⟨g, 0, none⟩) p p) (E2.take p)) := hid (SlF.take (HRw.out _ (grefl _ _)) (by rw [Hn.out]; omega))
   go_upto_region 5 with (at_builtin; (refine wpList_append_files rfl _ _ rfl B [] (E2.take p) (OutF.nil (World.ownsRow_nil _ _ _ _)) HS1.out (fun f hf => (HRw.out _ (grefl _ _)).own f (List.mem_of_mem_take hf)) (lb1 HL2.out) hwB ?_); intro v4 w4 hO4 hg4 hb4; obtain ⟨a4, c4, rfl⟩ := hO4.len; obtain ⟨n4, Hn4⟩ : ∃ x, Hid ((([] : List Fl) ++ E2.take p).length = x) := ⟨_, hid rfl⟩; rw [Hn4.out] at hO4 hb4 ⊢; have HO4 := hid hO4; have HG4 : Hid (w3.grownBy w4 none) := hid hg4; have HB4 := hid hb4; clear hO4 hg4 hb4)
   have HB4' := hid (HB3.out.keep HG4.out)
   have hG4 := HG4.out.size
   have HF4 : Hid (Out B w4 (.slice fa fn fc) l) := hid (HF3.out.keep HG4.out)
   have HV4 : Hid (∀ k, (Value.slice a4 n4 c4).ownBlock = some k → w3.heap.size ≤ k) := hid (fun k hk => by
    rcases HB4.out with q | q
    ·rw [q] at hk; cases hk
    ·rw [q] at hk; injection hk with hk; omega)
   go_upto_region 6 with (first
    | (with_reducible refine wpList_load_part (by with_unfolding_all rfl) 117 _ (by with_unfolding_all rfl) p3 0 [.string s, .slice fa fn fc] _ (by with_unfolding_all rfl) HB4'.out.whole Tryz.underlying117 (by with_unfolding_all rfl) (by with_unfolding_all exact Tryz.size117) ?_)
    | (at_builtin; (refine wpList_append_file rfl _ _ rfl B w4.heap.size ([] ++ E2.take p) s (.slice fa fn fc) l (HO4.out.keep (galloc w4 _ none)) rfl (Blk.new w4 [.string s, .slice fa fn fc] 117) (HF4.out.keep (galloc w4 _ none)) (lb2 HL2.out) (by have := (galloc w4 (.cells #[.string s, .slice fa fn fc] 117) none).size; omega) ?_); intro v5 w5 hO5 hg5 hb5; obtain ⟨a5, c5, rfl⟩ := hO5.len; obtain ⟨n5, Hn5⟩ : ∃ x, Hid ((([] : List Fl) ++ E2.take p ++ [(⟨s, .slice fa fn fc, l⟩ : Fl)]).length = x) := ⟨_, hid rfl⟩; rw [Hn5.out] at hO5 hb5 ⊢; have HO5 := hid hO5; have HG5 := hid hg5; have HB5 := hid hb5; clear hO5 hg5 hb5))
   have HGa5 : Hid (w3.grownBy w5 none) := hid ((gtrans HG4.out (galloc w4 _ none)).andThen HG5.out (fun j hj => .inl (HV4.out j hj)))
   have HV5 : Hid (∀ k, (Value.slice a5 n5 c5).ownBlock = some k → w3.heap.size ≤ k) := hid (fun k hk => by
    rcases HB5.out with q | q
    ·exact HV4.out k (q.symm.trans hk)
    ·have h9 := (galloc w4 (.cells #[.string s, .slice fa fn fc] 117) none).size
     have h8 := q.symm.trans hk
     injection h8 with h8
     omega)
   have y5 := (HY1.out w5 HGa5.out).1
   have hG5 := HGa5.out.size
   have HS2 : Hid (SlF w5 (.slice (some ⟨g, 0, none⟩) 0 0) (E2.drop p)) := hid (by have hd0 : E2.drop p = [] := List.drop_eq_nil_of_le (by rw [Hn.out]; omega); rw [hd0]; exact .inr ⟨g, 0, 0, rfl, fun j u hu => by cases hu⟩)
   clear y1
   go_wp2_with (at_builtin; (refine wpList_append_files rfl _ _ rfl B ([] ++ E2.take p ++ [(⟨s, .slice fa fn fc, l⟩ : Fl)]) (E2.drop p) HO5.out HS2.out (fun f hf => (HRw.out _ HGa5.out).own f (List.mem_of_mem_drop hf)) (lb3 HL2.out) (by omega) ?_); intro v6 w6 hO6 hg6 hb6; obtain ⟨a6, c6, rfl⟩ := hO6.len; obtain ⟨n6, Hn6⟩ : ∃ x, Hid ((([] : List Fl) ++ E2.take p ++ [(⟨s, .slice fa fn fc, l⟩ : Fl)] ++ E2.drop p).length = x) := ⟨_, hid rfl⟩; rw [Hn6.out] at hO6 hb6 ⊢; have HO6 := hid hO6; have HB6 := hid hb6; have HGa6 : Hid (w3.grownBy w6 none) := hid (HGa5.out.andThen hg6 (fun j hj => .inl (HV5.out j hj))); have y6 := (HY1.out w6 HGa6.out).1; have z6 := (HY1.out w6 HGa6.out).2; clear hO6 hg6 hb6)
   go_end0
   obtain ⟨q1, q2⟩ := HEnd.out w6 (.slice a6 n6 c6) HGa6.out (by have := HO6.out; rw [List.nil_append] at this; exact this) (fun k hk => by
    rcases HB6.out with q | q
    ·have := HV5.out k (q.symm.trans hk); omega
    ·have h8 := q.symm.trans hk
     injection h8 with h8
     omega)
   exact ⟨rfl, q1, q2⟩
  ·as_aux_lemma =>
   have hcp' : ¬ (c : Int) = (p : Int) := by omega
   have HS1 : Hid (SlF w3 (.slice (some ⟨g, 0, none⟩) p c) (E2.take p)) := hid (SlF.take (HRw.out _ (grefl _ _)) (by rw [Hn.out]; omega))
   go_upto_region 5 with (at_builtin; (refine wpList_append_files rfl _ _ rfl B [] (E2.take p) (OutF.nil (World.ownsRow_nil _ _ _ _)) HS1.out (fun f hf => (HRw.out _ (grefl _ _)).own f (List.mem_of_mem_take hf)) (lb1 HL2.out) hwB ?_); intro v4 w4 hO4 hg4 hb4; obtain ⟨a4, c4, rfl⟩ := hO4.len; obtain ⟨n4, Hn4⟩ : ∃ x, Hid ((([] : List Fl) ++ E2.take p).length = x) := ⟨_, hid rfl⟩; rw [Hn4.out] at hO4 hb4 ⊢; have HO4 := hid hO4; have HG4 : Hid (w3.grownBy w4 none) := hid hg4; have HB4 := hid hb4; clear hO4 hg4 hb4)
   have HB4' := hid (HB3.out.keep HG4.out)
   have hG4 := HG4.out.size
   have HF4 : Hid (Out B w4 (.slice fa fn fc) l) := hid (HF3.out.keep HG4.out)
   have HV4 : Hid (∀ k, (Value.slice a4 n4 c4).ownBlock = some k → w3.heap.size ≤ k) := hid (fun k hk => by
    rcases HB4.out with q | q
    ·rw [q] at hk; cases hk
    ·rw [q] at hk; injection hk with hk; omega)
   go_upto_region 6 with (first
    | (with_reducible refine wpList_load_part (by with_unfolding_all rfl) 117 _ (by with_unfolding_all rfl) p3 0 [.string s, .slice fa fn fc] _ (by with_unfolding_all rfl) HB4'.out.whole Tryz.underlying117 (by with_unfolding_all rfl) (by with_unfolding_all exact Tryz.size117) ?_)
    | (at_builtin; (refine wpList_append_file rfl _ _ rfl B w4.heap.size ([] ++ E2.take p) s (.slice fa fn fc) l (HO4.out.keep (galloc w4 _ none)) rfl (Blk.new w4 [.string s, .slice fa fn fc] 117) (HF4.out.keep (galloc w4 _ none)) (lb2 HL2.out) (by have := (galloc w4 (.cells #[.string s, .slice fa fn fc] 117) none).size; omega) ?_); intro v5 w5 hO5 hg5 hb5; obtain ⟨a5, c5, rfl⟩ := hO5.len; obtain ⟨n5, Hn5⟩ : ∃ x, Hid ((([] : List Fl) ++ E2.take p ++ [(⟨s, .slice fa fn fc, l⟩ : Fl)]).length = x) := ⟨_, hid rfl⟩; rw [Hn5.out] at hO5 hb5 ⊢; have HO5 := hid hO5; have HG5 := hid hg5; have HB5 := hid hb5; clear hO5 hg5 hb5))
   have HGa5 : Hid (w3.grownBy w5 none) := hid ((gtrans HG4.out (galloc w4 _ none)).andThen HG5.out (fun j hj => .inl (HV4.out j hj)))
   have HV5 : Hid (∀ k, (Value.slice a5 n5 c5).ownBlock = some k → w3.heap.size ≤ k) := hid (fun k hk => by
    rcases HB5.out with q | q
    ·exact HV4.out k (q.symm.trans hk)
    ·have h9 := (galloc w4 (.cells #[.string s, .slice fa fn fc] 117) none).size
     have h8 := q.symm.trans hk
     injection h8 with h8
     omega)
   have y5 := (HY1.out w5 HGa5.out).1
   have hG5 := HGa5.out.size
   have HS2 : Hid (SlF w5 (.slice (some ⟨g, p * 2, none⟩) (n - p) (c - p)) (E2.drop p)) := hid (by have q := SlF.drop (i := p) (c' := c - p) (HRw.out _ HGa5.out); rw [Hn.out] at q; exact q)
   clear y1
   go_wp2_with (at_builtin; (refine wpList_append_files rfl _ _ rfl B ([] ++ E2.take p ++ [(⟨s, .slice fa fn fc, l⟩ : Fl)]) (E2.drop p) HO5.out HS2.out (fun f hf => (HRw.out _ HGa5.out).own f (List.mem_of_mem_drop hf)) (lb3 HL2.out) (by omega) ?_); intro v6 w6 hO6 hg6 hb6; obtain ⟨a6, c6, rfl⟩ := hO6.len; obtain ⟨n6, Hn6⟩ : ∃ x, Hid ((([] : List Fl) ++ E2.take p ++ [(⟨s, .slice fa fn fc, l⟩ : Fl)] ++ E2.drop p).length = x) := ⟨_, hid rfl⟩; rw [Hn6.out] at hO6 hb6 ⊢; have HO6 := hid hO6; have HB6 := hid hb6; have HGa6 : Hid (w3.grownBy w6 none) := hid (HGa5.out.andThen hg6 (fun j hj => .inl (HV5.out j hj))); have y6 := (HY1.out w6 HGa6.out).1; have z6 := (HY1.out w6 HGa6.out).2; clear hO6 hg6 hb6)
   go_end0
   obtain ⟨q1, q2⟩ := HEnd.out w6 (.slice a6 n6 c6) HGa6.out (by have := HO6.out; rw [List.nil_append] at this; exact this) (fun k hk => by
    rcases HB6.out with q | q
    ·have := HV5.out k (q.symm.trans hk); omega
    ·have h8 := q.symm.trans hk
     injection h8 with h8
     omega)
   exact ⟨rfl, q1, q2⟩
end Go.Proofs.YtpbiofnncdneoaaGreatDoor
