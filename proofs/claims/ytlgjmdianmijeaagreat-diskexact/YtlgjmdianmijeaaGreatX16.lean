/- drop, lay of the reference's disk. -/
import Derived.Test.YtlgjmdianmijeaaGreatX15
namespace Go.Proofs.YtlgjmdianmijeaaGreat
open Go Go.RowKit Go.MapKept Go.MuLone
open Go.RowKit (wrap32 wrap64)

variable {w w' : World} {B b : Nat} {A : Ab} {P : Nat → Prop} {sv : Value} {E : List Fl}
theorem gany {w w1 : World} (h : w.grownBy w1 none) (r : Option Nat) : w.grownBy w1 r := ⟨h.os, h.tape, h.output, h.size, fun k hk _ => h.block k hk (by simp)⟩
def Ab.con (A : Ab) (C : Cn) : Ab := { A with C := C }
/-- Another row stands. -/
theorem Rk.lay {C : Cn} {sv' : Value} {E' : List Fl} {w1 w2 : World} (h : Rk w B b A sv E) (hg : w.grownBy w1 none) (hr : OutF B w1 sv' E') (hc : cont E' = C) (hs : SrtS C) (ho : (A.con C).ok) (h2 : w2 = w1.setCell ⟨b, 1, none⟩ sv') : Rk w2 B b (A.con C) sv' E' ∧ w.grownBy w2 (some b) := by
  subst h2
  have hb := (h.blk.keep hg).set 1 sv'
  have hg2 := gset w1 ⟨b, 1, none⟩ sv'
  have hbw := h.blk.keep hg
  refine ⟨⟨hb, hr.on hg2 (fun k hk => ?_), hc, hs, h.low, ho⟩, gtrans (gany hg _) hg2⟩
  injection hk with hk
  have hk' : b = k := hk
  subst hk'
  refine ⟨fun e => ?_, fun f hf e => out_ne (hr.own f hf) hbw (by decide) e⟩
  rcases hr.row.2 with ⟨h1, _⟩ | ⟨g', cap, cur, hv, hB, hgg, _⟩
  · rw [h1] at e; cases e
  · rw [hv] at e
    injection e with e
    have e' : g' = b := e
    subst e'
    unfold Blk at hbw
    rw [hgg] at hbw
    injection hbw with hbw
    injection hbw with _ hbw
    cases hbw
theorem slt66 (g n c i : Nat) (h : i ≤ c) (u : World) : (Instr.sliceAt 66 (.slice (some ⟨g, 0, none⟩) n c) none (some (.int .i64 (i : Nat))) none).run Tryz.prog u = .ok (.slice (some ⟨g, 0, none⟩) i c) u := by
  have h' : (i : Int) ≤ (c : Int) := by omega
  go_simp
theorem sld66 (g n c i : Nat) (h : i ≤ n) (hc : c ≠ i) (u : World) : (Instr.sliceAt 66 (.slice (some ⟨g, 0, none⟩) n c) (some (.int .i64 (i : Nat))) none none).run Tryz.prog u = .ok (.slice (some ⟨g, i * 2, none⟩) (n - i) (c - i)) u := by
  have h' : (i : Int) ≤ (n : Int) := by omega
  go_simp
/-- What drop and lay leave of the footprint. -/
def Lef (w : World) (b : Nat) (sv : Value) (E : List Fl) (sv' : Value) (E' : List Fl) : Prop := ∀ k, Rfp b sv' E' k → Rfp b sv E k ∨ w.heap.size ≤ k
theorem Lef.refl : Lef w b sv E sv E := fun _ hk => .inl hk
set_option maxRecDepth 100000 in
set_option maxHeartbeats 1600000 in
theorem drop_any (h : Rk w B b A sv E) (s : ByteArray) : Calls Tryz.prog 66 #[.pointer (some ⟨b, 0, none⟩), .string s] w fun e w' => e = .returned (.tuple #[]) ∧ w.grownBy w' (some b) ∧ ∃ sv' E', Rk w' B b (A.con (delC A.C s)) sv' E' ∧ Lef w b sv E sv' E' := by
  have HP := hid (place_any h s)
  obtain ⟨p, Hp⟩ : ∃ p, Hid (plc A.C s = p) := ⟨_, hid rfl⟩
  obtain ⟨D, HD⟩ : ∃ D, Hid (isAt A.C s = D) := ⟨_, hid rfl⟩
  rw [Hp.out, HD.out] at HP
  have hdp := del_plc h.srt s
  rw [HD.out, Hp.out] at hdp
  cases D with
  | false =>
    rw [if_neg (by decide)] at hdp
    have H : Hid (∀ w', w.grownBy w' none → Rk w' B b (A.con (delC A.C s)) sv E) := hid (fun w' hg => by rw [hdp]; exact h.keep hg)
    clear h hdp Hp HD
    go_enter Tryz.func66, Tryz.ntmps66
    go_wp2_with (go_at_call 57; (with_reducible refine HP.out.mono ?_); rintro e w6 ⟨rfl, hg⟩; have HG := hid hg; clear hg)
    go_end0
    exact ⟨rfl, gany HG.out _, sv, E, H.out _ HG.out, Lef.refl⟩
  | true =>
    rw [if_pos rfl] at hdp
    obtain ⟨hp, he, hgt⟩ := at_get h.srt HD.out
    have hpE : p < E.length := by rw [← Hp.out, ← len_cont, h.con]; exact hp
    rcases h.row.shape with ⟨-, rfl⟩ | ⟨g, c, rfl⟩
    · simp at hpE
    have hcl := h.row.cells
    have HR := hid h
    obtain ⟨n, Hn⟩ : ∃ n, Hid (E.length = n) := ⟨_, hid rfl⟩
    rw [Hn.out] at HR hcl hpE ⊢
    have y1 : w.cell? ⟨b, 1, none⟩ = some (.slice (some ⟨g, 0, none⟩) n c) := HR.out.blk.cell 1
    have HY1 := hid y1
    have HLt : Hid (b < w.heap.size ∧ g < w.heap.size) := hid ⟨h.blk.lt, hcl.2.2.1⟩
    have hnc : n ≤ c := hcl.2.1
    have hn64 : n ≤ 64 := by rw [← Hn.out, ← len_cont, h.con]; exact h.ok.len
    have hpc : (p : Int) ≤ (c : Int) := by omega
    have hpn : (p : Int) + 1 ≤ (n : Int) := by omega
    have HFz : Hid (∀ w1, w.grownBy w1 none → w1.frozen? ⟨b, 1, none⟩ = false) := hid (fun w1 hg => (h.blk.keep hg).frozen 1)
    have HEnd : Hid (∀ (w1 : World) (v : Value), w.grownBy w1 none → OutF B w1 v (E.take p ++ E.drop (p + 1)) → (∀ k, v.ownBlock = some k → w.heap.size ≤ k) → w.grownBy (w1.setCell ⟨b, 1, none⟩ v) (some b) ∧ ∃ sv' E', Rk (w1.setCell ⟨b, 1, none⟩ v) B b (A.con (delC A.C s)) sv' E' ∧ Lef w b (.slice (some ⟨g, 0, none⟩) n c) E sv' E') := hid (fun w1 v hg ho hk => by
      have hsub := del_sub A.C s
      have hcon : cont (E.take p ++ E.drop (p + 1)) = delC A.C s := by
        rw [hdp, ← h.con]
        unfold cont
        rw [List.map_append, List.map_take, List.map_drop]
      have hok : (A.con (delC A.C s)).ok := by
        have h1 := used_del A.C s
        have h2 := len_del A.C s
        refine ⟨h.ok.room, h.ok.wr, h.ok.ar, ?_, ?_, fun q hq => h.ok.nms q (hsub.subset hq)⟩
        · have := h.ok.used
          show (usedC (delC A.C s) : Int) ≤ A.room
          omega
        · have := h.ok.len
          show (delC A.C s).length ≤ 64
          split at h2 <;> omega
      obtain ⟨q1, q2⟩ := HR.out.lay hg ho hcon (h.srt.sub hsub) hok rfl
      refine ⟨q2, _, _, q1, fun k hk' => ?_⟩
      rcases hk' with hk' | hk' | ⟨f, hf, hk'⟩
      · exact .inl (.inl hk')
      · exact .inr (hk k hk')
      · exact .inl (.inr (.inr ⟨f, (List.mem_append.1 hf).elim List.mem_of_mem_take List.mem_of_mem_drop, hk'⟩)))
    have HRow : Hid (∀ w1, w.grownBy w1 none → OutF B w1 (.slice (some ⟨g, 0, none⟩) n c) E) := hid (fun w1 hg => HR.out.row.keep hg)
    have HB : Hid (B ≤ w.heap.size) := hid (by have := HR.out.low; have := HR.out.blk.lt; omega)
    clear h hp he hgt hcl hdp HD Hp
    by_cases hcp : c = p + 1
    · as_aux_lemma =>
      have hn1 : n = p + 1 := by omega
      have hd0 : E.drop (p + 1) = [] := List.drop_eq_nil_of_le (by rw [Hn.out]; omega)
      subst hcp
      subst hn1
      go_enter Tryz.func66, Tryz.ntmps66
      go_upto_region 3 with (go_at_call 57; (with_reducible refine HP.out.mono ?_); rintro e w6 ⟨rfl, hg⟩; have HG := hid hg; have y1' := (cell_at hg HLt.out.1 (by simp)).trans HY1.out; clear hg)
      have hsz := HG.out.size
      go_upto_region 4 with (at_builtin; (refine wpList_append_files rfl _ _ rfl B [] (E.take p) (OutF.nil (World.ownsRow_nil _ _ _ _)) (SlF.take (HRow.out _ HG.out) (by rw [Hn.out]; omega)) (fun f hf => (HRow.out _ HG.out).own f (List.mem_of_mem_take hf)) (by rw [List.length_take]; simp; omega) (by have := HB.out; omega) ?_); intro v7 w7 hO7 hg7 hb7; have HO7 := hid hO7; have HG7 : Hid (w6.grownBy w7 none) := hid hg7; have HB7 := hid hb7; clear hO7 hg7 hb7)
      have HG76 : Hid (w.grownBy w7 none) := hid (gtrans HG.out HG7.out)
      have hsz7 := HG7.out.size
      have y7 : w7.cell? ⟨b, 1, none⟩ = some (.slice (some ⟨g, 0, none⟩) (p + 1) (p + 1)) := (cell_at HG76.out HLt.out.1 (by simp)).trans HY1.out
      have HV7 : Hid (∀ k, v7.ownBlock = some k → w6.heap.size ≤ k) := hid (fun k hk => by
        rcases HB7.out with q | q
        · rw [q] at hk; cases hk
        · rw [q] at hk; injection hk with hk; omega)
      clear y1'
      have HSl : Hid (SlF w7 (.slice (some ⟨g, 0, none⟩) 0 0) (E.drop (p + 1))) := hid (.inr ⟨g, 0, 0, by rw [hd0]; rfl, fun j u hu => by rw [hd0] at hu; cases hu⟩)
      go_wp2_with (at_builtin; (refine wpList_append_files rfl _ _ rfl B ([] ++ E.take p) (E.drop (p + 1)) HO7.out HSl.out (fun f hf => (HRow.out _ HG76.out).own f (List.mem_of_mem_drop hf)) (by rw [List.nil_append, List.length_take, List.length_drop, Hn.out]; omega) (by have := HB.out; omega) ?_); intro v8 w8 hO8 hg8 hb8; obtain ⟨a8, c8, rfl⟩ := hO8.len; obtain ⟨n8, Hn8⟩ : ∃ x, Hid ((([] : List Fl) ++ E.take p ++ E.drop (p + 1)).length = x) := ⟨_, hid rfl⟩; rw [Hn8.out] at hO8 hb8 ⊢; have HO8 := hid hO8; have HG8 : Hid (w7.grownBy w8 v7.ownBlock) := hid hg8; have HB8 := hid hb8; have HGa : Hid (w.grownBy w8 none) := hid (HG76.out.andThen hg8 (fun j hj => .inl (Nat.le_trans hsz (HV7.out j hj)))); have y8 := (cell_at HGa.out HLt.out.1 (by simp)).trans HY1.out; have z8 := HFz.out w8 HGa.out; clear hO8 hg8 hb8)
      go_end0
      obtain ⟨q1, q2⟩ := HEnd.out w8 (.slice a8 n8 c8) HGa.out (by have := HO8.out; rw [List.nil_append] at this; exact this) (fun k hk => by
        rcases HB8.out with q | q
        · have := HV7.out k (q.symm.trans hk); omega
        · rw [q] at hk; injection hk with hk; omega)
      exact ⟨rfl, q1, q2⟩
    · as_aux_lemma =>
      have hcp' : ¬ (c : Int) = (p : Int) + 1 := by omega
      go_enter Tryz.func66, Tryz.ntmps66
      go_upto_region 3 with (go_at_call 57; (with_reducible refine HP.out.mono ?_); rintro e w6 ⟨rfl, hg⟩; have HG := hid hg; have y1' := (cell_at hg HLt.out.1 (by simp)).trans HY1.out; clear hg)
      have hsz := HG.out.size
      go_upto_region 4 with (at_builtin; (refine wpList_append_files rfl _ _ rfl B [] (E.take p) (OutF.nil (World.ownsRow_nil _ _ _ _)) (SlF.take (HRow.out _ HG.out) (by rw [Hn.out]; omega)) (fun f hf => (HRow.out _ HG.out).own f (List.mem_of_mem_take hf)) (by rw [List.length_take]; simp; omega) (by have := HB.out; omega) ?_); intro v7 w7 hO7 hg7 hb7; have HO7 := hid hO7; have HG7 : Hid (w6.grownBy w7 none) := hid hg7; have HB7 := hid hb7; clear hO7 hg7 hb7)
      have HG76 : Hid (w.grownBy w7 none) := hid (gtrans HG.out HG7.out)
      have hsz7 := HG7.out.size
      have y7 : w7.cell? ⟨b, 1, none⟩ = some (.slice (some ⟨g, 0, none⟩) n c) := (cell_at HG76.out HLt.out.1 (by simp)).trans HY1.out
      have HV7 : Hid (∀ k, v7.ownBlock = some k → w6.heap.size ≤ k) := hid (fun k hk => by
        rcases HB7.out with q | q
        · rw [q] at hk; cases hk
        · rw [q] at hk; injection hk with hk; omega)
      clear y1'
      have HSl : Hid (SlF w7 (.slice (some ⟨g, (p + 1) * 2, none⟩) (n - (p + 1)) (c - (p + 1))) (E.drop (p + 1))) := hid (by have q := SlF.drop (i := p + 1) (c' := c - (p + 1)) (HRow.out _ HG76.out); rw [Hn.out] at q; exact q)
      go_wp2_with (at_builtin; (refine wpList_append_files rfl _ _ rfl B ([] ++ E.take p) (E.drop (p + 1)) HO7.out HSl.out (fun f hf => (HRow.out _ HG76.out).own f (List.mem_of_mem_drop hf)) (by rw [List.nil_append, List.length_take, List.length_drop, Hn.out]; omega) (by have := HB.out; omega) ?_); intro v8 w8 hO8 hg8 hb8; obtain ⟨a8, c8, rfl⟩ := hO8.len; obtain ⟨n8, Hn8⟩ : ∃ x, Hid ((([] : List Fl) ++ E.take p ++ E.drop (p + 1)).length = x) := ⟨_, hid rfl⟩; rw [Hn8.out] at hO8 hb8 ⊢; have HO8 := hid hO8; have HG8 : Hid (w7.grownBy w8 v7.ownBlock) := hid hg8; have HB8 := hid hb8; have HGa : Hid (w.grownBy w8 none) := hid (HG76.out.andThen hg8 (fun j hj => .inl (Nat.le_trans hsz (HV7.out j hj)))); have y8 := (cell_at HGa.out HLt.out.1 (by simp)).trans HY1.out; have z8 := HFz.out w8 HGa.out; clear hO8 hg8 hb8)
      go_end0
      obtain ⟨q1, q2⟩ := HEnd.out w8 (.slice a8 n8 c8) HGa.out (by have := HO8.out; rw [List.nil_append] at this; exact this) (fun k hk => by
        rcases HB8.out with q | q
        · have := HV7.out k (q.symm.trans hk); omega
        · rw [q] at hk; injection hk with hk; omega)
      exact ⟨rfl, q1, q2⟩
end Go.Proofs.YtlgjmdianmijeaaGreat

namespace Go.Proofs.YtlgjmdianmijeaaGreat
open Go Go.RowKit Go.MapKept Go.MuLone
open Go.RowKit (wrap32 wrap64)

variable {w w' : World} {B b : Nat} {A : Ab} {P : Nat → Prop} {sv : Value} {E : List Fl}
theorem ins_take (S : Cn) (s : ByteArray) (l : List UInt8) : insC S s l = S.take (plc S s) ++ (s, l) :: S.drop (plc S s) := by
  unfold insC
  rw [take_plc, drop_plc]
theorem lb1 {E : List Fl} {p : Nat} (h : E.length ≤ 64) : ([] : List Fl).length + (E.take p).length ≤ 1000000 := by
  rw [List.length_take, List.length_nil]; omega
theorem lb2 {E : List Fl} {p : Nat} (h : E.length ≤ 64) : (([] : List Fl) ++ E.take p).length ≤ 1000000 := by
  rw [List.nil_append, List.length_take]; omega
theorem lb3 {E : List Fl} {p : Nat} {f : Fl} (h : E.length ≤ 64) : (([] : List Fl) ++ E.take p ++ [f]).length + (E.drop p).length ≤ 1000000 := by
  rw [List.nil_append, List.length_append, List.length_take, List.length_drop, List.length_singleton]; omega
theorem SlF.none (w : World) : SlF w (.slice none 0 0) [] := .inl ⟨rfl, rfl⟩
set_option maxRecDepth 100000 in
set_option maxHeartbeats 4000000 in
/-- lay, behind its drop: a row with the file in its place. -/
theorem lay_any (h : Rk w B b A sv E) (s : ByteArray) (fa : Option Addr) (fn fc : Nat) (l : List UInt8) (hf : Out B w (.slice fa fn fc) l) (hok : (A.con (insC (delC A.C s) s l)).ok) : Calls Tryz.prog 60 #[.pointer (some ⟨b, 0, none⟩), .agg [Value.string s, .slice fa fn fc].toArray] w fun e w' => e = .returned (.tuple #[]) ∧ w.grownBy w' (some b) ∧ ∃ sv' E', Rk w' B b (A.con (insC (delC A.C s) s l)) sv' E' ∧ ∀ k, Rfp b sv' E' k → Rfp b sv E k ∨ (Value.slice fa fn fc).ownBlock = some k ∨ w.heap.size ≤ k := by
  have H := hid h
  have HF := hid hf
  have HK := hid hok
  have HBl : Hid (b < w.heap.size ∧ B ≤ w.heap.size) := hid ⟨h.blk.lt, by have := h.low; have := h.blk.lt; omega⟩
  clear h hf hok
  go_enter Tryz.func60, Tryz.ntmps60
  go_upto_region 1 with ((with_reducible refine wpList_box_row (by with_unfolding_all rfl) 130 _ (by with_unfolding_all rfl) [.string s, .slice fa fn fc] (by with_unfolding_all rfl) ?_); intro w1 B1 s1 g1; have HB1 := hid B1; have HG1 := hid g1; clear B1 s1 g1)
  obtain ⟨p3, hp3⟩ : ∃ x, w.heap.size = x := ⟨_, rfl⟩
  have HP3 : Hid (w.heap.size = p3) := hid hp3
  rw [hp3] at HB1 ⊢
  clear hp3
  have c0 := HB1.out.cell 0
  have HDr := hid (drop_any (H.out.keep HG1.out) s)
  go_upto_region 2 with (go_at_call 66; (with_reducible refine HDr.out.mono ?_); rintro e w2 ⟨rfl, hg, hx⟩; have HG2 := hid hg; have HX2 := hid hx; clear hg hx)
  obtain ⟨sv2, HX3⟩ : ∃ sv', Hid (∃ E', Rk w2 B b (A.con (delC A.C s)) sv' E' ∧ Lef w1 b sv E sv' E') := ⟨HX2.out.choose, hid HX2.out.choose_spec⟩
  obtain ⟨E2, HR2⟩ : ∃ E', Hid (Rk w2 B b (A.con (delC A.C s)) sv2 E' ∧ Lef w1 b sv E sv2 E') := ⟨HX3.out.choose, hid HX3.out.choose_spec⟩
  clear HX2 HX3 HDr
  have HB2 : Hid (Blk w2 p3 [.string s, .slice fa fn fc] 130) := hid (HB1.out.on HG2.out (by simp; have := HBl.out.1; have := HP3.out; omega))
  have c0' := HB2.out.cell 0
  have hG12 := HG2.out.size
  have hG11 := HG1.out.size
  have HF2 : Hid (Out B w2 (.slice fa fn fc) l) := hid ((HF.out.keep HG1.out).on HG2.out (fun k hk e => by injection hk with hk; have hk' : b = k := hk; subst hk'; exact out_ne (HF.out.keep HG1.out) (H.out.keep HG1.out).blk (by decide) e))
  have HPl := hid (place_any HR2.out.1 s)
  obtain ⟨p, Hp⟩ : ∃ p, Hid (plc (delC A.C s) s = p) := ⟨_, hid rfl⟩
  obtain ⟨D, HD⟩ : ∃ D, Hid (isAt (delC A.C s) s = D) := ⟨_, hid rfl⟩
  have HPl' : Hid (Calls Tryz.prog 57 #[.pointer (some ⟨b, 0, none⟩), .string s] w2 fun e w' => e = .returned (.tuple #[.int .i64 (p : Nat), .bool D]) ∧ w2.grownBy w' none) := hid (by rw [← Hp.out, ← HD.out]; exact HPl.out)
  clear HPl c0
  have hpE : p ≤ E2.length := by
    rw [← Hp.out, ← len_cont, HR2.out.1.con]
    exact plc_le _ _
  have h64 : E2.length ≤ 64 := by rw [← len_cont, HR2.out.1.con]; exact HR2.out.1.ok.len
  go_upto_region 3 with (go_at_call 57; (with_reducible refine HPl'.out.mono ?_); rintro e w3 ⟨rfl, hg⟩; have HG3 := hid hg; clear hg)
  have HR3 := hid (HR2.out.1.keep HG3.out)
  have HB3 := hid (HB2.out.keep HG3.out)
  have HF3 := hid (HF2.out.keep HG3.out)
  have hG13 := HG3.out.size
  have HEnd : Hid (∀ (w4 : World) (v : Value), w3.grownBy w4 none → OutF B w4 v (E2.take p ++ [(⟨s, .slice fa fn fc, l⟩ : Fl)] ++ E2.drop p) → (∀ k, v.ownBlock = some k → w.heap.size ≤ k) → w.grownBy (w4.setCell ⟨b, 1, none⟩ v) (some b) ∧ ∃ sv' E', Rk (w4.setCell ⟨b, 1, none⟩ v) B b (A.con (insC (delC A.C s) s l)) sv' E' ∧ ∀ k, Rfp b sv' E' k → Rfp b sv E k ∨ (Value.slice fa fn fc).ownBlock = some k ∨ w.heap.size ≤ k) := hid (fun w4 v hg ho hk => by
    have hcon : cont (E2.take p ++ [(⟨s, .slice fa fn fc, l⟩ : Fl)] ++ E2.drop p) = insC (delC A.C s) s l := by
      have q : cont E2 = delC A.C s := HR2.out.1.con
      rw [ins_take, Hp.out, ← q]
      unfold cont
      rw [List.map_append, List.map_append, List.map_take, List.map_drop, List.append_assoc]
      rfl
    have hsrt : SrtS (insC (delC A.C s) s l) := ins_srt (H.out.srt.sub (del_sub _ _)) l (by rw [get_del _ _ _ H.out.srt.nd, if_pos rfl])
    obtain ⟨q1, q2⟩ := HR3.out.lay (C := insC (delC A.C s) s l) hg ho hcon hsrt HK.out rfl
    refine ⟨gtrans (gtrans (gtrans (gany HG1.out _) HG2.out) (gany HG3.out _)) q2, _, _, q1, fun k hk' => ?_⟩
    rcases hk' with hk' | hk' | ⟨f, hf, hk'⟩
    · exact .inl (.inl hk')
    · exact .inr (.inr (hk k hk'))
    · rcases List.mem_append.1 hf with hf | hf
      · rcases List.mem_append.1 hf with hf | hf
        · rcases HR2.out.2 k (.inr (.inr ⟨f, List.mem_of_mem_take hf, hk'⟩)) with q | q
          · exact .inl q
          · exact .inr (.inr (by omega))
        · rw [List.mem_singleton.1 hf] at hk'
          exact .inr (.inl hk')
      · rcases HR2.out.2 k (.inr (.inr ⟨f, List.mem_of_mem_drop hf, hk'⟩)) with q | q
        · exact .inl q
        · exact .inr (.inr (by omega)))
  have HY1 : Hid (∀ u, w3.grownBy u none → u.cell? ⟨b, 1, none⟩ = some sv2 ∧ u.frozen? ⟨b, 1, none⟩ = false) := hid (fun u hu => ⟨(HR3.out.blk.keep hu).cell 1, (HR3.out.blk.keep hu).frozen 1⟩)
  have HRw : Hid (∀ u, w3.grownBy u none → OutF B u sv2 E2) := hid (fun u hu => HR3.out.row.keep hu)
  have hwB : B ≤ w3.heap.size := by have := HBl.out.2; omega
  clear HPl' HG2 HB2 HF2 c0'
  have HL2 : Hid (E2.length ≤ 64) := hid h64
  rcases HR3.out.row.shape with ⟨hsv0, hE0⟩ | ⟨g, c, hsv⟩
  · as_aux_lemma =>
    have hp0 : 0 = p := by rw [hE0] at hpE; have : p ≤ 0 := hpE; omega
    subst hsv0
    subst hp0
    have y1 := (HY1.out w3 (grefl _ _)).1
    have HS1 : Hid (SlF w3 (.slice none 0 0) (E2.take 0)) := hid (by rw [hE0]; exact SlF.none _)
    go_upto_region 5 with (at_builtin; (refine wpList_append_files rfl _ _ rfl B [] (E2.take 0) (OutF.nil (World.ownsRow_nil _ _ _ _)) HS1.out (fun f hf => (HRw.out _ (grefl _ _)).own f (List.mem_of_mem_take hf)) (lb1 HL2.out) hwB ?_); intro v4 w4 hO4 hg4 hb4; obtain ⟨a4, c4, rfl⟩ := hO4.len; obtain ⟨n4, Hn4⟩ : ∃ x, Hid ((([] : List Fl) ++ E2.take 0).length = x) := ⟨_, hid rfl⟩; rw [Hn4.out] at hO4 hb4 ⊢; have HO4 := hid hO4; have HG4 : Hid (w3.grownBy w4 none) := hid hg4; have HB4 := hid hb4; clear hO4 hg4 hb4)
    have HB4' := hid (HB3.out.keep HG4.out)
    have hG4 := HG4.out.size
    have HF4 : Hid (Out B w4 (.slice fa fn fc) l) := hid (HF3.out.keep HG4.out)
    have HV4 : Hid (∀ k, (Value.slice a4 n4 c4).ownBlock = some k → w3.heap.size ≤ k) := hid (fun k hk => by
      rcases HB4.out with q | q
      · rw [q] at hk; cases hk
      · rw [q] at hk; injection hk with hk; omega)
    go_upto_region 6 with (first
      | (with_reducible refine wpList_load_part (by with_unfolding_all rfl) 130 _ (by with_unfolding_all rfl) p3 0 [.string s, .slice fa fn fc] _ (by with_unfolding_all rfl) HB4'.out.whole Tryz.underlying130 (by with_unfolding_all rfl) (by with_unfolding_all exact Tryz.size130) ?_)
      | (at_builtin; (refine wpList_append_file rfl _ _ rfl B w4.heap.size ([] ++ E2.take 0) s (.slice fa fn fc) l (HO4.out.keep (galloc w4 _ none)) rfl (Blk.new w4 [.string s, .slice fa fn fc] 130) (HF4.out.keep (galloc w4 _ none)) (lb2 HL2.out) (by have := (galloc w4 (.cells #[.string s, .slice fa fn fc] 130) none).size; omega) ?_); intro v5 w5 hO5 hg5 hb5; obtain ⟨a5, c5, rfl⟩ := hO5.len; obtain ⟨n5, Hn5⟩ : ∃ x, Hid ((([] : List Fl) ++ E2.take 0 ++ [(⟨s, .slice fa fn fc, l⟩ : Fl)]).length = x) := ⟨_, hid rfl⟩; rw [Hn5.out] at hO5 hb5 ⊢; have HO5 := hid hO5; have HG5 := hid hg5; have HB5 := hid hb5; clear hO5 hg5 hb5))
    have HGa5 : Hid (w3.grownBy w5 none) := hid ((gtrans HG4.out (galloc w4 _ none)).andThen HG5.out (fun j hj => .inl (HV4.out j hj)))
    have HV5 : Hid (∀ k, (Value.slice a5 n5 c5).ownBlock = some k → w3.heap.size ≤ k) := hid (fun k hk => by
      rcases HB5.out with q | q
      · exact HV4.out k (q.symm.trans hk)
      · have h9 := (galloc w4 (.cells #[.string s, .slice fa fn fc] 130) none).size
        have h8 := q.symm.trans hk
        injection h8 with h8
        omega)
    have y5 := (HY1.out w5 HGa5.out).1
    have hG5 := HGa5.out.size
    have HS2 : Hid (SlF w5 (.slice none 0 0) (E2.drop 0)) := hid (by rw [hE0]; exact SlF.none _)
    clear y1
    go_wp2_with (at_builtin; (refine wpList_append_files rfl _ _ rfl B ([] ++ E2.take 0 ++ [(⟨s, .slice fa fn fc, l⟩ : Fl)]) (E2.drop 0) HO5.out HS2.out (fun f hf => (HRw.out _ HGa5.out).own f (List.mem_of_mem_drop hf)) (lb3 HL2.out) (by omega) ?_); intro v6 w6 hO6 hg6 hb6; obtain ⟨a6, c6, rfl⟩ := hO6.len; obtain ⟨n6, Hn6⟩ : ∃ x, Hid ((([] : List Fl) ++ E2.take 0 ++ [(⟨s, .slice fa fn fc, l⟩ : Fl)] ++ E2.drop 0).length = x) := ⟨_, hid rfl⟩; rw [Hn6.out] at hO6 hb6 ⊢; have HO6 := hid hO6; have HB6 := hid hb6; have HGa6 : Hid (w3.grownBy w6 none) := hid (HGa5.out.andThen hg6 (fun j hj => .inl (HV5.out j hj))); have y6 := (HY1.out w6 HGa6.out).1; have z6 := (HY1.out w6 HGa6.out).2; clear hO6 hg6 hb6)
    go_end0
    obtain ⟨q1, q2⟩ := HEnd.out w6 (.slice a6 n6 c6) HGa6.out (by have := HO6.out; rw [List.nil_append] at this; exact this) (fun k hk => by
      rcases HB6.out with q | q
      · have := HV5.out k (q.symm.trans hk); omega
      · have h8 := q.symm.trans hk
        injection h8 with h8
        omega)
    exact ⟨rfl, q1, q2⟩
  · obtain ⟨n, Hn⟩ : ∃ n, Hid (E2.length = n) := ⟨_, hid rfl⟩
    rw [Hn.out] at hsv hpE h64
    subst hsv
    have hnc : n ≤ c := (HR3.out.row.cells).2.1
    have hpc : (p : Int) ≤ (c : Int) := by omega
    have hpn : (p : Int) ≤ (n : Int) := by omega
    have y1 := (HY1.out w3 (grefl _ _)).1
    by_cases hcp : c = p
    · as_aux_lemma =>
      have hn1 : p = n := by omega
      have hcp2 : p = c := hcp.symm
      clear hcp
      subst hcp2
      subst hn1
      have HS1 : Hid (SlF w3 (.slice (some ⟨g, 0, none⟩) p p) (E2.take p)) := hid (SlF.take (HRw.out _ (grefl _ _)) (by rw [Hn.out]; omega))
      go_upto_region 5 with (at_builtin; (refine wpList_append_files rfl _ _ rfl B [] (E2.take p) (OutF.nil (World.ownsRow_nil _ _ _ _)) HS1.out (fun f hf => (HRw.out _ (grefl _ _)).own f (List.mem_of_mem_take hf)) (lb1 HL2.out) hwB ?_); intro v4 w4 hO4 hg4 hb4; obtain ⟨a4, c4, rfl⟩ := hO4.len; obtain ⟨n4, Hn4⟩ : ∃ x, Hid ((([] : List Fl) ++ E2.take p).length = x) := ⟨_, hid rfl⟩; rw [Hn4.out] at hO4 hb4 ⊢; have HO4 := hid hO4; have HG4 : Hid (w3.grownBy w4 none) := hid hg4; have HB4 := hid hb4; clear hO4 hg4 hb4)
      have HB4' := hid (HB3.out.keep HG4.out)
      have hG4 := HG4.out.size
      have HF4 : Hid (Out B w4 (.slice fa fn fc) l) := hid (HF3.out.keep HG4.out)
      have HV4 : Hid (∀ k, (Value.slice a4 n4 c4).ownBlock = some k → w3.heap.size ≤ k) := hid (fun k hk => by
        rcases HB4.out with q | q
        · rw [q] at hk; cases hk
        · rw [q] at hk; injection hk with hk; omega)
      go_upto_region 6 with (first
        | (with_reducible refine wpList_load_part (by with_unfolding_all rfl) 130 _ (by with_unfolding_all rfl) p3 0 [.string s, .slice fa fn fc] _ (by with_unfolding_all rfl) HB4'.out.whole Tryz.underlying130 (by with_unfolding_all rfl) (by with_unfolding_all exact Tryz.size130) ?_)
        | (at_builtin; (refine wpList_append_file rfl _ _ rfl B w4.heap.size ([] ++ E2.take p) s (.slice fa fn fc) l (HO4.out.keep (galloc w4 _ none)) rfl (Blk.new w4 [.string s, .slice fa fn fc] 130) (HF4.out.keep (galloc w4 _ none)) (lb2 HL2.out) (by have := (galloc w4 (.cells #[.string s, .slice fa fn fc] 130) none).size; omega) ?_); intro v5 w5 hO5 hg5 hb5; obtain ⟨a5, c5, rfl⟩ := hO5.len; obtain ⟨n5, Hn5⟩ : ∃ x, Hid ((([] : List Fl) ++ E2.take p ++ [(⟨s, .slice fa fn fc, l⟩ : Fl)]).length = x) := ⟨_, hid rfl⟩; rw [Hn5.out] at hO5 hb5 ⊢; have HO5 := hid hO5; have HG5 := hid hg5; have HB5 := hid hb5; clear hO5 hg5 hb5))
      have HGa5 : Hid (w3.grownBy w5 none) := hid ((gtrans HG4.out (galloc w4 _ none)).andThen HG5.out (fun j hj => .inl (HV4.out j hj)))
      have HV5 : Hid (∀ k, (Value.slice a5 n5 c5).ownBlock = some k → w3.heap.size ≤ k) := hid (fun k hk => by
        rcases HB5.out with q | q
        · exact HV4.out k (q.symm.trans hk)
        · have h9 := (galloc w4 (.cells #[.string s, .slice fa fn fc] 130) none).size
          have h8 := q.symm.trans hk
          injection h8 with h8
          omega)
      have y5 := (HY1.out w5 HGa5.out).1
      have hG5 := HGa5.out.size
      have HS2 : Hid (SlF w5 (.slice (some ⟨g, 0, none⟩) 0 0) (E2.drop p)) := hid (by have hd0 : E2.drop p = [] := List.drop_eq_nil_of_le (by rw [Hn.out]; omega); rw [hd0]; exact .inr ⟨g, 0, 0, rfl, fun j u hu => by cases hu⟩)
      clear y1
      go_wp2_with (at_builtin; (refine wpList_append_files rfl _ _ rfl B ([] ++ E2.take p ++ [(⟨s, .slice fa fn fc, l⟩ : Fl)]) (E2.drop p) HO5.out HS2.out (fun f hf => (HRw.out _ HGa5.out).own f (List.mem_of_mem_drop hf)) (lb3 HL2.out) (by omega) ?_); intro v6 w6 hO6 hg6 hb6; obtain ⟨a6, c6, rfl⟩ := hO6.len; obtain ⟨n6, Hn6⟩ : ∃ x, Hid ((([] : List Fl) ++ E2.take p ++ [(⟨s, .slice fa fn fc, l⟩ : Fl)] ++ E2.drop p).length = x) := ⟨_, hid rfl⟩; rw [Hn6.out] at hO6 hb6 ⊢; have HO6 := hid hO6; have HB6 := hid hb6; have HGa6 : Hid (w3.grownBy w6 none) := hid (HGa5.out.andThen hg6 (fun j hj => .inl (HV5.out j hj))); have y6 := (HY1.out w6 HGa6.out).1; have z6 := (HY1.out w6 HGa6.out).2; clear hO6 hg6 hb6)
      go_end0
      obtain ⟨q1, q2⟩ := HEnd.out w6 (.slice a6 n6 c6) HGa6.out (by have := HO6.out; rw [List.nil_append] at this; exact this) (fun k hk => by
        rcases HB6.out with q | q
        · have := HV5.out k (q.symm.trans hk); omega
        · have h8 := q.symm.trans hk
          injection h8 with h8
          omega)
      exact ⟨rfl, q1, q2⟩
    · as_aux_lemma =>
      have hcp' : ¬ (c : Int) = (p : Int) := by omega
      have HS1 : Hid (SlF w3 (.slice (some ⟨g, 0, none⟩) p c) (E2.take p)) := hid (SlF.take (HRw.out _ (grefl _ _)) (by rw [Hn.out]; omega))
      go_upto_region 5 with (at_builtin; (refine wpList_append_files rfl _ _ rfl B [] (E2.take p) (OutF.nil (World.ownsRow_nil _ _ _ _)) HS1.out (fun f hf => (HRw.out _ (grefl _ _)).own f (List.mem_of_mem_take hf)) (lb1 HL2.out) hwB ?_); intro v4 w4 hO4 hg4 hb4; obtain ⟨a4, c4, rfl⟩ := hO4.len; obtain ⟨n4, Hn4⟩ : ∃ x, Hid ((([] : List Fl) ++ E2.take p).length = x) := ⟨_, hid rfl⟩; rw [Hn4.out] at hO4 hb4 ⊢; have HO4 := hid hO4; have HG4 : Hid (w3.grownBy w4 none) := hid hg4; have HB4 := hid hb4; clear hO4 hg4 hb4)
      have HB4' := hid (HB3.out.keep HG4.out)
      have hG4 := HG4.out.size
      have HF4 : Hid (Out B w4 (.slice fa fn fc) l) := hid (HF3.out.keep HG4.out)
      have HV4 : Hid (∀ k, (Value.slice a4 n4 c4).ownBlock = some k → w3.heap.size ≤ k) := hid (fun k hk => by
        rcases HB4.out with q | q
        · rw [q] at hk; cases hk
        · rw [q] at hk; injection hk with hk; omega)
      go_upto_region 6 with (first
        | (with_reducible refine wpList_load_part (by with_unfolding_all rfl) 130 _ (by with_unfolding_all rfl) p3 0 [.string s, .slice fa fn fc] _ (by with_unfolding_all rfl) HB4'.out.whole Tryz.underlying130 (by with_unfolding_all rfl) (by with_unfolding_all exact Tryz.size130) ?_)
        | (at_builtin; (refine wpList_append_file rfl _ _ rfl B w4.heap.size ([] ++ E2.take p) s (.slice fa fn fc) l (HO4.out.keep (galloc w4 _ none)) rfl (Blk.new w4 [.string s, .slice fa fn fc] 130) (HF4.out.keep (galloc w4 _ none)) (lb2 HL2.out) (by have := (galloc w4 (.cells #[.string s, .slice fa fn fc] 130) none).size; omega) ?_); intro v5 w5 hO5 hg5 hb5; obtain ⟨a5, c5, rfl⟩ := hO5.len; obtain ⟨n5, Hn5⟩ : ∃ x, Hid ((([] : List Fl) ++ E2.take p ++ [(⟨s, .slice fa fn fc, l⟩ : Fl)]).length = x) := ⟨_, hid rfl⟩; rw [Hn5.out] at hO5 hb5 ⊢; have HO5 := hid hO5; have HG5 := hid hg5; have HB5 := hid hb5; clear hO5 hg5 hb5))
      have HGa5 : Hid (w3.grownBy w5 none) := hid ((gtrans HG4.out (galloc w4 _ none)).andThen HG5.out (fun j hj => .inl (HV4.out j hj)))
      have HV5 : Hid (∀ k, (Value.slice a5 n5 c5).ownBlock = some k → w3.heap.size ≤ k) := hid (fun k hk => by
        rcases HB5.out with q | q
        · exact HV4.out k (q.symm.trans hk)
        · have h9 := (galloc w4 (.cells #[.string s, .slice fa fn fc] 130) none).size
          have h8 := q.symm.trans hk
          injection h8 with h8
          omega)
      have y5 := (HY1.out w5 HGa5.out).1
      have hG5 := HGa5.out.size
      have HS2 : Hid (SlF w5 (.slice (some ⟨g, p * 2, none⟩) (n - p) (c - p)) (E2.drop p)) := hid (by have q := SlF.drop (i := p) (c' := c - p) (HRw.out _ HGa5.out); rw [Hn.out] at q; exact q)
      clear y1
      go_wp2_with (at_builtin; (refine wpList_append_files rfl _ _ rfl B ([] ++ E2.take p ++ [(⟨s, .slice fa fn fc, l⟩ : Fl)]) (E2.drop p) HO5.out HS2.out (fun f hf => (HRw.out _ HGa5.out).own f (List.mem_of_mem_drop hf)) (lb3 HL2.out) (by omega) ?_); intro v6 w6 hO6 hg6 hb6; obtain ⟨a6, c6, rfl⟩ := hO6.len; obtain ⟨n6, Hn6⟩ : ∃ x, Hid ((([] : List Fl) ++ E2.take p ++ [(⟨s, .slice fa fn fc, l⟩ : Fl)] ++ E2.drop p).length = x) := ⟨_, hid rfl⟩; rw [Hn6.out] at hO6 hb6 ⊢; have HO6 := hid hO6; have HB6 := hid hb6; have HGa6 : Hid (w3.grownBy w6 none) := hid (HGa5.out.andThen hg6 (fun j hj => .inl (HV5.out j hj))); have y6 := (HY1.out w6 HGa6.out).1; have z6 := (HY1.out w6 HGa6.out).2; clear hO6 hg6 hb6)
      go_end0
      obtain ⟨q1, q2⟩ := HEnd.out w6 (.slice a6 n6 c6) HGa6.out (by have := HO6.out; rw [List.nil_append] at this; exact this) (fun k hk => by
        rcases HB6.out with q | q
        · have := HV5.out k (q.symm.trans hk); omega
        · have h8 := q.symm.trans hk
          injection h8 with h8
          omega)
      exact ⟨rfl, q1, q2⟩
end Go.Proofs.YtlgjmdianmijeaaGreat

namespace Go.Proofs.YtlgjmdianmijeaaGreat
open Go Go.RowKit Go.MapKept Go.MuLone
open Go.RowKit (wrap32 wrap64)

variable {w w' w2 : World} {B b : Nat} {A A' : Ab} {P : Nat → Prop} {sv sv' : Value} {E E' : List Fl}
/-- Its files in the order of their names. -/
def Ab.sr (A : Ab) : Ab := { A with C := srtC A.C }
theorem sr_self (h : SrtS A.C) : A.sr = A := by
  unfold Ab.sr
  rw [srt_self h]
/-- What a call leaves of the disk at b. -/
def REnd (w w' : World) (B b : Nat) (sv : Value) (E : List Fl) (A' : Ab) : Prop := w.grownBy w' (some b) ∧ ∃ sv' E', Rk w' B b A' sv' E' ∧ Lef w b sv E sv' E'
theorem REnd.of (h : Rk w' B b A' sv E) (hg : w.grownBy w' (some b)) : REnd w w' B b sv E A' := ⟨hg, sv, E, h, Lef.refl⟩
theorem REnd.trans (h : w.grownBy w' (some b)) (hk : REnd w' w2 B b sv E A') : REnd w w2 B b sv E A' := by
  obtain ⟨h1, sv', E', h2, h3⟩ := hk
  exact ⟨gtrans h h1, sv', E', h2, fun k hk => (h3 k hk).imp id (fun q => Nat.le_trans h.size q)⟩
theorem fnd_off {s : ByteArray} (h : A.fndE s = 0) : A.off = false ∧ (getC A.C s).isSome = true := by
  obtain ⟨h1, h2⟩ := fndE_zero h
  refine ⟨?_, h2⟩
  unfold refE at h1
  cases ho : A.off with
  | false => rfl
  | true => rw [ho] at h1; cases h1
theorem did_sr (A : Ab) (C : Cn) : (A.did C).sr = (A.did (srtC C)) := rfl
set_option maxRecDepth 100000 in
set_option maxHeartbeats 1600000 in
theorem rrem_any (h : Rk w B b A sv E) (s : ByteArray) (hs : s.size ≤ 140737488355328) (hw : A.wr ≤ 4611686018427387904) : Calls Tryz.prog 30 #[.pointer (some ⟨b, 0, none⟩), .string s] w fun e w' => e = .returned (.int .i64 (A.remE s)) ∧ REnd w w' B b sv E (A.rem s).sr := by
  have HM := hid (missing_any h s hs)
  have HOf := hid roff_any
  by_cases hf : A.fndE s = 0
  · obtain ⟨hoff, hsome⟩ := fnd_off hf
    have hE : A.remE s = wE A.ar := by unfold Ab.remE; rw [if_pos hf]
    have hA : (A.rem s).sr = A.tore.con (if 0 < wK A.ar A.kp then delC A.C s else A.C) := by
      unfold Ab.rem Ab.remC
      rw [if_pos hf, did_sr]
      have : srtC (if 0 < wK A.ar A.kp then delC A.C s else A.C) = (if 0 < wK A.ar A.kp then delC A.C s else A.C) := by
        refine srt_self ?_
        split
        · exact h.srt.sub (del_sub _ _)
        · exact h.srt
      rw [this]
      rfl
    rw [hE, hA]
    rw [hf] at HM
    have HT : Hid (∀ u, w.grownBy u none → Calls Tryz.prog 59 #[.pointer (some ⟨b, 0, none⟩)] u fun e w' => e = .returned (.bool (decide (A.ar = 1))) ∧ Rk w' B b A.tore sv E ∧ u.grownBy w' (some b)) := hid (fun u hu => torn_any (h.keep hu) hoff hw)
    have HDr : Hid (∀ u, Rk u B b A.tore sv E → Calls Tryz.prog 66 #[.pointer (some ⟨b, 0, none⟩), .string s] u fun e w' => e = .returned (.tuple #[]) ∧ REnd u w' B b sv E (A.tore.con (delC A.C s))) := hid (fun u hu => drop_any hu s)
    have HSm : Hid (A.tore.con A.C = A.tore) := hid rfl
    obtain ⟨ar, har⟩ : ∃ x, A.ar = x := ⟨_, rfl⟩
    obtain ⟨kp, hkp⟩ : ∃ x, A.kp = x := ⟨_, rfl⟩
    have HK3 : Hid (∀ u, Rk u B b A.tore sv E → u.cell? ⟨b, 3, none⟩ = some (.int .i64 kp)) := hid (fun u hu => by rw [← hkp]; exact hu.blk.cell 3)
    rw [har] at HT ⊢
    rw [hkp]
    obtain ⟨T, hT⟩ : ∃ x, A.tore = x := ⟨_, rfl⟩
    rw [hT] at HT HDr HSm HK3 ⊢
    clear hT hA hE hsome hoff har hkp h hf hs hw
    by_cases h1 : ar = 1
    · subst h1
      have e1 : wK 1 kp = kp := rfl
      rw [e1]
      rw [show wE 1 = 94 from rfl]
      have hd : decide ((1 : Int) = 1) = true := rfl
      rw [hd] at HT
      by_cases hk : 0 < kp
      · as_aux_lemma =>
        rw [if_pos hk]
        go_enter Tryz.func30, Tryz.ntmps30
        go_wp2_with (first
          | (go_at_call 63; (with_reducible refine HM.out.mono ?_); rintro e w5 ⟨rfl, hg⟩; have HG5 := hid hg; clear hg)
          | (go_at_call 59; (with_reducible refine (HT.out _ HG5.out).mono ?_); rintro e w6 ⟨rfl, hr, hg⟩; have HR6 := hid hr; have HG6 := hid hg; have y3 := HK3.out w6 hr; clear hr hg)
          | (go_at_call 66; (with_reducible refine (HDr.out _ HR6.out).mono ?_); rintro e w7 ⟨rfl, hr⟩; have HR7 := hid hr; clear hr)
          | (go_at_call 64; (with_reducible refine (HOf.out _ _).mono ?_); rintro e w8 ⟨rfl, hw8⟩; have hw8' := hw8.symm; clear hw8; subst hw8'))
        go_ret
        exact ⟨rfl, REnd.trans (gtrans (gany HG5.out _) HG6.out) HR7.out⟩
      · as_aux_lemma =>
        rw [if_neg hk, HSm.out]
        go_enter Tryz.func30, Tryz.ntmps30
        go_wp2_with (first
          | (go_at_call 63; (with_reducible refine HM.out.mono ?_); rintro e w5 ⟨rfl, hg⟩; have HG5 := hid hg; clear hg)
          | (go_at_call 59; (with_reducible refine (HT.out _ HG5.out).mono ?_); rintro e w6 ⟨rfl, hr, hg⟩; have HR6 := hid hr; have HG6 := hid hg; have y3 := HK3.out w6 hr; clear hr hg)
          | (go_at_call 64; (with_reducible refine (HOf.out _ _).mono ?_); rintro e w8 ⟨rfl, hw8⟩; have hw8' := hw8.symm; clear hw8; subst hw8'))
        go_ret
        exact ⟨rfl, REnd.of HR6.out (gtrans (gany HG5.out _) HG6.out)⟩
    · as_aux_lemma =>
      have e1 : wK ar kp = 9223372036854775807 := by unfold wK; rw [if_neg h1]
      have e2 : wE ar = 0 := by unfold wE; rw [if_neg h1]
      rw [e1, e2, if_pos (by decide)]
      rw [decide_eq_false h1] at HT
      go_enter Tryz.func30, Tryz.ntmps30
      go_wp2_with (first
        | (go_at_call 63; (with_reducible refine HM.out.mono ?_); rintro e w5 ⟨rfl, hg⟩; have HG5 := hid hg; clear hg)
        | (go_at_call 59; (with_reducible refine (HT.out _ HG5.out).mono ?_); rintro e w6 ⟨rfl, hr, hg⟩; have HR6 := hid hr; have HG6 := hid hg; clear hr hg)
        | (go_at_call 66; (with_reducible refine (HDr.out _ HR6.out).mono ?_); rintro e w7 ⟨rfl, hr⟩; have HR7 := hid hr; clear hr)
        | (go_at_call 64; (with_reducible refine (HOf.out _ _).mono ?_); rintro e w8 ⟨rfl, hw8⟩; have hw8' := hw8.symm; clear hw8; subst hw8'))
      go_ret
      exact ⟨rfl, REnd.trans (gtrans (gany HG5.out _) HG6.out) HR7.out⟩
  · have hE : A.remE s = A.fndE s := by unfold Ab.remE; rw [if_neg hf]
    have hA : (A.rem s).sr = A := by
      unfold Ab.rem
      rw [if_neg hf]
      exact sr_self h.srt
    rw [hE, hA]
    have HR : Hid (∀ u, w.grownBy u none → Rk u B b A sv E) := hid (fun u hu => h.keep hu)
    obtain ⟨x, hx⟩ : ∃ x, A.fndE s = x := ⟨_, rfl⟩
    rw [hx] at HM hf ⊢
    have hb : (x == 0) = false := beq_eq_false_iff_ne.2 hf
    clear hx hA hE h
    go_enter Tryz.func30, Tryz.ntmps30
    go_wp2_with (go_at_call 63; (with_reducible refine HM.out.mono ?_); rintro e w5 ⟨rfl, hg⟩; have HG5 := hid hg; clear hg)
    go_ret
    exact ⟨rfl, REnd.of (HR.out _ HG5.out) (gany HG5.out _)⟩
end Go.Proofs.YtlgjmdianmijeaaGreat
