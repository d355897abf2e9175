/- RingForms' walk. -/
import Derived.Test.YtmpcpakdocaieaaRfG
import Derived.Test.YtmpcpakdocaieaaOpenR
namespace Go.Proofs.Ytmpcpakdocaieaa
open Go Go.RowKit
open Go.RowKit (wrap32 wrap64)

/-- A step. -/
structure Sp where
  act : Int
  sec : List UInt8
  at_ : Int
  kid : Nat
  rs : Value
  nx : Nat
  rl : List Ky
def Sp.cells (t : Sp) : List Value := .int .i64 t.act :: (Lib.byteCells t.sec ++ [.int .i64 t.at_, .int .u64 t.kid, t.rs, .int .u64 t.nx])
def Sp.In (t : Sp) (W : World) : Prop := t.sec.length = 32 ∧ (-9223372036854775808 ≤ t.at_ ∧ t.at_ ≤ 9223372036854775807) ∧ RdK W (fun _ => True) t.rs t.rl ∧ t.rl.length ≤ 140737488355328
theorem Sp.len {t : Sp} (h : t.sec.length = 32) : t.cells.length = 37 := by simp [Sp.cells, byteCells_length, h]
def zsp : List Value := Sp.cells ⟨0, z32, 0, 0, .slice none 0 0, 0, []⟩
theorem Try.zero72 : (Try.prog.info? 72).map (fun i => i.zero) = some (some (.agg zsp.toArray)) := by kernel_rfl
theorem Try.size72 : (Try.prog.info? 72).map (·.size) = some 37 := by kernel_rfl
theorem Sp.at {t : Sp} {W : World} (hs : t.sec.length = 32) {b : Nat} (h : Blk W b t.cells 72) : W.cell? ⟨b, 0, none⟩ = some (.int .i64 t.act) ∧ W.cell? ⟨b, 33, none⟩ = some (.int .i64 t.at_) ∧ W.cell? ⟨b, 34, none⟩ = some (.int .u64 t.kid) ∧ W.rangeAt b 1 (Lib.byteCells t.sec) ∧ W.rangeAt b 35 [t.rs, .int .u64 t.nx] := by
  have hb : (Lib.byteCells t.sec).length = 32 := by rw [byteCells_length]; exact hs
  refine ⟨by rw [h.cell]; rfl, ?_, ?_, h.range [.int .i64 t.act] (Lib.byteCells t.sec) [.int .i64 t.at_, .int .u64 t.kid, t.rs, .int .u64 t.nx] 1 rfl rfl, h.range (.int .i64 t.act :: (Lib.byteCells t.sec ++ [.int .i64 t.at_, .int .u64 t.kid])) [t.rs, .int .u64 t.nx] [] 35 (by simp [Sp.cells]) (by simp [hb])⟩
  · rw [h.cell]; unfold Sp.cells; rw [List.getElem?_cons_succ, List.getElem?_append_right (by omega), hb]; rfl
  · rw [h.cell]; unfold Sp.cells; rw [List.getElem?_cons_succ, List.getElem?_append_right (by omega), hb]; rfl
theorem Sp.one {t : Sp} (h : t.rs.oneCell' = true) : ∀ v ∈ t.cells, v.oneCell' = true := by
  intro v hv
  unfold Sp.cells at hv
  simp only [List.mem_cons, List.mem_append, List.not_mem_nil, or_false] at hv
  rcases hv with rfl | hv | rfl | rfl | rfl | rfl
  · rfl
  · exact bcs_one _ v hv
  · rfl
  · rfl
  · exact h
  · rfl
/-- The argument: n steps of 37 cells each. -/
def ArgS (W : World) (a : Option Addr) (b o n : Nat) (T : Nat → Sp) : Prop :=
  (0 < n → a = some ⟨b, o, none⟩ ∧ b < W.heap.size) ∧ ∀ i, i < n → W.rangeAt b (o + i * 37) (T i).cells ∧ (T i).In W
theorem ArgS.on {w u : World} {a : Option Addr} {b o n : Nat} {T : Nat → Sp} (h : ArgS w a b o n T) (hu : w.grownBy u none) : ArgS u a b o n T :=
  ⟨fun hn => ⟨(h.1 hn).1, Nat.lt_of_lt_of_le (h.1 hn).2 hu.size⟩, fun i hi => ⟨range_at hu (h.1 (by omega)).2 (by simp) (h.2 i hi).1, by
    obtain ⟨h1, h2, h3, h4⟩ := (h.2 i hi).2
    exact ⟨h1, h2, h3.keep hu, h4⟩⟩⟩
theorem rotR_len (l : List Ky) (nx : Nat) (sec : List UInt8) (At : Int) : (rotR l nx sec At).1.length ≤ l.length + 1 := by
  unfold rotR rotL
  split
  · simp
  · simp
theorem prn_len (l : List Ky) (nx : Nat) (now : Int) : (prn l nx now).1.length ≤ l.length + 1 := by
  unfold prn
  split
  · exact Nat.le_succ_of_le (List.length_filter_le _ _)
  · simp
theorem disR_len (l : List Ky) (nx kid : Nat) (sec : List UInt8) : (disR l nx kid sec).1.length ≤ l.length + 1 := by
  unfold disR
  split
  · cases findK l kid with
    | none => simp
    | some q =>
      show (disK l nx sec q).1.length ≤ _
      unfold disK
      have := List.length_filter_le (fun k => !(k == q)) l
      split
      · show (l.filter (fun k => !(k == q)) ++ [_]).length ≤ _
        rw [len_snoc]
        omega
      · exact Nat.le_succ_of_le this
  · simp
theorem ld2q (b i : Nat) (n : Int) (u : World) (h : u.cell? ⟨b, i, none⟩ = some (.int .i64 n)) : (Instr.loadAt 2 (.pointer (some ⟨b, i, none⟩))).run Try.prog u = .ok (.int .i64 n) u := by go_simp
set_option maxRecDepth 100000 in
set_option maxHeartbeats 12000000 in
theorem forms_walk (w : World) (sa : Option Addr) (b off n sc : Nat) (T : Nat → Sp) (hn : n ≤ 140737488355328) (hA : ArgS w sa b off n T) :
    Calls Try.prog 4 #[.slice sa n sc] w fun e w' => e = .returned (.bool true) ∧ w.grownBy w' none := by
  have HWk : Hid (∀ u : World, Calls Try.prog 26 #[] u fun e w' => e = .returned (.bool true) ∧ u.grownBy w' none) := fun u => wakes_any u
  have HAr : Hid (∀ u, w.grownBy u none → ArgS u sa b off n T) := fun u hu => hA.on hu
  clear hA
  go_enter Try.func4, Try.ntmps4
  go_wp2_with fail
  go_loopw [3] (fun iv wr => ∃ i : Nat, iv = .int .i64 i ∧ i ≤ 60 ∧ Hid (w.grownBy wr none)) (fun iv _ => 60 - (intOf iv).toNat)
  case atStart => exact ⟨0, rfl, by omega, hid (grefl _ _)⟩
  case round =>
    obtain ⟨i, rfl, hi, HG_0⟩ := hrel
    obtain ⟨w0, hw0⟩ : ∃ x : World, x = wr := ⟨_, rfl⟩
    rw [← hw0] at HG_0 ⊢
    clear hw0
    by_cases h1 : i < n
    · by_cases h2 : i < 60
      · have i1 : (i : Int) < (n : Int) := by omega
        have i2 : (i : Int) < 60 := by omega
        obtain ⟨rfl, -⟩ := (HAr.out w0 HG_0.out).1 (by omega)
        obtain ⟨q, Hq⟩ : ∃ x, Hid (T i = x) := ⟨_, hid rfl⟩
        have HQ : Hid (∀ u, w.grownBy u none → u.rangeAt b (off + i * 37) q.cells ∧ q.In u) := hid (fun u hu => by have := (HAr.out u hu).2 i h1; rw [Hq.out] at this; exact this)
        clear Hq
        obtain ⟨act, sec, At, kid, rs, nx, l⟩ := q
        obtain ⟨ho, ra, rb, ro, rc, hrs, -⟩ := (HQ.out w0 HG_0.out).2.2.2.1.open
        simp only at hrs
        subst hrs
        obtain ⟨rn, HN⟩ : ∃ x, Hid (l.length = x) := ⟨_, hid rfl⟩
        rw [HN.out] at HQ
        have hrn : rn ≤ 140737488355328 := by rw [← HN.out]; exact (HQ.out w0 HG_0.out).2.2.2.2
        have HIn : Hid (sec.length = 32 ∧ (-9223372036854775808 ≤ At ∧ At ≤ 9223372036854775807)) := hid ⟨(HQ.out w0 HG_0.out).2.1, (HQ.out w0 HG_0.out).2.2.1⟩
        have HRw : Hid (∀ u, w.grownBy u none → RdK u (fun _ => True) (.slice ra rn rc) l) := hid (fun u hu => (HQ.out u hu).2.2.2.1)
        obtain ⟨SC, HSC⟩ : ∃ x, Hid (Sp.cells ⟨act, sec, At, kid, .slice ra rn rc, nx, l⟩ = x) := ⟨_, hid rfl⟩
        have HSl : Hid (SC.length = 37) := hid (by rw [← HSC.out]; exact Sp.len HIn.out.1)
        have HS1 : Hid (∀ v ∈ SC, v.oneCell' = true) := hid (by rw [← HSC.out]; exact Sp.one rfl)
        have HSr : Hid (w0.rangeAt b (off + i * 37) SC) := hid (by rw [← HSC.out]; exact (HQ.out w0 HG_0.out).1)
        have HSp : Hid (∀ (u : World) (p : Nat), Blk u p SC 72 → u.cell? ⟨p, 0, none⟩ = some (.int .i64 act) ∧ u.cell? ⟨p, 33, none⟩ = some (.int .i64 At) ∧ u.cell? ⟨p, 34, none⟩ = some (.int .u64 kid) ∧ u.rangeAt p 1 (Lib.byteCells sec) ∧ u.rangeAt p 35 [.slice ra rn rc, .int .u64 nx]) := hid (fun u p hp => by rw [← HSC.out] at hp; exact Sp.at HIn.out.1 hp)
        clear ho HQ HSC
        go_upto_region 6 with (first
          | (with_reducible refine wpList_load_part (by with_unfolding_all rfl) 72 _ (by with_unfolding_all rfl) b (off + i * 37) SC _ (by with_unfolding_all rfl) HSr.out Try.underlying72 (by with_unfolding_all rfl) (by rw [HSl.out]; exact Try.size72) ?_)
          | (with_reducible refine wpList_load_part (by with_unfolding_all rfl) 69 _ (by with_unfolding_all rfl) w0.heap.size 35 [.slice ra rn rc, .int .u64 nx] _ (by with_unfolding_all rfl) (HSp.out _ _ HS_3.out).2.2.2.2 Try.underlying69 (by with_unfolding_all rfl) (by with_unfolding_all exact Try.size69) ?_)
          | ((with_reducible refine wpList_store_all (by with_unfolding_all rfl) 69 _ _ (by with_unfolding_all rfl) _ [.slice none 0 0, .int .u64 0] [.slice ra rn rc, .int .u64 nx] 69 (by with_unfolding_all rfl) (by with_unfolding_all rfl) HR_4.out (by with_unfolding_all rfl) (by with_unfolding_all exact Try.size69) (ring_one _ _ _ _) ?_); intro w5 BB hg ss; have HR_5 := hid BB; have HS_5 := hid (HS_4.out.on hg (by have := HS_3.out.lt; simp; omega)); have HG_5 := hid (HG_4.out.andThen hg (fun j hj => .inl (by injection hj with hj; have := HG_3.out.size; omega))); clear BB hg ss)
          | ((with_reducible refine wpList_store_all (by with_unfolding_all rfl) 72 _ _ (by with_unfolding_all rfl) _ zsp SC 72 (by with_unfolding_all rfl) (by with_unfolding_all rfl) HS_2.out (by rw [HSl.out]; with_unfolding_all rfl) (by rw [HSl.out]; exact Try.size72) HS1.out ?_); intro w3 BB hg ss; have HS_3 := hid BB; have HG_3 := hid (HG_2.out.andThen hg (fun j hj => .inl (by injection hj with hj; have := HG_0.out.size; omega))); clear BB hg ss)
          | (have := HG_3; clear this; (with_reducible refine wpList_alloc_row (by with_unfolding_all rfl) 69 (by with_unfolding_all rfl) [.slice none 0 0, .int .u64 0] Try.zero69 ?_); intro w4 BB ss hg; have HR_4 := hid BB; have HS_4 := hid (HS_3.out.keep hg); have HG_4 := hid (gtrans HG_3.out hg); clear BB ss hg)
          | (have := HG_0; clear this; (with_reducible refine wpList_alloc_row (by with_unfolding_all rfl) 72 (by with_unfolding_all rfl) zsp Try.zero72 ?_); intro w2 BB ss hg; have HS_2 := hid BB;  have HG_2 := hid (gtrans HG_0.out hg); clear BB ss hg))
        obtain ⟨pS, hpS⟩ : ∃ x, w0.heap.size = x := ⟨_, rfl⟩
        rw [hpS] at HS_5 ⊢
        obtain ⟨p5, hp5⟩ : ∃ x, w3.heap.size = x := ⟨_, rfl⟩
        rw [hp5] at HR_5 ⊢
        have HPn5 : Hid (w.heap.size ≤ pS ∧ w.heap.size ≤ p5 ∧ pS < w5.heap.size ∧ p5 < w5.heap.size ∧ pS ≠ p5) := hid (by
          have h1 := HG_0.out.size
          have h2 := HG_3.out.size
          have h3 := HS_5.out.lt
          have h4 := HR_5.out.lt
          have h5 := HS_3.out.lt
          omega)
        clear hpS hp5 HS_2 HS_3 HS_4 HR_4 HG_2 HG_3 HG_4
        have y0 := HR_5.out.cell 0
        by_cases h40 : 40 < rn
        · as_aux_lemma =>
          have h40' : (40 : Int) < (rn : Int) := by omega
          clear h40
          go_wp2_with fail
          go_roundw
          case rel => exact ⟨i + 1, by go_num, by omega, HG_5⟩
          case measure => simp [intOf]; omega
        · as_aux_lemma =>
          have h40' : ¬ (40 : Int) < (rn : Int) := by omega
          have HLe : Hid (l.length ≤ 1000000) := hid (by rw [HN.out]; omega)
          have HLb : Hid (l.length ≤ 1099511627776) := hid (by rw [HN.out]; omega)
          have HLn : Hid (∀ u, w5.grownBy u none → Calls Try.prog 8 #[.agg #[.slice ra rn rc, .int .u64 nx]] u fun e w' => ∃ g c, e = .returned (.agg #[.slice (some ⟨g, 0, none⟩) rn c, .int .u64 nx]) ∧ LentK u.heap.size w' g c l ∧ u.grownBy w' none) := fun u hu => by
            have := lent_any u _ _ l nx (HRw.out u (gtrans HG_5.out hu)) HLe.out
            rw [HN.out] at this
            exact this
          clear h40
          go_upto_region 8 with (first
            | (with_reducible refine wpList_load_part (by with_unfolding_all rfl) 69 _ (by with_unfolding_all rfl) p5 0 [.slice ra rn rc, .int .u64 nx] _ (by with_unfolding_all rfl) HR_5.out.whole Try.underlying69 (by with_unfolding_all rfl) (by with_unfolding_all exact Try.size69) ?_)
            | (go_at_call 8; (with_reducible refine (HLn.out _ (grefl _ _)).mono ?_); rintro e w6 ⟨g, cg, rfl, hL, hg⟩; have HS_6 := hid (HS_5.out.keep hg); have HR_6 := hid (HR_5.out.keep hg);  have HG_6 := hid (gtrans HG_5.out hg); have HL_6 := hid (show LentK w.heap.size w6 g cg l from ⟨hL.1.below HG_5.out.size, hL.2⟩); clear hL; clear hg)
            | ((with_reducible refine wpList_store_all (by with_unfolding_all rfl) 69 _ _ (by with_unfolding_all rfl) _ [.slice none 0 0, .int .u64 0] [.slice (some ⟨g, 0, none⟩) rn cg, .int .u64 nx] 69 (by with_unfolding_all rfl) (by with_unfolding_all rfl) HX_7.out (by with_unfolding_all rfl) (by with_unfolding_all exact Try.size69) (ring_one _ _ _ _) ?_); intro w8 BB hg ss; have HX_8 := hid BB; have HS_8 := hid (HS_7.out.on hg (by have := HS_6.out.lt; simp; omega)); have HR_8 := hid (HR_7.out.on hg (by have := HR_6.out.lt; simp; omega)); have HL_8 := hid (show LentK w.heap.size w8 g cg l from ⟨HL_7.out.1.offB hg HX_7.out (by decide), HL_7.out.2⟩); have HG_8 := hid (HG_7.out.andThen hg (fun j hj => .inl (by injection hj with hj; have := HG_6.out.size; omega))); clear BB hg ss)
            | (have := HG_6; clear this; (with_reducible refine wpList_alloc_row (by with_unfolding_all rfl) 69 (by with_unfolding_all rfl) [.slice none 0 0, .int .u64 0] Try.zero69 ?_); intro w7 BB ss hg; have HX_7 := hid BB; have HS_7 := hid (HS_6.out.keep hg); have HR_7 := hid (HR_6.out.keep hg); have HL_7 := hid (HL_6.out.keep hg); have HG_7 := hid (gtrans HG_6.out hg); clear BB ss hg))
          obtain ⟨p6, hp6⟩ : ∃ x, w6.heap.size = x := ⟨_, rfl⟩
          rw [hp6] at HX_8 ⊢
          have HPn : Hid (w.heap.size ≤ pS ∧ w.heap.size ≤ p5 ∧ w.heap.size ≤ p6 ∧ pS ≠ p5 ∧ p6 ≠ pS ∧ p6 ≠ p5) := hid (by
            have h1 := HPn5.out
            have h2 := HR_6.out.lt
            have h3 := HS_6.out.lt
            have h4 := HG_6.out.size
            omega)
          clear hp6 y0 HX_7 HL_6 HL_7 HS_6 HS_7 HR_6 HR_7 HG_6 HG_7 HLn HPn5
          obtain ⟨ts, HTS⟩ : ∃ x, Hid (Lib.byteCells sec = x) := ⟨_, hid rfl⟩
          have HTl : Hid (ts.length = 32) := hid (by rw [← HTS.out, byteCells_length]; exact HIn.out.1)
          have HSq : Hid (∀ u, Blk u pS SC 72 → u.cell? ⟨pS, 33, none⟩ = some (.int .i64 At) ∧ u.cell? ⟨pS, 34, none⟩ = some (.int .u64 kid) ∧ u.rangeAt pS 1 ts) := hid (fun u hu => by
            obtain ⟨h1, h2, h3, h4, _⟩ := HSp.out u pS hu
            rw [HTS.out] at h4
            exact ⟨h2, h3, h4⟩)
          obtain ⟨Er, HEr⟩ : ∃ x, Hid (rotE l nx At = x) := ⟨_, hid rfl⟩
          obtain ⟨Lr, HLLr⟩ : ∃ x, Hid ((rotR l nx sec At).1 = x) := ⟨_, hid rfl⟩
          obtain ⟨Nr, HNNr⟩ : ∃ x, Hid ((rotR l nx sec At).2 = x) := ⟨_, hid rfl⟩
          obtain ⟨Mr, HMMr⟩ : ∃ x, Hid (Lr.length = x) := ⟨_, hid rfl⟩
          obtain ⟨Ed, HEd⟩ : ∃ x, Hid (disE l nx kid = x) := ⟨_, hid rfl⟩
          obtain ⟨Ld, HLLd⟩ : ∃ x, Hid ((disR l nx kid sec).1 = x) := ⟨_, hid rfl⟩
          obtain ⟨Nd, HNNd⟩ : ∃ x, Hid ((disR l nx kid sec).2 = x) := ⟨_, hid rfl⟩
          obtain ⟨Md, HMMd⟩ : ∃ x, Hid (Ld.length = x) := ⟨_, hid rfl⟩
          obtain ⟨Lp, HLLp⟩ : ∃ x, Hid ((prn l nx At).1 = x) := ⟨_, hid rfl⟩
          obtain ⟨Np, HNNp⟩ : ∃ x, Hid ((prn l nx At).2 = x) := ⟨_, hid rfl⟩
          obtain ⟨Mp, HMMp⟩ : ∃ x, Hid (Lp.length = x) := ⟨_, hid rfl⟩
          have HRx : Hid (∀ u, w8.grownBy u none → RdK u (fun k => w.heap.size ≤ k) (.slice (some ⟨g, 0, none⟩) rn cg) l) := hid (fun u hu => by have := (HL_8.out.keep hu).rd; rw [HN.out] at this; exact this)
          have HRv : Hid (∀ u, w8.grownBy u none → RdK u (fun _ => True) (.slice ra rn rc) l) := hid (fun u hu => HRw.out u (gtrans HG_8.out hu))
          have HF12 : Hid (∀ u, w8.grownBy u none → Calls Try.prog 12 #[.agg #[.slice (some ⟨g, 0, none⟩) rn cg, .int .u64 nx], .agg ts.toArray, .int .i64 At] u fun e w' => ∃ a c, e = .returned (.tuple #[.agg #[.slice a Mr c, .int .u64 (Nr : Nat)], .int .i64 Er]) ∧ OutK u.heap.size w' (.slice a Mr c) Lr ∧ u.grownBy w' none) := fun u hu => by
            have h := rotate_any u _ _ l nx sec At (HRx.out u hu) HLb.out HIn.out.1 HIn.out.2
            rw [HEr.out, HLLr.out, HNNr.out, HMMr.out, HTS.out] at h
            exact h
          have HF11 : Hid (∀ u, w8.grownBy u none → Calls Try.prog 11 #[.agg #[.slice ra rn rc, .int .u64 nx], .agg ts.toArray, .int .i64 At] u fun e w' => ∃ a c, e = .returned (.tuple #[.agg #[.slice a Mr c, .int .u64 (Nr : Nat)], .int .i64 Er]) ∧ OutK u.heap.size w' (.slice a Mr c) Lr ∧ u.grownBy w' none) := fun u hu => by
            have h := rrot_any u _ _ l nx sec At (HRv.out u hu) HLb.out HIn.out.1 HIn.out.2
            rw [HEr.out, HLLr.out, HNNr.out, HMMr.out, HTS.out] at h
            exact h
          have HF16 : Hid (∀ u, w8.grownBy u none → Calls Try.prog 16 #[.agg #[.slice (some ⟨g, 0, none⟩) rn cg, .int .u64 nx], .int .u64 kid, .agg ts.toArray] u fun e w' => ∃ a c, e = .returned (.tuple #[.agg #[.slice a Md c, .int .u64 (Nd : Nat)], .int .i64 Ed]) ∧ OutK u.heap.size w' (.slice a Md c) Ld ∧ u.grownBy w' none) := fun u hu => by
            have h := distrust_any u _ _ l nx kid sec (HRx.out u hu) HLb.out HIn.out.1
            rw [HEd.out, HLLd.out, HNNd.out, HMMd.out, HTS.out] at h
            exact h
          have HF15 : Hid (∀ u, w8.grownBy u none → Calls Try.prog 15 #[.agg #[.slice ra rn rc, .int .u64 nx], .int .u64 kid, .agg ts.toArray] u fun e w' => ∃ a c, e = .returned (.tuple #[.agg #[.slice a Md c, .int .u64 (Nd : Nat)], .int .i64 Ed]) ∧ OutK u.heap.size w' (.slice a Md c) Ld ∧ u.grownBy w' none) := fun u hu => by
            have h := rdis_any u _ _ l nx kid sec (HRv.out u hu) HLb.out HIn.out.1
            rw [HEd.out, HLLd.out, HNNd.out, HMMd.out, HTS.out] at h
            exact h
          have HF14 : Hid (∀ u, w8.grownBy u none → Calls Try.prog 14 #[.agg #[.slice (some ⟨g, 0, none⟩) rn cg, .int .u64 nx], .int .i64 At] u fun e w' => ∃ v, e = .returned v ∧ u.grownBy w' none ∧ ∃ aa cc, v = Value.agg #[Value.slice aa Mp cc, Value.int .u64 (Np : Nat)] ∧ OutK w.heap.size w' (Value.slice aa Mp cc) Lp) := fun u hu => by
            have h := prune_any u _ _ l nx At (HRx.out u hu) HLb.out
            rw [HLLp.out, HNNp.out, HMMp.out] at h
            refine h.mono ?_
            rintro e w' ⟨aa, cc, he, ho, hg⟩
            exact ⟨_, he, hg, aa, cc, rfl, ho.below (gtrans HG_8.out hu).size⟩
          have HF13 : Hid (∀ u, w8.grownBy u none → Calls Try.prog 13 #[.agg #[.slice ra rn rc, .int .u64 nx], .int .i64 At] u fun e w' => ∃ v, e = .returned v ∧ u.grownBy w' none ∧ ∃ aa cc, v = Value.agg #[Value.slice aa Mp cc, Value.int .u64 (Np : Nat)] ∧ OutK w.heap.size w' (Value.slice aa Mp cc) Lp) := fun u hu => by
            have h := rprn_any u _ _ l nx At (HRv.out u hu) HLb.out
            rw [HLLp.out, HNNp.out, HMMp.out] at h
            refine h.mono ?_
            rintro e w' ⟨aa, cc, he, ho, hg⟩
            exact ⟨_, he, hg, aa, cc, rfl, ho.below (gtrans HG_8.out hu).size⟩
          have HEq : Hid (∀ (u : World) (va vb : Value) (x : List Ky) (N : Nat), x.length ≤ 1099511627776 → OutK w.heap.size u va x → OutK w.heap.size u vb x → Calls Try.prog 21 #[.agg #[va, .int .u64 N], .agg #[vb, .int .u64 N]] u fun e w' => e = .returned (.bool true) ∧ u.grownBy w' none) := fun u va vb x N hx h1 h2 => by
            have h := eqRing_any u va vb _ _ x x N N h1.rd h2.rd hx
            rw [decide_eq_true rfl, decide_eq_true rfl] at h
            exact h
          have HBl : Hid (Lr.length ≤ 1099511627776 ∧ Ld.length ≤ 1099511627776 ∧ Lp.length ≤ 1099511627776) := hid (by
            have hn : l.length ≤ 40 := by rw [HN.out]; omega
            refine ⟨?_, ?_, ?_⟩
            · rw [← HLLr.out]; exact Nat.le_trans (rotR_len l nx sec At) (by omega)
            · rw [← HLLd.out]; exact Nat.le_trans (disR_len l nx kid sec) (by omega)
            · rw [← HLLp.out]; exact Nat.le_trans (prn_len l nx At) (by omega))
          have HNu : Hid (∀ (E : Int) (u : World), Calls Try.prog 22 #[.int .i64 E] u fun r w' => r = .returned (.int .i64 E) ∧ w' = u) := fun E u => num_any E u
          have HAs : Hid (∀ u, w8.grownBy u none → Calls Try.prog 17 #[.agg #[.slice ra rn rc, .int .u64 nx], .int .u64 kid] u fun e w' => e = .returned (.bool true) ∧ u.grownBy w' none) := fun u hu => asks_any u _ _ l nx kid (HRv.out u hu) HLe.out
          have HBk : Hid (∀ u, w8.grownBy u none → Calls Try.prog 19 #[.slice (some ⟨g, 0, none⟩) rn cg, .slice ra rn rc] u fun e w' => e = .returned (.bool true) ∧ u.grownBy w' none) := fun u hu => by
            have h := backK_any u _ _ _ g cg l (HL_8.out.keep hu) (HRv.out u hu) HLe.out
            rw [HN.out] at h
            exact h
          have HU_8 := hid (grefl w8 none)
          clear HLLr HLLd HLLp HNNr HNNd HNNp HEr HEd HMMr HMMd HMMp HRx HRv
          obtain ⟨z33, z34, hz70⟩ := HSq.out _ HS_8.out
          replace hz70 := hid hz70
          go_upto_region 9 with (first
            | (with_reducible refine wpList_load_part (by with_unfolding_all rfl) 69 _ (by with_unfolding_all rfl) p6 0 [.slice (some ⟨g, 0, none⟩) rn cg, .int .u64 nx] _ (by with_unfolding_all rfl) HX_8.out.whole Try.underlying69 (by with_unfolding_all rfl) (by with_unfolding_all exact Try.size69) ?_)
            | (with_reducible refine wpList_load_part (by with_unfolding_all rfl) 70 _ (by with_unfolding_all rfl) pS 1 ts _ (by with_unfolding_all rfl) hz70.out Try.underlying70 (by with_unfolding_all rfl) (by rw [HTl.out]; exact Try.size70) ?_)
            | (go_at_call 12; (with_reducible refine (HF12.out _ HU_8.out).mono ?_); rintro e w9 ⟨a9, c9, rfl, hO, hg⟩; have HS_9 := hid (HS_8.out.keep hg); have HR_9 := hid (HR_8.out.keep hg); have HX_9 := hid (HX_8.out.keep hg);  have HG_9 := hid (gtrans HG_8.out hg); have HU_9 := hid (gtrans HU_8.out hg); have HA_9 := hid (hO.below HG_8.out.size); clear hO; clear hg)
            | ((with_reducible refine wpList_store_all (by with_unfolding_all rfl) 69 _ _ (by with_unfolding_all rfl) _ [.slice none 0 0, .int .u64 0] [.slice a9 Mr c9, .int .u64 Nr] 69 (by with_unfolding_all rfl) (by with_unfolding_all rfl) HP_10.out (by with_unfolding_all rfl) (by with_unfolding_all exact Try.size69) (ring_one _ _ _ _) ?_); intro w11 BB hg ss; have HP_11 := hid BB; have HS_11 := hid (HS_10.out.on hg (by have := HS_9.out.lt; simp; omega)); have HR_11 := hid (HR_10.out.on hg (by have := HR_9.out.lt; simp; omega)); have HX_11 := hid (HX_10.out.on hg (by have := HX_9.out.lt; simp; omega)); have HA_11 := hid (HA_10.out.offB hg HP_10.out (by decide)); have HG_11 := hid (HG_10.out.andThen hg (fun j hj => .inl (by injection hj with hj; have := HG_9.out.size; omega))); have HU_11 := hid (HU_10.out.andThen hg (fun j hj => .inl (by injection hj with hj; have := HU_9.out.size; omega))); clear BB hg ss)
            | (have := HG_9; clear this; (with_reducible refine wpList_alloc_row (by with_unfolding_all rfl) 69 (by with_unfolding_all rfl) [.slice none 0 0, .int .u64 0] Try.zero69 ?_); intro w10 BB ss hg; have HP_10 := hid BB; have HS_10 := hid (HS_9.out.keep hg); have HR_10 := hid (HR_9.out.keep hg); have HX_10 := hid (HX_9.out.keep hg); have HA_10 := hid (HA_9.out.keep hg); have HG_10 := hid (gtrans HG_9.out hg); have HU_10 := hid (gtrans HU_9.out hg); clear BB ss hg))
          obtain ⟨p7, hp7⟩ : ∃ x, w9.heap.size = x := ⟨_, rfl⟩
          rw [hp7] at HP_11 ⊢
          have HPa : Hid (w.heap.size ≤ p7 ∧ p7 ≠ pS ∧ p7 ≠ p5 ∧ p7 ≠ p6 ∧ w8.heap.size ≤ p7) := hid (by
            have h1 := HS_9.out.lt
            have h2 := HR_9.out.lt
            have h3 := HX_9.out.lt
            have h4 := HG_9.out.size
            have h5 := HU_9.out.size
            omega)
          clear hp7 z33 z34 hz70
          obtain ⟨z33, z34, hz70⟩ := HSq.out _ HS_11.out
          replace hz70 := hid hz70
          go_upto_region 10 with (first
            | (with_reducible refine wpList_load_part (by with_unfolding_all rfl) 69 _ (by with_unfolding_all rfl) p5 0 [.slice ra rn rc, .int .u64 nx] _ (by with_unfolding_all rfl) HR_11.out.whole Try.underlying69 (by with_unfolding_all rfl) (by with_unfolding_all exact Try.size69) ?_)
            | (with_reducible refine wpList_load_part (by with_unfolding_all rfl) 70 _ (by with_unfolding_all rfl) pS 1 ts _ (by with_unfolding_all rfl) hz70.out Try.underlying70 (by with_unfolding_all rfl) (by rw [HTl.out]; exact Try.size70) ?_)
            | (go_at_call 11; (with_reducible refine (HF11.out _ HU_11.out).mono ?_); rintro e w12 ⟨a12, c12, rfl, hO, hg⟩; have HS_12 := hid (HS_11.out.keep hg); have HR_12 := hid (HR_11.out.keep hg); have HX_12 := hid (HX_11.out.keep hg); have HA_12 := hid (HA_11.out.keep hg); have HP_12 := hid (HP_11.out.keep hg);  have HG_12 := hid (gtrans HG_11.out hg); have HU_12 := hid (gtrans HU_11.out hg); have HB_12 := hid (hO.below HG_11.out.size); clear hO; clear hg)
            | ((with_reducible refine wpList_store_all (by with_unfolding_all rfl) 69 _ _ (by with_unfolding_all rfl) _ [.slice none 0 0, .int .u64 0] [.slice a12 Mr c12, .int .u64 Nr] 69 (by with_unfolding_all rfl) (by with_unfolding_all rfl) HQ_13.out (by with_unfolding_all rfl) (by with_unfolding_all exact Try.size69) (ring_one _ _ _ _) ?_); intro w14 BB hg ss; have HQ_14 := hid BB; have HS_14 := hid (HS_13.out.on hg (by have := HS_12.out.lt; simp; omega)); have HR_14 := hid (HR_13.out.on hg (by have := HR_12.out.lt; simp; omega)); have HX_14 := hid (HX_13.out.on hg (by have := HX_12.out.lt; simp; omega)); have HA_14 := hid (HA_13.out.offB hg HQ_13.out (by decide)); have HP_14 := hid (HP_13.out.on hg (by have := HP_12.out.lt; simp; omega)); have HB_14 := hid (HB_13.out.offB hg HQ_13.out (by decide)); have HG_14 := hid (HG_13.out.andThen hg (fun j hj => .inl (by injection hj with hj; have := HG_12.out.size; omega))); have HU_14 := hid (HU_13.out.andThen hg (fun j hj => .inl (by injection hj with hj; have := HU_12.out.size; omega))); clear BB hg ss)
            | (have := HG_12; clear this; (with_reducible refine wpList_alloc_row (by with_unfolding_all rfl) 69 (by with_unfolding_all rfl) [.slice none 0 0, .int .u64 0] Try.zero69 ?_); intro w13 BB ss hg; have HQ_13 := hid BB; have HS_13 := hid (HS_12.out.keep hg); have HR_13 := hid (HR_12.out.keep hg); have HX_13 := hid (HX_12.out.keep hg); have HA_13 := hid (HA_12.out.keep hg); have HP_13 := hid (HP_12.out.keep hg); have HB_13 := hid (HB_12.out.keep hg); have HG_13 := hid (gtrans HG_12.out hg); have HU_13 := hid (gtrans HU_12.out hg); clear BB ss hg))
          obtain ⟨p9, hp9⟩ : ∃ x, w12.heap.size = x := ⟨_, rfl⟩
          rw [hp9] at HQ_14 ⊢
          have HPb : Hid (w.heap.size ≤ p9 ∧ p9 ≠ pS ∧ p9 ≠ p5 ∧ p9 ≠ p6 ∧ p9 ≠ p7 ∧ w8.heap.size ≤ p9) := hid (by
            have h1 := HS_12.out.lt
            have h2 := HR_12.out.lt
            have h3 := HX_12.out.lt
            have h6 := HP_12.out.lt
            have h4 := HG_12.out.size
            have h5 := HU_12.out.size
            omega)
          clear hp9 z33 z34 hz70
          go_upto_region 12 with (first
            | (with_reducible refine wpList_load_part (by with_unfolding_all rfl) 69 _ (by with_unfolding_all rfl) p7 0 [.slice a9 Mr c9, .int .u64 Nr] _ (by with_unfolding_all rfl) HP_14.out.whole Try.underlying69 (by with_unfolding_all rfl) (by with_unfolding_all exact Try.size69) ?_)
            | (with_reducible refine wpList_load_part (by with_unfolding_all rfl) 69 _ (by with_unfolding_all rfl) p9 0 [.slice a12 Mr c12, .int .u64 Nr] _ (by with_unfolding_all rfl) HQ_14.out.whole Try.underlying69 (by with_unfolding_all rfl) (by with_unfolding_all exact Try.size69) ?_)
            | (go_at_call 21; (with_reducible refine (HEq.out _ _ _ Lr Nr HBl.out.1 HA_14.out HB_14.out).mono ?_); rintro e w15 ⟨rfl, hg⟩; have HS_15 := hid (HS_14.out.keep hg); have HR_15 := hid (HR_14.out.keep hg); have HX_15 := hid (HX_14.out.keep hg); have HA_15 := hid (HA_14.out.keep hg); have HP_15 := hid (HP_14.out.keep hg); have HB_15 := hid (HB_14.out.keep hg); have HQ_15 := hid (HQ_14.out.keep hg);  have HG_15 := hid (gtrans HG_14.out hg); have HU_15 := hid (gtrans HU_14.out hg); clear hg)
            | (go_at_call 22; (with_reducible refine (HNu.out _ _).mono ?_); rintro e w' ⟨rfl, hw⟩; have hw' := hw.symm; clear hw; subst hw'))
          obtain ⟨z33, z34, hz70⟩ := HSq.out _ HS_15.out
          replace hz70 := hid hz70
          go_upto_region 13 with (first
            | (with_reducible refine wpList_load_part (by with_unfolding_all rfl) 69 _ (by with_unfolding_all rfl) p6 0 [.slice (some ⟨g, 0, none⟩) rn cg, .int .u64 nx] _ (by with_unfolding_all rfl) HX_15.out.whole Try.underlying69 (by with_unfolding_all rfl) (by with_unfolding_all exact Try.size69) ?_)
            | (with_reducible refine wpList_load_part (by with_unfolding_all rfl) 70 _ (by with_unfolding_all rfl) pS 1 ts _ (by with_unfolding_all rfl) hz70.out Try.underlying70 (by with_unfolding_all rfl) (by rw [HTl.out]; exact Try.size70) ?_)
            | (go_at_call 16; (with_reducible refine (HF16.out _ HU_15.out).mono ?_); rintro e w16 ⟨a16, c16, rfl, hO, hg⟩; have HS_16 := hid (HS_15.out.keep hg); have HR_16 := hid (HR_15.out.keep hg); have HX_16 := hid (HX_15.out.keep hg);  have HP_16 := hid (HP_15.out.keep hg);  have HQ_16 := hid (HQ_15.out.keep hg);  have HG_16 := hid (gtrans HG_15.out hg); have HU_16 := hid (gtrans HU_15.out hg); have HC_16 := hid (hO.below HG_15.out.size); clear hO; clear hg)
            | ((with_reducible refine wpList_store_all (by with_unfolding_all rfl) 69 _ _ (by with_unfolding_all rfl) p7 [.slice a9 Mr c9, .int .u64 Nr] [.slice a16 Md c16, .int .u64 Nd] 69 (by with_unfolding_all rfl) (by with_unfolding_all rfl) HP_16.out (by with_unfolding_all rfl) (by with_unfolding_all exact Try.size69) (ring_one _ _ _ _) ?_); intro w17 BB hg ss; have HP_17 := hid BB; have HS_17 := hid (HS_16.out.on hg (by have := HPa.out; have := HPb.out; simp; omega)); have HR_17 := hid (HR_16.out.on hg (by have := HPa.out; have := HPb.out; simp; omega)); have HX_17 := hid (HX_16.out.on hg (by have := HPa.out; have := HPb.out; simp; omega)); have HQ_17 := hid (HQ_16.out.on hg (by have := HPa.out; have := HPb.out; simp; omega)); have HC_17 := hid (HC_16.out.offB hg HP_16.out (by decide)); have HG_17 := hid (HG_16.out.andThen hg (fun j hj => .inl (by injection hj with hj; have := HPa.out; have := HPb.out; omega))); have HU_17 := hid (HU_16.out.andThen hg (fun j hj => .inl (by injection hj with hj; have := HPa.out; have := HPb.out; omega))); clear BB hg ss))
          clear z33 z34 hz70
          obtain ⟨z33, z34, hz70⟩ := HSq.out _ HS_17.out
          replace hz70 := hid hz70
          go_upto_region 14 with (first
            | (with_reducible refine wpList_load_part (by with_unfolding_all rfl) 69 _ (by with_unfolding_all rfl) p5 0 [.slice ra rn rc, .int .u64 nx] _ (by with_unfolding_all rfl) HR_17.out.whole Try.underlying69 (by with_unfolding_all rfl) (by with_unfolding_all exact Try.size69) ?_)
            | (with_reducible refine wpList_load_part (by with_unfolding_all rfl) 70 _ (by with_unfolding_all rfl) pS 1 ts _ (by with_unfolding_all rfl) hz70.out Try.underlying70 (by with_unfolding_all rfl) (by rw [HTl.out]; exact Try.size70) ?_)
            | (go_at_call 15; (with_reducible refine (HF15.out _ HU_17.out).mono ?_); rintro e w18 ⟨a18, c18, rfl, hO, hg⟩; have HS_18 := hid (HS_17.out.keep hg); have HR_18 := hid (HR_17.out.keep hg); have HX_18 := hid (HX_17.out.keep hg); have HP_18 := hid (HP_17.out.keep hg); have HQ_18 := hid (HQ_17.out.keep hg); have HC_18 := hid (HC_17.out.keep hg);  have HG_18 := hid (gtrans HG_17.out hg); have HU_18 := hid (gtrans HU_17.out hg); have HD_18 := hid (hO.below HG_17.out.size); clear hO; clear hg)
            | ((with_reducible refine wpList_store_all (by with_unfolding_all rfl) 69 _ _ (by with_unfolding_all rfl) p9 [.slice a12 Mr c12, .int .u64 Nr] [.slice a18 Md c18, .int .u64 Nd] 69 (by with_unfolding_all rfl) (by with_unfolding_all rfl) HQ_18.out (by with_unfolding_all rfl) (by with_unfolding_all exact Try.size69) (ring_one _ _ _ _) ?_); intro w19 BB hg ss; have HQ_19 := hid BB; have HS_19 := hid (HS_18.out.on hg (by have := HPa.out; have := HPb.out; simp; omega)); have HR_19 := hid (HR_18.out.on hg (by have := HPa.out; have := HPb.out; simp; omega)); have HX_19 := hid (HX_18.out.on hg (by have := HPa.out; have := HPb.out; simp; omega)); have HP_19 := hid (HP_18.out.on hg (by have := HPa.out; have := HPb.out; simp; omega)); have HC_19 := hid (HC_18.out.offB hg HQ_18.out (by decide)); have HD_19 := hid (HD_18.out.offB hg HQ_18.out (by decide)); have HG_19 := hid (HG_18.out.andThen hg (fun j hj => .inl (by injection hj with hj; have := HPa.out; have := HPb.out; omega))); have HU_19 := hid (HU_18.out.andThen hg (fun j hj => .inl (by injection hj with hj; have := HPa.out; have := HPb.out; omega))); clear BB hg ss))
          clear z33 z34 hz70
          have HS9 : Hid (∀ u, w19.grownBy u none → u.cell? ⟨pS, 33, none⟩ = some (.int .i64 At)) := hid (fun u hu => (HSq.out u (HS_19.out.keep hu)).1)
          have HNz : Hid (∀ (x y : Operand) (u : World), (do eqGuard .neq 3 x y (.int .i64 Ed) (.int .i64 Ed); binOp .neq 3 (.int .i64 Ed) (.int .i64 Ed) : Sem Value).run Try.prog u = .ok (.bool false) u) := fun x y u => by go_simp
          have HNq : Hid (∀ u : World, Calls Try.prog 22 #[.int .i64 Ed] u fun r w' => r = .returned (.int .i64 Ed) ∧ u.grownBy w' none) := fun u => (num_any Ed u).mono fun e w' ⟨h1, h2⟩ => ⟨h1, by rw [h2]; exact grefl _ _⟩
          refine wp_region_listX (by kernel_rfl) [fun v _ => v = (Value.agg [Value.slice a16 Md c16, Value.int .u64 Nd].toArray), fun v _ => v = (Value.agg [Value.slice a18 Md c18, Value.int .u64 Nd].toArray), fun v _ => v = (Value.bool true), fun v _ => v = (Value.bool false), fun v _ => v = (Value.bool false), fun v _ => v = (Value.int .i64 Ed), fun v _ => v = (Value.int .i64 Ed), fun v _ => v = (Value.int .i64 Ed), fun v _ => v = (Value.bool false), fun v _ => v = (Value.bool false), fun v _ => v = (Value.bool false), fun v _ => v = (Value.agg [Value.slice (some ⟨g, 0, none⟩) rn cg, Value.int .u64 nx].toArray), fun v _ => v = (Value.pointer (some ⟨pS, 33, none⟩)), fun v _ => v = (Value.int .i64 At), fun v u => ∃ aa cc, v = Value.agg #[Value.slice aa Mp cc, Value.int .u64 (Np : Nat)] ∧ OutK w.heap.size u (Value.slice aa Mp cc) Lp, fun v _ => v = (Value.agg [Value.slice ra rn rc, Value.int .u64 nx].toArray), fun v _ => v = (Value.pointer (some ⟨pS, 33, none⟩)), fun v _ => v = (Value.int .i64 At), fun v u => ∃ aa cc, v = Value.agg #[Value.slice aa Mp cc, Value.int .u64 (Np : Nat)] ∧ OutK w.heap.size u (Value.slice aa Mp cc) Lp, fun v _ => v = (Value.bool true), fun v _ => v = (Value.bool false), fun v _ => v = (Value.bool false)] (none) (fun _ => none) 22 (by kernel_rfl) (by kernel_rfl) (by kernel_rfl) (by kernel_rfl) (by decide) noRow_one (fun _ => .inl rfl) ⟨fun i v u u' hki h hg => h, fun i v u u' hki h hg => h, fun i v u u' hki h hg => h, fun i v u u' hki h hg => h, fun i v u u' hki h hg => h, fun i v u u' hki h hg => h, fun i v u u' hki h hg => h, fun i v u u' hki h hg => h, fun i v u u' hki h hg => h, fun i v u u' hki h hg => h, fun i v u u' hki h hg => h, fun i v u u' hki h hg => h, fun i v u u' hki h hg => h, fun i v u u' hki h hg => h, fun i v u u' hki h hg => (by obtain ⟨aa, cc, e, ho⟩ := h; exact ⟨aa, cc, e, ho.keep hg⟩), fun i v u u' hki h hg => h, fun i v u u' hki h hg => h, fun i v u u' hki h hg => h, fun i v u u' hki h hg => (by obtain ⟨aa, cc, e, ho⟩ := h; exact ⟨aa, cc, e, ho.keep hg⟩), fun i v u u' hki h hg => h, fun i v u u' hki h hg => h, fun i v u u' hki h hg => h, trivial⟩ ⟨?_, ?_, ?_, ?_, ?_, ?_, ?_, ?_, ?_, ?_, ?_, ?_, ?_, ?_, ?_, ?_, ?_, ?_, ?_, ?_, ?_, ?_, trivial⟩ ?_
          · intro A u hu hpu hsz hout hdeps
            have e7 : A.eval (.tmp 7) = (.pointer (some ⟨p7, 0, none⟩)) := (hout 7 (by kernel_rfl)).trans rfl
            refine ifw_none rfl ?_
            with_reducible refine shown_q (Value.agg [Value.slice a16 Md c16, Value.int .u64 Nd].toArray) ?qq_8f1_0 (fun _ _ => ?qr_8f1_0)
            case qr_8f1_0 => exact (rfl : (Value.agg [Value.slice a16 Md c16, Value.int .u64 Nd].toArray) = (Value.agg [Value.slice a16 Md c16, Value.int .u64 Nd].toArray))
            with_reducible refine quietAt_load 69 (.tmp 7) ?h0_8f1_0 p7 0 [Value.slice a16 Md c16, Value.int .u64 Nd] (.struct (Try.prog.fieldsOf 69)) ?h1_8f1_0 ?h2_8f1_0 ?h3_8f1_0 ?h4_8f1_0 ?h5_8f1_0
            case h0_8f1_0 => rfl
            case h1_8f1_0 => exact e7
            case h2_8f1_0 => exact (HP_19.out.keep hu).whole
            case h3_8f1_0 => exact Try.under69
            case h4_8f1_0 => rfl
            case h5_8f1_0 => exact Try.size69
          · intro A u hu hpu hsz hout hdeps
            have e9 : A.eval (.tmp 9) = (.pointer (some ⟨p9, 0, none⟩)) := (hout 9 (by kernel_rfl)).trans rfl
            refine ifw_none rfl ?_
            with_reducible refine shown_q (Value.agg [Value.slice a18 Md c18, Value.int .u64 Nd].toArray) ?qq_8f1_1 (fun _ _ => ?qr_8f1_1)
            case qr_8f1_1 => exact (rfl : (Value.agg [Value.slice a18 Md c18, Value.int .u64 Nd].toArray) = (Value.agg [Value.slice a18 Md c18, Value.int .u64 Nd].toArray))
            with_reducible refine quietAt_load 69 (.tmp 9) ?h0_8f1_1 p9 0 [Value.slice a18 Md c18, Value.int .u64 Nd] (.struct (Try.prog.fieldsOf 69)) ?h1_8f1_1 ?h2_8f1_1 ?h3_8f1_1 ?h4_8f1_1 ?h5_8f1_1
            case h0_8f1_1 => rfl
            case h1_8f1_1 => exact e9
            case h2_8f1_1 => exact (HQ_19.out.keep hu).whole
            case h3_8f1_1 => exact Try.under69
            case h4_8f1_1 => rfl
            case h5_8f1_1 => exact Try.size69
          · intro A u hu hpu hsz hout hdeps
            have e79 : A.eval (.tmp 79) = (.agg [.slice a16 Md c16, .int .u64 Nd].toArray) := by have h := depL hdeps 0 (by kernel_rfl) 79 (by kernel_rfl); exact h
            have e80 : A.eval (.tmp 80) = (.agg [.slice a18 Md c18, .int .u64 Nd].toArray) := by have h := depL hdeps 1 (by kernel_rfl) 80 (by kernel_rfl); exact h
            refine ifw_none rfl ?_
            with_reducible refine shown_q (Value.bool true) ?qq_8f1_2 (fun _ _ => ?qr_8f1_2)
            case qr_8f1_2 => exact (rfl : (Value.bool true) = (Value.bool true))
            with_reducible refine quietAt_call 21 Try.f21 ?h0_8f1_2 ?h1_8f1_2 ?h2_8f1_2 #[.tmp 79, .tmp 80] #[69, 69] ?h3_8f1_2 (Value.bool true) #[(Value.agg [Value.slice a16 Md c16, Value.int .u64 Nd].toArray), (Value.agg [Value.slice a18 Md c18, Value.int .u64 Nd].toArray)] ?h4_8f1_2 ?h5_8f1_2
            case h0_8f1_2 => exact Try.func21
            case h1_8f1_2 => kernel_rfl
            case h2_8f1_2 => kernel_rfl
            case h3_8f1_2 => rfl
            case h4_8f1_2 => exact map2 _ _ _ _ _ e79 e80
            case h5_8f1_2 => exact HEq.out u _ _ Ld Nd HBl.out.2.1 (HC_19.out.keep hu) (HD_19.out.keep hu)
          · intro A u hu hpu hsz hout hdeps
            have e81 : A.eval (.tmp 81) = (.bool true) := by have h := depL hdeps 2 (by kernel_rfl) 81 (by kernel_rfl); exact h
            refine ifw_none rfl ?_
            with_reducible refine shown_q (Value.bool false) ?qq_8f1_3 (fun _ _ => ?qr_8f1_3)
            case qr_8f1_3 => exact (rfl : (Value.bool false) = (Value.bool false))
            with_reducible refine quietAt_un .not 4 (.tmp 81) (Value.bool true) (Value.bool false) ?h0_8f1_3 ?h1_8f1_3 ?h2_8f1_3
            case h0_8f1_3 => rfl
            case h1_8f1_3 => exact e81
            case h2_8f1_3 => rfl
          · intro A u hu hpu hsz hout hdeps
            have e82 : A.eval (.tmp 82) = (.bool false) := by have h := depL hdeps 3 (by kernel_rfl) 82 (by kernel_rfl); exact h
            refine ifw_none rfl ?_
            with_reducible refine shown_q (Value.bool false) ?qq_8f1_4 (fun _ _ => ?qr_8f1_4)
            case qr_8f1_4 => exact (rfl : (Value.bool false) = (Value.bool false))
            with_reducible refine quietAt_mv (.tmp 82) (Value.bool false) ?h0_8f1_4 ?h1_8f1_4
            case h0_8f1_4 => rfl
            case h1_8f1_4 => exact e82
          · intro A u hu hpu hsz hout hdeps
            have e83 : A.eval (.tmp 83) = (.bool false) := by have h := depL hdeps 4 (by kernel_rfl) 83 (by kernel_rfl); exact h
            have e8 : A.eval (.tmp 8) = (.int .i64 Ed) := (hout 8 (by kernel_rfl)).trans rfl
            refine ifw_want 4 false 83 rfl rfl e83 ?_
            with_reducible refine shown_q (Value.int .i64 Ed) ?qq_8f1_5 (fun _ _ => ?qr_8f1_5)
            case qr_8f1_5 => exact (rfl : (Value.int .i64 Ed) = (Value.int .i64 Ed))
            with_reducible refine quietAt_mv (.tmp 8) (Value.int .i64 Ed) ?h0_8f1_5 ?h1_8f1_5
            case h0_8f1_5 => rfl
            case h1_8f1_5 => exact e8
          · intro A u hu hpu hsz hout hdeps
            have e83 : A.eval (.tmp 83) = (.bool false) := by have h := depL hdeps 4 (by kernel_rfl) 83 (by kernel_rfl); exact h
            have e84 : A.eval (.tmp 84) = (.int .i64 Ed) := by have h := depL hdeps 5 (by kernel_rfl) 84 (by kernel_rfl); exact h
            refine ifw_want 4 false 83 rfl rfl e83 ?_
            with_reducible refine shown_q (Value.int .i64 Ed) ?qq_8f1_6 (fun _ _ => ?qr_8f1_6)
            case qr_8f1_6 => exact (rfl : (Value.int .i64 Ed) = (Value.int .i64 Ed))
            with_reducible refine quietAt_call 22 Try.f22 ?h0_8f1_6 ?h1_8f1_6 ?h2_8f1_6 #[.tmp 84] #[74] ?h3_8f1_6 (Value.int .i64 Ed) #[(Value.int .i64 Ed)] ?h4_8f1_6 ?h5_8f1_6
            case h0_8f1_6 => exact Try.func22
            case h1_8f1_6 => kernel_rfl
            case h2_8f1_6 => kernel_rfl
            case h3_8f1_6 => rfl
            case h4_8f1_6 => exact map1 _ _ _ e84
            case h5_8f1_6 => exact HNq.out u
          · intro A u hu hpu hsz hout hdeps
            have e83 : A.eval (.tmp 83) = (.bool false) := by have h := depL hdeps 4 (by kernel_rfl) 83 (by kernel_rfl); exact h
            have e10 : A.eval (.tmp 10) = (.int .i64 Ed) := (hout 10 (by kernel_rfl)).trans rfl
            refine ifw_want 4 false 83 rfl rfl e83 ?_
            with_reducible refine shown_q (Value.int .i64 Ed) ?qq_8f1_7 (fun _ _ => ?qr_8f1_7)
            case qr_8f1_7 => exact (rfl : (Value.int .i64 Ed) = (Value.int .i64 Ed))
            with_reducible refine quietAt_mv (.tmp 10) (Value.int .i64 Ed) ?h0_8f1_7 ?h1_8f1_7
            case h0_8f1_7 => rfl
            case h1_8f1_7 => exact e10
          · intro A u hu hpu hsz hout hdeps
            have e83 : A.eval (.tmp 83) = (.bool false) := by have h := depL hdeps 4 (by kernel_rfl) 83 (by kernel_rfl); exact h
            have e85 : A.eval (.tmp 85) = (.int .i64 Ed) := by have h := depL hdeps 6 (by kernel_rfl) 85 (by kernel_rfl); exact h
            have e86 : A.eval (.tmp 86) = (.int .i64 Ed) := by have h := depL hdeps 7 (by kernel_rfl) 86 (by kernel_rfl); exact h
            refine ifw_want 4 false 83 rfl rfl e83 ?_
            with_reducible refine shown_q (Value.bool false) ?qq_8f1_8 (fun _ _ => ?qr_8f1_8)
            case qr_8f1_8 => exact (rfl : (Value.bool false) = (Value.bool false))
            with_reducible refine quietAt_bin .neq 3 (.tmp 85) (.tmp 86) 3 (Value.int .i64 Ed) (Value.int .i64 Ed) (Value.bool false) ?h0_8f1_8 ?h1_8f1_8 ?h2_8f1_8 ?h3_8f1_8
            case h0_8f1_8 => rfl
            case h1_8f1_8 => exact e85
            case h2_8f1_8 => exact e86
            case h3_8f1_8 => exact HNz.out _ _ u
          · intro A u hu hpu hsz hout hdeps
            have e83 : A.eval (.tmp 83) = (.bool false) := by have h := depL hdeps 4 (by kernel_rfl) 83 (by kernel_rfl); exact h
            have e87 : A.eval (.tmp 87) = (.bool false) := by have h := depL hdeps 8 (by kernel_rfl) 87 (by kernel_rfl); exact h
            refine ifw_none rfl ?_
            with_reducible refine shown_q (Value.bool false) ?qq_8f1_9 (fun _ _ => ?qr_8f1_9)
            case qr_8f1_9 => exact (rfl : (Value.bool false) = (Value.bool false))
            with_reducible refine quietAt_pick (.tmp 83) (.const (.bool true)) (.tmp 87) false (Value.bool false) ?h0_8f1_9 ?h1_8f1_9 ?h2_8f1_9
            case h0_8f1_9 => rfl
            case h1_8f1_9 => exact e83
            case h2_8f1_9 => rw [if_neg (by decide)]; exact e87
          · intro A u hu hpu hsz hout hdeps
            have e88 : A.eval (.tmp 88) = (.bool false) := by have h := depL hdeps 9 (by kernel_rfl) 88 (by kernel_rfl); exact h
            refine ifw_none rfl ?_
            with_reducible refine shown_q (Value.bool false) ?qq_8f1_10 (fun _ _ => ?qr_8f1_10)
            case qr_8f1_10 => exact (rfl : (Value.bool false) = (Value.bool false))
            with_reducible refine quietAt_mv (.tmp 88) (Value.bool false) ?h0_8f1_10 ?h1_8f1_10
            case h0_8f1_10 => rfl
            case h1_8f1_10 => exact e88
          · intro A u hu hpu hsz hout hdeps
            have e89 : A.eval (.tmp 89) = (.bool false) := by have h := depL hdeps 10 (by kernel_rfl) 89 (by kernel_rfl); exact h
            have e6 : A.eval (.tmp 6) = (.pointer (some ⟨p6, 0, none⟩)) := (hout 6 (by kernel_rfl)).trans rfl
            refine ifw_want 10 false 89 rfl rfl e89 ?_
            with_reducible refine shown_q (Value.agg [Value.slice (some ⟨g, 0, none⟩) rn cg, Value.int .u64 nx].toArray) ?qq_8f1_11 (fun _ _ => ?qr_8f1_11)
            case qr_8f1_11 => exact (rfl : (Value.agg [Value.slice (some ⟨g, 0, none⟩) rn cg, Value.int .u64 nx].toArray) = (Value.agg [Value.slice (some ⟨g, 0, none⟩) rn cg, Value.int .u64 nx].toArray))
            with_reducible refine quietAt_load 69 (.tmp 6) ?h0_8f1_11 p6 0 [Value.slice (some ⟨g, 0, none⟩) rn cg, Value.int .u64 nx] (.struct (Try.prog.fieldsOf 69)) ?h1_8f1_11 ?h2_8f1_11 ?h3_8f1_11 ?h4_8f1_11 ?h5_8f1_11
            case h0_8f1_11 => rfl
            case h1_8f1_11 => exact e6
            case h2_8f1_11 => exact (HX_19.out.keep hu).whole
            case h3_8f1_11 => exact Try.under69
            case h4_8f1_11 => rfl
            case h5_8f1_11 => exact Try.size69
          · intro A u hu hpu hsz hout hdeps
            have e89 : A.eval (.tmp 89) = (.bool false) := by have h := depL hdeps 10 (by kernel_rfl) 89 (by kernel_rfl); exact h
            have e4 : A.eval (.tmp 4) = (.pointer (some ⟨pS, 0, none⟩)) := (hout 4 (by kernel_rfl)).trans rfl
            refine ifw_want 10 false 89 rfl rfl e89 ?_
            with_reducible refine shown_q (Value.pointer (some ⟨pS, 33, none⟩)) ?qq_8f1_12 (fun _ _ => ?qr_8f1_12)
            case qr_8f1_12 => exact (rfl : (Value.pointer (some ⟨pS, 33, none⟩)) = (Value.pointer (some ⟨pS, 33, none⟩)))
            with_reducible refine quietAt_field 72 (.tmp 4) 2 ?h0_8f1_12 ⟨pS, 0, none⟩ ⟨pS, 33, none⟩ ?h1_8f1_12 ?h2_8f1_12
            case h0_8f1_12 => rfl
            case h1_8f1_12 => exact e4
            case h2_8f1_12 => kernel_rfl
          · intro A u hu hpu hsz hout hdeps
            have e89 : A.eval (.tmp 89) = (.bool false) := by have h := depL hdeps 10 (by kernel_rfl) 89 (by kernel_rfl); exact h
            have e91 : A.eval (.tmp 91) = (.pointer (some ⟨pS, 33, none⟩)) := by have h := depL hdeps 12 (by kernel_rfl) 91 (by kernel_rfl); exact h
            refine ifw_want 10 false 89 rfl rfl e89 ?_
            with_reducible refine shown_q (Value.int .i64 At) ?qq_8f1_13 (fun _ _ => ?qr_8f1_13)
            case qr_8f1_13 => exact (rfl : (Value.int .i64 At) = (Value.int .i64 At))
            with_reducible refine quietAt_ld 2 (.tmp 91) (Value.pointer (some ⟨pS, 33, none⟩)) (Value.int .i64 At) ?h0_8f1_13 ?h1_8f1_13 ?h2_8f1_13
            case h0_8f1_13 => rfl
            case h1_8f1_13 => exact e91
            case h2_8f1_13 => exact ld2q pS 33 At u (HS9.out u hu)
          · intro A u hu hpu hsz hout hdeps
            have e89 : A.eval (.tmp 89) = (.bool false) := by have h := depL hdeps 10 (by kernel_rfl) 89 (by kernel_rfl); exact h
            have e90 : A.eval (.tmp 90) = (.agg [.slice (some ⟨g, 0, none⟩) rn cg, .int .u64 nx].toArray) := by have h := depL hdeps 11 (by kernel_rfl) 90 (by kernel_rfl); exact h
            have e92 : A.eval (.tmp 92) = (.int .i64 At) := by have h := depL hdeps 13 (by kernel_rfl) 92 (by kernel_rfl); exact h
            refine ifw_want 10 false 89 rfl rfl e89 ?_
            with_reducible refine shown_call 14 Try.f14 ?h0_8f1_14 ?h1_8f1_14 ?h2_8f1_14 #[.tmp 90, .tmp 92] #[69, 2] ?h3_8f1_14 #[(Value.agg [Value.slice (some ⟨g, 0, none⟩) rn cg, Value.int .u64 nx].toArray), (Value.int .i64 At)] ?h4_8f1_14 ?h5_8f1_14
            case h0_8f1_14 => exact Try.func14
            case h1_8f1_14 => kernel_rfl
            case h2_8f1_14 => kernel_rfl
            case h3_8f1_14 => rfl
            case h4_8f1_14 => exact map2 _ _ _ _ _ e90 e92
            case h5_8f1_14 => exact HF14.out u (gtrans HU_19.out hu)
          · intro A u hu hpu hsz hout hdeps
            have e89 : A.eval (.tmp 89) = (.bool false) := by have h := depL hdeps 10 (by kernel_rfl) 89 (by kernel_rfl); exact h
            have e5 : A.eval (.tmp 5) = (.pointer (some ⟨p5, 0, none⟩)) := (hout 5 (by kernel_rfl)).trans rfl
            refine ifw_want 10 false 89 rfl rfl e89 ?_
            with_reducible refine shown_q (Value.agg [Value.slice ra rn rc, Value.int .u64 nx].toArray) ?qq_8f1_15 (fun _ _ => ?qr_8f1_15)
            case qr_8f1_15 => exact (rfl : (Value.agg [Value.slice ra rn rc, Value.int .u64 nx].toArray) = (Value.agg [Value.slice ra rn rc, Value.int .u64 nx].toArray))
            with_reducible refine quietAt_load 69 (.tmp 5) ?h0_8f1_15 p5 0 [Value.slice ra rn rc, Value.int .u64 nx] (.struct (Try.prog.fieldsOf 69)) ?h1_8f1_15 ?h2_8f1_15 ?h3_8f1_15 ?h4_8f1_15 ?h5_8f1_15
            case h0_8f1_15 => rfl
            case h1_8f1_15 => exact e5
            case h2_8f1_15 => exact (HR_19.out.keep hu).whole
            case h3_8f1_15 => exact Try.under69
            case h4_8f1_15 => rfl
            case h5_8f1_15 => exact Try.size69
          · intro A u hu hpu hsz hout hdeps
            have e89 : A.eval (.tmp 89) = (.bool false) := by have h := depL hdeps 10 (by kernel_rfl) 89 (by kernel_rfl); exact h
            have e4 : A.eval (.tmp 4) = (.pointer (some ⟨pS, 0, none⟩)) := (hout 4 (by kernel_rfl)).trans rfl
            refine ifw_want 10 false 89 rfl rfl e89 ?_
            with_reducible refine shown_q (Value.pointer (some ⟨pS, 33, none⟩)) ?qq_8f1_16 (fun _ _ => ?qr_8f1_16)
            case qr_8f1_16 => exact (rfl : (Value.pointer (some ⟨pS, 33, none⟩)) = (Value.pointer (some ⟨pS, 33, none⟩)))
            with_reducible refine quietAt_field 72 (.tmp 4) 2 ?h0_8f1_16 ⟨pS, 0, none⟩ ⟨pS, 33, none⟩ ?h1_8f1_16 ?h2_8f1_16
            case h0_8f1_16 => rfl
            case h1_8f1_16 => exact e4
            case h2_8f1_16 => kernel_rfl
          · intro A u hu hpu hsz hout hdeps
            have e89 : A.eval (.tmp 89) = (.bool false) := by have h := depL hdeps 10 (by kernel_rfl) 89 (by kernel_rfl); exact h
            have e95 : A.eval (.tmp 95) = (.pointer (some ⟨pS, 33, none⟩)) := by have h := depL hdeps 16 (by kernel_rfl) 95 (by kernel_rfl); exact h
            refine ifw_want 10 false 89 rfl rfl e89 ?_
            with_reducible refine shown_q (Value.int .i64 At) ?qq_8f1_17 (fun _ _ => ?qr_8f1_17)
            case qr_8f1_17 => exact (rfl : (Value.int .i64 At) = (Value.int .i64 At))
            with_reducible refine quietAt_ld 2 (.tmp 95) (Value.pointer (some ⟨pS, 33, none⟩)) (Value.int .i64 At) ?h0_8f1_17 ?h1_8f1_17 ?h2_8f1_17
            case h0_8f1_17 => rfl
            case h1_8f1_17 => exact e95
            case h2_8f1_17 => exact ld2q pS 33 At u (HS9.out u hu)
          · intro A u hu hpu hsz hout hdeps
            have e89 : A.eval (.tmp 89) = (.bool false) := by have h := depL hdeps 10 (by kernel_rfl) 89 (by kernel_rfl); exact h
            have e94 : A.eval (.tmp 94) = (.agg [.slice ra rn rc, .int .u64 nx].toArray) := by have h := depL hdeps 15 (by kernel_rfl) 94 (by kernel_rfl); exact h
            have e96 : A.eval (.tmp 96) = (.int .i64 At) := by have h := depL hdeps 17 (by kernel_rfl) 96 (by kernel_rfl); exact h
            refine ifw_want 10 false 89 rfl rfl e89 ?_
            with_reducible refine shown_call 13 Try.f13 ?h0_8f1_18 ?h1_8f1_18 ?h2_8f1_18 #[.tmp 94, .tmp 96] #[69, 2] ?h3_8f1_18 #[(Value.agg [Value.slice ra rn rc, Value.int .u64 nx].toArray), (Value.int .i64 At)] ?h4_8f1_18 ?h5_8f1_18
            case h0_8f1_18 => exact Try.func13
            case h1_8f1_18 => kernel_rfl
            case h2_8f1_18 => kernel_rfl
            case h3_8f1_18 => rfl
            case h4_8f1_18 => exact map2 _ _ _ _ _ e94 e96
            case h5_8f1_18 => exact HF13.out u (gtrans HU_19.out hu)
          · intro A u hu hpu hsz hout hdeps
            have e89 : A.eval (.tmp 89) = (.bool false) := by have h := depL hdeps 10 (by kernel_rfl) 89 (by kernel_rfl); exact h
            have f93 : (fun v u => ∃ aa cc, v = Value.agg #[Value.slice aa Mp cc, Value.int .u64 (Np : Nat)] ∧ OutK w.heap.size u (Value.slice aa Mp cc) Lp) (A.eval (.tmp 93)) u := by have h := depL hdeps 14 (by kernel_rfl) 93 (by kernel_rfl); exact h
            obtain ⟨a93, c93, e93, o93⟩ := f93
            have f97 : (fun v u => ∃ aa cc, v = Value.agg #[Value.slice aa Mp cc, Value.int .u64 (Np : Nat)] ∧ OutK w.heap.size u (Value.slice aa Mp cc) Lp) (A.eval (.tmp 97)) u := by have h := depL hdeps 18 (by kernel_rfl) 97 (by kernel_rfl); exact h
            obtain ⟨a97, c97, e97, o97⟩ := f97
            refine ifw_want 10 false 89 rfl rfl e89 ?_
            with_reducible refine shown_q (Value.bool true) ?qq_8f1_19 (fun _ _ => ?qr_8f1_19)
            case qr_8f1_19 => exact (rfl : (Value.bool true) = (Value.bool true))
            with_reducible refine quietAt_call 21 Try.f21 ?h0_8f1_19 ?h1_8f1_19 ?h2_8f1_19 #[.tmp 93, .tmp 97] #[69, 69] ?h3_8f1_19 (Value.bool true) #[(Value.agg #[Value.slice a93 Mp c93, Value.int .u64 (Np : Nat)]), (Value.agg #[Value.slice a97 Mp c97, Value.int .u64 (Np : Nat)])] ?h4_8f1_19 ?h5_8f1_19
            case h0_8f1_19 => exact Try.func21
            case h1_8f1_19 => kernel_rfl
            case h2_8f1_19 => kernel_rfl
            case h3_8f1_19 => rfl
            case h4_8f1_19 => exact map2 _ _ _ _ _ e93 e97
            case h5_8f1_19 => exact HEq.out u _ _ Lp Np HBl.out.2.2 o93 o97
          · intro A u hu hpu hsz hout hdeps
            have e89 : A.eval (.tmp 89) = (.bool false) := by have h := depL hdeps 10 (by kernel_rfl) 89 (by kernel_rfl); exact h
            have e98 : A.eval (.tmp 98) = (.bool true) := by have h := depL hdeps 19 (by kernel_rfl) 98 (by kernel_rfl); exact h
            refine ifw_want 10 false 89 rfl rfl e89 ?_
            with_reducible refine shown_q (Value.bool false) ?qq_8f1_20 (fun _ _ => ?qr_8f1_20)
            case qr_8f1_20 => exact (rfl : (Value.bool false) = (Value.bool false))
            with_reducible refine quietAt_un .not 4 (.tmp 98) (Value.bool true) (Value.bool false) ?h0_8f1_20 ?h1_8f1_20 ?h2_8f1_20
            case h0_8f1_20 => rfl
            case h1_8f1_20 => exact e98
            case h2_8f1_20 => rfl
          · intro A u hu hpu hsz hout hdeps
            have e89 : A.eval (.tmp 89) = (.bool false) := by have h := depL hdeps 10 (by kernel_rfl) 89 (by kernel_rfl); exact h
            have e99 : A.eval (.tmp 99) = (.bool false) := by have h := depL hdeps 20 (by kernel_rfl) 99 (by kernel_rfl); exact h
            refine ifw_none rfl ?_
            with_reducible refine shown_q (Value.bool false) ?qq_8f1_21 (fun _ _ => ?qr_8f1_21)
            case qr_8f1_21 => exact (rfl : (Value.bool false) = (Value.bool false))
            with_reducible refine quietAt_pick (.tmp 89) (.const (.bool true)) (.tmp 99) false (Value.bool false) ?h0_8f1_21 ?h1_8f1_21 ?h2_8f1_21
            case h0_8f1_21 => rfl
            case h1_8f1_21 => exact e89
            case h2_8f1_21 => rw [if_neg (by decide)]; exact e99
          · intro A u8 listed hh hall
            have hA := hh.frame
            have HU := hid hh.grown
            obtain ⟨x79, hx79⟩ : ∃ x, A.eval (.tmp 79) = x := ⟨_, rfl⟩
            have f79 : (fun v _ => v = (Value.agg [Value.slice a16 Md c16, Value.int .u64 Nd].toArray)) x79 u8 := by rw [← hx79]; exact hh.got 0 _ 79 rfl rfl (hall 0 (by decide))
            obtain ⟨x80, hx80⟩ : ∃ x, A.eval (.tmp 80) = x := ⟨_, rfl⟩
            have f80 : (fun v _ => v = (Value.agg [Value.slice a18 Md c18, Value.int .u64 Nd].toArray)) x80 u8 := by rw [← hx80]; exact hh.got 1 _ 80 rfl rfl (hall 1 (by decide))
            obtain ⟨x81, hx81⟩ : ∃ x, A.eval (.tmp 81) = x := ⟨_, rfl⟩
            have f81 : (fun v _ => v = (Value.bool true)) x81 u8 := by rw [← hx81]; exact hh.got 2 _ 81 rfl rfl (hall 2 (by decide))
            obtain ⟨x82, hx82⟩ : ∃ x, A.eval (.tmp 82) = x := ⟨_, rfl⟩
            have f82 : (fun v _ => v = (Value.bool false)) x82 u8 := by rw [← hx82]; exact hh.got 3 _ 82 rfl rfl (hall 3 (by decide))
            obtain ⟨x83, hx83⟩ : ∃ x, A.eval (.tmp 83) = x := ⟨_, rfl⟩
            have f83 : (fun v _ => v = (Value.bool false)) x83 u8 := by rw [← hx83]; exact hh.got 4 _ 83 rfl rfl (hall 4 (by decide))
            obtain ⟨x84, hx84⟩ : ∃ x, A.eval (.tmp 84) = x := ⟨_, rfl⟩
            have f84 : (fun v _ => v = (Value.int .i64 Ed)) x84 u8 := by rw [← hx84]; exact hh.got 5 _ 84 rfl rfl (hall 5 (by decide))
            obtain ⟨x85, hx85⟩ : ∃ x, A.eval (.tmp 85) = x := ⟨_, rfl⟩
            have f85 : (fun v _ => v = (Value.int .i64 Ed)) x85 u8 := by rw [← hx85]; exact hh.got 6 _ 85 rfl rfl (hall 6 (by decide))
            obtain ⟨x86, hx86⟩ : ∃ x, A.eval (.tmp 86) = x := ⟨_, rfl⟩
            have f86 : (fun v _ => v = (Value.int .i64 Ed)) x86 u8 := by rw [← hx86]; exact hh.got 7 _ 86 rfl rfl (hall 7 (by decide))
            obtain ⟨x87, hx87⟩ : ∃ x, A.eval (.tmp 87) = x := ⟨_, rfl⟩
            have f87 : (fun v _ => v = (Value.bool false)) x87 u8 := by rw [← hx87]; exact hh.got 8 _ 87 rfl rfl (hall 8 (by decide))
            obtain ⟨x88, hx88⟩ : ∃ x, A.eval (.tmp 88) = x := ⟨_, rfl⟩
            have f88 : (fun v _ => v = (Value.bool false)) x88 u8 := by rw [← hx88]; exact hh.got 9 _ 88 rfl rfl (hall 9 (by decide))
            obtain ⟨x89, hx89⟩ : ∃ x, A.eval (.tmp 89) = x := ⟨_, rfl⟩
            have f89 : (fun v _ => v = (Value.bool false)) x89 u8 := by rw [← hx89]; exact hh.got 10 _ 89 rfl rfl (hall 10 (by decide))
            obtain ⟨x90, hx90⟩ : ∃ x, A.eval (.tmp 90) = x := ⟨_, rfl⟩
            have f90 : (fun v _ => v = (Value.agg [Value.slice (some ⟨g, 0, none⟩) rn cg, Value.int .u64 nx].toArray)) x90 u8 := by rw [← hx90]; exact hh.got 11 _ 90 rfl rfl (hall 11 (by decide))
            obtain ⟨x91, hx91⟩ : ∃ x, A.eval (.tmp 91) = x := ⟨_, rfl⟩
            have f91 : (fun v _ => v = (Value.pointer (some ⟨pS, 33, none⟩))) x91 u8 := by rw [← hx91]; exact hh.got 12 _ 91 rfl rfl (hall 12 (by decide))
            obtain ⟨x92, hx92⟩ : ∃ x, A.eval (.tmp 92) = x := ⟨_, rfl⟩
            have f92 : (fun v _ => v = (Value.int .i64 At)) x92 u8 := by rw [← hx92]; exact hh.got 13 _ 92 rfl rfl (hall 13 (by decide))
            obtain ⟨x93, hx93⟩ : ∃ x, A.eval (.tmp 93) = x := ⟨_, rfl⟩
            have f93 : (fun v u => ∃ aa cc, v = Value.agg #[Value.slice aa Mp cc, Value.int .u64 (Np : Nat)] ∧ OutK w.heap.size u (Value.slice aa Mp cc) Lp) x93 u8 := by rw [← hx93]; exact hh.got 14 _ 93 rfl rfl (hall 14 (by decide))
            obtain ⟨x94, hx94⟩ : ∃ x, A.eval (.tmp 94) = x := ⟨_, rfl⟩
            have f94 : (fun v _ => v = (Value.agg [Value.slice ra rn rc, Value.int .u64 nx].toArray)) x94 u8 := by rw [← hx94]; exact hh.got 15 _ 94 rfl rfl (hall 15 (by decide))
            obtain ⟨x95, hx95⟩ : ∃ x, A.eval (.tmp 95) = x := ⟨_, rfl⟩
            have f95 : (fun v _ => v = (Value.pointer (some ⟨pS, 33, none⟩))) x95 u8 := by rw [← hx95]; exact hh.got 16 _ 95 rfl rfl (hall 16 (by decide))
            obtain ⟨x96, hx96⟩ : ∃ x, A.eval (.tmp 96) = x := ⟨_, rfl⟩
            have f96 : (fun v _ => v = (Value.int .i64 At)) x96 u8 := by rw [← hx96]; exact hh.got 17 _ 96 rfl rfl (hall 17 (by decide))
            obtain ⟨x97, hx97⟩ : ∃ x, A.eval (.tmp 97) = x := ⟨_, rfl⟩
            have f97 : (fun v u => ∃ aa cc, v = Value.agg #[Value.slice aa Mp cc, Value.int .u64 (Np : Nat)] ∧ OutK w.heap.size u (Value.slice aa Mp cc) Lp) x97 u8 := by rw [← hx97]; exact hh.got 18 _ 97 rfl rfl (hall 18 (by decide))
            obtain ⟨x98, hx98⟩ : ∃ x, A.eval (.tmp 98) = x := ⟨_, rfl⟩
            have f98 : (fun v _ => v = (Value.bool true)) x98 u8 := by rw [← hx98]; exact hh.got 19 _ 98 rfl rfl (hall 19 (by decide))
            obtain ⟨x99, hx99⟩ : ∃ x, A.eval (.tmp 99) = x := ⟨_, rfl⟩
            have f99 : (fun v _ => v = (Value.bool false)) x99 u8 := by rw [← hx99]; exact hh.got 20 _ 99 rfl rfl (hall 20 (by decide))
            obtain ⟨x100, hx100⟩ : ∃ x, A.eval (.tmp 100) = x := ⟨_, rfl⟩
            have f100 : (fun v _ => v = (Value.bool false)) x100 u8 := by rw [← hx100]; exact hh.got 21 _ 100 rfl rfl (hall 21 (by decide))
            dsimp only [wrote, List.foldl] at hA
            rw [hx79, hx80, hx81, hx82, hx83, hx84, hx85, hx86, hx87, hx88, hx89, hx90, hx91, hx92, hx93, hx94, hx95, hx96, hx97, hx98, hx99, hx100] at hA
            clear hh hall hx79 hx80 hx81 hx82 hx83 hx84 hx85 hx86 hx87 hx88 hx89 hx90 hx91 hx92 hx93 hx94 hx95 hx96 hx97 hx98 hx99 hx100
            replace f79 := (f79 : x79 = (.agg [.slice a16 Md c16, .int .u64 Nd].toArray))
            subst f79
            replace f80 := (f80 : x80 = (.agg [.slice a18 Md c18, .int .u64 Nd].toArray))
            subst f80
            replace f81 := (f81 : x81 = (.bool true))
            subst f81
            replace f82 := (f82 : x82 = (.bool false))
            subst f82
            replace f83 := (f83 : x83 = (.bool false))
            subst f83
            replace f84 := (f84 : x84 = (.int .i64 Ed))
            subst f84
            replace f85 := (f85 : x85 = (.int .i64 Ed))
            subst f85
            replace f86 := (f86 : x86 = (.int .i64 Ed))
            subst f86
            replace f87 := (f87 : x87 = (.bool false))
            subst f87
            replace f88 := (f88 : x88 = (.bool false))
            subst f88
            replace f89 := (f89 : x89 = (.bool false))
            subst f89
            replace f90 := (f90 : x90 = (.agg [.slice (some ⟨g, 0, none⟩) rn cg, .int .u64 nx].toArray))
            subst f90
            replace f91 := (f91 : x91 = (.pointer (some ⟨pS, 33, none⟩)))
            subst f91
            replace f92 := (f92 : x92 = (.int .i64 At))
            subst f92
            obtain ⟨a93, c93, e93, o93⟩ := f93
            subst e93
            replace f94 := (f94 : x94 = (.agg [.slice ra rn rc, .int .u64 nx].toArray))
            subst f94
            replace f95 := (f95 : x95 = (.pointer (some ⟨pS, 33, none⟩)))
            subst f95
            replace f96 := (f96 : x96 = (.int .i64 At))
            subst f96
            obtain ⟨a97, c97, e97, o97⟩ := f97
            subst e97
            replace f98 := (f98 : x98 = (.bool true))
            subst f98
            replace f99 := (f99 : x99 = (.bool false))
            subst f99
            replace f100 := (f100 : x100 = (.bool false))
            subst f100
            subst hA
            show wpList _ _ _ [] _ _
            unfold wpList
            simp only [Act.put, List.setIfInBounds_toArray, List.set_cons_succ, List.set_cons_zero]
            have HG_20 := hid (gtrans HG_19.out HU.out)
            have HU_20 := hid (gtrans HU_19.out HU.out)
            have HS_20 := hid (HS_19.out.keep HU.out)
            have HR_20 := hid (HR_19.out.keep HU.out)
            have HX_20 := hid (HX_19.out.keep HU.out)
            obtain ⟨z33, z34, hz70⟩ := HSq.out _ HS_20.out
            clear hz70
            go_wp2_with (first
              | (with_reducible refine wpList_load_part (by with_unfolding_all rfl) 69 _ (by with_unfolding_all rfl) p5 0 [.slice ra rn rc, .int .u64 nx] _ (by with_unfolding_all rfl) HR_20.out.whole Try.underlying69 (by with_unfolding_all rfl) (by with_unfolding_all exact Try.size69) ?_)
              | (go_at_call 17; (with_reducible refine (HAs.out _ HU_20.out).mono ?_); rintro e w21 ⟨rfl, hg⟩; have HR_21 := hid (HR_20.out.keep hg); have HX_21 := hid (HX_20.out.keep hg); have HG_21 := hid (gtrans HG_20.out hg); have HU_21 := hid (gtrans HU_20.out hg); have y5 := HR_21.out.cell 0; have y6 := HX_21.out.cell 0; clear hg)
              | (go_at_call 19; (with_reducible refine (HBk.out _ HU_21.out).mono ?_); rintro e w22 ⟨rfl, hg⟩; have HG_22 := hid (gtrans HG_21.out hg); clear hg))
            go_roundw
            case rel => exact ⟨i + 1, by go_num, by omega, HG_22⟩
            case measure => simp [intOf]; omega
      · as_aux_lemma =>
        have i1 : (i : Int) < (n : Int) := by omega
        have i2 : ¬ (i : Int) < 60 := by omega
        go_wp2_with (go_at_call 26; (with_reducible refine (HWk.out _).mono ?_); rintro e q2 ⟨rfl, hg2⟩; have HQ2 := hid (gtrans HG_0.out hg2); clear hg2)
        go_ret
        exact ⟨rfl, HQ2.out⟩
    · as_aux_lemma =>
      have i1 : ¬ (i : Int) < (n : Int) := by omega
      go_wp2_with (go_at_call 26; (with_reducible refine (HWk.out _).mono ?_); rintro e q2 ⟨rfl, hg2⟩; have HQ2 := hid (gtrans HG_0.out hg2); clear hg2)
      go_ret
      exact ⟨rfl, HQ2.out⟩
end Go.Proofs.Ytmpcpakdocaieaa
