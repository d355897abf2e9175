/- WalLong's walk. -/
import Derived.Test.YtpbiofnncdneoaaDoorLoA
namespace Go.Proofs.YtpbiofnncdneoaaDoor
open Go Go.RowKit Go.MapKept Go.MuLone
open Go.RowKit (wrap32 wrap64)

theorem len_more : more.length = 4 := rfl
theorem len_fm : (frameL more).length = 17 := by rw [frameL_length]; rfl
/-- One record more, of a disk that isn't armed. -/
theorem app_more {A : Ab} {U : Nat} {rs : List (List UInt8)} {s m n : ByteArray} {R : Nat} (h : Live A R U m n) (h0 : A.off = false) (h1 : A.ar = 0) (hs : s = m ∨ s = n) (hg : goodN s = true) (ho : A.old s = flat rs) {l : List UInt8} (hU : U + (l.length + 13) ≤ R) (hl : l.length ≤ 16777216) :
    A.appE s (frameL l) = 0 ∧ Live (A.app s (frameL l)) R (U + (l.length + 13)) m n ∧ (A.app s (frameL l)).off = false ∧ (A.app s (frameL l)).ar = 0 ∧ (A.app s (frameL l)).wr = A.wr + 1 ∧ (A.app s (frameL l)).old s = flat (rs ++ [l]) ∧ ∀ x, x ≠ s → (A.app s (frameL l)).old x = A.old x := by
  have hl' : (frameL l).length = l.length + 13 := frameL_length l
  obtain ⟨q1, q2, q3⟩ := h.app (s := s) (l := frameL l) h0 hs hg (by rw [hl']; exact hU) (by rw [h1]; decide) (by rw [hl']; omega)
  rw [hl'] at q3
  refine ⟨q1, q3, by rw [q2], by rw [q2, h1]; rfl, by rw [q2], ?_, fun x hx => ?_⟩
  · rw [q2, old_set, flat_app, flat_one, ho]
  · rw [q2, old_other _ _ _ _ _ _ hx]; rfl
theorem flen_app (rs : List (List UInt8)) (l : List UInt8) : flen (rs ++ [l]) = flen rs + (l.length + 13) := by unfold flen; rw [flat_app, List.length_append, flat_one, frameL_length]
set_option maxRecDepth 100000 in
set_option maxHeartbeats 4000000 in
theorem long_walk (x : Int) (w : World) (hT : Tab w) : Calls Tryd.prog 5 #[.int .i64 x] w fun e w' => e = .returned (.bool true) ∧ w.grownBy w' none := by
  have HTb := hid hT
  have HWi : Hid (∀ u : World, Calls Tryd.prog 12 #[.int .i64 x, .int .i64 16777218] u fun e w' => (∃ r : Nat, r < 16777218 ∧ e = .returned (.int .i64 r)) ∧ w' = u) := hid (fun u => within_any x 16777218 (by decide) (by decide) u)
  have HNw : Hid (Calls Tryd.prog 8 #[.int .i64 33554432] w fun e w' => ∃ b P, e = .returned (.tuple #[.pointer (some ⟨b, 0, none⟩), .int .i64 0]) ∧ Sd w w' b L0 P) := hid (sd_new w 33554432 (by omega) (by omega))
  have HWk : Hid (∀ u, w.grownBy u none → Calls Tryd.prog 10 #[] u fun e w' => e = .returned (.bool true) ∧ u.grownBy w' none) := hid (fun u hu => works_any u (hT.keep hu))
  have HOp : Hid (∀ u b P, Sd w u b L0 P → Calls Tryd.prog 11 #[.pointer (some ⟨b, 0, none⟩), .string ⟨#[120]⟩] u fun e u' => ∃ lb a c, e = .returned (.tuple #[.pointer (some ⟨lb, 0, none⟩), .slice a 0 c, .int .i64 0]) ∧ Sd w u' b L0 P ∧ LgP w u' lb b ⟨#[120]⟩ 0 false P) := hid (fun u b P h => by
    refine (sd_whole (rs := []) h hT (by decide) (fil_on rfl good_x rfl (fun r hr => by cases hr) (by decide) tl_nil)).mono fun e u' ⟨lb, v, q1, q2, q3, q4, q5⟩ => ?_
    obtain ⟨a, c, rfl⟩ := q2.len
    exact ⟨lb, a, c, q1, q3, q4⟩)
  have hc36 := conv33
  clear hT
  go_enter Tryd.func5, Tryd.ntmps5
  go_upto_region 8 with (first
    | (go_at_call 11; (with_reducible refine (HOp.out _ _ _ HD1'.out).mono ?_); rintro e w2 ⟨lb, a2, c2, rfl, hd, hl⟩; have HD2 := hid hd; have HL2 := hid hl; clear hd hl)
    | (go_at_call 10; (with_reducible refine (HWk.out _ HD1.out.gr).mono ?_); rintro e w1' ⟨rfl, hg⟩; have HD1' := hid (HD1.out.keep hg); clear hg)
    | (go_at_call 9; (with_reducible refine (num_any _ _).mono ?_); rintro e wn ⟨rfl, hwn⟩; have hwn' := hwn.symm; clear hwn; subst hwn')
    | (go_at_call 8; (with_reducible refine HNw.out.mono ?_); rintro e w1 ⟨b, P1, rfl, hd⟩; have HD1 := hid hd; clear hd)
    | (go_at_call 12; (with_reducible refine (HWi.out _).mono ?_); rintro e w0 ⟨⟨n, hn, rfl⟩, hw0⟩; have hw0' := hw0.symm; clear hw0; subst hw0'))
  obtain ⟨wm, hmk, HM⟩ := make2 w2 n (by omega)
  have HDm := hid (HD2.out.keep HM.out.2)
  have HLm := hid (HL2.out.keep HM.out.2)
  by_cases hle : n ≤ 16777216
  · as_aux_lemma =>
    have hle' : ¬ (16777216 : Int) < (n : Int) := by omega
    have q := ll1 n hle
    obtain ⟨A1, HA1⟩ : ∃ y, Hid (L0.app ⟨#[120]⟩ (frameL (List.replicate n 0)) = y) := ⟨_, hid rfl⟩
    rw [HA1.out] at q
    obtain ⟨sz, HSz⟩ : ∃ y, Hid (n + 13 = y) := ⟨_, hid rfl⟩
    obtain ⟨sy, HSy⟩ : ∃ y, Hid (sz + 17 = y) := ⟨_, hid rfl⟩
    have HAp : Hid (Calls Tryd.prog 15 #[.pointer (some ⟨lb, 0, none⟩), .slice (some ⟨w2.heap.size, 0, none⟩) n n] wm fun e u' => ∃ P', e = .returned (.int .i64 0) ∧ Sd w u' b A1 P' ∧ LgP w u' lb b ⟨#[120]⟩ sz false P') := hid (by
      have h := sd_app HDm.out HLm.out HTb.out (by decide) (by decide) _ _ _ HM.out.1 (by rw [List.length_replicate]; exact hle)
      unfold lgZ at h
      rw [q.1, HA1.out, List.length_replicate] at h
      exact h.mono fun e u' ⟨P', q1, q2, q3, _⟩ => ⟨P', q1, q2, by rw [if_pos rfl, Nat.zero_add, HSz.out] at q3; exact q3⟩)
    obtain ⟨-, hLv, hoff, har, hwr, hold⟩ := q
    have q2 := app_more (l := more) hLv hoff har (.inl rfl) good_x hold (by rw [len_more]; omega) (by decide)
    obtain ⟨A2, HA2⟩ : ∃ y, Hid (A1.app ⟨#[120]⟩ (frameL more) = y) := ⟨_, hid rfl⟩
    rw [HA2.out] at q2
    have HAm : Hid (∀ u b lb P, Sd w u b A1 P → LgP w u lb b ⟨#[120]⟩ sz false P → Calls Tryd.prog 15 #[.pointer (some ⟨lb, 0, none⟩), .slice (some ⟨u.heap.size, 0, none⟩) 4 4] (u.alloc (.cells #[.int .u8 109, .int .u8 111, .int .u8 114, .int .u8 101] 5 (4, 5))) fun e u' => ∃ P', e = .returned (.int .i64 0) ∧ Sd w u' b A2 P' ∧ LgP w u' lb b ⟨#[120]⟩ sy false P') := hid (fun u b lb P h hl => by
      have h := sd_app (h.keep (galloc _ _ _)) (hl.keep (galloc _ _ _)) HTb.out (by rw [hwr]; decide) (by have := HSz.out; omega) _ _ more (lit_rd u more (4, 5) #[.int .u8 109, .int .u8 111, .int .u8 114, .int .u8 101] rfl 4 rfl) (by decide)
      unfold lgZ at h
      rw [q2.1, HA2.out] at h
      exact h.mono fun e u' ⟨P', q1, q2, q3, _⟩ => ⟨P', q1, q2, by rw [← HSy.out]; exact q3⟩)
    have HO2 : Hid (∀ u b P, Sd w u b A2 P → Calls Tryd.prog 11 #[.pointer (some ⟨b, 0, none⟩), .string ⟨#[120]⟩] u fun e u' => ∃ lb g c xa xc ya yc, e = .returned (.tuple #[.pointer (some ⟨lb, 0, none⟩), .slice (some ⟨g, 0, none⟩) 2 c, .int .i64 0]) ∧ u'.cell? ⟨g, 0, none⟩ = some (.slice ya n yc) ∧ u'.cell? ⟨g, 1, none⟩ = some (.slice xa 4 xc) ∧ (convert 36 9 (.slice xa 4 xc)).run Tryd.prog u' = .ok (.string ⟨#[109, 111, 114, 101]⟩) u' ∧ u.grownBy u' none) := hid (fun u b P h => by
      obtain ⟨-, hLv2, hoff2, har2, hwr2, hold2, -⟩ := q2
      refine (sd_whole (rs := [List.replicate n 0, more]) h HTb.out (by decide) (fil_on hoff2 good_x (by rw [List.append_nil]; exact hold2) (fun r hr => ?_) (by simp) tl_nil)).mono fun e u' ⟨lb, v, q1, q2, q3, q4, q5⟩ => ?_
      · rcases List.mem_cons.1 hr with rfl | hr
        · rw [List.length_replicate]; exact hle
        · rw [List.mem_singleton.1 hr]; decide
      · obtain ⟨a, g, c, rfl, hr⟩ := q2.row
        obtain ⟨rfl, _, _⟩ := hr.at_ (by simp)
        obtain ⟨y, y1, y2⟩ := hr.each 0 (by simp)
        obtain ⟨x, x1, x2⟩ := hr.each 1 (by simp)
        have y2' : Rd u' _ y (List.replicate n 0) := y2
        have x2' : Rd u' _ x more := x2
        have x3 := x2'.convert
        obtain ⟨xa, xb, xo, xc, rfl, _⟩ := x2'
        obtain ⟨ya, yb, yo, yc, rfl, _⟩ := y2'
        rw [List.length_replicate] at y1
        exact ⟨lb, g, c, xa, xc, ya, yc, q1, y1, x1, x3, q5⟩)
    obtain ⟨Z, hZ⟩ : ∃ y : Int, (n : Int) = y := ⟨_, rfl⟩
    have hz0 : 0 ≤ Z := by omega
    have hz1 : Z ≤ 20000000 := by omega
    have hsz : (sz : Int) = Z + 13 := by have := HSz.out; omega
    have HSs : Hid ((sy : Int) = Z + 13 + 17) := hid (by have := HSz.out; have := HSy.out; omega)
    rw [hZ] at hmk hle' ⊢
    have HDc : Hid (decide ((16777216 : Int) < Z) = false) := hid (decide_eq_false (by omega))
    clear hle'
    clear q2 hLv hoff har hwr hold HDm HLm HM hn hle HSz HSy
    go_upto_region 10 with (first
      | (have := HD5; clear this; go_at_call 11; (with_reducible refine (HO2.out _ _ _ HD5.out).mono ?_); rintro e w6 ⟨lb6, g6, c6, xa, xc, ya, yc, rfl, hy1, hx1, hcv, hg⟩; have HG6 := hid (gtrans HD5.out.gr hg); have HL6 := hid (HL5.out.keep hg); clear hg)
      | (have := HD4; clear this; go_at_call 15; (with_reducible refine (HAm.out _ _ _ _ HD4.out HL4.out).mono ?_); rintro e w5 ⟨P5, rfl, hd, hl⟩; have HD5 := hid hd; have HL5 := hid hl; clear hd hl)
      | (go_at_call 15; (with_reducible refine HAp.out.mono ?_); rintro e w4 ⟨P4, rfl, hd, hl⟩; have HD4 := hid hd; have HL4 := hid hl; clear hd hl)
      | (have := HL6; clear this; go_at_call 19; (with_reducible refine (lsize_any HL6.out.lg).mono ?_); rintro e w8 ⟨rfl, hw8⟩; have hw8' := hw8.symm; clear hw8; subst hw8')
      | (go_at_call 19; (with_reducible refine (lsize_any HL4.out.lg).mono ?_); rintro e w8 ⟨rfl, hw8⟩; have hw8' := hw8.symm; clear hw8; subst hw8')
      | (go_at_call 9; (with_reducible refine (num_any _ _).mono ?_); rintro e wn ⟨rfl, hwn⟩; have hwn' := hwn.symm; clear hwn; subst hwn'))
    obtain ⟨Y, hY⟩ : ∃ y : Int, Z + 13 = y := ⟨_, rfl⟩
    have HZb : Hid (0 ≤ Y ∧ Y ≤ 30000000) := hid ⟨by omega, by omega⟩
    rw [hY] at hsz HSs ⊢
    have hsy := HSs.out
    clear hz0 hz1 hY HSs
    have hdec := HDc.out
    go_upto_region 18 with (first
      | (have := HD5; clear this; go_at_call 11; (with_reducible refine (HO2.out _ _ _ HD5.out).mono ?_); rintro e w6 ⟨lb6, g6, c6, xa, xc, ya, yc, rfl, hy1, hx1, hcv, hg⟩; have HG6 := hid (gtrans HD5.out.gr hg); have HL6 := hid (HL5.out.keep hg); clear hg)
      | (have := HD4; clear this; go_at_call 15; (with_reducible refine (HAm.out _ _ _ _ HD4.out HL4.out).mono ?_); rintro e w5 ⟨P5, rfl, hd, hl⟩; have HD5 := hid hd; have HL5 := hid hl; clear hd hl)
      | (go_at_call 15; (with_reducible refine HAp.out.mono ?_); rintro e w4 ⟨P4, rfl, hd, hl⟩; have HD4 := hid hd; have HL4 := hid hl; clear hd hl)
      | (have := HL6; clear this; go_at_call 19; (with_reducible refine (lsize_any HL6.out.lg).mono ?_); rintro e w8 ⟨rfl, hw8⟩; have hw8' := hw8.symm; clear hw8; subst hw8')
      | (go_at_call 19; (with_reducible refine (lsize_any HL4.out.lg).mono ?_); rintro e w8 ⟨rfl, hw8⟩; have hw8' := hw8.symm; clear hw8; subst hw8')
      | (go_at_call 9; (with_reducible refine (num_any _ _).mono ?_); rintro e wn ⟨rfl, hwn⟩; have hwn' := hwn.symm; clear hwn; subst hwn'))
    clear hdec
    have hz0 := HZb.out.1
    have hz1 := HZb.out.2
    go_upto_region 20 with (first
      | (have := HD5; clear this; go_at_call 11; (with_reducible refine (HO2.out _ _ _ HD5.out).mono ?_); rintro e w6 ⟨lb6, g6, c6, xa, xc, ya, yc, rfl, hy1, hx1, hcv, hg⟩; have HG6 := hid (gtrans HD5.out.gr hg); have HL6 := hid (HL5.out.keep hg); clear hg)
      | (have := HD4; clear this; go_at_call 15; (with_reducible refine (HAm.out _ _ _ _ HD4.out HL4.out).mono ?_); rintro e w5 ⟨P5, rfl, hd, hl⟩; have HD5 := hid hd; have HL5 := hid hl; clear hd hl)
      | (go_at_call 15; (with_reducible refine HAp.out.mono ?_); rintro e w4 ⟨P4, rfl, hd, hl⟩; have HD4 := hid hd; have HL4 := hid hl; clear hd hl)
      | (have := HL6; clear this; go_at_call 19; (with_reducible refine (lsize_any HL6.out.lg).mono ?_); rintro e w8 ⟨rfl, hw8⟩; have hw8' := hw8.symm; clear hw8; subst hw8')
      | (go_at_call 19; (with_reducible refine (lsize_any HL4.out.lg).mono ?_); rintro e w8 ⟨rfl, hw8⟩; have hw8' := hw8.symm; clear hw8; subst hw8')
      | (go_at_call 9; (with_reducible refine (num_any _ _).mono ?_); rintro e wn ⟨rfl, hwn⟩; have hwn' := hwn.symm; clear hwn; subst hwn'))
    clear hz0 hz1
    have hdec := HDc.out
    go_wp2_with (first
      | (have := HD5; clear this; go_at_call 11; (with_reducible refine (HO2.out _ _ _ HD5.out).mono ?_); rintro e w6 ⟨lb6, g6, c6, xa, xc, ya, yc, rfl, hy1, hx1, hcv, hg⟩; have HG6 := hid (gtrans HD5.out.gr hg); have HL6 := hid (HL5.out.keep hg); clear hg)
      | (have := HD4; clear this; go_at_call 15; (with_reducible refine (HAm.out _ _ _ _ HD4.out HL4.out).mono ?_); rintro e w5 ⟨P5, rfl, hd, hl⟩; have HD5 := hid hd; have HL5 := hid hl; clear hd hl)
      | (go_at_call 15; (with_reducible refine HAp.out.mono ?_); rintro e w4 ⟨P4, rfl, hd, hl⟩; have HD4 := hid hd; have HL4 := hid hl; clear hd hl)
      | (have := HL6; clear this; go_at_call 19; (with_reducible refine (lsize_any HL6.out.lg).mono ?_); rintro e w8 ⟨rfl, hw8⟩; have hw8' := hw8.symm; clear hw8; subst hw8')
      | (go_at_call 19; (with_reducible refine (lsize_any HL4.out.lg).mono ?_); rintro e w8 ⟨rfl, hw8⟩; have hw8' := hw8.symm; clear hw8; subst hw8')
      | (go_at_call 9; (with_reducible refine (num_any _ _).mono ?_); rintro e wn ⟨rfl, hwn⟩; have hwn' := hwn.symm; clear hwn; subst hwn'))
    go_ret
    exact ⟨rfl, HG6.out⟩
  · as_aux_lemma =>
    have HnB : Hid (n ≤ 140737488355328) := hid (by omega)
    have HAL : Hid (Calls Tryd.prog 15 #[.pointer (some ⟨lb, 0, none⟩), .slice (some ⟨w2.heap.size, 0, none⟩) n n] wm fun e u' => e = .returned (.int .i64 100) ∧ u' = wm) := hid (lapp_long HLm.out.lg _ n n (by omega) HnB.out)
    have HWt : Hid (Calls Tryd.prog 24 #[.pointer (some ⟨b, 0, none⟩)] wm fun e w' => e = .returned (.int .i64 0) ∧ wm.grownBy w' none) := hid (writes_p HDm.out.dk)
    have HRf : Hid (∀ u v, w.grownBy u none → Calls Tryd.prog 25 #[v] u fun e w' => e = .returned (.bool true) ∧ u.grownBy w' none) := hid (fun u v hu => refuses_any u (HTb.out.keep hu) v)
    have q2 := app_more (l := more) (rs := []) (Live.new 33554432 ne_xy) rfl rfl (.inl rfl) good_x rfl (by rw [len_more]; omega) (by decide)
    obtain ⟨A2, HA2⟩ : ∃ y, Hid (L0.app ⟨#[120]⟩ (frameL more) = y) := ⟨_, hid rfl⟩
    have q3 : L0.appE ⟨#[120]⟩ (frameL more) = 0 ∧ A2.off = false ∧ A2.old ⟨#[120]⟩ = flat ([] ++ [more]) := by rw [← HA2.out]; exact ⟨q2.1, q2.2.2.1, q2.2.2.2.2.2.1⟩
    clear q2
    have HAm : Hid (∀ u b lb P, Sd w u b L0 P → LgP w u lb b ⟨#[120]⟩ 0 false P → Calls Tryd.prog 15 #[.pointer (some ⟨lb, 0, none⟩), .slice (some ⟨u.heap.size, 0, none⟩) 4 4] (u.alloc (.cells #[.int .u8 109, .int .u8 111, .int .u8 114, .int .u8 101] 5 (4, 5))) fun e u' => ∃ P', e = .returned (.int .i64 0) ∧ Sd w u' b A2 P' ∧ LgP w u' lb b ⟨#[120]⟩ 17 false P') := hid (fun u b lb P h hl => by
      have h := sd_app (h.keep (galloc _ _ _)) (hl.keep (galloc _ _ _)) HTb.out (by decide) (by omega) _ _ more (lit_rd u more (4, 5) #[.int .u8 109, .int .u8 111, .int .u8 114, .int .u8 101] rfl 4 rfl) (by decide)
      unfold lgZ at h
      rw [q3.1, HA2.out] at h
      exact h.mono fun e u' ⟨P', q1, q2, q3, _⟩ => ⟨P', q1, q2, q3⟩)
    have HO2 : Hid (∀ u b P, Sd w u b A2 P → Calls Tryd.prog 11 #[.pointer (some ⟨b, 0, none⟩), .string ⟨#[120]⟩] u fun e u' => ∃ lb g c xa xc, e = .returned (.tuple #[.pointer (some ⟨lb, 0, none⟩), .slice (some ⟨g, 0, none⟩) 1 c, .int .i64 0]) ∧ u'.cell? ⟨g, 0, none⟩ = some (.slice xa 4 xc) ∧ (convert 36 9 (.slice xa 4 xc)).run Tryd.prog u' = .ok (.string ⟨#[109, 111, 114, 101]⟩) u' ∧ u.grownBy u' none) := hid (fun u b P h => by
      refine (sd_whole (rs := [more]) h HTb.out (by decide) (fil_on q3.2.1 good_x (by rw [List.append_nil]; exact q3.2.2) (fun r hr => ?_) (by simp) tl_nil)).mono fun e u' ⟨lb, v, q1, q2, q3, q4, q5⟩ => ?_
      · rw [List.mem_singleton.1 hr]; decide
      · obtain ⟨a, g, c, rfl, hr⟩ := q2.row
        obtain ⟨rfl, _, _⟩ := hr.at_ (by simp)
        obtain ⟨x, x1, x2⟩ := hr.each 0 (by simp)
        have x2' : Rd u' _ x more := x2
        have x3 := x2'.convert
        obtain ⟨xa, xb, xo, xc, rfl, _⟩ := x2'
        exact ⟨lb, g, c, xa, xc, q1, x1, x3, q5⟩)
    obtain ⟨Z, hZ⟩ : ∃ y : Int, (n : Int) = y := ⟨_, rfl⟩
    have hz0 : 0 ≤ Z := by omega
    have hz1 : Z ≤ 20000000 := by omega
    have HDc : Hid (decide ((16777216 : Int) < Z) = true) := hid (decide_eq_true (by omega))
    rw [hZ] at hmk ⊢
    have HZ := hid hZ
    clear hn hle HM q3 hZ
    go_upto_region 10 with (first
      | (go_at_call 15; (with_reducible refine HAL.out.mono ?_); rintro e w4 ⟨rfl, hw4⟩; have hw4' := hw4.symm; clear hw4; subst hw4'))
    clear hz0 hz1 hmk
    obtain ⟨Y, hY⟩ : ∃ y : Int, Z + 13 = y := ⟨_, rfl⟩
    rw [hY]
    clear hY
    have hdec := HDc.out
    go_upto_region 16 with (first
      | (go_at_call 25; (with_reducible refine (HRf.out _ _ HGk.out).mono ?_); rintro e w7 ⟨rfl, hg⟩; have HG7 := hid (gtrans HGr.out hg); clear hg)
      | (go_at_call 24; (with_reducible refine HWt.out.mono ?_); rintro e w5 ⟨rfl, hg⟩; obtain ⟨wk, hmk2, HM2⟩ := make2 w5 n HnB.out; rw [HZ.out] at hmk2; have HGr := hid (gtrans hg HM2.out.2); have HGk := hid (gtrans HDm.out.gr (gtrans hg HM2.out.2)); clear hg HM2)
      | (go_at_call 19; (with_reducible refine (lsize_any HLm.out.lg).mono ?_); rintro e w8 ⟨rfl, hw8⟩; have hw8' := hw8.symm; clear hw8; subst hw8')
      | (go_at_call 9; (with_reducible refine (num_any _ _).mono ?_); rintro e wn ⟨rfl, hwn⟩; have hwn' := hwn.symm; clear hwn; subst hwn'))
    have HD4 := hid (HDm.out.keep HG7.out)
    have HL4 := hid (HLm.out.keep HG7.out)
    clear HWt HRf HAL
    go_wp2_with (first
      | (have := HD5; clear this; go_at_call 11; (with_reducible refine (HO2.out _ _ _ HD5.out).mono ?_); rintro e w6 ⟨lb6, g6, c6, xa, xc, rfl, hx1, hcv, hg⟩; have HG6 := hid (gtrans HD5.out.gr hg); have HL6 := hid (HL5.out.keep hg); clear hg)
      | (go_at_call 15; (with_reducible refine (HAm.out _ _ _ _ HD4.out HL4.out).mono ?_); rintro e w5' ⟨P5, rfl, hd, hl⟩; have HD5 := hid hd; have HL5 := hid hl; clear hd hl)
      | (go_at_call 19; (with_reducible refine (lsize_any HL6.out.lg).mono ?_); rintro e w8 ⟨rfl, hw8⟩; have hw8' := hw8.symm; clear hw8; subst hw8')
      | (go_at_call 9; (with_reducible refine (num_any _ _).mono ?_); rintro e wn ⟨rfl, hwn⟩; have hwn' := hwn.symm; clear hwn; subst hwn'))
    go_ret
    exact ⟨rfl, HG6.out⟩
end Go.Proofs.YtpbiofnncdneoaaDoor
