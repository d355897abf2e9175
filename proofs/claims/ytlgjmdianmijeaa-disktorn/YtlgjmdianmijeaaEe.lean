/- DiskTorn's walk. -/
import Derived.Test.YtlgjmdianmijeaaEc
import Derived.Test.YtlgjmdianmijeaaEd
namespace Go.Proofs.Ytlgjmdianmijeaa
open Go Go.RowKit Go.MapKept Go.MuLone
open Go.RowKit (wrap32 wrap64)

theorem map5 (f : Operand → Value) (x y z s t : Operand) (u v r p q : Value) (hx : f x = u) (hy : f y = v) (hz : f z = r) (hs : f s = p) (ht : f t = q) : #[x, y, z, s, t].map f = #[u, v, r, p, q] := by simp [hx, hy, hz, hs, ht]
theorem ld22 (b i n c : Nat) (a : Option Addr) (u : World) (h : u.cell? ⟨b, i, none⟩ = some (.slice a n c)) : (Instr.loadAt 22 (.pointer (some ⟨b, i, none⟩))).run Try.prog u = .ok (.slice a n c) u := by go_simp
theorem s2_doB {w u : World} {b c : Nat} {A B : Ab} {P Q : Nat → Prop} {o : Opv} (h : S2 w u b c A B P Q) (F : Nat → Prop) (hI : o.In w F) (hw : A.wr ≤ 4611686018427387904) :
    Calls Try.prog 15 #[.pointer (some ⟨b, 0, none⟩), .agg o.cells.toArray] u fun e u' => ∃ P', e = .returned (.tuple #[.int .i64 (A.doE o), .bool o.isDo]) ∧ S2 w u' b c (A.doA o) B P' Q ∧ (∀ a L, Fw u a L (Un P Q) → Fw u' a L (Un P' Q)) ∧ (∀ k cs t, Blk u k cs t → ¬ P k → Blk u' k cs t) :=
  (do_any h.x.dk h.x.lt o F (hI.keep h.x.gr) hI.bl hw).mono fun _ _ ⟨q1, q2, q3⟩ => ⟨_, q1, (h.step q2 (newP_lt h.x.lt q3.size).1 (newP_lt h.x.lt q3.size).2 q3).1, (h.step q2 (newP_lt h.x.lt q3.size).1 (newP_lt h.x.lt q3.size).2 q3).2, fun _ _ _ hb hk => hb.df q3 hk⟩
theorem Fw.swap {u : World} {a : Option Addr} {L : Cn} {P Q : Nat → Prop} (h : Fw u a L (Un P Q)) : Fw u a L (Un Q P) := h.less (fun _ hk => hk.symm)
theorem s2_writes {w u : World} {b c : Nat} {A B : Ab} {P Q : Nat → Prop} (h : S2 w u b c A B P Q) : Calls Try.prog 14 #[.pointer (some ⟨b, 0, none⟩)] u fun e u' => e = .returned (.int .i64 A.wr) ∧ u.grownBy u' none := writes_p h.x.dk
set_option maxRecDepth 100000 in
set_option maxHeartbeats 16000000 in
theorem torn_walk (w : World) (F : Nat → Prop) (a a2 : Option Addr) (g off n c0 g2 off2 n2 c2 : Nat) (rv nv kv : Int) (T T2 : Nat → Opv) (hA : ArO w F a g off n T) (hn : n ≤ 140737488355328) (hA2 : ArO w F a2 g2 off2 n2 T2) (hn2 : n2 ≤ 140737488355328) :
    Calls Try.prog 3 #[.agg [Value.int .i64 rv, .slice a n c0, .int .i64 nv, .int .i64 kv, .slice a2 n2 c2].toArray] w fun e w' => e = .returned (.bool true) ∧ w.grownBy w' none := by
  have HA : Hid (∀ u, w.grownBy u none → ArO u F a g off n T) := hid (fun u hu => hA.keep hu)
  have HA2 : Hid (∀ u, w.grownBy u none → ArO u F a2 g2 off2 n2 T2) := hid (fun u hu => hA2.keep hu)
  have HN2 : Hid (n2 ≤ 140737488355328) := hid hn2
  have HWi : Hid (∀ (x : Int) (u : World), Calls Try.prog 7 #[.int .i64 x, .int .i64 65536] u fun e w' => (∃ r : Nat, r < 65536 ∧ e = .returned (.int .i64 r)) ∧ w' = u) := hid (fun x u => within_any x 65536 (by decide) (by decide) u)
  have HWj : Hid (∀ (x : Int) (u : World), Calls Try.prog 7 #[.int .i64 x, .int .i64 60] u fun e w' => (∃ r : Nat, r < 60 ∧ e = .returned (.int .i64 r)) ∧ w' = u) := hid (fun x u => within_any x 60 (by decide) (by decide) u)
  have HNw : Hid (∀ (r : Nat) (w u : World), r < 65536 → w.grownBy u none → Calls Try.prog 8 #[.int .i64 (1 + (r : Int))] u fun e u' => ∃ b P, e = .returned (.tuple #[.pointer (some ⟨b, 0, none⟩), .int .i64 0]) ∧ Sd w u' b (Ab.new (1 + (r : Int))) P ∧ u.grownBy u' none ∧ (∀ k, P k → u.heap.size ≤ k)) := hid (fun r w u hr hg => sd_new w (1 + (r : Int)) (by omega) (by omega) u hg)
  have HNu : Hid (∀ (E : Int) (u : World), Calls Try.prog 9 #[.int .i64 E] u fun e w' => e = .returned (.int .i64 E) ∧ w' = u) := hid num_any
  have HWk := hid works_any
  clear hA hA2 hn2
  go_enter Try.func3, Try.ntmps3
  go_upto_region 2 with (first
    | ((with_reducible refine wpList_box_row (by with_unfolding_all rfl) 24 _ (by with_unfolding_all rfl) [Value.int .i64 rv, .slice a n c0, .int .i64 nv, .int .i64 kv, .slice a2 n2 c2] (by with_unfolding_all rfl) ?_); intro w1 B1 s1 g1; have HB1' := hid B1; have HG1 := hid g1; have c0' := B1.cell 0; clear B1 s1 g1)
    | (go_at_call 7; (with_reducible refine (HWi.out _ _).mono ?_); rintro e w5 ⟨⟨rr, hrr, rfl⟩, hw5⟩; have hw5' := hw5.symm; clear hw5; subst hw5'))
  obtain ⟨p1, hp1⟩ : ∃ x, w.heap.size = x := ⟨_, rfl⟩
  rw [hp1] at HB1' c0' ⊢
  have HB1 : Hid (Blk w1 p1 [Value.int .i64 rv, .slice a n c0, .int .i64 nv, .int .i64 kv, .slice a2 n2 c2] 24) := hid HB1'.out
  clear hp1 HB1' c0' HWi
  go_upto_region 3 with (go_at_call 8; (with_reducible refine (HNw.out rr w1 w1 hrr (grefl _ _)).mono ?_); rintro e v2 ⟨b, P0, rfl, hs, hg, hp⟩; have HD2 := hid hs; have HU2 := hid hg; clear hs hg hp)
  go_upto_region 4 with (go_at_call 8; (with_reducible refine (HNw.out rr w1 v2 hrr HU2.out).mono ?_); rintro e v3 ⟨c, Q0, rfl, hs, hg, hp⟩; have HD3 := hid hs; have HX3 := hid (HD2.out.keep hg); have HP3 := hid hp; clear hs hg hp)
  have HS3 : Hid (S2 w1 v3 b c (Ab.new (1 + (rr : Int))) (Ab.new (1 + (rr : Int))) P0 Q0) := hid ⟨HX3.out, HD3.out, fun k h1 h2 => by have := HD2.out.lt k h1; have := HP3.out k h2; omega⟩
  clear HD2 HU2 HD3 HX3 HP3 HNw
  go_upto_region 6 with (first
    | (go_at_call 9; (with_reducible refine (HNu.out _ _).mono ?_); rintro e w5 ⟨rfl, hw5⟩; have hw5' := hw5.symm; clear hw5; subst hw5')
    | (go_at_call 10; (with_reducible refine (HWk.out _).mono ?_); rintro e v4 ⟨rfl, hg⟩; have HS4 := hid (HS3.out.keep hg); clear hg))
  have k2 : v4.cell? ⟨p1, 2, none⟩ = some (.int .i64 nv) := (HB1.out.keep HS4.out.x.gr).cell 2
  have k3 : v4.cell? ⟨p1, 3, none⟩ = some (.int .i64 kv) := (HB1.out.keep HS4.out.x.gr).cell 3
  clear HS3 HWk
  go_upto_region 7 with (go_at_call 7; (with_reducible refine (HWj.out _ _).mono ?_); rintro e w5 ⟨⟨r2, hr2, rfl⟩, hw5⟩; have hw5' := hw5.symm; clear hw5; subst hw5')
  obtain ⟨nz, hnz⟩ : ∃ x : Int, 1 + (r2 : Int) = x := ⟨_, rfl⟩
  have hz1 : 1 ≤ nz ∧ nz ≤ 60 := by omega
  rw [hnz]
  clear hnz hr2 HWj
  have HAr : Hid (Calls Try.prog 11 #[.pointer (some ⟨c, 0, none⟩), .int .i64 nz, .int .i64 kv] v4 fun e u' => e = .returned (.tuple #[]) ∧ S2 w1 u' b c (Ab.new (1 + (rr : Int))) ((Ab.new (1 + (rr : Int))).arm nz kv) P0 Q0) := hid ((arm_p HS4.out.y.dk nz kv (by omega)).mono fun e u' ⟨q1, q2, q3⟩ => ⟨q1, (HS4.out.swap.step q2 (fun k hk => Nat.lt_of_lt_of_le (HS4.out.y.lt k hk) q3.size) (fun _ hk => .inl hk) q3).1.swap⟩)
  go_upto_region 8 with (go_at_call 11; (with_reducible refine HAr.out.mono ?_); rintro e v5 ⟨rfl, hs⟩; have HS5 := hid hs; clear hs)
  have HS0 : Hid (∃ A B P Q, S2 w1 v5 b c A B P Q ∧ Twin A B nz kv ∧ A.wr ≤ ((0 : Nat) : Int) ∧ A.room = 1 + (rr : Int)) := hid ⟨_, _, P0, Q0, HS5.out, ⟨⟨rfl, rfl⟩, by
    show Ab.mk (1 + (rr : Int)) false 0 (max nz 0) kv [] = Ab.mk (1 + (rr : Int)) false 0 (nz - 0) kv []
    rw [Int.max_eq_left (by omega), Int.sub_zero], by show (0 : Int) < nz; omega⟩, Int.le_refl _, rfl⟩
  clear HAr HS4 HS5 k2 k3
  go_upto_region 10 with fail
  go_loopw [10, 9] (fun iv sv wr => ∃ i z : Nat, iv = .int .i64 i ∧ sv = .int .i64 z ∧ i ≤ n ∧ i ≤ 400 ∧ z ≤ 262144 ∧ Hid (∃ A B P Q, S2 w1 wr b c A B P Q ∧ Twin A B nz kv ∧ A.wr ≤ (i : Int) ∧ A.room = 1 + (rr : Int))) (fun iv _ _ => n - (intOf iv).toNat)
  case atStart => exact ⟨0, 0, rfl, rfl, by omega, by omega, by omega, HS0⟩
  case round =>
    obtain ⟨i, z, rfl, rfl, hi, hi4, hz, HP⟩ := hrel
    obtain ⟨w0, hw0⟩ : ∃ x : World, x = wr := ⟨_, rfl⟩
    rw [← hw0] at HP ⊢
    clear hw0 HS0
    obtain ⟨A, HP1⟩ : ∃ A, Hid (∃ B P Q, S2 w1 w0 b c A B P Q ∧ Twin A B nz kv ∧ A.wr ≤ (i : Int) ∧ A.room = 1 + (rr : Int)) := ⟨HP.out.choose, hid HP.out.choose_spec⟩
    obtain ⟨B, HP2⟩ : ∃ B, Hid (∃ P Q, S2 w1 w0 b c A B P Q ∧ Twin A B nz kv ∧ A.wr ≤ (i : Int) ∧ A.room = 1 + (rr : Int)) := ⟨HP1.out.choose, hid HP1.out.choose_spec⟩
    obtain ⟨P, HP3⟩ : ∃ P, Hid (∃ Q, S2 w1 w0 b c A B P Q ∧ Twin A B nz kv ∧ A.wr ≤ (i : Int) ∧ A.room = 1 + (rr : Int)) := ⟨HP2.out.choose, hid HP2.out.choose_spec⟩
    obtain ⟨Q, HS⟩ : ∃ Q, Hid (S2 w1 w0 b c A B P Q ∧ Twin A B nz kv ∧ A.wr ≤ (i : Int) ∧ A.room = 1 + (rr : Int)) := ⟨HP3.out.choose, hid HP3.out.choose_spec⟩
    clear HP HP1 HP2 HP3
    have HG0 := hid HS.out.1.x.gr
    have k1 : w0.cell? ⟨p1, 1, none⟩ = some (.slice a n c0) := (HB1.out.keep HG0.out).cell 1
    by_cases hlt : i < n
    · have hlt' : (i : Int) < (n : Int) := by omega
      by_cases h4 : i < 400
      · as_aux_lemma =>
        have h4' : (i : Int) < 400 := by omega
        obtain ⟨rfl, hgl, -⟩ := (HA.out w0 (gtrans HG1.out HG0.out)).at_ (by omega)
        obtain ⟨o, Ho⟩ : ∃ o, Hid (T i = o) := ⟨_, hid rfl⟩
        have HE : Hid (w0.rangeAt g (off + i * 8) o.cells ∧ o.In w1 F) := hid (by
          have q1 := (HA.out w0 (gtrans HG1.out HG0.out)).each i hlt
          have q2 := (HA.out w1 HG1.out).each i hlt
          rw [Ho.out] at q1 q2
          exact ⟨q1.1, q2.2⟩)
        have HOL : Hid (o.cells.length = 8) := hid rfl
        clear Ho
        go_upto_region 13 with (first
          | (with_reducible refine wpList_load_part (by with_unfolding_all rfl) 36 _ (by with_unfolding_all rfl) g (off + i * 8) o.cells _ (by with_unfolding_all rfl) HE.out.1 Try.underlying36 (by with_unfolding_all rfl) (by with_unfolding_all exact Try.size36) ?_)
          | ((with_reducible refine wpList_store_all (by with_unfolding_all rfl) 36 _ _ (by with_unfolding_all rfl) _ [.int .i64 0, .int .i64 0, .string ⟨#[]⟩, .string ⟨#[]⟩, .slice none 0 0, .int .i64 0, .int .i64 0, .slice none 0 0] o.cells 36 (by with_unfolding_all rfl) (by with_unfolding_all rfl) HB2.out (by with_unfolding_all rfl) (by with_unfolding_all exact Try.size36) o.one ?_); intro w3 BB hg ss; have HB3' := hid BB; have HU3 := hid (HU2.out.andThen hg (fun j hj => .inl (by injection hj with hj; omega))); clear BB hg ss)
          | ((with_reducible refine wpList_alloc_row (by with_unfolding_all rfl) 36 (by with_unfolding_all rfl) [.int .i64 0, .int .i64 0, .string ⟨#[]⟩, .string ⟨#[]⟩, .slice none 0 0, .int .i64 0, .int .i64 0, .slice none 0 0] Try.zero36 ?_); intro w2 BB ss hg; have HB2 := hid BB; have HU2 := hid hg; clear BB ss hg))
        obtain ⟨p7, hp7⟩ : ∃ x, w0.heap.size = x := ⟨_, rfl⟩
        rw [hp7] at HB3' ⊢
        have HP7 : Hid (w0.heap.size = p7) := hid hp7
        clear hp7 HB2 HU2
        have HSz : Hid (Calls Try.prog 12 #[.agg o.cells.toArray] w3 fun e w' => (∃ z : Nat, e = .returned (.int .i64 z) ∧ o.bs.length ≤ z ∧ z ≤ 281474976710656) ∧ w3.grownBy w' none) := hid (opSize_any w3 o F (HE.out.2.keep (gtrans HG0.out HU3.out)))
        go_upto_region 14 with (first
          | (with_reducible refine wpList_load_part (by with_unfolding_all rfl) 36 _ (by with_unfolding_all rfl) p7 0 o.cells _ (by with_unfolding_all rfl) HB3'.out.whole Try.underlying36 (by with_unfolding_all rfl) (by with_unfolding_all exact Try.size36) ?_)
          | (go_at_call 12; (with_reducible refine HSz.out.mono ?_); rintro e u3 ⟨⟨zz, rfl, hzb, hzl⟩, hg⟩; have HZb := hid hzb; have HU4 := hid hg; clear hg hzb))
        obtain ⟨y, hy⟩ : ∃ y : Nat, z + zz = y := ⟨_, rfl⟩
        have hwr : (z : Int) + (zz : Int) = (y : Int) := by omega
        have HLb : Hid (o.bs.length ≤ y) := hid (by have := HZb.out; omega)
        have hyl : y ≤ 562949953421312 := by omega
        rw [hwr]
        clear hwr hy HZb hzl
        by_cases hbr : 262144 < y
        · have hbr' : (262144 : Int) < (y : Int) := by omega
          as_aux_lemma =>
          have HSe := hid (HS.out.1.keep (gtrans HU3.out HU4.out))
          have HTw := hid HS.out.2.1
          obtain ⟨Lz, HLz⟩ : ∃ x, Hid (srtC A.C = x) := ⟨_, hid rfl⟩
          have HBC : Hid (srtC B.C = Lz ∧ B.off = false) := hid (by rw [HTw.out.eq]; exact ⟨HLz.out, rfl⟩)
          have HBd : Hid (Lz.length ≤ 64 ∧ ∀ p ∈ Lz, p.2.length ≤ 268435456) := hid (by rw [← HLz.out]; exact sd_bnd HSe.out.x)
          obtain ⟨zn, HZn⟩ : ∃ x, Hid (Lz.length = x) := ⟨_, hid rfl⟩
          have HFa : Hid (∀ v, S2 w1 v b c A B P Q → Calls Try.prog 13 #[.pointer (some ⟨b, 0, none⟩)] v fun e v' => ∃ a c, e = .returned (.slice a zn c) ∧ Fw v' a Lz (Un P Q) ∧ v.grownBy v' none) := hid (fun v hS => by
            have q := s2_files hS
            rw [HLz.out, HZn.out] at q
            exact q)
          have HFb : Hid (∀ v, S2 w1 v b c A B P Q → Calls Try.prog 13 #[.pointer (some ⟨c, 0, none⟩)] v fun e v' => ∃ a c, e = .returned (.slice a zn c) ∧ Fw v' a Lz (Un Q P) ∧ v.grownBy v' none) := hid (fun v hS => by
            have q := s2_files hS.swap
            rw [HBC.out.1, HZn.out] at q
            exact q)
          have HOb : Hid (∀ v, S2 w1 v b c A B P Q → Calls Try.prog 16 #[.pointer (some ⟨c, 0, none⟩)] v fun e v' => e = .returned (.bool false) ∧ v.grownBy v' none) := hid (fun v hS => by
            have q := off_p hS.y.dk
            rw [HBC.out.2] at q
            exact q)
          have HQ : Hid (∀ v a a' c c' P P', Fw v a Lz P → Fw v a' Lz P' → Calls Try.prog 17 #[.slice a zn c, .slice a' zn c'] v fun e v' => e = .returned (.bool true) ∧ v.grownBy v' none) := hid (fun v a a' c c' P P' h1 h2 => by
            have q := fw_eq h1 h2 c c' (by have := HBd.out.1; omega) (fun p hp => by have := HBd.out.2 p hp; omega)
            rw [HZn.out] at q
            exact q)
          clear HLz HBC HBd HZn HTw HS
          go_wp2_with (first
            | (go_at_call 13; (with_reducible refine (HFa.out _ HSe.out).mono ?_); rintro e x4 ⟨a4, c4, rfl, hF, hg⟩; have HY4 := hid hF; have HS4 := hid (HSe.out.keep hg); clear hF hg)
            | (go_at_call 13; (with_reducible refine (HFb.out _ HS4.out).mono ?_); rintro e x5 ⟨a5, c5, rfl, hF, hg⟩; have HY5 := hid hF; have HY4' := hid (HY4.out.keep hg); have HS5 := hid (HS4.out.keep hg); clear hF hg)
            | (go_at_call 17; (with_reducible refine (HQ.out _ _ _ _ _ _ _ HY4'.out HY5.out).mono ?_); rintro e x6 ⟨rfl, hg⟩; have HS6 := hid (HS5.out.keep hg); clear hg)
            | (go_at_call 16; (with_reducible refine (HOb.out _ HS6.out).mono ?_); rintro e x7 ⟨rfl, hg⟩; have HS7 := hid (HS6.out.keep hg); clear hg))
          go_ret
          exact ⟨rfl, gtrans HG1.out HS7.out.x.gr⟩
        have hbr' : ¬ (262144 : Int) < (y : Int) := by omega
        have HS3 := hid (HS.out.1.keep (gtrans HU3.out HU4.out))
        have HB4 := hid (HB3'.out.keep HU4.out)
        have HFl1 := hid (s2_files HS3.out)
        obtain ⟨L, HL⟩ : ∃ x, Hid (srtC A.C = x) := ⟨_, hid rfl⟩
        rw [HL.out] at HFl1
        obtain ⟨sn, HSn⟩ : ∃ x, Hid (L.length = x) := ⟨_, hid rfl⟩
        rw [HSn.out] at HFl1
        obtain ⟨wv, HWv⟩ : ∃ x, Hid (A.wr = x) := ⟨_, hid rfl⟩
        have HWr1 : Hid (∀ v, S2 w1 v b c A B P Q → Calls Try.prog 14 #[.pointer (some ⟨b, 0, none⟩)] v fun e v' => e = .returned (.int .i64 wv) ∧ v.grownBy v' none) := hid (fun v hS => by have q := s2_writes hS; rw [HWv.out] at q; exact q)
        go_upto_region 17 with (first
          | (go_at_call 13; (with_reducible refine HFl1.out.mono ?_); rintro e u4 ⟨sa, sc, rfl, hF, hg⟩; have HWs := hid hF; have HU5 := hid hg; have HS5 := hid (HS3.out.keep hg); clear hF hg)
          | (go_at_call 14; (with_reducible refine (HWr1.out _ HS5.out).mono ?_); rintro e u5 ⟨rfl, hg⟩; have HWs5 := hid (HWs.out.keep hg); have HU6 := hid hg; have HS6 := hid (HS5.out.keep hg); clear hg))
        have HB6 := hid ((HB4.out.keep HU5.out).keep HU6.out)
        have HDo := hid (s2_doB HS6.out F HE.out.2 (by have := HS.out.2.2.1; omega))
        obtain ⟨E, HEE⟩ : ∃ x, Hid (A.doE o = x) := ⟨_, hid rfl⟩
        obtain ⟨A', HA'⟩ : ∃ x, Hid (A.doA o = x) := ⟨_, hid rfl⟩
        obtain ⟨D, HD⟩ : ∃ x, Hid (o.isDo = x) := ⟨_, hid rfl⟩
        rw [HEE.out, HA'.out, HD.out] at HDo
        have HRn : Hid (∀ k, Un P Q k → k < w0.heap.size) := hid HS.out.1.lt
        have HNp : Hid (¬ P p7 ∧ ¬ Q p7) := hid ⟨fun q => by have := HRn.out p7 (.inl q); have := HP7.out; omega, fun q => by have := HRn.out p7 (.inr q); have := HP7.out; omega⟩
        go_upto_region 18 with (first
          | (with_reducible refine wpList_load_part (by with_unfolding_all rfl) 36 _ (by with_unfolding_all rfl) p7 0 o.cells _ (by with_unfolding_all rfl) HB6.out.whole Try.underlying36 (by with_unfolding_all rfl) (by with_unfolding_all exact Try.size36) ?_)
          | (go_at_call 15; (with_reducible refine HDo.out.mono ?_); rintro e x1 ⟨P1, rfl, hs, hf, hb⟩; have HX1 := hid hs; have HW1 := hid (hf _ _ HWs5.out); have HB7 := hid (hb p7 o.cells 36 HB6.out HNp.out.1); clear hs hf hb))
        clear HDo HB6 HWs5 HS6 HS5 HS3 HWr1 HFl1 HWs HB4 HSz HB3' HRn
        cases D with
        | false =>
          as_aux_lemma =>
          have HRel : Hid (Hid (∃ A B P Q, S2 w1 x1 b c A B P Q ∧ Twin A B nz kv ∧ A.wr ≤ ((i + 1 : Nat) : Int) ∧ A.room = 1 + (rr : Int))) := hid (hid ⟨A, B, P1, Q, by have q := HX1.out; rw [← HA'.out, (do_not HD.out).2] at q; exact q, HS.out.2.1, by have := HS.out.2.2.1; omega, HS.out.2.2.2⟩)
          go_wp2_with fail
          go_roundw
          case rel => exact ⟨i + 1, y, by go_num, rfl, by omega, by omega, by omega, HRel.out⟩
          case measure => simp [intOf]; omega
        | true =>
        have HDo2 := hid (s2_doB HX1.out.swap F HE.out.2 (by have q := HS.out.2.1.eq; have := HS.out.2.2.1; have e : B.wr = A.wr := (by rw [q]); omega))
        have HTw := hid (twin_step HS.out.2.1 HD.out)
        obtain ⟨E2, HE2⟩ : ∃ x, Hid (B.doE o = x) := ⟨_, hid rfl⟩
        obtain ⟨B', HB'⟩ : ∃ x, Hid (B.doA o = x) := ⟨_, hid rfl⟩
        rw [HE2.out, HB'.out, HD.out] at HDo2
        rw [HE2.out, HB'.out, HEE.out, HA'.out] at HTw
        go_upto_region 20 with (first
          | (with_reducible refine wpList_load_part (by with_unfolding_all rfl) 36 _ (by with_unfolding_all rfl) p7 0 o.cells _ (by with_unfolding_all rfl) HB7.out.whole Try.underlying36 (by with_unfolding_all rfl) (by with_unfolding_all exact Try.size36) ?_)
          | (go_at_call 15; (with_reducible refine HDo2.out.mono ?_); rintro e x2 ⟨Q3, rfl, hs, hf, hb⟩; have HS3 := hid hs.swap; have HW3 := hid (hf _ _ HW1.out.swap).swap; have HB8 := hid (hb p7 o.cells 36 HB7.out HNp.out.2); clear hs hf hb))
        obtain ⟨P3, hP3⟩ : ∃ x, P1 = x := ⟨_, rfl⟩
        rw [hP3] at HS3 HW3
        clear hP3 HDo2 HX1 HW1 HB7 HNp
        have HRm : Hid (A'.room = 1 + (rr : Int)) := hid (by rw [← HA'.out, (HS.out.2.1.calm.doA (o := o)).2.2.2]; exact HS.out.2.2.2)
        have HAw : Hid (0 ≤ A.wr) := hid HS.out.1.x.dk.1.wr
        obtain ⟨M, HM⟩ : ∃ x, Hid (srtC A'.C = x) := ⟨_, hid rfl⟩
        obtain ⟨tn, HTn⟩ : ∃ x, Hid (M.length = x) := ⟨_, hid rfl⟩
        obtain ⟨aw, HAW⟩ : ∃ x, Hid (A'.wr = x) := ⟨_, hid rfl⟩
        obtain ⟨bw, HBW⟩ : ∃ x, Hid (B'.wr = x) := ⟨_, hid rfl⟩
        have HWa : Hid (∀ v, S2 w1 v b c A' B' P3 Q3 → Calls Try.prog 14 #[.pointer (some ⟨b, 0, none⟩)] v fun e v' => e = .returned (.int .i64 aw) ∧ v.grownBy v' none) := hid (fun v hS => by have q := s2_writes hS; rw [HAW.out] at q; exact q)
        have HWb : Hid (∀ v, S2 w1 v b c A' B' P3 Q3 → Calls Try.prog 14 #[.pointer (some ⟨c, 0, none⟩)] v fun e v' => e = .returned (.int .i64 bw) ∧ v.grownBy v' none) := hid (fun v hS => by have q := s2_writes hS.swap; rw [HBW.out] at q; exact q)
        have HFa : Hid (∀ v, S2 w1 v b c A' B' P3 Q3 → Calls Try.prog 13 #[.pointer (some ⟨b, 0, none⟩)] v fun e v' => ∃ a c, e = .returned (.slice a tn c) ∧ Fw v' a M (Un P3 Q3) ∧ v.grownBy v' none) := hid (fun v hS => by
          have q := s2_files hS
          rw [HM.out, HTn.out] at q
          exact q)
        have HBd : Hid (M.length ≤ 64 ∧ ∀ p ∈ M, p.2.length ≤ 268435456) := hid (by rw [← HM.out]; exact sd_bnd HS3.out.x)
        have HQ : Hid (∀ v a a' c c' P P', Fw v a M P → Fw v a' M P' → Calls Try.prog 17 #[.slice a tn c, .slice a' tn c'] v fun e v' => e = .returned (.bool true) ∧ v.grownBy v' none) := hid (fun v a a' c c' P P' h1 h2 => by
          have q := fw_eq h1 h2 c c' (by have := HBd.out.1; omega) (fun p hp => by have := HBd.out.2 p hp; omega)
          rw [HTn.out] at q
          exact q)
        have hwv : wv ≤ 400 ∧ 0 ≤ wv := by have := HS.out.2.2.1; have := HWv.out; have := HAw.out; omega
        rcases HTw.out with ⟨t1, t2, t3, t4⟩ | ⟨t1, t2, t3, t4⟩ | ⟨t1, t2, t3, t4, t5, t6⟩
        · as_aux_lemma =>
          have HTT : Hid (Twin A' B' nz kv ∧ M = L ∧ A'.wr ≤ ((i + 1 : Nat) : Int) ∧ srtC B'.C = M ∧ B'.off = false) := hid (by
            refine ⟨by rw [t3, t4]; exact HS.out.2.1, by rw [← HM.out, ← HL.out, t3], by rw [t3]; have := HS.out.2.2.1; omega, ?_, ?_⟩
            · rw [← HM.out, t3, t4, HS.out.2.1.eq]
            · rw [t4, HS.out.2.1.eq])
          have hML : M = L := HTT.out.2.1
          have hst : tn = sn := by rw [← HTn.out, ← HSn.out, hML]
          have haw : aw = wv := by rw [← HAW.out, t3]; exact HWv.out
          have hbw : bw = wv := by rw [← HBW.out, t4, HS.out.2.1.eq]; exact HWv.out
          have hlt2 : wv < nz := by have := HS.out.2.1.lt; have := HWv.out; omega
          have hne : ¬ (wv = wv + 1) := by omega
          have HFb : Hid (∀ v, S2 w1 v b c A' B' P3 Q3 → Calls Try.prog 13 #[.pointer (some ⟨c, 0, none⟩)] v fun e v' => ∃ a c, e = .returned (.slice a tn c) ∧ Fw v' a M (Un Q3 P3) ∧ v.grownBy v' none) := hid (fun v hS => by
            have q := s2_files hS.swap
            rw [HTT.out.2.2.2.1, HTn.out] at q
            exact q)
          have HOb : Hid (∀ v, S2 w1 v b c A' B' P3 Q3 → Calls Try.prog 16 #[.pointer (some ⟨c, 0, none⟩)] v fun e v' => e = .returned (.bool false) ∧ v.grownBy v' none) := hid (fun v hS => by
            have q := off_p hS.y.dk
            rw [HTT.out.2.2.2.2] at q
            exact q)
          have HWs : Hid (Fw x2 sa M (Un P3 Q3)) := hid (by rw [hML]; exact HW3.out)
          subst haw
          subst hbw
          have hE2 : E2 = E := t2
          subst hE2
          subst hst
          have hE0 : ¬ (E2 = 0) := t1
          have hb1 : (E2 == (0 : Int)) = false := beq_eq_false_iff_ne.2 t1
          have hb2 : (bw == bw + 1) = false := beq_eq_false_iff_ne.2 hne
          clear t1
          clear HW3 HEE HE2 HTw t2 t3 t4 HS HM HTn HSn HL HAW HBW HBd HWv HB8 HE HAw hML
          go_upto_region 23 with (first
            | (go_at_call 14; (with_reducible refine (HWa.out _ HS3.out).mono ?_); rintro e y1 ⟨rfl, hg⟩; have HS3' := hid (HS3.out.keep hg); clear HS3; have HS3 := HS3'; clear HS3'; (try (have HWs' := hid (HWs.out.keep hg); clear HWs; have HWs := HWs'; clear HWs')); (try (have HRb' := hid (HRb.out.keep hg); clear HRb; have HRb := HRb'; clear HRb')); clear hg)
            | (go_at_call 14; (with_reducible refine (HWb.out _ HS3.out).mono ?_); rintro e y1 ⟨rfl, hg⟩; have HS3' := hid (HS3.out.keep hg); clear HS3; have HS3 := HS3'; clear HS3'; (try (have HWs' := hid (HWs.out.keep hg); clear HWs; have HWs := HWs'; clear HWs')); (try (have HRb' := hid (HRb.out.keep hg); clear HRb; have HRb := HRb'; clear HRb')); clear hg)
            | (go_at_call 9; (with_reducible refine (HNu.out _ _).mono ?_); rintro e w5 ⟨rfl, hw5⟩; have hw5' := hw5.symm; clear hw5; subst hw5'))
          go_wp2_with (first
            | (go_at_call 16; (with_reducible refine (HOb.out _ HS3.out).mono ?_); rintro e y1 ⟨rfl, hg⟩; have HS3' := hid (HS3.out.keep hg); clear HS3; have HS3 := HS3'; clear HS3'; (try (have HWs' := hid (HWs.out.keep hg); clear HWs; have HWs := HWs'; clear HWs')); (try (have HRb' := hid (HRb.out.keep hg); clear HRb; have HRb := HRb'; clear HRb')); clear hg)
            | (go_at_call 13; (with_reducible refine (HFa.out _ HS3.out).mono ?_); rintro e y1 ⟨ta, tc, rfl, hF, hg⟩; have HS3' := hid (HS3.out.keep hg); clear HS3; have HS3 := HS3'; clear HS3'; (try (have HWs' := hid (HWs.out.keep hg); clear HWs; have HWs := HWs'; clear HWs')); (try (have HRb' := hid (HRb.out.keep hg); clear HRb; have HRb := HRb'; clear HRb')); clear hg; have HRb := hid hF; clear hF)
            | (go_at_call 13; (with_reducible refine (HFb.out _ HS3.out).mono ?_); rintro e y1 ⟨ra, rc, rfl, hF, hg⟩; have HS3' := hid (HS3.out.keep hg); clear HS3; have HS3 := HS3'; clear HS3'; (try (have HWs' := hid (HWs.out.keep hg); clear HWs; have HWs := HWs'; clear HWs')); (try (have HRb' := hid (HRb.out.keep hg); clear HRb; have HRb := HRb'; clear HRb')); clear hg; have HRc := hid hF; clear hF)
            | (go_at_call 17; (with_reducible refine (HQ.out _ _ _ _ _ _ _ HRb.out HRc.out).mono ?_); rintro e y1 ⟨rfl, hg⟩; have HS3' := hid (HS3.out.keep hg); clear HS3; have HS3 := HS3'; clear HS3'; (try (have HWs' := hid (HWs.out.keep hg); clear HWs; have HWs := HWs'; clear HWs')); (try (have HRb' := hid (HRb.out.keep hg); clear HRb; have HRb := HRb'; clear HRb')); clear hg; clear HRb HRc)
            | (go_at_call 17; (with_reducible refine (HQ.out _ _ _ _ _ _ _ HRb.out HWs.out).mono ?_); rintro e y1 ⟨rfl, hg⟩; have HS3' := hid (HS3.out.keep hg); clear HS3; have HS3 := HS3'; clear HS3'; (try (have HWs' := hid (HWs.out.keep hg); clear HWs; have HWs := HWs'; clear HWs')); (try (have HRb' := hid (HRb.out.keep hg); clear HRb; have HRb := HRb'; clear HRb')); clear hg)
            | (go_at_call 9; (with_reducible refine (HNu.out _ _).mono ?_); rintro e w5 ⟨rfl, hw5⟩; have hw5' := hw5.symm; clear hw5; subst hw5'))
          go_roundw
          case rel => exact ⟨i + 1, y, by go_num, rfl, by omega, by omega, by omega, hid ⟨A', B', P3, Q3, HS3.out, HTT.out.1, HTT.out.2.2.1, HRm.out⟩⟩
          case measure => simp [intOf]; omega
        · as_aux_lemma =>
          have HTT : Hid (Twin A' B' nz kv ∧ A'.wr ≤ ((i + 1 : Nat) : Int) ∧ srtC B'.C = M ∧ B'.off = false) := hid (by
            refine ⟨t4, by rw [t3]; have := HS.out.2.2.1; omega, ?_, ?_⟩
            · rw [← HM.out, t4.eq]
            · rw [t4.eq])
          have haw : aw = wv + 1 := by rw [← HAW.out, t3, HWv.out]
          have hbw : bw = wv + 1 := by rw [← HBW.out, t4.eq, ← haw, ← HAW.out]
          have hlt2 : wv + 1 < nz := by have := t4.lt; have := HAW.out; omega
          have HFb : Hid (∀ v, S2 w1 v b c A' B' P3 Q3 → Calls Try.prog 13 #[.pointer (some ⟨c, 0, none⟩)] v fun e v' => ∃ a c, e = .returned (.slice a tn c) ∧ Fw v' a M (Un Q3 P3) ∧ v.grownBy v' none) := hid (fun v hS => by
            have q := s2_files hS.swap
            rw [HTT.out.2.2.1, HTn.out] at q
            exact q)
          have HOb : Hid (∀ v, S2 w1 v b c A' B' P3 Q3 → Calls Try.prog 16 #[.pointer (some ⟨c, 0, none⟩)] v fun e v' => e = .returned (.bool false) ∧ v.grownBy v' none) := hid (fun v hS => by
            have q := off_p hS.y.dk
            rw [HTT.out.2.2.2] at q
            exact q)
          have HWs : Hid (Fw x2 sa L (Un P3 Q3)) := hid HW3.out
          subst haw
          subst hbw
          subst t1
          subst t2
          clear HW3 HEE HE2 HTw t3 t4 HS HM HTn HSn HL HAW HBW HBd HWv HB8 HE HAw
          go_upto_region 23 with (first
            | (go_at_call 14; (with_reducible refine (HWa.out _ HS3.out).mono ?_); rintro e y1 ⟨rfl, hg⟩; have HS3' := hid (HS3.out.keep hg); clear HS3; have HS3 := HS3'; clear HS3'; (try (have HWs' := hid (HWs.out.keep hg); clear HWs; have HWs := HWs'; clear HWs')); (try (have HRb' := hid (HRb.out.keep hg); clear HRb; have HRb := HRb'; clear HRb')); clear hg)
            | (go_at_call 14; (with_reducible refine (HWb.out _ HS3.out).mono ?_); rintro e y1 ⟨rfl, hg⟩; have HS3' := hid (HS3.out.keep hg); clear HS3; have HS3 := HS3'; clear HS3'; (try (have HWs' := hid (HWs.out.keep hg); clear HWs; have HWs := HWs'; clear HWs')); (try (have HRb' := hid (HRb.out.keep hg); clear HRb; have HRb := HRb'; clear HRb')); clear hg)
            | (go_at_call 9; (with_reducible refine (HNu.out _ _).mono ?_); rintro e w5 ⟨rfl, hw5⟩; have hw5' := hw5.symm; clear hw5; subst hw5'))
          go_wp2_with (first
            | (go_at_call 16; (with_reducible refine (HOb.out _ HS3.out).mono ?_); rintro e y1 ⟨rfl, hg⟩; have HS3' := hid (HS3.out.keep hg); clear HS3; have HS3 := HS3'; clear HS3'; (try (have HWs' := hid (HWs.out.keep hg); clear HWs; have HWs := HWs'; clear HWs')); (try (have HRb' := hid (HRb.out.keep hg); clear HRb; have HRb := HRb'; clear HRb')); clear hg)
            | (go_at_call 13; (with_reducible refine (HFa.out _ HS3.out).mono ?_); rintro e y1 ⟨ta, tc, rfl, hF, hg⟩; have HS3' := hid (HS3.out.keep hg); clear HS3; have HS3 := HS3'; clear HS3'; (try (have HWs' := hid (HWs.out.keep hg); clear HWs; have HWs := HWs'; clear HWs')); (try (have HRb' := hid (HRb.out.keep hg); clear HRb; have HRb := HRb'; clear HRb')); clear hg; have HRb := hid hF; clear hF)
            | (go_at_call 13; (with_reducible refine (HFb.out _ HS3.out).mono ?_); rintro e y1 ⟨ra, rc, rfl, hF, hg⟩; have HS3' := hid (HS3.out.keep hg); clear HS3; have HS3 := HS3'; clear HS3'; (try (have HWs' := hid (HWs.out.keep hg); clear HWs; have HWs := HWs'; clear HWs')); (try (have HRb' := hid (HRb.out.keep hg); clear HRb; have HRb := HRb'; clear HRb')); clear hg; have HRc := hid hF; clear hF)
            | (go_at_call 17; (with_reducible refine (HQ.out _ _ _ _ _ _ _ HRb.out HRc.out).mono ?_); rintro e y1 ⟨rfl, hg⟩; have HS3' := hid (HS3.out.keep hg); clear HS3; have HS3 := HS3'; clear HS3'; (try (have HWs' := hid (HWs.out.keep hg); clear HWs; have HWs := HWs'; clear HWs')); (try (have HRb' := hid (HRb.out.keep hg); clear HRb; have HRb := HRb'; clear HRb')); clear hg; clear HRb HRc)
            | (go_at_call 17; (with_reducible refine (HQ.out _ _ _ _ _ _ _ HRb.out HWs.out).mono ?_); rintro e y1 ⟨rfl, hg⟩; have HS3' := hid (HS3.out.keep hg); clear HS3; have HS3 := HS3'; clear HS3'; (try (have HWs' := hid (HWs.out.keep hg); clear HWs; have HWs := HWs'; clear HWs')); (try (have HRb' := hid (HRb.out.keep hg); clear HRb; have HRb := HRb'; clear HRb')); clear hg)
            | (go_at_call 9; (with_reducible refine (HNu.out _ _).mono ?_); rintro e w5 ⟨rfl, hw5⟩; have hw5' := hw5.symm; clear hw5; subst hw5'))
          go_roundw
          case rel => exact ⟨i + 1, y, by go_num, rfl, by omega, by omega, by omega, hid ⟨A', B', P3, Q3, HS3.out, HTT.out.1, HTT.out.2.1, HRm.out⟩⟩
          case measure => simp [intOf]; omega
        · as_aux_lemma =>
          have haw : aw = wv + 1 := by rw [← HAW.out, t3, HWv.out]
          have hbw : bw = wv + 1 := by rw [← HBW.out, t5, ← HWv.out]
          have hlt2 : ¬ (wv + 1 < nz) := by have := HWv.out; omega
          have HNdA := hid HS.out.1.x.dk.nd
          have HKt : Hid (L.length ≤ 64 ∧ (∀ p ∈ L, p.2.length ≤ 268435456)) := hid (by rw [← HL.out]; exact sd_bnd HS.out.1.x)
          obtain ⟨R, HR⟩ : ∃ x, Hid (srtC B'.C = x) := ⟨_, hid rfl⟩
          obtain ⟨rn, HRn⟩ : ∃ x, Hid (R.length = x) := ⟨_, hid rfl⟩
          have HRd : Hid (R.length ≤ 64 ∧ (∀ p ∈ R, p.2.length ≤ 268435456)) := hid (by rw [← HR.out]; exact sd_bnd HS3.out.y)
          have HBC : Hid (B'.C = doC A.C kv o ∧ A'.C = doC A.C 9223372036854775807 o) := hid ⟨by rw [t5], t6⟩
          have HOl : Hid (((getC L o.nm).getD []).length ≤ 17592186044416) := hid (by
            have h1 := get_used L o.nm
            have h2 : usedC L = usedC A.C := by rw [← HL.out, used_srt HNdA.out]
            have h3 := HS.out.1.x.dk.1.used
            have h4 := HS.out.1.x.dk.1.room.2
            omega)
          have HKe0 : Hid (∀ u ta tc ra rc, Fw u sa L (Un P3 Q3) → o.In u F → Fw u ta M (Un P3 Q3) → Fw u ra R (Un Q3 P3) → Calls Try.prog 18 #[.slice sa sn sc, .slice ta tn tc, .slice ra rn rc, .agg o.cells.toArray, .int .i64 kv] u fun e w' => ∃ v, e = .returned v ∧ u.grownBy w' none ∧ v = Value.bool true) := hid (fun u ta tc ra rc h0 hI h1 h2 => by
            rw [← HSn.out, ← HTn.out, ← HRn.out]
            by_cases hdv : o.dv = 1
            · have q := torn_app (o := o) HNdA.out kv hdv
              rw [← HBC.out.1, HR.out, HL.out] at q
              exact (kept_app u o kv sc tc rc M.length F hI h0 h2 hdv (by have := HKt.out.1; omega) (by have := HRd.out.1; omega) (by have := HLb.out; omega) HOl.out q.1 q.2.1 q.2.2.1 q.2.2.2).mono fun e w' ⟨q1, q2⟩ => ⟨_, q1, q2, rfl⟩
            · have q := torn_else (C := A.C) (o := o) kv hdv
              refine (kept_else u o kv sc tc rc h0 h1 h2 hdv ?_ (by have := HRd.out.1; omega) (fun p hp => by have := HRd.out.2 p hp; omega)).mono fun e w' ⟨q1, q2⟩ => ⟨_, q1, q2, rfl⟩
              rw [← HR.out, HBC.out.1, q, ← HM.out, ← HL.out, HBC.out.2]
              split <;> rfl)
          have HGoes : Hid (∀ u, Sd w1 u c B' Q3 → Calls Try.prog 19 #[.pointer (some ⟨c, 0, none⟩), .int .i64 (1 + (rr : Int)), .slice a2 n2 c2] u fun e u' => e = .returned (.bool true) ∧ w1.grownBy u' none) := hid (fun u hS => by
            have q := goes_any w1 u c B' Q3 hS (by rw [t5]) (by rw [t5]) (by have := HBW.out; omega) F a2 g2 off2 n2 c2 T2 (HA2.out w1 HG1.out) HN2.out
            have e : B'.room = 1 + (rr : Int) := by rw [t5]; exact HS.out.2.2.2
            rw [e] at q
            exact q)
          have HOb0 : Hid (∀ v, S2 w1 v b c A' B' P3 Q3 → Calls Try.prog 16 #[.pointer (some ⟨c, 0, none⟩)] v fun e v' => ∃ x, e = .returned x ∧ v.grownBy v' none ∧ x = Value.bool true) := hid (fun v hS => by
            have q := off_p hS.y.dk
            have e : B'.off = true := by rw [t5]
            rw [e] at q
            exact q.mono fun e w' ⟨q1, q2⟩ => ⟨_, q1, q2, rfl⟩)
          have HFb0 : Hid (∀ v, S2 w1 v b c A' B' P3 Q3 → Calls Try.prog 13 #[.pointer (some ⟨c, 0, none⟩)] v fun e v' => ∃ x, e = .returned x ∧ v.grownBy v' none ∧ ∃ ra rc, x = Value.slice ra rn rc ∧ Fw v' ra R (Un Q3 P3)) := hid (fun v hS => by
            have q := s2_files hS.swap
            rw [HR.out, HRn.out] at q
            exact q.mono fun e w' ⟨ra, rc, q1, q2, q3⟩ => ⟨_, q1, q3, ra, rc, rfl, q2⟩)
          have HFa0 : Hid (∀ v, S2 w1 v b c A' B' P3 Q3 → Calls Try.prog 13 #[.pointer (some ⟨b, 0, none⟩)] v fun e v' => ∃ x, e = .returned x ∧ v.grownBy v' none ∧ ∃ ta tc, x = Value.slice ta tn tc ∧ Fw v' ta M (Un P3 Q3)) := hid (fun v hS => (HFa.out v hS).mono fun e w' ⟨ta, tc, q1, q2, q3⟩ => ⟨_, q1, q3, ta, tc, rfl, q2⟩)
          have HIu : Hid (∀ u, w1.grownBy u none → o.In u F) := hid (fun u hu => HE.out.2.keep hu)
          have HBk : Hid (∀ u, x2.grownBy u none → Blk u p7 o.cells 36) := hid (fun u hu => HB8.out.keep hu)
          have HB1k : Hid (∀ u, w1.grownBy u none → u.cell? ⟨p1, 3, none⟩ = some (.int .i64 kv) ∧ u.cell? ⟨p1, 4, none⟩ = some (.slice a2 n2 c2)) := hid (fun u hu => ⟨(HB1.out.keep hu).cell 3, (HB1.out.keep hu).cell 4⟩)
          have HWs : Hid (Fw x2 sa L (Un P3 Q3)) := hid HW3.out
          have HX2 : Hid (x2.grownBy x2 none) := hid (grefl _ _)
          subst haw
          subst hbw
          subst t1
          subst t2
          clear HW3 HEE HE2 HTw t3 t4 t5 t6 HS HM HTn HSn HL HAW HBW HBd HWv HB8 HE HAw HNdA HKt HRd HBC HOl HR HRn HQ HFa
          go_upto_region 25 with (first
            | (go_at_call 14; (with_reducible refine (HWa.out _ HS3.out).mono ?_); rintro e y1 ⟨rfl, hg⟩; have hg2 := hg; have HS3' := hid (HS3.out.keep hg); clear HS3; have HS3 := HS3'; clear HS3'; (try (have HWs' := hid (HWs.out.keep hg); clear HWs; have HWs := HWs'; clear HWs')); (try (have HRb' := hid (HRb.out.keep hg); clear HRb; have HRb := HRb'; clear HRb')); clear hg; have HX2' := hid (gtrans HX2.out hg2); clear HX2; have HX2 := HX2'; clear HX2' hg2)
            | (go_at_call 14; (with_reducible refine (HWb.out _ HS3.out).mono ?_); rintro e y1 ⟨rfl, hg⟩; have hg2 := hg; have HS3' := hid (HS3.out.keep hg); clear HS3; have HS3 := HS3'; clear HS3'; (try (have HWs' := hid (HWs.out.keep hg); clear HWs; have HWs := HWs'; clear HWs')); (try (have HRb' := hid (HRb.out.keep hg); clear HRb; have HRb := HRb'; clear HRb')); clear hg; have HX2' := hid (gtrans HX2.out hg2); clear HX2; have HX2 := HX2'; clear HX2' hg2)
            | (go_at_call 9; (with_reducible refine (HNu.out _ _).mono ?_); rintro e w5 ⟨rfl, hw5⟩; have hw5' := hw5.symm; clear hw5; subst hw5'))
          obtain ⟨x3, hx3⟩ : ∃ x : World, x = y1 := ⟨_, rfl⟩
          rw [← hx3] at HS3 HWs HX2 ⊢
          clear hx3
          have HNu9 : Hid (∀ u, Calls Try.prog 9 #[.int .i64 94] u fun e w' => ∃ v, e = .returned v ∧ u.grownBy w' none ∧ v = Value.int .i64 94) := hid (fun u => (HNu.out 94 u).mono fun e w' ⟨q1, q2⟩ => ⟨_, q1, by rw [q2]; exact grefl _ _, rfl⟩)
          have HZ94 : Hid (∀ (x y : Operand) (u : World), (do eqGuard .eql 3 x y (.int .i64 94) (.int .i64 94); binOp .eql 3 (.int .i64 94) (.int .i64 94) : Sem Value).run Try.prog u = .ok (.bool true) u) := hid (fun x y u => by go_simp)
          have HOb : Hid (∀ u, x3.grownBy u none → Calls Try.prog 16 #[.pointer (some ⟨c, 0, none⟩)] u fun e v' => ∃ x, e = .returned x ∧ u.grownBy v' none ∧ x = Value.bool true) := hid (fun u hu => HOb0.out u (HS3.out.keep hu))
          have HFa : Hid (∀ u, x3.grownBy u none → Calls Try.prog 13 #[.pointer (some ⟨b, 0, none⟩)] u fun e v' => ∃ x, e = .returned x ∧ u.grownBy v' none ∧ ∃ ta tc, x = Value.slice ta tn tc ∧ Fw v' ta M (Un P3 Q3)) := hid (fun u hu => HFa0.out u (HS3.out.keep hu))
          have HFb : Hid (∀ u, x3.grownBy u none → Calls Try.prog 13 #[.pointer (some ⟨c, 0, none⟩)] u fun e v' => ∃ x, e = .returned x ∧ u.grownBy v' none ∧ ∃ ra rc, x = Value.slice ra rn rc ∧ Fw v' ra R (Un Q3 P3)) := hid (fun u hu => HFb0.out u (HS3.out.keep hu))
          have HKe : Hid (∀ u ta tc ra rc, x3.grownBy u none → Fw u ta M (Un P3 Q3) → Fw u ra R (Un Q3 P3) → Calls Try.prog 18 #[.slice sa sn sc, .slice ta tn tc, .slice ra rn rc, .agg o.cells.toArray, .int .i64 kv] u fun e w' => ∃ v, e = .returned v ∧ u.grownBy w' none ∧ v = Value.bool true) := hid (fun u ta tc ra rc hu h1 h2 => HKe0.out u ta tc ra rc (HWs.out.keep hu) (HIu.out u (gtrans HS3.out.x.gr hu)) h1 h2)
          have HB7 : Hid (∀ u, x3.grownBy u none → Blk u p7 o.cells 36) := hid (fun u hu => HBk.out u (gtrans HX2.out hu))
          have HK3 : Hid (∀ u, x3.grownBy u none → u.cell? ⟨p1, 3, none⟩ = some (.int .i64 kv)) := hid (fun u hu => (HB1k.out u (gtrans HS3.out.x.gr hu)).1)
          have HK4 : Hid (∀ u, x3.grownBy u none → u.cell? ⟨p1, 4, none⟩ = some (.slice a2 n2 c2)) := hid (fun u hu => (HB1k.out u (gtrans HS3.out.x.gr hu)).2)
          clear HFa0 HFb0 HOb0 HKe0 HIu HBk HB1k HWa HWb
          refine wp_region_listX (by kernel_rfl) [fun v _ => v = (Value.int .i64 94), fun v _ => v = Value.int .i64 94, fun v _ => v = (Value.bool true), fun v _ => v = (Value.bool true), fun v _ => v = (Value.pointer (some ⟨c, 0, none⟩)), fun v _ => v = Value.bool true, fun v _ => v = (Value.bool true), fun v _ => v = (Value.bool true), fun v _ => v = (Value.slice sa sn sc), fun v _ => v = (Value.pointer (some ⟨b, 0, none⟩)), fun v u => ∃ ta tc, v = Value.slice ta tn tc ∧ Fw u ta M (Un P3 Q3), fun v _ => v = (Value.pointer (some ⟨c, 0, none⟩)), fun v u => ∃ ra rc, v = Value.slice ra rn rc ∧ Fw u ra R (Un Q3 P3), fun v _ => v = (Value.agg o.cells.toArray), fun v _ => v = (Value.pointer (some ⟨p1, 3, none⟩)), fun v _ => v = (Value.int .i64 kv), fun v _ => v = Value.bool true, fun v _ => v = (Value.bool true), fun v _ => v = (Value.bool true), fun v _ => v = (Value.pointer (some ⟨c, 0, none⟩)), fun v _ => v = (Value.int .i64 (1 + (rr : Int))), fun v _ => v = (Value.pointer (some ⟨p1, 4, none⟩)), fun v _ => v = (Value.slice a2 n2 c2)] (none) (fun _ => none) 23 (by kernel_rfl) (by kernel_rfl) (by kernel_rfl) (by kernel_rfl) (by decide) noRow_one (fun _ => .inl rfl) ⟨fun i v u u' hki h hg => h, fun i v u u' hki h hg => h, fun i v u u' hki h hg => h, fun i v u u' hki h hg => h, fun i v u u' hki h hg => h, fun i v u u' hki h hg => h, fun i v u u' hki h hg => h, fun i v u u' hki h hg => h, fun i v u u' hki h hg => h, fun i v u u' hki h hg => h, fun i v u u' hki h hg => (by obtain ⟨ta, tc, e, ho⟩ := h; exact ⟨ta, tc, e, ho.keep hg⟩), fun i v u u' hki h hg => h, fun i v u u' hki h hg => (by obtain ⟨ra, rc, e, ho⟩ := h; exact ⟨ra, rc, e, ho.keep hg⟩), fun i v u u' hki h hg => h, fun i v u u' hki h hg => h, fun i v u u' hki h hg => h, fun i v u u' hki h hg => h, fun i v u u' hki h hg => h, fun i v u u' hki h hg => h, fun i v u u' hki h hg => h, fun i v u u' hki h hg => h, fun i v u u' hki h hg => h, fun i v u u' hki h hg => h, trivial⟩ ⟨?_, ?_, ?_, ?_, ?_, ?_, ?_, ?_, ?_, ?_, ?_, ?_, ?_, ?_, ?_, ?_, ?_, ?_, ?_, ?_, ?_, ?_, ?_, trivial⟩ ?_
          · intro A u hu hpu hsz hout hdeps
            have e16 : A.eval (.tmp 16) = (.int .i64 94) := (hout 16 (by kernel_rfl)).trans rfl
            refine ifw_none rfl ?_
            with_reducible refine shown_q (Value.int .i64 94) ?qq_1_0 (fun _ _ => ?qr_1_0)
            case qr_1_0 => exact (rfl : (Value.int .i64 94) = (Value.int .i64 94))
            with_reducible refine quietAt_mv (.tmp 16) (Value.int .i64 94) ?h0_1_0 ?h1_1_0
            case h0_1_0 => rfl
            case h1_1_0 => exact e16
          · intro A u hu hpu hsz hout hdeps
            have e153 : A.eval (.tmp 153) = (.int .i64 94) := by have h := depL hdeps 0 (by kernel_rfl) 153 (by kernel_rfl); exact h
            refine ifw_none rfl ?_
            with_reducible refine shown_call 9 Try.f9 ?h0_1_1 ?h1_1_1 ?h2_1_1 #[.tmp 153] #[27] ?h3_1_1 #[(Value.int .i64 94)] ?h4_1_1 ?h5_1_1
            case h0_1_1 => exact Try.func9
            case h1_1_1 => kernel_rfl
            case h2_1_1 => kernel_rfl
            case h3_1_1 => rfl
            case h4_1_1 => exact map1 _ _ _ e153
            case h5_1_1 => exact HNu9.out u
          · intro A u hu hpu hsz hout hdeps
            have f154 : (fun v _ => v = Value.int .i64 94) (A.eval (.tmp 154)) u := by have h := depL hdeps 1 (by kernel_rfl) 154 (by kernel_rfl); exact h
            have e154 := (f154 : _ = Value.int .i64 94)
            refine ifw_none rfl ?_
            with_reducible refine shown_q (Value.bool true) ?qq_1_2 (fun _ _ => ?qr_1_2)
            case qr_1_2 => exact (rfl : (Value.bool true) = (Value.bool true))
            with_reducible refine quietAt_bin .eql 3 (.tmp 154) (.const (.int .i64 94)) 3 (Value.int .i64 94) (Value.int .i64 94) (Value.bool true) ?h0_1_2 ?h1_1_2 ?h2_1_2 ?h3_1_2
            case h0_1_2 => rfl
            case h1_1_2 => exact e154
            case h2_1_2 => exact rfl
            case h3_1_2 => exact HZ94.out _ _ u
          · intro A u hu hpu hsz hout hdeps
            have e155 : A.eval (.tmp 155) = (.bool true) := by have h := depL hdeps 2 (by kernel_rfl) 155 (by kernel_rfl); exact h
            refine ifw_none rfl ?_
            with_reducible refine shown_q (Value.bool true) ?qq_1_3 (fun _ _ => ?qr_1_3)
            case qr_1_3 => exact (rfl : (Value.bool true) = (Value.bool true))
            with_reducible refine quietAt_mv (.tmp 155) (Value.bool true) ?h0_1_3 ?h1_1_3
            case h0_1_3 => rfl
            case h1_1_3 => exact e155
          · intro A u hu hpu hsz hout hdeps
            have e156 : A.eval (.tmp 156) = (.bool true) := by have h := depL hdeps 3 (by kernel_rfl) 156 (by kernel_rfl); exact h
            have e6 : A.eval (.tmp 6) = (.pointer (some ⟨c, 0, none⟩)) := (hout 6 (by kernel_rfl)).trans rfl
            refine ifw_want 3 true 156 rfl rfl e156 ?_
            with_reducible refine shown_q (Value.pointer (some ⟨c, 0, none⟩)) ?qq_1_4 (fun _ _ => ?qr_1_4)
            case qr_1_4 => exact (rfl : (Value.pointer (some ⟨c, 0, none⟩)) = (Value.pointer (some ⟨c, 0, none⟩)))
            with_reducible refine quietAt_mv (.tmp 6) (Value.pointer (some ⟨c, 0, none⟩)) ?h0_1_4 ?h1_1_4
            case h0_1_4 => rfl
            case h1_1_4 => exact e6
          · intro A u hu hpu hsz hout hdeps
            have e156 : A.eval (.tmp 156) = (.bool true) := by have h := depL hdeps 3 (by kernel_rfl) 156 (by kernel_rfl); exact h
            have e157 : A.eval (.tmp 157) = (.pointer (some ⟨c, 0, none⟩)) := by have h := depL hdeps 4 (by kernel_rfl) 157 (by kernel_rfl); exact h
            refine ifw_want 3 true 156 rfl rfl e156 ?_
            with_reducible refine shown_call 16 Try.f16 ?h0_1_5 ?h1_1_5 ?h2_1_5 #[.tmp 157] #[26] ?h3_1_5 #[(Value.pointer (some ⟨c, 0, none⟩))] ?h4_1_5 ?h5_1_5
            case h0_1_5 => exact Try.func16
            case h1_1_5 => kernel_rfl
            case h2_1_5 => kernel_rfl
            case h3_1_5 => rfl
            case h4_1_5 => exact map1 _ _ _ e157
            case h5_1_5 => exact HOb.out u hu
          · intro A u hu hpu hsz hout hdeps
            have e156 : A.eval (.tmp 156) = (.bool true) := by have h := depL hdeps 3 (by kernel_rfl) 156 (by kernel_rfl); exact h
            have f158 : (fun v _ => v = Value.bool true) (A.eval (.tmp 158)) u := by have h := depL hdeps 5 (by kernel_rfl) 158 (by kernel_rfl); exact h
            have e158 := (f158 : _ = Value.bool true)
            refine ifw_none rfl ?_
            with_reducible refine shown_q (Value.bool true) ?qq_1_6 (fun _ _ => ?qr_1_6)
            case qr_1_6 => exact (rfl : (Value.bool true) = (Value.bool true))
            with_reducible refine quietAt_pick (.tmp 156) (.tmp 158) (.const (.bool false)) true (Value.bool true) ?h0_1_6 ?h1_1_6 ?h2_1_6
            case h0_1_6 => rfl
            case h1_1_6 => exact e156
            case h2_1_6 => rw [if_pos rfl]; exact e158
          · intro A u hu hpu hsz hout hdeps
            have e159 : A.eval (.tmp 159) = (.bool true) := by have h := depL hdeps 6 (by kernel_rfl) 159 (by kernel_rfl); exact h
            refine ifw_none rfl ?_
            with_reducible refine shown_q (Value.bool true) ?qq_1_7 (fun _ _ => ?qr_1_7)
            case qr_1_7 => exact (rfl : (Value.bool true) = (Value.bool true))
            with_reducible refine quietAt_mv (.tmp 159) (Value.bool true) ?h0_1_7 ?h1_1_7
            case h0_1_7 => rfl
            case h1_1_7 => exact e159
          · intro A u hu hpu hsz hout hdeps
            have e160 : A.eval (.tmp 160) = (.bool true) := by have h := depL hdeps 7 (by kernel_rfl) 160 (by kernel_rfl); exact h
            have e12 : A.eval (.tmp 12) = (.slice sa sn sc) := (hout 12 (by kernel_rfl)).trans rfl
            refine ifw_want 7 true 160 rfl rfl e160 ?_
            with_reducible refine shown_q (Value.slice sa sn sc) ?qq_1_8 (fun _ _ => ?qr_1_8)
            case qr_1_8 => exact (rfl : (Value.slice sa sn sc) = (Value.slice sa sn sc))
            with_reducible refine quietAt_mv (.tmp 12) (Value.slice sa sn sc) ?h0_1_8 ?h1_1_8
            case h0_1_8 => rfl
            case h1_1_8 => exact e12
          · intro A u hu hpu hsz hout hdeps
            have e160 : A.eval (.tmp 160) = (.bool true) := by have h := depL hdeps 7 (by kernel_rfl) 160 (by kernel_rfl); exact h
            have e4 : A.eval (.tmp 4) = (.pointer (some ⟨b, 0, none⟩)) := (hout 4 (by kernel_rfl)).trans rfl
            refine ifw_want 7 true 160 rfl rfl e160 ?_
            with_reducible refine shown_q (Value.pointer (some ⟨b, 0, none⟩)) ?qq_1_9 (fun _ _ => ?qr_1_9)
            case qr_1_9 => exact (rfl : (Value.pointer (some ⟨b, 0, none⟩)) = (Value.pointer (some ⟨b, 0, none⟩)))
            with_reducible refine quietAt_mv (.tmp 4) (Value.pointer (some ⟨b, 0, none⟩)) ?h0_1_9 ?h1_1_9
            case h0_1_9 => rfl
            case h1_1_9 => exact e4
          · intro A u hu hpu hsz hout hdeps
            have e160 : A.eval (.tmp 160) = (.bool true) := by have h := depL hdeps 7 (by kernel_rfl) 160 (by kernel_rfl); exact h
            have e162 : A.eval (.tmp 162) = (.pointer (some ⟨b, 0, none⟩)) := by have h := depL hdeps 9 (by kernel_rfl) 162 (by kernel_rfl); exact h
            refine ifw_want 7 true 160 rfl rfl e160 ?_
            with_reducible refine shown_call 13 Try.f13 ?h0_1_10 ?h1_1_10 ?h2_1_10 #[.tmp 162] #[26] ?h3_1_10 #[(Value.pointer (some ⟨b, 0, none⟩))] ?h4_1_10 ?h5_1_10
            case h0_1_10 => exact Try.func13
            case h1_1_10 => kernel_rfl
            case h2_1_10 => kernel_rfl
            case h3_1_10 => rfl
            case h4_1_10 => exact map1 _ _ _ e162
            case h5_1_10 => exact HFa.out u hu
          · intro A u hu hpu hsz hout hdeps
            have e160 : A.eval (.tmp 160) = (.bool true) := by have h := depL hdeps 7 (by kernel_rfl) 160 (by kernel_rfl); exact h
            have e6 : A.eval (.tmp 6) = (.pointer (some ⟨c, 0, none⟩)) := (hout 6 (by kernel_rfl)).trans rfl
            refine ifw_want 7 true 160 rfl rfl e160 ?_
            with_reducible refine shown_q (Value.pointer (some ⟨c, 0, none⟩)) ?qq_1_11 (fun _ _ => ?qr_1_11)
            case qr_1_11 => exact (rfl : (Value.pointer (some ⟨c, 0, none⟩)) = (Value.pointer (some ⟨c, 0, none⟩)))
            with_reducible refine quietAt_mv (.tmp 6) (Value.pointer (some ⟨c, 0, none⟩)) ?h0_1_11 ?h1_1_11
            case h0_1_11 => rfl
            case h1_1_11 => exact e6
          · intro A u hu hpu hsz hout hdeps
            have e160 : A.eval (.tmp 160) = (.bool true) := by have h := depL hdeps 7 (by kernel_rfl) 160 (by kernel_rfl); exact h
            have e164 : A.eval (.tmp 164) = (.pointer (some ⟨c, 0, none⟩)) := by have h := depL hdeps 11 (by kernel_rfl) 164 (by kernel_rfl); exact h
            refine ifw_want 7 true 160 rfl rfl e160 ?_
            with_reducible refine shown_call 13 Try.f13 ?h0_1_12 ?h1_1_12 ?h2_1_12 #[.tmp 164] #[26] ?h3_1_12 #[(Value.pointer (some ⟨c, 0, none⟩))] ?h4_1_12 ?h5_1_12
            case h0_1_12 => exact Try.func13
            case h1_1_12 => kernel_rfl
            case h2_1_12 => kernel_rfl
            case h3_1_12 => rfl
            case h4_1_12 => exact map1 _ _ _ e164
            case h5_1_12 => exact HFb.out u hu
          · intro A u hu hpu hsz hout hdeps
            have e160 : A.eval (.tmp 160) = (.bool true) := by have h := depL hdeps 7 (by kernel_rfl) 160 (by kernel_rfl); exact h
            have e11 : A.eval (.tmp 11) = (.pointer (some ⟨p7, 0, none⟩)) := (hout 11 (by kernel_rfl)).trans rfl
            refine ifw_want 7 true 160 rfl rfl e160 ?_
            with_reducible refine shown_q (Value.agg o.cells.toArray) ?qq_1_13 (fun _ _ => ?qr_1_13)
            case qr_1_13 => exact (rfl : (Value.agg o.cells.toArray) = (Value.agg o.cells.toArray))
            with_reducible refine quietAt_load 36 (.tmp 11) ?h0_1_13 p7 0 o.cells (.struct (Try.prog.fieldsOf 36)) ?h1_1_13 ?h2_1_13 ?h3_1_13 ?h4_1_13 ?h5_1_13
            case h0_1_13 => rfl
            case h1_1_13 => exact e11
            case h2_1_13 => exact (HB7.out u hu).whole
            case h3_1_13 => exact Try.underlying36
            case h4_1_13 => rfl
            case h5_1_13 => exact (HOL.out ▸ Try.size36 : (Try.prog.info? 36).map (·.size) = some o.cells.length)
          · intro A u hu hpu hsz hout hdeps
            have e160 : A.eval (.tmp 160) = (.bool true) := by have h := depL hdeps 7 (by kernel_rfl) 160 (by kernel_rfl); exact h
            have e1 : A.eval (.tmp 1) = (.pointer (some ⟨p1, 0, none⟩)) := (hout 1 (by kernel_rfl)).trans rfl
            refine ifw_want 7 true 160 rfl rfl e160 ?_
            with_reducible refine shown_q (Value.pointer (some ⟨p1, 3, none⟩)) ?qq_1_14 (fun _ _ => ?qr_1_14)
            case qr_1_14 => exact (rfl : (Value.pointer (some ⟨p1, 3, none⟩)) = (Value.pointer (some ⟨p1, 3, none⟩)))
            with_reducible refine quietAt_field 24 (.tmp 1) 3 ?h0_1_14 ⟨p1, 0, none⟩ ⟨p1, 3, none⟩ ?h1_1_14 ?h2_1_14
            case h0_1_14 => rfl
            case h1_1_14 => exact e1
            case h2_1_14 => kernel_rfl
          · intro A u hu hpu hsz hout hdeps
            have e160 : A.eval (.tmp 160) = (.bool true) := by have h := depL hdeps 7 (by kernel_rfl) 160 (by kernel_rfl); exact h
            have e167 : A.eval (.tmp 167) = (.pointer (some ⟨p1, 3, none⟩)) := by have h := depL hdeps 14 (by kernel_rfl) 167 (by kernel_rfl); exact h
            refine ifw_want 7 true 160 rfl rfl e160 ?_
            with_reducible refine shown_q (Value.int .i64 kv) ?qq_1_15 (fun _ _ => ?qr_1_15)
            case qr_1_15 => exact (rfl : (Value.int .i64 kv) = (Value.int .i64 kv))
            with_reducible refine quietAt_ld 3 (.tmp 167) (Value.pointer (some ⟨p1, 3, none⟩)) (Value.int .i64 kv) ?h0_1_15 ?h1_1_15 ?h2_1_15
            case h0_1_15 => rfl
            case h1_1_15 => exact e167
            case h2_1_15 => exact ld3 p1 3 kv u (HK3.out u hu)
          · intro A u hu hpu hsz hout hdeps
            have e160 : A.eval (.tmp 160) = (.bool true) := by have h := depL hdeps 7 (by kernel_rfl) 160 (by kernel_rfl); exact h
            have e161 : A.eval (.tmp 161) = (.slice sa sn sc) := by have h := depL hdeps 8 (by kernel_rfl) 161 (by kernel_rfl); exact h
            have f163 : (fun v u => ∃ ta tc, v = Value.slice ta tn tc ∧ Fw u ta M (Un P3 Q3)) (A.eval (.tmp 163)) u := by have h := depL hdeps 10 (by kernel_rfl) 163 (by kernel_rfl); exact h
            obtain ⟨ta, tc, e163, hM⟩ := f163
            have f165 : (fun v u => ∃ ra rc, v = Value.slice ra rn rc ∧ Fw u ra R (Un Q3 P3)) (A.eval (.tmp 165)) u := by have h := depL hdeps 12 (by kernel_rfl) 165 (by kernel_rfl); exact h
            obtain ⟨ra, rc, e165, hR⟩ := f165
            have e166 : A.eval (.tmp 166) = (.agg o.cells.toArray) := by have h := depL hdeps 13 (by kernel_rfl) 166 (by kernel_rfl); exact h
            have e168 : A.eval (.tmp 168) = (.int .i64 kv) := by have h := depL hdeps 15 (by kernel_rfl) 168 (by kernel_rfl); exact h
            refine ifw_want 7 true 160 rfl rfl e160 ?_
            with_reducible refine shown_call 18 Try.f18 ?h0_1_16 ?h1_1_16 ?h2_1_16 #[.tmp 161, .tmp 163, .tmp 165, .tmp 166, .tmp 168] #[34, 34, 34, 36, 3] ?h3_1_16 #[(Value.slice sa sn sc), (Value.slice ta tn tc), (Value.slice ra rn rc), (Value.agg o.cells.toArray), (Value.int .i64 kv)] ?h4_1_16 ?h5_1_16
            case h0_1_16 => exact Try.func18
            case h1_1_16 => kernel_rfl
            case h2_1_16 => kernel_rfl
            case h3_1_16 => rfl
            case h4_1_16 => exact map5 _ _ _ _ _ _ _ _ _ _ _ e161 e163 e165 e166 e168
            case h5_1_16 => exact HKe.out u ta tc ra rc hu hM hR
          · intro A u hu hpu hsz hout hdeps
            have e160 : A.eval (.tmp 160) = (.bool true) := by have h := depL hdeps 7 (by kernel_rfl) 160 (by kernel_rfl); exact h
            have f169 : (fun v _ => v = Value.bool true) (A.eval (.tmp 169)) u := by have h := depL hdeps 16 (by kernel_rfl) 169 (by kernel_rfl); exact h
            have e169 := (f169 : _ = Value.bool true)
            refine ifw_none rfl ?_
            with_reducible refine shown_q (Value.bool true) ?qq_1_17 (fun _ _ => ?qr_1_17)
            case qr_1_17 => exact (rfl : (Value.bool true) = (Value.bool true))
            with_reducible refine quietAt_pick (.tmp 160) (.tmp 169) (.const (.bool false)) true (Value.bool true) ?h0_1_17 ?h1_1_17 ?h2_1_17
            case h0_1_17 => rfl
            case h1_1_17 => exact e160
            case h2_1_17 => rw [if_pos rfl]; exact e169
          · intro A u hu hpu hsz hout hdeps
            have e170 : A.eval (.tmp 170) = (.bool true) := by have h := depL hdeps 17 (by kernel_rfl) 170 (by kernel_rfl); exact h
            refine ifw_none rfl ?_
            with_reducible refine shown_q (Value.bool true) ?qq_1_18 (fun _ _ => ?qr_1_18)
            case qr_1_18 => exact (rfl : (Value.bool true) = (Value.bool true))
            with_reducible refine quietAt_mv (.tmp 170) (Value.bool true) ?h0_1_18 ?h1_1_18
            case h0_1_18 => rfl
            case h1_1_18 => exact e170
          · intro A u hu hpu hsz hout hdeps
            have e171 : A.eval (.tmp 171) = (.bool true) := by have h := depL hdeps 18 (by kernel_rfl) 171 (by kernel_rfl); exact h
            have e6 : A.eval (.tmp 6) = (.pointer (some ⟨c, 0, none⟩)) := (hout 6 (by kernel_rfl)).trans rfl
            refine ifw_want 18 true 171 rfl rfl e171 ?_
            with_reducible refine shown_q (Value.pointer (some ⟨c, 0, none⟩)) ?qq_1_19 (fun _ _ => ?qr_1_19)
            case qr_1_19 => exact (rfl : (Value.pointer (some ⟨c, 0, none⟩)) = (Value.pointer (some ⟨c, 0, none⟩)))
            with_reducible refine quietAt_mv (.tmp 6) (Value.pointer (some ⟨c, 0, none⟩)) ?h0_1_19 ?h1_1_19
            case h0_1_19 => rfl
            case h1_1_19 => exact e6
          · intro A u hu hpu hsz hout hdeps
            have e171 : A.eval (.tmp 171) = (.bool true) := by have h := depL hdeps 18 (by kernel_rfl) 171 (by kernel_rfl); exact h
            have e3 : A.eval (.tmp 3) = (.int .i64 (1 + (rr : Int))) := (hout 3 (by kernel_rfl)).trans rfl
            refine ifw_want 18 true 171 rfl rfl e171 ?_
            with_reducible refine shown_q (Value.int .i64 (1 + (rr : Int))) ?qq_1_20 (fun _ _ => ?qr_1_20)
            case qr_1_20 => exact (rfl : (Value.int .i64 (1 + (rr : Int))) = (Value.int .i64 (1 + (rr : Int))))
            with_reducible refine quietAt_mv (.tmp 3) (Value.int .i64 (1 + (rr : Int))) ?h0_1_20 ?h1_1_20
            case h0_1_20 => rfl
            case h1_1_20 => exact e3
          · intro A u hu hpu hsz hout hdeps
            have e171 : A.eval (.tmp 171) = (.bool true) := by have h := depL hdeps 18 (by kernel_rfl) 171 (by kernel_rfl); exact h
            have e1 : A.eval (.tmp 1) = (.pointer (some ⟨p1, 0, none⟩)) := (hout 1 (by kernel_rfl)).trans rfl
            refine ifw_want 18 true 171 rfl rfl e171 ?_
            with_reducible refine shown_q (Value.pointer (some ⟨p1, 4, none⟩)) ?qq_1_21 (fun _ _ => ?qr_1_21)
            case qr_1_21 => exact (rfl : (Value.pointer (some ⟨p1, 4, none⟩)) = (Value.pointer (some ⟨p1, 4, none⟩)))
            with_reducible refine quietAt_field 24 (.tmp 1) 4 ?h0_1_21 ⟨p1, 0, none⟩ ⟨p1, 4, none⟩ ?h1_1_21 ?h2_1_21
            case h0_1_21 => rfl
            case h1_1_21 => exact e1
            case h2_1_21 => kernel_rfl
          · intro A u hu hpu hsz hout hdeps
            have e171 : A.eval (.tmp 171) = (.bool true) := by have h := depL hdeps 18 (by kernel_rfl) 171 (by kernel_rfl); exact h
            have e174 : A.eval (.tmp 174) = (.pointer (some ⟨p1, 4, none⟩)) := by have h := depL hdeps 21 (by kernel_rfl) 174 (by kernel_rfl); exact h
            refine ifw_want 18 true 171 rfl rfl e171 ?_
            with_reducible refine shown_q (Value.slice a2 n2 c2) ?qq_1_22 (fun _ _ => ?qr_1_22)
            case qr_1_22 => exact (rfl : (Value.slice a2 n2 c2) = (Value.slice a2 n2 c2))
            with_reducible refine quietAt_ld 22 (.tmp 174) (Value.pointer (some ⟨p1, 4, none⟩)) (Value.slice a2 n2 c2) ?h0_1_22 ?h1_1_22 ?h2_1_22
            case h0_1_22 => rfl
            case h1_1_22 => exact e174
            case h2_1_22 => exact ld22 p1 4 n2 c2 a2 u (HK4.out u hu)
          · intro A u8 listed hh hall
            have hA := hh.frame
            have HU := hid hh.grown
            obtain ⟨x153, hx153⟩ : ∃ x, A.eval (.tmp 153) = x := ⟨_, rfl⟩
            have f153 : (fun v _ => v = (Value.int .i64 94)) x153 u8 := by rw [← hx153]; exact hh.got 0 _ 153 rfl rfl (hall 0 (by decide))
            obtain ⟨x154, hx154⟩ : ∃ x, A.eval (.tmp 154) = x := ⟨_, rfl⟩
            have f154 : (fun v _ => v = Value.int .i64 94) x154 u8 := by rw [← hx154]; exact hh.got 1 _ 154 rfl rfl (hall 1 (by decide))
            obtain ⟨x155, hx155⟩ : ∃ x, A.eval (.tmp 155) = x := ⟨_, rfl⟩
            have f155 : (fun v _ => v = (Value.bool true)) x155 u8 := by rw [← hx155]; exact hh.got 2 _ 155 rfl rfl (hall 2 (by decide))
            obtain ⟨x156, hx156⟩ : ∃ x, A.eval (.tmp 156) = x := ⟨_, rfl⟩
            have f156 : (fun v _ => v = (Value.bool true)) x156 u8 := by rw [← hx156]; exact hh.got 3 _ 156 rfl rfl (hall 3 (by decide))
            obtain ⟨x157, hx157⟩ : ∃ x, A.eval (.tmp 157) = x := ⟨_, rfl⟩
            have f157 : (fun v _ => v = (Value.pointer (some ⟨c, 0, none⟩))) x157 u8 := by rw [← hx157]; exact hh.got 4 _ 157 rfl rfl (hall 4 (by decide))
            obtain ⟨x158, hx158⟩ : ∃ x, A.eval (.tmp 158) = x := ⟨_, rfl⟩
            have f158 : (fun v _ => v = Value.bool true) x158 u8 := by rw [← hx158]; exact hh.got 5 _ 158 rfl rfl (hall 5 (by decide))
            obtain ⟨x159, hx159⟩ : ∃ x, A.eval (.tmp 159) = x := ⟨_, rfl⟩
            have f159 : (fun v _ => v = (Value.bool true)) x159 u8 := by rw [← hx159]; exact hh.got 6 _ 159 rfl rfl (hall 6 (by decide))
            obtain ⟨x160, hx160⟩ : ∃ x, A.eval (.tmp 160) = x := ⟨_, rfl⟩
            have f160 : (fun v _ => v = (Value.bool true)) x160 u8 := by rw [← hx160]; exact hh.got 7 _ 160 rfl rfl (hall 7 (by decide))
            obtain ⟨x161, hx161⟩ : ∃ x, A.eval (.tmp 161) = x := ⟨_, rfl⟩
            have f161 : (fun v _ => v = (Value.slice sa sn sc)) x161 u8 := by rw [← hx161]; exact hh.got 8 _ 161 rfl rfl (hall 8 (by decide))
            obtain ⟨x162, hx162⟩ : ∃ x, A.eval (.tmp 162) = x := ⟨_, rfl⟩
            have f162 : (fun v _ => v = (Value.pointer (some ⟨b, 0, none⟩))) x162 u8 := by rw [← hx162]; exact hh.got 9 _ 162 rfl rfl (hall 9 (by decide))
            obtain ⟨x163, hx163⟩ : ∃ x, A.eval (.tmp 163) = x := ⟨_, rfl⟩
            have f163 : (fun v u => ∃ ta tc, v = Value.slice ta tn tc ∧ Fw u ta M (Un P3 Q3)) x163 u8 := by rw [← hx163]; exact hh.got 10 _ 163 rfl rfl (hall 10 (by decide))
            obtain ⟨x164, hx164⟩ : ∃ x, A.eval (.tmp 164) = x := ⟨_, rfl⟩
            have f164 : (fun v _ => v = (Value.pointer (some ⟨c, 0, none⟩))) x164 u8 := by rw [← hx164]; exact hh.got 11 _ 164 rfl rfl (hall 11 (by decide))
            obtain ⟨x165, hx165⟩ : ∃ x, A.eval (.tmp 165) = x := ⟨_, rfl⟩
            have f165 : (fun v u => ∃ ra rc, v = Value.slice ra rn rc ∧ Fw u ra R (Un Q3 P3)) x165 u8 := by rw [← hx165]; exact hh.got 12 _ 165 rfl rfl (hall 12 (by decide))
            obtain ⟨x166, hx166⟩ : ∃ x, A.eval (.tmp 166) = x := ⟨_, rfl⟩
            have f166 : (fun v _ => v = (Value.agg o.cells.toArray)) x166 u8 := by rw [← hx166]; exact hh.got 13 _ 166 rfl rfl (hall 13 (by decide))
            obtain ⟨x167, hx167⟩ : ∃ x, A.eval (.tmp 167) = x := ⟨_, rfl⟩
            have f167 : (fun v _ => v = (Value.pointer (some ⟨p1, 3, none⟩))) x167 u8 := by rw [← hx167]; exact hh.got 14 _ 167 rfl rfl (hall 14 (by decide))
            obtain ⟨x168, hx168⟩ : ∃ x, A.eval (.tmp 168) = x := ⟨_, rfl⟩
            have f168 : (fun v _ => v = (Value.int .i64 kv)) x168 u8 := by rw [← hx168]; exact hh.got 15 _ 168 rfl rfl (hall 15 (by decide))
            obtain ⟨x169, hx169⟩ : ∃ x, A.eval (.tmp 169) = x := ⟨_, rfl⟩
            have f169 : (fun v _ => v = Value.bool true) x169 u8 := by rw [← hx169]; exact hh.got 16 _ 169 rfl rfl (hall 16 (by decide))
            obtain ⟨x170, hx170⟩ : ∃ x, A.eval (.tmp 170) = x := ⟨_, rfl⟩
            have f170 : (fun v _ => v = (Value.bool true)) x170 u8 := by rw [← hx170]; exact hh.got 17 _ 170 rfl rfl (hall 17 (by decide))
            obtain ⟨x171, hx171⟩ : ∃ x, A.eval (.tmp 171) = x := ⟨_, rfl⟩
            have f171 : (fun v _ => v = (Value.bool true)) x171 u8 := by rw [← hx171]; exact hh.got 18 _ 171 rfl rfl (hall 18 (by decide))
            obtain ⟨x172, hx172⟩ : ∃ x, A.eval (.tmp 172) = x := ⟨_, rfl⟩
            have f172 : (fun v _ => v = (Value.pointer (some ⟨c, 0, none⟩))) x172 u8 := by rw [← hx172]; exact hh.got 19 _ 172 rfl rfl (hall 19 (by decide))
            obtain ⟨x173, hx173⟩ : ∃ x, A.eval (.tmp 173) = x := ⟨_, rfl⟩
            have f173 : (fun v _ => v = (Value.int .i64 (1 + (rr : Int)))) x173 u8 := by rw [← hx173]; exact hh.got 20 _ 173 rfl rfl (hall 20 (by decide))
            obtain ⟨x174, hx174⟩ : ∃ x, A.eval (.tmp 174) = x := ⟨_, rfl⟩
            have f174 : (fun v _ => v = (Value.pointer (some ⟨p1, 4, none⟩))) x174 u8 := by rw [← hx174]; exact hh.got 21 _ 174 rfl rfl (hall 21 (by decide))
            obtain ⟨x175, hx175⟩ : ∃ x, A.eval (.tmp 175) = x := ⟨_, rfl⟩
            have f175 : (fun v _ => v = (Value.slice a2 n2 c2)) x175 u8 := by rw [← hx175]; exact hh.got 22 _ 175 rfl rfl (hall 22 (by decide))
            obtain ⟨x176, hx176⟩ : ∃ x, A.eval (.tmp 176) = x := ⟨_, rfl⟩
            obtain ⟨x177, hx177⟩ : ∃ x, A.eval (.tmp 177) = x := ⟨_, rfl⟩
            obtain ⟨x2, hx2⟩ : ∃ x, A.eval (.tmp 2) = x := ⟨_, rfl⟩
            dsimp only [wrote, List.foldl] at hA
            rw [hx153, hx154, hx155, hx156, hx157, hx158, hx159, hx160, hx161, hx162, hx163, hx164, hx165, hx166, hx167, hx168, hx169, hx170, hx171, hx172, hx173, hx174, hx175, hx176, hx177, hx2] at hA
            clear hh hall hx153 hx154 hx155 hx156 hx157 hx158 hx159 hx160 hx161 hx162 hx163 hx164 hx165 hx166 hx167 hx168 hx169 hx170 hx171 hx172 hx173 hx174 hx175 hx176 hx177 hx2
            replace f153 := (f153 : x153 = (.int .i64 94))
            subst f153
            have e154 := (f154 : _ = Value.int .i64 94)
            subst e154
            replace f155 := (f155 : x155 = (.bool true))
            subst f155
            replace f156 := (f156 : x156 = (.bool true))
            subst f156
            replace f157 := (f157 : x157 = (.pointer (some ⟨c, 0, none⟩)))
            subst f157
            have e158 := (f158 : _ = Value.bool true)
            subst e158
            replace f159 := (f159 : x159 = (.bool true))
            subst f159
            replace f160 := (f160 : x160 = (.bool true))
            subst f160
            replace f161 := (f161 : x161 = (.slice sa sn sc))
            subst f161
            replace f162 := (f162 : x162 = (.pointer (some ⟨b, 0, none⟩)))
            subst f162
            obtain ⟨ta, tc, e163, hM⟩ := f163
            subst e163
            replace f164 := (f164 : x164 = (.pointer (some ⟨c, 0, none⟩)))
            subst f164
            obtain ⟨ra, rc, e165, hR⟩ := f165
            subst e165
            replace f166 := (f166 : x166 = (.agg o.cells.toArray))
            subst f166
            replace f167 := (f167 : x167 = (.pointer (some ⟨p1, 3, none⟩)))
            subst f167
            replace f168 := (f168 : x168 = (.int .i64 kv))
            subst f168
            have e169 := (f169 : _ = Value.bool true)
            subst e169
            replace f170 := (f170 : x170 = (.bool true))
            subst f170
            replace f171 := (f171 : x171 = (.bool true))
            subst f171
            replace f172 := (f172 : x172 = (.pointer (some ⟨c, 0, none⟩)))
            subst f172
            replace f173 := (f173 : x173 = (.int .i64 (1 + (rr : Int))))
            subst f173
            replace f174 := (f174 : x174 = (.pointer (some ⟨p1, 4, none⟩)))
            subst f174
            replace f175 := (f175 : x175 = (.slice a2 n2 c2))
            subst f175
            subst hA
            show wpList _ _ _ [_, _, _] _ _
            simp only [Act.put, List.setIfInBounds_toArray, List.set_cons_succ, List.set_cons_zero]
            have HSu := hid (HS3.out.keep HU.out)
            have HGo := hid (HGoes.out _ HSu.out.y)
            clear HKe HFa HFb HOb
            go_wp2_with (go_at_call 19; (with_reducible refine HGo.out.mono ?_); rintro e x9 ⟨rfl, hg⟩; have HG9 := hid hg; clear hg)
            go_ret
            exact ⟨rfl, gtrans HG1.out HG9.out⟩
      · have h4' : ¬ (i : Int) < 400 := by omega
        as_aux_lemma =>
        have HSe := hid (HS.out.1)
        have HTw := hid HS.out.2.1
        obtain ⟨Lz, HLz⟩ : ∃ x, Hid (srtC A.C = x) := ⟨_, hid rfl⟩
        have HBC : Hid (srtC B.C = Lz ∧ B.off = false) := hid (by rw [HTw.out.eq]; exact ⟨HLz.out, rfl⟩)
        have HBd : Hid (Lz.length ≤ 64 ∧ ∀ p ∈ Lz, p.2.length ≤ 268435456) := hid (by rw [← HLz.out]; exact sd_bnd HSe.out.x)
        obtain ⟨zn, HZn⟩ : ∃ x, Hid (Lz.length = x) := ⟨_, hid rfl⟩
        have HFa : Hid (∀ v, S2 w1 v b c A B P Q → Calls Try.prog 13 #[.pointer (some ⟨b, 0, none⟩)] v fun e v' => ∃ a c, e = .returned (.slice a zn c) ∧ Fw v' a Lz (Un P Q) ∧ v.grownBy v' none) := hid (fun v hS => by
          have q := s2_files hS
          rw [HLz.out, HZn.out] at q
          exact q)
        have HFb : Hid (∀ v, S2 w1 v b c A B P Q → Calls Try.prog 13 #[.pointer (some ⟨c, 0, none⟩)] v fun e v' => ∃ a c, e = .returned (.slice a zn c) ∧ Fw v' a Lz (Un Q P) ∧ v.grownBy v' none) := hid (fun v hS => by
          have q := s2_files hS.swap
          rw [HBC.out.1, HZn.out] at q
          exact q)
        have HOb : Hid (∀ v, S2 w1 v b c A B P Q → Calls Try.prog 16 #[.pointer (some ⟨c, 0, none⟩)] v fun e v' => e = .returned (.bool false) ∧ v.grownBy v' none) := hid (fun v hS => by
          have q := off_p hS.y.dk
          rw [HBC.out.2] at q
          exact q)
        have HQ : Hid (∀ v a a' c c' P P', Fw v a Lz P → Fw v a' Lz P' → Calls Try.prog 17 #[.slice a zn c, .slice a' zn c'] v fun e v' => e = .returned (.bool true) ∧ v.grownBy v' none) := hid (fun v a a' c c' P P' h1 h2 => by
          have q := fw_eq h1 h2 c c' (by have := HBd.out.1; omega) (fun p hp => by have := HBd.out.2 p hp; omega)
          rw [HZn.out] at q
          exact q)
        clear HLz HBC HBd HZn HTw HS
        go_wp2_with (first
          | (go_at_call 13; (with_reducible refine (HFa.out _ HSe.out).mono ?_); rintro e x4 ⟨a4, c4, rfl, hF, hg⟩; have HY4 := hid hF; have HS4 := hid (HSe.out.keep hg); clear hF hg)
          | (go_at_call 13; (with_reducible refine (HFb.out _ HS4.out).mono ?_); rintro e x5 ⟨a5, c5, rfl, hF, hg⟩; have HY5 := hid hF; have HY4' := hid (HY4.out.keep hg); have HS5 := hid (HS4.out.keep hg); clear hF hg)
          | (go_at_call 17; (with_reducible refine (HQ.out _ _ _ _ _ _ _ HY4'.out HY5.out).mono ?_); rintro e x6 ⟨rfl, hg⟩; have HS6 := hid (HS5.out.keep hg); clear hg)
          | (go_at_call 16; (with_reducible refine (HOb.out _ HS6.out).mono ?_); rintro e x7 ⟨rfl, hg⟩; have HS7 := hid (HS6.out.keep hg); clear hg))
        go_ret
        exact ⟨rfl, gtrans HG1.out HS7.out.x.gr⟩
    · have hlt' : ¬ (i : Int) < (n : Int) := by omega
      as_aux_lemma =>
      have HSe := hid (HS.out.1)
      have HTw := hid HS.out.2.1
      obtain ⟨Lz, HLz⟩ : ∃ x, Hid (srtC A.C = x) := ⟨_, hid rfl⟩
      have HBC : Hid (srtC B.C = Lz ∧ B.off = false) := hid (by rw [HTw.out.eq]; exact ⟨HLz.out, rfl⟩)
      have HBd : Hid (Lz.length ≤ 64 ∧ ∀ p ∈ Lz, p.2.length ≤ 268435456) := hid (by rw [← HLz.out]; exact sd_bnd HSe.out.x)
      obtain ⟨zn, HZn⟩ : ∃ x, Hid (Lz.length = x) := ⟨_, hid rfl⟩
      have HFa : Hid (∀ v, S2 w1 v b c A B P Q → Calls Try.prog 13 #[.pointer (some ⟨b, 0, none⟩)] v fun e v' => ∃ a c, e = .returned (.slice a zn c) ∧ Fw v' a Lz (Un P Q) ∧ v.grownBy v' none) := hid (fun v hS => by
        have q := s2_files hS
        rw [HLz.out, HZn.out] at q
        exact q)
      have HFb : Hid (∀ v, S2 w1 v b c A B P Q → Calls Try.prog 13 #[.pointer (some ⟨c, 0, none⟩)] v fun e v' => ∃ a c, e = .returned (.slice a zn c) ∧ Fw v' a Lz (Un Q P) ∧ v.grownBy v' none) := hid (fun v hS => by
        have q := s2_files hS.swap
        rw [HBC.out.1, HZn.out] at q
        exact q)
      have HOb : Hid (∀ v, S2 w1 v b c A B P Q → Calls Try.prog 16 #[.pointer (some ⟨c, 0, none⟩)] v fun e v' => e = .returned (.bool false) ∧ v.grownBy v' none) := hid (fun v hS => by
        have q := off_p hS.y.dk
        rw [HBC.out.2] at q
        exact q)
      have HQ : Hid (∀ v a a' c c' P P', Fw v a Lz P → Fw v a' Lz P' → Calls Try.prog 17 #[.slice a zn c, .slice a' zn c'] v fun e v' => e = .returned (.bool true) ∧ v.grownBy v' none) := hid (fun v a a' c c' P P' h1 h2 => by
        have q := fw_eq h1 h2 c c' (by have := HBd.out.1; omega) (fun p hp => by have := HBd.out.2 p hp; omega)
        rw [HZn.out] at q
        exact q)
      clear HLz HBC HBd HZn HTw HS
      go_wp2_with (first
        | (go_at_call 13; (with_reducible refine (HFa.out _ HSe.out).mono ?_); rintro e x4 ⟨a4, c4, rfl, hF, hg⟩; have HY4 := hid hF; have HS4 := hid (HSe.out.keep hg); clear hF hg)
        | (go_at_call 13; (with_reducible refine (HFb.out _ HS4.out).mono ?_); rintro e x5 ⟨a5, c5, rfl, hF, hg⟩; have HY5 := hid hF; have HY4' := hid (HY4.out.keep hg); have HS5 := hid (HS4.out.keep hg); clear hF hg)
        | (go_at_call 17; (with_reducible refine (HQ.out _ _ _ _ _ _ _ HY4'.out HY5.out).mono ?_); rintro e x6 ⟨rfl, hg⟩; have HS6 := hid (HS5.out.keep hg); clear hg)
        | (go_at_call 16; (with_reducible refine (HOb.out _ HS6.out).mono ?_); rintro e x7 ⟨rfl, hg⟩; have HS7 := hid (HS6.out.keep hg); clear hg))
      go_ret
      exact ⟨rfl, gtrans HG1.out HS7.out.x.gr⟩
end Go.Proofs.Ytlgjmdianmijeaa
