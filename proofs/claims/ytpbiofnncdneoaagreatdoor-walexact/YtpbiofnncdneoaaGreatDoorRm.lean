/- Load, New of the reference's disk. -/
import Derived.Test.YtpbiofnncdneoaaGreatDoorRl
namespace Go.Proofs.YtpbiofnncdneoaaGreatDoor
open Go Go.RowKit Go.MapKept Go.MuLone
open Go.RowKit (wrap32 wrap64)

variable {w w' w2 : World} {B b : Nat} {A A' : Ab} {P : Nat → Prop} {sv sv' : Value} {E E' : List Fl}
theorem built113 (room : Int) : Tryz.prog.built 113 [(0, .int .i64 room)] = some (rkc ⟨room, false, 0, 0, 0, []⟩ (.slice none 0 0)).toArray := by kernel_rfl
theorem rk_new (w : World) (room : Int) (h1 : 1 ≤ room) (h2 : room ≤ 268435456) (w1 : World) (hb : Blk w1 w.heap.size (rkc ⟨room, false, 0, 0, 0, []⟩ (.slice none 0 0)) 113) : Rk w1 w.heap.size w.heap.size ⟨room, false, 0, 0, 0, []⟩ (.slice none 0 0) [] :=
  ⟨hb, OutF.nil (World.ownsRow_nil _ _ _ _), rfl, List.Pairwise.nil, Nat.le_refl _, ⟨⟨h1, h2⟩, by show (0 : Int) ≤ 0; omega, by show (0 : Int) ≤ 0 ∧ (0 : Int) ≤ 9223372036854775807; omega, by show ((0 : Nat) : Int) ≤ room; omega, by show 0 ≤ 64; omega, fun p hp => by cases hp⟩⟩
theorem load_long {room : Int} : ∀ (L D : Cn), NdC D → 64 < (D ++ L).length → D.length ≤ 64 → loadC room D L = none
  | [], D, _, h, h2 => by rw [List.append_nil] at h; omega
  | p :: L, D, hn, h, h2 => by
    unfold loadC
    by_cases hc : goodN p.1 = true ∧ (getC D p.1).isSome = false ∧ D.length < 64 ∧ (p.2.length : Int) ≤ room - (usedC D : Nat)
    · rw [if_pos hc]
      have hg : getC D p.1 = none := by
        cases hg : getC D p.1 with
        | none => rfl
        | some x => rw [hg] at hc; simp at hc
      refine load_long L _ (set_nd hn _ _) ?_ ?_
      · rw [set_new D p.1 p.2 hg]; simp at h ⊢; omega
      · rw [set_new D p.1 p.2 hg]; simp; omega
    · rw [if_neg hc]
set_option maxRecDepth 100000 in
set_option maxHeartbeats 8000000 in
theorem rload_any (w : World) (F : Nat → Prop) (a : Option Addr) (g off c : Nat) (L : Cn) (room : Int) (hA : ArF w F a g off L) (hb : ∀ p ∈ L, p.2.length ≤ 140737488355328) (hs : ∀ p ∈ L, p.1.size ≤ 140737488355328) (hLm : L.length ≤ 140737488355328) (h1 : 1 ≤ room) (h2 : room ≤ 268435456) :
    Calls Tryz.prog 14 #[.slice a L.length c, .int .i64 room] w fun e w' => w.grownBy w' none ∧ ((loadC room [] L = none ∧ e = .returned (.tuple #[.pointer none, .int .i64 96])) ∨ ∃ b, e = .returned (.tuple #[.pointer (some ⟨b, 0, none⟩), .int .i64 0]) ∧ loadC room [] L = some L ∧ ∃ sv E, Rk w' w.heap.size b ⟨room, false, 0, 0, 0, srtC L⟩ sv E) := by
  have HA : Hid (∀ u, w.grownBy u none → ArF u F a g off L) := hid (fun u hu => hA.keep hu)
  have HBl := hid hb
  have HSl := hid hs
  obtain ⟨n, HN⟩ : ∃ n, Hid (L.length = n) := ⟨_, hid rfl⟩
  have hnm : n ≤ 140737488355328 := by rw [← HN.out]; exact hLm
  rw [HN.out]
  have r1 : ¬ room < 1 := by omega
  have r2 : ¬ 268435456 < room := by omega
  by_cases h64 : 64 < n
  · as_aux_lemma =>
    have h64' : (64 : Int) < (n : Int) := by omega
    have HL : Hid (loadC room [] L = none) := hid (load_long L [] List.nodup_nil (by rw [List.nil_append, HN.out]; exact h64) (by decide))
    clear hA hb hs hLm h1 h2
    go_enter Tryz.func14, Tryz.ntmps14
    go_wp2_with fail
    refine bodyPost_ret (results_tmp2 rfl _ _ _) rfl ?_
    exact ⟨grefl _ _, .inl ⟨HL.out, rfl⟩⟩
  have h64' : ¬ (64 : Int) < (n : Int) := by omega
  have HRo : Hid (1 ≤ room ∧ room ≤ 268435456) := hid ⟨h1, h2⟩
  clear hA hb hs hLm h1 h2
  go_enter Tryz.func14, Tryz.ntmps14
  go_upto_region 6 with (first
    | (with_reducible refine wpList_build_of (by with_unfolding_all rfl) 113 _ (by with_unfolding_all rfl) [(0, .int .i64 room)] (by with_unfolding_all rfl) (rkc ⟨room, false, 0, 0, 0, []⟩ (.slice none 0 0)) (built113 room) ?_)
    | ((with_reducible refine wpList_box_row (by with_unfolding_all rfl) 113 _ (by with_unfolding_all rfl) (rkc ⟨room, false, 0, 0, 0, []⟩ (.slice none 0 0)) (by with_unfolding_all rfl) ?_); intro w1 B1 s1 g1; have HB1 := hid B1; have HG1 := hid g1; clear B1 s1 g1))
  have HR0 := hid (rk_new w room HRo.out.1 HRo.out.2 w1 HB1.out)
  obtain ⟨bd, hbd⟩ : ∃ x, w.heap.size = x := ⟨_, rfl⟩
  have HBd : Hid (w.heap.size = bd) := hid hbd
  have HR0' : Hid (Rk w1 w.heap.size bd ⟨room, false, 0, 0, 0, []⟩ (.slice none 0 0) []) := hid (by have q := HR0.out; rw [hbd] at q ⊢; exact q)
  rw [hbd]
  clear hbd HR0 HB1
  go_upto_region 7 with fail
  go_loopw [7] (fun iv wr => ∃ i : Nat, iv = .int .i64 i ∧ i ≤ n ∧ Hid (w.grownBy wr none ∧ loadC room [] L = loadC room (L.take i) (L.drop i) ∧ NdC (L.take i) ∧ (usedC (L.take i) : Int) ≤ room ∧ (∀ p ∈ L.take i, goodN p.1 = true) ∧ ∃ sv E, Rk wr w.heap.size bd ⟨room, false, 0, 0, 0, srtC (L.take i)⟩ sv E)) (fun iv _ => n - (intOf iv).toNat)
  case atStart => exact ⟨0, rfl, Nat.zero_le _, hid ⟨HG1.out, rfl, List.nodup_nil, by have := HRo.out.1; show ((0 : Nat) : Int) ≤ room; omega, (fun p hp => by cases hp), _, _, by rw [show srtC (L.take 0) = [] from by rw [List.take_zero]; exact srt_self List.Pairwise.nil]; exact HR0'.out⟩⟩
  case round =>
    obtain ⟨i, rfl, hi, HC⟩ := hrel
    obtain ⟨w0, hw0⟩ : ∃ x : World, x = wr := ⟨_, rfl⟩
    rw [← hw0] at HC ⊢
    clear hw0 HR0'
    have HGw := hid HC.out.1
    obtain ⟨sv, HC2⟩ : ∃ sv, Hid (∃ E, Rk w0 w.heap.size bd ⟨room, false, 0, 0, 0, srtC (L.take i)⟩ sv E) := ⟨HC.out.2.2.2.2.2.choose, hid HC.out.2.2.2.2.2.choose_spec⟩
    obtain ⟨E, HR⟩ : ∃ E, Hid (Rk w0 w.heap.size bd ⟨room, false, 0, 0, 0, srtC (L.take i)⟩ sv E) := ⟨HC2.out.choose, hid HC2.out.choose_spec⟩
    clear HC2
    by_cases hlt : i < n
    · have hlt' : (i : Int) < (n : Int) := by omega
      have hiL : i < L.length := by rw [HN.out]; exact hlt
      obtain ⟨rfl, hgl, -⟩ := (HA.out w0 HGw.out).at_ (by omega)
      obtain ⟨q, Hq⟩ : ∃ x, Hid (L[i] = x) := ⟨_, hid rfl⟩
      obtain ⟨s, l⟩ := q
      have HC3 : Hid (w0.cell? ⟨g, off + i * 2, none⟩ = some (.string s) ∧ ∃ v, w0.cell? ⟨g, off + i * 2 + 1, none⟩ = some v ∧ Rd w0 F v l) := hid (by have := (HA.out w0 HGw.out).each i hiL; rw [Hq.out] at this; exact this)
      obtain ⟨v, hv1, hv2⟩ := HC3.out.2
      have HV' := hid hv2
      have HLl : Hid (l.length ≤ 140737488355328) := hid (HBl.out (s, l) (by rw [← Hq.out]; exact List.getElem_mem _))
      have HSs : Hid (s.size ≤ 140737488355328) := hid (HSl.out (s, l) (by rw [← Hq.out]; exact List.getElem_mem _))
      obtain ⟨ba, -, -, bc, rfl, -⟩ := hv2
      obtain ⟨bn, HBn⟩ : ∃ x, Hid (l.length = x) := ⟨_, hid rfl⟩
      rw [HBn.out] at HV' hv1
      obtain ⟨us, hus⟩ : ∃ x, usedC (L.take i) = x := ⟨_, rfl⟩
      have hud : usedC (srtC (L.take i)) = us := by rw [used_srt HC.out.2.2.1]; exact hus
      have husr : (us : Int) ≤ room := by rw [← hus]; exact HC.out.2.2.2.1
      obtain ⟨D, HD⟩ : ∃ x, Hid ((getC (L.take i) s).isSome = x) := ⟨_, hid rfl⟩
      obtain ⟨gd, Hgd⟩ : ∃ x, Hid (goodN s = x) := ⟨_, hid rfl⟩
      have hdrop : L.drop i = (s, l) :: L.drop (i + 1) := by rw [List.drop_eq_getElem_cons hiL, Hq.out]
      have HBad : Hid ((¬ (gd = true ∧ D = false ∧ (bn : Int) ≤ room - (us : Int))) → loadC room [] L = none) := hid (fun hc => by
        rw [HC.out.2.1, hdrop]
        unfold loadC
        refine if_neg (fun z => hc ⟨by rw [← Hgd.out]; exact z.1, by rw [← HD.out]; exact z.2.1, ?_⟩)
        have := z.2.2.2
        rw [hus, HBn.out] at this
        exact this)
      have HPl := hid (place_any HR.out s)
      obtain ⟨p, hp⟩ : ∃ x, plc (srtC (L.take i)) s = x := ⟨_, rfl⟩
      have HPl' : Hid (Calls Tryz.prog 41 #[.pointer (some ⟨bd, 0, none⟩), .string s] w0 fun e w' => e = .returned (.tuple #[.int .i64 (p : Nat), .bool D]) ∧ w0.grownBy w' none) := hid (by
        have q := HPl.out
        have e : isAt (srtC (L.take i)) s = D := by rw [isAt_get (srt_srtS HC.out.2.2.1) s, get_srt HC.out.2.2.1]; exact HD.out
        show Calls Tryz.prog 41 _ w0 _
        rw [← hp, ← e]
        exact q)
      have HCe0 : Hid (∀ u, w0.grownBy u none → u.cell? ⟨g, off + i * 2, none⟩ = some (.string s) ∧ u.cell? ⟨g, off + i * 2 + 1, none⟩ = some (.slice ba bn bc)) := hid (fun u hu => ⟨(cell_at hu hgl (by simp)).trans HC3.out.1, (cell_at hu hgl (by simp)).trans hv1⟩)
      have HLay0 : Hid (gd = true → D = false → (bn : Int) ≤ room - (us : Int) → ∀ u fa fc, Rk u w.heap.size bd ⟨room, false, 0, 0, 0, srtC (L.take i)⟩ sv E → Out w.heap.size u (.slice fa bn fc) l → w.grownBy u none → Calls Tryz.prog 44 #[.pointer (some ⟨bd, 0, none⟩), .agg [Value.string s, .slice fa bn fc].toArray] u fun e w2 => e = .returned (.tuple #[]) ∧ (w.grownBy w2 none ∧ loadC room [] L = loadC room (L.take (i + 1)) (L.drop (i + 1)) ∧ NdC (L.take (i + 1)) ∧ (usedC (L.take (i + 1)) : Int) ≤ room ∧ (∀ p ∈ L.take (i + 1), goodN p.1 = true) ∧ ∃ sv E, Rk w2 w.heap.size bd ⟨room, false, 0, 0, 0, srtC (L.take (i + 1))⟩ sv E)) := hid (fun hg hD ho u fa fc hR hO hG => by
        have hgn : getC (L.take i) s = none := by
          cases hx : getC (L.take i) s with
          | none => rfl
          | some x => have q := HD.out; rw [hx, hD] at q; cases q
        have htk : L.take (i + 1) = setC (L.take i) s l := by rw [set_new _ _ _ hgn, List.take_succ_eq_append_getElem hiL, Hq.out]
        have hus2 : usedC (L.take (i + 1)) = us + bn := by rw [used_take hiL, Hq.out, hus, HBn.out]
        have hnd : NdC (L.take (i + 1)) := by rw [htk]; exact set_nd HC.out.2.2.1 _ _
        have hgo : ∀ p ∈ L.take (i + 1), goodN p.1 = true := fun p hp => by
          rw [List.take_succ_eq_append_getElem hiL, Hq.out] at hp
          rcases List.mem_append.1 hp with hp | hp
          · exact HC.out.2.2.2.2.1 p hp
          · rw [List.mem_singleton.1 hp]; rw [Hgd.out]; exact hg
        have hlen : (L.take (i + 1)).length ≤ 64 := by rw [List.length_take]; omega
        have hok : (⟨room, false, 0, 0, 0, srtC (L.take (i + 1))⟩ : Ab).ok := by
          have q : (⟨room, false, 0, 0, 0, L.take (i + 1)⟩ : Ab).ok := ⟨HRo.out, by show (0 : Int) ≤ 0; omega, by show (0 : Int) ≤ 0 ∧ (0 : Int) ≤ 9223372036854775807; omega, by show (usedC (L.take (i + 1)) : Int) ≤ room; rw [hus2]; push_cast; omega, hlen, hgo⟩
          exact ok_sr q hnd
        have hset : insC (delC (srtC (L.take i)) s) s l = srtC (L.take (i + 1)) := by rw [lay_srt HC.out.2.2.1 s l, htk]
        have q := lay_any hR s fa bn fc l hO (by show (⟨room, false, 0, 0, 0, insC (delC (srtC (L.take i)) s) s l⟩ : Ab).ok; rw [hset]; exact hok)
        refine q.mono fun e w2 ⟨q1, q2, sv', E', q3, _⟩ => ⟨q1, hG.andThen q2 (fun j hj => .inl (by injection hj with hj; have h9 := HBd.out; omega)), ?_, hnd, by rw [hus2]; push_cast; omega, hgo, sv', E', ?_⟩
        · rw [HC.out.2.1, hdrop]
          conv => lhs; unfold loadC
          rw [if_pos ⟨by rw [Hgd.out]; exact hg, by rw [HD.out]; exact hD, by rw [List.length_take]; omega, by rw [hus, HBn.out]; exact ho⟩, htk]
        · have q4 : Rk w2 w.heap.size bd ⟨room, false, 0, 0, 0, insC (delC (srtC (L.take i)) s) s l⟩ sv' E' := q3
          rw [hset] at q4
          exact q4)
      have HUs0 : Hid (∀ u, w0.grownBy u none → Calls Tryz.prog 43 #[.pointer (some ⟨bd, 0, none⟩)] u fun e w' => ∃ v, e = .returned v ∧ u.grownBy w' none ∧ v = Value.int .i64 (us : Nat)) := hid (fun u hu => (rused_any (HR.out.keep hu)).mono fun e w' ⟨q1, q2⟩ => ⟨_, by rw [q1]; show Ending.returned (.int .i64 (usedC (srtC (L.take i)) : Nat)) = _; rw [hud], by rw [q2]; exact grefl _ _, rfl⟩)
      have HNm : Hid (∀ u : World, Calls Tryz.prog 42 #[.string s] u fun e w' => ∃ v, e = .returned v ∧ u.grownBy w' none ∧ v = Value.bool gd) := hid (fun u => (named_any s HSs.out u).mono fun e w' ⟨q1, q2⟩ => ⟨_, by rw [q1, Hgd.out], by rw [q2]; exact grefl _ _, rfl⟩)
      have HSub : Hid (∀ (x y : Operand) (u : World), (do eqGuard .sub 3 x y (.int .i64 room) (.int .i64 (us : Nat)); binOp .sub 3 (.int .i64 room) (.int .i64 (us : Nat)) : Sem Value).run Tryz.prog u = .ok (.int .i64 (room - (us : Int))) u) := hid (fun x y u => by
        have e : IntKind.i64.wrap (room - (us : Int)) = room - (us : Int) := by rw [IntKind.wrap_i64]; have := HRo.out; omega
        go_simp)
      have c9 := HC3.out.1
      clear HPl HC3 hus hud hp hdrop hv1
      go_upto_region 10 with (go_at_call 41; (with_reducible refine HPl'.out.mono ?_); rintro e w1x ⟨rfl, hg⟩; have HGx := hid hg; clear hg)
      have HGw' : Hid (w.grownBy w1x none) := hid (gtrans HGw.out HGx.out)
      clear HGw
      have HGw := HGw'
      have HR1 := hid (HR.out.keep HGx.out)
      have HV := hid (HV'.out.keep HGx.out)
      have HCe : Hid (∀ u, w1x.grownBy u none → u.cell? ⟨g, off + i * 2, none⟩ = some (.string s) ∧ u.cell? ⟨g, off + i * 2 + 1, none⟩ = some (.slice ba bn bc)) := hid (fun u hu => HCe0.out u (gtrans HGx.out hu))
      have HUs : Hid (∀ u, w1x.grownBy u none → Calls Tryz.prog 43 #[.pointer (some ⟨bd, 0, none⟩)] u fun e w' => ∃ v, e = .returned v ∧ u.grownBy w' none ∧ v = Value.int .i64 (us : Nat)) := hid (fun u hu => HUs0.out u (gtrans HGx.out hu))
      clear c9 HPl' HCe0 HUs0 HV' HR HC HGw' HD Hgd Hq
      cases gd with
      | false =>
        as_aux_lemma =>
        refine wp_region_listX (by kernel_rfl) [fun v _ => v = (Value.slice (some ⟨g, off, none⟩) n c), fun v _ => v = (Value.int .i64 (i : Nat)), fun v _ => v = (Value.pointer (some ⟨g, off + i * 2, none⟩)), fun v _ => v = (Value.pointer (some ⟨g, off + i * 2, none⟩)), fun v _ => v = (Value.string s), fun v _ => v = Value.bool false, fun v _ => v = (Value.bool true), fun v _ => v = (Value.bool true), fun v _ => v = undef, fun v _ => v = (Value.bool true), fun v _ => v = (Value.bool true), fun v _ => v = undef, fun v _ => v = undef, fun v _ => v = undef, fun v _ => v = undef, fun v _ => v = undef, fun v _ => v = undef, fun v _ => v = undef, fun v _ => v = undef, fun v _ => v = undef, fun v _ => v = undef, fun v _ => v = undef, fun v _ => v = (Value.bool true)] (none) (fun _ => none) 23 (by kernel_rfl) (by kernel_rfl) (by kernel_rfl) (by kernel_rfl) (by decide) noRow_one (fun _ => .inl rfl) ⟨fun i v u u' hki h hg => h, fun i v u u' hki h hg => h, fun i v u u' hki h hg => h, fun i v u u' hki h hg => h, fun i v u u' hki h hg => h, fun i v u u' hki h hg => h, fun i v u u' hki h hg => h, fun i v u u' hki h hg => h, fun i v u u' hki h hg => h, fun i v u u' hki h hg => h, fun i v u u' hki h hg => h, fun i v u u' hki h hg => h, fun i v u u' hki h hg => h, fun i v u u' hki h hg => h, fun i v u u' hki h hg => h, fun i v u u' hki h hg => h, fun i v u u' hki h hg => h, fun i v u u' hki h hg => h, fun i v u u' hki h hg => h, fun i v u u' hki h hg => h, fun i v u u' hki h hg => h, fun i v u u' hki h hg => h, fun i v u u' hki h hg => h, trivial⟩ ⟨?_, ?_, ?_, ?_, ?_, ?_, ?_, ?_, ?_, ?_, ?_, ?_, ?_, ?_, ?_, ?_, ?_, ?_, ?_, ?_, ?_, ?_, ?_, trivial⟩ ?_
        · intro A u hu hpu hsz hout hdeps
          have e0 : A.eval (.tmp 0) = (.slice (some ⟨g, off, none⟩) n c) := (hout 0 (by kernel_rfl)).trans rfl
          refine ifw_none rfl ?_
          with_reducible refine shown_q (Value.slice (some ⟨g, off, none⟩) n c) ?qq_1_0 (fun _ _ => ?qr_1_0)
          case qr_1_0 => exact (rfl : (Value.slice (some ⟨g, off, none⟩) n c) = (Value.slice (some ⟨g, off, none⟩) n c))
          with_reducible refine quietAt_mv (.tmp 0) (Value.slice (some ⟨g, off, none⟩) n c) ?h0_1_0 ?h1_1_0
          case h0_1_0 => rfl
          case h1_1_0 => exact e0
        · intro A u hu hpu hsz hout hdeps
          have e7 : A.eval (.tmp 7) = (.int .i64 (i : Nat)) := (hout 7 (by kernel_rfl)).trans rfl
          refine ifw_none rfl ?_
          with_reducible refine shown_q (Value.int .i64 (i : Nat)) ?qq_1_1 (fun _ _ => ?qr_1_1)
          case qr_1_1 => exact (rfl : (Value.int .i64 (i : Nat)) = (Value.int .i64 (i : Nat)))
          with_reducible refine quietAt_mv (.tmp 7) (Value.int .i64 (i : Nat)) ?h0_1_1 ?h1_1_1
          case h0_1_1 => rfl
          case h1_1_1 => exact e7
        · intro A u hu hpu hsz hout hdeps
          have e38 : A.eval (.tmp 38) = (.slice (some ⟨g, off, none⟩) n c) := by have h := depL hdeps 0 (by kernel_rfl) 38 (by kernel_rfl); exact h
          have e39 : A.eval (.tmp 39) = (.int .i64 (i : Nat)) := by have h := depL hdeps 1 (by kernel_rfl) 39 (by kernel_rfl); exact h
          refine ifw_none rfl ?_
          with_reducible refine shown_q (Value.pointer (some ⟨g, off + i * 2, none⟩)) ?qq_1_2 (fun _ _ => ?qr_1_2)
          case qr_1_2 => exact (rfl : (Value.pointer (some ⟨g, off + i * 2, none⟩)) = (Value.pointer (some ⟨g, off + i * 2, none⟩)))
          with_reducible refine quietAt_idx 110 (.tmp 38) (.tmp 39) (Value.slice (some ⟨g, off, none⟩) n c) (Value.int .i64 (i : Nat)) (Value.pointer (some ⟨g, off + i * 2, none⟩)) ?h0_1_2 ?h1_1_2 ?h2_1_2 ?h3_1_2
          case h0_1_2 => rfl
          case h1_1_2 => exact e38
          case h2_1_2 => exact e39
          case h3_1_2 => exact idx66 g off n c i hlt u
        · intro A u hu hpu hsz hout hdeps
          have e40 : A.eval (.tmp 40) = (.pointer (some ⟨g, off + i * 2, none⟩)) := by have h := depL hdeps 2 (by kernel_rfl) 40 (by kernel_rfl); exact h
          refine ifw_none rfl ?_
          with_reducible refine shown_q (Value.pointer (some ⟨g, off + i * 2, none⟩)) ?qq_1_3 (fun _ _ => ?qr_1_3)
          case qr_1_3 => exact (rfl : (Value.pointer (some ⟨g, off + i * 2, none⟩)) = (Value.pointer (some ⟨g, off + i * 2, none⟩)))
          with_reducible refine quietAt_field 117 (.tmp 40) 0 ?h0_1_3 ⟨g, off + i * 2, none⟩ ⟨g, off + i * 2, none⟩ ?h1_1_3 ?h2_1_3
          case h0_1_3 => rfl
          case h1_1_3 => exact e40
          case h2_1_3 => kernel_rfl
        · intro A u hu hpu hsz hout hdeps
          have e41 : A.eval (.tmp 41) = (.pointer (some ⟨g, off + i * 2, none⟩)) := by have h := depL hdeps 3 (by kernel_rfl) 41 (by kernel_rfl); exact h
          refine ifw_none rfl ?_
          with_reducible refine shown_q (Value.string s) ?qq_1_4 (fun _ _ => ?qr_1_4)
          case qr_1_4 => exact (rfl : (Value.string s) = (Value.string s))
          with_reducible refine quietAt_ld 9 (.tmp 41) (Value.pointer (some ⟨g, off + i * 2, none⟩)) (Value.string s) ?h0_1_4 ?h1_1_4 ?h2_1_4
          case h0_1_4 => rfl
          case h1_1_4 => exact e41
          case h2_1_4 => exact ld9 g (off + i * 2) s u (HCe.out u hu).1
        · intro A u hu hpu hsz hout hdeps
          have e42 : A.eval (.tmp 42) = (.string s) := by have h := depL hdeps 4 (by kernel_rfl) 42 (by kernel_rfl); exact h
          refine ifw_none rfl ?_
          with_reducible refine shown_call 42 Tryz.f42 ?h0_1_5 ?h1_1_5 ?h2_1_5 #[.tmp 42] #[9] ?h3_1_5 #[(Value.string s)] ?h4_1_5 ?h5_1_5
          case h0_1_5 => exact Tryz.func42
          case h1_1_5 => kernel_rfl
          case h2_1_5 => kernel_rfl
          case h3_1_5 => rfl
          case h4_1_5 => exact map1 _ _ _ e42
          case h5_1_5 => exact HNm.out u
        · intro A u hu hpu hsz hout hdeps
          have f43 : (fun v _ => v = Value.bool false) (A.eval (.tmp 43)) u := by have h := depL hdeps 5 (by kernel_rfl) 43 (by kernel_rfl); exact h
          have e43 := (f43 : _ = Value.bool false)
          refine ifw_none rfl ?_
          with_reducible refine shown_q (Value.bool true) ?qq_1_6 (fun _ _ => ?qr_1_6)
          case qr_1_6 => exact (rfl : (Value.bool true) = (Value.bool true))
          with_reducible refine quietAt_un .not 4 (.tmp 43) (Value.bool false) (Value.bool true) ?h0_1_6 ?h1_1_6 ?h2_1_6
          case h0_1_6 => rfl
          case h1_1_6 => exact e43
          case h2_1_6 => rfl
        · intro A u hu hpu hsz hout hdeps
          have e44 : A.eval (.tmp 44) = (.bool true) := by have h := depL hdeps 6 (by kernel_rfl) 44 (by kernel_rfl); exact h
          refine ifw_none rfl ?_
          with_reducible refine shown_q (Value.bool true) ?qq_1_7 (fun _ _ => ?qr_1_7)
          case qr_1_7 => exact (rfl : (Value.bool true) = (Value.bool true))
          with_reducible refine quietAt_mv (.tmp 44) (Value.bool true) ?h0_1_7 ?h1_1_7
          case h0_1_7 => rfl
          case h1_1_7 => exact e44
        · intro A u hu hpu hsz hout hdeps
          have e45 : A.eval (.tmp 45) = (.bool true) := by have h := depL hdeps 7 (by kernel_rfl) 45 (by kernel_rfl); exact h
          refine ifw_pass 7 false true 45 rfl rfl e45 (by decide) ?_
          exact rfl
        · intro A u hu hpu hsz hout hdeps
          have e45 : A.eval (.tmp 45) = (.bool true) := by have h := depL hdeps 7 (by kernel_rfl) 45 (by kernel_rfl); exact h
          refine ifw_none rfl ?_
          with_reducible refine shown_q (Value.bool true) ?qq_1_9 (fun _ _ => ?qr_1_9)
          case qr_1_9 => exact (rfl : (Value.bool true) = (Value.bool true))
          with_reducible refine quietAt_pick (.tmp 45) (.const (.bool true)) (.tmp 46) true (Value.bool true) ?h0_1_9 ?h1_1_9 ?h2_1_9
          case h0_1_9 => rfl
          case h1_1_9 => exact e45
          case h2_1_9 => rw [if_pos rfl]; exact rfl
        · intro A u hu hpu hsz hout hdeps
          have e47 : A.eval (.tmp 47) = (.bool true) := by have h := depL hdeps 9 (by kernel_rfl) 47 (by kernel_rfl); exact h
          refine ifw_none rfl ?_
          with_reducible refine shown_q (Value.bool true) ?qq_1_10 (fun _ _ => ?qr_1_10)
          case qr_1_10 => exact (rfl : (Value.bool true) = (Value.bool true))
          with_reducible refine quietAt_mv (.tmp 47) (Value.bool true) ?h0_1_10 ?h1_1_10
          case h0_1_10 => rfl
          case h1_1_10 => exact e47
        · intro A u hu hpu hsz hout hdeps
          have e48 : A.eval (.tmp 48) = (.bool true) := by have h := depL hdeps 10 (by kernel_rfl) 48 (by kernel_rfl); exact h
          refine ifw_pass 10 false true 48 rfl rfl e48 (by decide) ?_
          exact rfl
        · intro A u hu hpu hsz hout hdeps
          have e48 : A.eval (.tmp 48) = (.bool true) := by have h := depL hdeps 10 (by kernel_rfl) 48 (by kernel_rfl); exact h
          refine ifw_pass 10 false true 48 rfl rfl e48 (by decide) ?_
          exact rfl
        · intro A u hu hpu hsz hout hdeps
          have e48 : A.eval (.tmp 48) = (.bool true) := by have h := depL hdeps 10 (by kernel_rfl) 48 (by kernel_rfl); exact h
          refine ifw_pass 10 false true 48 rfl rfl e48 (by decide) ?_
          exact rfl
        · intro A u hu hpu hsz hout hdeps
          have e48 : A.eval (.tmp 48) = (.bool true) := by have h := depL hdeps 10 (by kernel_rfl) 48 (by kernel_rfl); exact h
          refine ifw_pass 10 false true 48 rfl rfl e48 (by decide) ?_
          exact rfl
        · intro A u hu hpu hsz hout hdeps
          have e48 : A.eval (.tmp 48) = (.bool true) := by have h := depL hdeps 10 (by kernel_rfl) 48 (by kernel_rfl); exact h
          refine ifw_pass 10 false true 48 rfl rfl e48 (by decide) ?_
          exact rfl
        · intro A u hu hpu hsz hout hdeps
          have e48 : A.eval (.tmp 48) = (.bool true) := by have h := depL hdeps 10 (by kernel_rfl) 48 (by kernel_rfl); exact h
          refine ifw_pass 10 false true 48 rfl rfl e48 (by decide) ?_
          exact rfl
        · intro A u hu hpu hsz hout hdeps
          have e48 : A.eval (.tmp 48) = (.bool true) := by have h := depL hdeps 10 (by kernel_rfl) 48 (by kernel_rfl); exact h
          refine ifw_pass 10 false true 48 rfl rfl e48 (by decide) ?_
          exact rfl
        · intro A u hu hpu hsz hout hdeps
          have e48 : A.eval (.tmp 48) = (.bool true) := by have h := depL hdeps 10 (by kernel_rfl) 48 (by kernel_rfl); exact h
          refine ifw_pass 10 false true 48 rfl rfl e48 (by decide) ?_
          exact rfl
        · intro A u hu hpu hsz hout hdeps
          have e48 : A.eval (.tmp 48) = (.bool true) := by have h := depL hdeps 10 (by kernel_rfl) 48 (by kernel_rfl); exact h
          refine ifw_pass 10 false true 48 rfl rfl e48 (by decide) ?_
          exact rfl
        · intro A u hu hpu hsz hout hdeps
          have e48 : A.eval (.tmp 48) = (.bool true) := by have h := depL hdeps 10 (by kernel_rfl) 48 (by kernel_rfl); exact h
          refine ifw_pass 10 false true 48 rfl rfl e48 (by decide) ?_
          exact rfl
        · intro A u hu hpu hsz hout hdeps
          have e48 : A.eval (.tmp 48) = (.bool true) := by have h := depL hdeps 10 (by kernel_rfl) 48 (by kernel_rfl); exact h
          refine ifw_pass 10 false true 48 rfl rfl e48 (by decide) ?_
          exact rfl
        · intro A u hu hpu hsz hout hdeps
          have e48 : A.eval (.tmp 48) = (.bool true) := by have h := depL hdeps 10 (by kernel_rfl) 48 (by kernel_rfl); exact h
          refine ifw_none rfl ?_
          with_reducible refine shown_q (Value.bool true) ?qq_1_22 (fun _ _ => ?qr_1_22)
          case qr_1_22 => exact (rfl : (Value.bool true) = (Value.bool true))
          with_reducible refine quietAt_pick (.tmp 48) (.const (.bool true)) (.tmp 59) true (Value.bool true) ?h0_1_22 ?h1_1_22 ?h2_1_22
          case h0_1_22 => rfl
          case h1_1_22 => exact e48
          case h2_1_22 => rw [if_pos rfl]; exact rfl
        · intro A u8 listed hh hall
          have hA := hh.frame
          have HU := hid hh.grown
          obtain ⟨x38, hx38⟩ : ∃ x, A.eval (.tmp 38) = x := ⟨_, rfl⟩
          have f38 : (fun v _ => v = (Value.slice (some ⟨g, off, none⟩) n c)) x38 u8 := by rw [← hx38]; exact hh.got 0 _ 38 rfl rfl (hall 0 (by decide))
          obtain ⟨x39, hx39⟩ : ∃ x, A.eval (.tmp 39) = x := ⟨_, rfl⟩
          have f39 : (fun v _ => v = (Value.int .i64 (i : Nat))) x39 u8 := by rw [← hx39]; exact hh.got 1 _ 39 rfl rfl (hall 1 (by decide))
          obtain ⟨x40, hx40⟩ : ∃ x, A.eval (.tmp 40) = x := ⟨_, rfl⟩
          have f40 : (fun v _ => v = (Value.pointer (some ⟨g, off + i * 2, none⟩))) x40 u8 := by rw [← hx40]; exact hh.got 2 _ 40 rfl rfl (hall 2 (by decide))
          obtain ⟨x41, hx41⟩ : ∃ x, A.eval (.tmp 41) = x := ⟨_, rfl⟩
          have f41 : (fun v _ => v = (Value.pointer (some ⟨g, off + i * 2, none⟩))) x41 u8 := by rw [← hx41]; exact hh.got 3 _ 41 rfl rfl (hall 3 (by decide))
          obtain ⟨x42, hx42⟩ : ∃ x, A.eval (.tmp 42) = x := ⟨_, rfl⟩
          have f42 : (fun v _ => v = (Value.string s)) x42 u8 := by rw [← hx42]; exact hh.got 4 _ 42 rfl rfl (hall 4 (by decide))
          obtain ⟨x43, hx43⟩ : ∃ x, A.eval (.tmp 43) = x := ⟨_, rfl⟩
          have f43 : (fun v _ => v = Value.bool false) x43 u8 := by rw [← hx43]; exact hh.got 5 _ 43 rfl rfl (hall 5 (by decide))
          obtain ⟨x44, hx44⟩ : ∃ x, A.eval (.tmp 44) = x := ⟨_, rfl⟩
          have f44 : (fun v _ => v = (Value.bool true)) x44 u8 := by rw [← hx44]; exact hh.got 6 _ 44 rfl rfl (hall 6 (by decide))
          obtain ⟨x45, hx45⟩ : ∃ x, A.eval (.tmp 45) = x := ⟨_, rfl⟩
          have f45 : (fun v _ => v = (Value.bool true)) x45 u8 := by rw [← hx45]; exact hh.got 7 _ 45 rfl rfl (hall 7 (by decide))
          obtain ⟨x46, hx46⟩ : ∃ x, A.eval (.tmp 46) = x := ⟨_, rfl⟩
          have f46 : (fun v _ => v = undef) x46 u8 := by rw [← hx46]; exact hh.got 8 _ 46 rfl rfl (hall 8 (by decide))
          obtain ⟨x47, hx47⟩ : ∃ x, A.eval (.tmp 47) = x := ⟨_, rfl⟩
          have f47 : (fun v _ => v = (Value.bool true)) x47 u8 := by rw [← hx47]; exact hh.got 9 _ 47 rfl rfl (hall 9 (by decide))
          obtain ⟨x48, hx48⟩ : ∃ x, A.eval (.tmp 48) = x := ⟨_, rfl⟩
          have f48 : (fun v _ => v = (Value.bool true)) x48 u8 := by rw [← hx48]; exact hh.got 10 _ 48 rfl rfl (hall 10 (by decide))
          obtain ⟨x49, hx49⟩ : ∃ x, A.eval (.tmp 49) = x := ⟨_, rfl⟩
          have f49 : (fun v _ => v = undef) x49 u8 := by rw [← hx49]; exact hh.got 11 _ 49 rfl rfl (hall 11 (by decide))
          obtain ⟨x50, hx50⟩ : ∃ x, A.eval (.tmp 50) = x := ⟨_, rfl⟩
          have f50 : (fun v _ => v = undef) x50 u8 := by rw [← hx50]; exact hh.got 12 _ 50 rfl rfl (hall 12 (by decide))
          obtain ⟨x51, hx51⟩ : ∃ x, A.eval (.tmp 51) = x := ⟨_, rfl⟩
          have f51 : (fun v _ => v = undef) x51 u8 := by rw [← hx51]; exact hh.got 13 _ 51 rfl rfl (hall 13 (by decide))
          obtain ⟨x52, hx52⟩ : ∃ x, A.eval (.tmp 52) = x := ⟨_, rfl⟩
          have f52 : (fun v _ => v = undef) x52 u8 := by rw [← hx52]; exact hh.got 14 _ 52 rfl rfl (hall 14 (by decide))
          obtain ⟨x53, hx53⟩ : ∃ x, A.eval (.tmp 53) = x := ⟨_, rfl⟩
          have f53 : (fun v _ => v = undef) x53 u8 := by rw [← hx53]; exact hh.got 15 _ 53 rfl rfl (hall 15 (by decide))
          obtain ⟨x54, hx54⟩ : ∃ x, A.eval (.tmp 54) = x := ⟨_, rfl⟩
          have f54 : (fun v _ => v = undef) x54 u8 := by rw [← hx54]; exact hh.got 16 _ 54 rfl rfl (hall 16 (by decide))
          obtain ⟨x55, hx55⟩ : ∃ x, A.eval (.tmp 55) = x := ⟨_, rfl⟩
          have f55 : (fun v _ => v = undef) x55 u8 := by rw [← hx55]; exact hh.got 17 _ 55 rfl rfl (hall 17 (by decide))
          obtain ⟨x56, hx56⟩ : ∃ x, A.eval (.tmp 56) = x := ⟨_, rfl⟩
          have f56 : (fun v _ => v = undef) x56 u8 := by rw [← hx56]; exact hh.got 18 _ 56 rfl rfl (hall 18 (by decide))
          obtain ⟨x57, hx57⟩ : ∃ x, A.eval (.tmp 57) = x := ⟨_, rfl⟩
          have f57 : (fun v _ => v = undef) x57 u8 := by rw [← hx57]; exact hh.got 19 _ 57 rfl rfl (hall 19 (by decide))
          obtain ⟨x58, hx58⟩ : ∃ x, A.eval (.tmp 58) = x := ⟨_, rfl⟩
          have f58 : (fun v _ => v = undef) x58 u8 := by rw [← hx58]; exact hh.got 20 _ 58 rfl rfl (hall 20 (by decide))
          obtain ⟨x59, hx59⟩ : ∃ x, A.eval (.tmp 59) = x := ⟨_, rfl⟩
          have f59 : (fun v _ => v = undef) x59 u8 := by rw [← hx59]; exact hh.got 21 _ 59 rfl rfl (hall 21 (by decide))
          obtain ⟨x60, hx60⟩ : ∃ x, A.eval (.tmp 60) = x := ⟨_, rfl⟩
          have f60 : (fun v _ => v = (Value.bool true)) x60 u8 := by rw [← hx60]; exact hh.got 22 _ 60 rfl rfl (hall 22 (by decide))
          dsimp only [wrote, List.foldl] at hA
          rw [hx38, hx39, hx40, hx41, hx42, hx43, hx44, hx45, hx46, hx47, hx48, hx49, hx50, hx51, hx52, hx53, hx54, hx55, hx56, hx57, hx58, hx59, hx60] at hA
          clear hh hall hx38 hx39 hx40 hx41 hx42 hx43 hx44 hx45 hx46 hx47 hx48 hx49 hx50 hx51 hx52 hx53 hx54 hx55 hx56 hx57 hx58 hx59 hx60
          replace f38 := (f38 : x38 = (.slice (some ⟨g, off, none⟩) n c))
          subst f38
          replace f39 := (f39 : x39 = (.int .i64 (i : Nat)))
          subst f39
          replace f40 := (f40 : x40 = (.pointer (some ⟨g, off + i * 2, none⟩)))
          subst f40
          replace f41 := (f41 : x41 = (.pointer (some ⟨g, off + i * 2, none⟩)))
          subst f41
          replace f42 := (f42 : x42 = (.string s))
          subst f42
          have e43 := (f43 : _ = Value.bool false)
          subst e43
          replace f44 := (f44 : x44 = (.bool true))
          subst f44
          replace f45 := (f45 : x45 = (.bool true))
          subst f45
          replace f46 := (f46 : x46 = undef)
          subst f46
          replace f47 := (f47 : x47 = (.bool true))
          subst f47
          replace f48 := (f48 : x48 = (.bool true))
          subst f48
          replace f49 := (f49 : x49 = undef)
          subst f49
          replace f50 := (f50 : x50 = undef)
          subst f50
          replace f51 := (f51 : x51 = undef)
          subst f51
          replace f52 := (f52 : x52 = undef)
          subst f52
          replace f53 := (f53 : x53 = undef)
          subst f53
          replace f54 := (f54 : x54 = undef)
          subst f54
          replace f55 := (f55 : x55 = undef)
          subst f55
          replace f56 := (f56 : x56 = undef)
          subst f56
          replace f57 := (f57 : x57 = undef)
          subst f57
          replace f58 := (f58 : x58 = undef)
          subst f58
          replace f59 := (f59 : x59 = undef)
          subst f59
          replace f60 := (f60 : x60 = (.bool true))
          subst f60
          subst hA
          show wpList _ _ _ [] _ _
          unfold wpList
          simp only [Act.put, List.setIfInBounds_toArray, List.set_cons_succ, List.set_cons_zero]
          go_wp2_with fail
          refine bodyPost_ret (results_tmp2 rfl _ _ _) rfl ?_
          exact ⟨gtrans HGw.out HU.out, .inl ⟨HBad.out (fun z => by cases z.1), rfl⟩⟩
      | true =>
        cases D with
        | true =>
          as_aux_lemma =>
          refine wp_region_listX (by kernel_rfl) [fun v _ => v = (Value.slice (some ⟨g, off, none⟩) n c), fun v _ => v = (Value.int .i64 (i : Nat)), fun v _ => v = (Value.pointer (some ⟨g, off + i * 2, none⟩)), fun v _ => v = (Value.pointer (some ⟨g, off + i * 2, none⟩)), fun v _ => v = (Value.string s), fun v _ => v = Value.bool true, fun v _ => v = (Value.bool false), fun v _ => v = (Value.bool false), fun v _ => v = (Value.bool true), fun v _ => v = (Value.bool true), fun v _ => v = (Value.bool true), fun v _ => v = undef, fun v _ => v = undef, fun v _ => v = undef, fun v _ => v = undef, fun v _ => v = undef, fun v _ => v = undef, fun v _ => v = undef, fun v _ => v = undef, fun v _ => v = undef, fun v _ => v = undef, fun v _ => v = undef, fun v _ => v = (Value.bool true)] (none) (fun _ => none) 23 (by kernel_rfl) (by kernel_rfl) (by kernel_rfl) (by kernel_rfl) (by decide) noRow_one (fun _ => .inl rfl) ⟨fun i v u u' hki h hg => h, fun i v u u' hki h hg => h, fun i v u u' hki h hg => h, fun i v u u' hki h hg => h, fun i v u u' hki h hg => h, fun i v u u' hki h hg => h, fun i v u u' hki h hg => h, fun i v u u' hki h hg => h, fun i v u u' hki h hg => h, fun i v u u' hki h hg => h, fun i v u u' hki h hg => h, fun i v u u' hki h hg => h, fun i v u u' hki h hg => h, fun i v u u' hki h hg => h, fun i v u u' hki h hg => h, fun i v u u' hki h hg => h, fun i v u u' hki h hg => h, fun i v u u' hki h hg => h, fun i v u u' hki h hg => h, fun i v u u' hki h hg => h, fun i v u u' hki h hg => h, fun i v u u' hki h hg => h, fun i v u u' hki h hg => h, trivial⟩ ⟨?_, ?_, ?_, ?_, ?_, ?_, ?_, ?_, ?_, ?_, ?_, ?_, ?_, ?_, ?_, ?_, ?_, ?_, ?_, ?_, ?_, ?_, ?_, trivial⟩ ?_
          · intro A u hu hpu hsz hout hdeps
            have e0 : A.eval (.tmp 0) = (.slice (some ⟨g, off, none⟩) n c) := (hout 0 (by kernel_rfl)).trans rfl
            refine ifw_none rfl ?_
            with_reducible refine shown_q (Value.slice (some ⟨g, off, none⟩) n c) ?qq_2_0 (fun _ _ => ?qr_2_0)
            case qr_2_0 => exact (rfl : (Value.slice (some ⟨g, off, none⟩) n c) = (Value.slice (some ⟨g, off, none⟩) n c))
            with_reducible refine quietAt_mv (.tmp 0) (Value.slice (some ⟨g, off, none⟩) n c) ?h0_2_0 ?h1_2_0
            case h0_2_0 => rfl
            case h1_2_0 => exact e0
          · intro A u hu hpu hsz hout hdeps
            have e7 : A.eval (.tmp 7) = (.int .i64 (i : Nat)) := (hout 7 (by kernel_rfl)).trans rfl
            refine ifw_none rfl ?_
            with_reducible refine shown_q (Value.int .i64 (i : Nat)) ?qq_2_1 (fun _ _ => ?qr_2_1)
            case qr_2_1 => exact (rfl : (Value.int .i64 (i : Nat)) = (Value.int .i64 (i : Nat)))
            with_reducible refine quietAt_mv (.tmp 7) (Value.int .i64 (i : Nat)) ?h0_2_1 ?h1_2_1
            case h0_2_1 => rfl
            case h1_2_1 => exact e7
          · intro A u hu hpu hsz hout hdeps
            have e38 : A.eval (.tmp 38) = (.slice (some ⟨g, off, none⟩) n c) := by have h := depL hdeps 0 (by kernel_rfl) 38 (by kernel_rfl); exact h
            have e39 : A.eval (.tmp 39) = (.int .i64 (i : Nat)) := by have h := depL hdeps 1 (by kernel_rfl) 39 (by kernel_rfl); exact h
            refine ifw_none rfl ?_
            with_reducible refine shown_q (Value.pointer (some ⟨g, off + i * 2, none⟩)) ?qq_2_2 (fun _ _ => ?qr_2_2)
            case qr_2_2 => exact (rfl : (Value.pointer (some ⟨g, off + i * 2, none⟩)) = (Value.pointer (some ⟨g, off + i * 2, none⟩)))
            with_reducible refine quietAt_idx 110 (.tmp 38) (.tmp 39) (Value.slice (some ⟨g, off, none⟩) n c) (Value.int .i64 (i : Nat)) (Value.pointer (some ⟨g, off + i * 2, none⟩)) ?h0_2_2 ?h1_2_2 ?h2_2_2 ?h3_2_2
            case h0_2_2 => rfl
            case h1_2_2 => exact e38
            case h2_2_2 => exact e39
            case h3_2_2 => exact idx66 g off n c i hlt u
          · intro A u hu hpu hsz hout hdeps
            have e40 : A.eval (.tmp 40) = (.pointer (some ⟨g, off + i * 2, none⟩)) := by have h := depL hdeps 2 (by kernel_rfl) 40 (by kernel_rfl); exact h
            refine ifw_none rfl ?_
            with_reducible refine shown_q (Value.pointer (some ⟨g, off + i * 2, none⟩)) ?qq_2_3 (fun _ _ => ?qr_2_3)
            case qr_2_3 => exact (rfl : (Value.pointer (some ⟨g, off + i * 2, none⟩)) = (Value.pointer (some ⟨g, off + i * 2, none⟩)))
            with_reducible refine quietAt_field 117 (.tmp 40) 0 ?h0_2_3 ⟨g, off + i * 2, none⟩ ⟨g, off + i * 2, none⟩ ?h1_2_3 ?h2_2_3
            case h0_2_3 => rfl
            case h1_2_3 => exact e40
            case h2_2_3 => kernel_rfl
          · intro A u hu hpu hsz hout hdeps
            have e41 : A.eval (.tmp 41) = (.pointer (some ⟨g, off + i * 2, none⟩)) := by have h := depL hdeps 3 (by kernel_rfl) 41 (by kernel_rfl); exact h
            refine ifw_none rfl ?_
            with_reducible refine shown_q (Value.string s) ?qq_2_4 (fun _ _ => ?qr_2_4)
            case qr_2_4 => exact (rfl : (Value.string s) = (Value.string s))
            with_reducible refine quietAt_ld 9 (.tmp 41) (Value.pointer (some ⟨g, off + i * 2, none⟩)) (Value.string s) ?h0_2_4 ?h1_2_4 ?h2_2_4
            case h0_2_4 => rfl
            case h1_2_4 => exact e41
            case h2_2_4 => exact ld9 g (off + i * 2) s u (HCe.out u hu).1
          · intro A u hu hpu hsz hout hdeps
            have e42 : A.eval (.tmp 42) = (.string s) := by have h := depL hdeps 4 (by kernel_rfl) 42 (by kernel_rfl); exact h
            refine ifw_none rfl ?_
            with_reducible refine shown_call 42 Tryz.f42 ?h0_2_5 ?h1_2_5 ?h2_2_5 #[.tmp 42] #[9] ?h3_2_5 #[(Value.string s)] ?h4_2_5 ?h5_2_5
            case h0_2_5 => exact Tryz.func42
            case h1_2_5 => kernel_rfl
            case h2_2_5 => kernel_rfl
            case h3_2_5 => rfl
            case h4_2_5 => exact map1 _ _ _ e42
            case h5_2_5 => exact HNm.out u
          · intro A u hu hpu hsz hout hdeps
            have f43 : (fun v _ => v = Value.bool true) (A.eval (.tmp 43)) u := by have h := depL hdeps 5 (by kernel_rfl) 43 (by kernel_rfl); exact h
            have e43 := (f43 : _ = Value.bool true)
            refine ifw_none rfl ?_
            with_reducible refine shown_q (Value.bool false) ?qq_2_6 (fun _ _ => ?qr_2_6)
            case qr_2_6 => exact (rfl : (Value.bool false) = (Value.bool false))
            with_reducible refine quietAt_un .not 4 (.tmp 43) (Value.bool true) (Value.bool false) ?h0_2_6 ?h1_2_6 ?h2_2_6
            case h0_2_6 => rfl
            case h1_2_6 => exact e43
            case h2_2_6 => rfl
          · intro A u hu hpu hsz hout hdeps
            have e44 : A.eval (.tmp 44) = (.bool false) := by have h := depL hdeps 6 (by kernel_rfl) 44 (by kernel_rfl); exact h
            refine ifw_none rfl ?_
            with_reducible refine shown_q (Value.bool false) ?qq_2_7 (fun _ _ => ?qr_2_7)
            case qr_2_7 => exact (rfl : (Value.bool false) = (Value.bool false))
            with_reducible refine quietAt_mv (.tmp 44) (Value.bool false) ?h0_2_7 ?h1_2_7
            case h0_2_7 => rfl
            case h1_2_7 => exact e44
          · intro A u hu hpu hsz hout hdeps
            have e45 : A.eval (.tmp 45) = (.bool false) := by have h := depL hdeps 7 (by kernel_rfl) 45 (by kernel_rfl); exact h
            have e9 : A.eval (.tmp 9) = (.bool true) := (hout 9 (by kernel_rfl)).trans rfl
            refine ifw_want 7 false 45 rfl rfl e45 ?_
            with_reducible refine shown_q (Value.bool true) ?qq_2_8 (fun _ _ => ?qr_2_8)
            case qr_2_8 => exact (rfl : (Value.bool true) = (Value.bool true))
            with_reducible refine quietAt_mv (.tmp 9) (Value.bool true) ?h0_2_8 ?h1_2_8
            case h0_2_8 => rfl
            case h1_2_8 => exact e9
          · intro A u hu hpu hsz hout hdeps
            have e45 : A.eval (.tmp 45) = (.bool false) := by have h := depL hdeps 7 (by kernel_rfl) 45 (by kernel_rfl); exact h
            have e46 : A.eval (.tmp 46) = (.bool true) := by have h := depL hdeps 8 (by kernel_rfl) 46 (by kernel_rfl); exact h
            refine ifw_none rfl ?_
            with_reducible refine shown_q (Value.bool true) ?qq_2_9 (fun _ _ => ?qr_2_9)
            case qr_2_9 => exact (rfl : (Value.bool true) = (Value.bool true))
            with_reducible refine quietAt_pick (.tmp 45) (.const (.bool true)) (.tmp 46) false (Value.bool true) ?h0_2_9 ?h1_2_9 ?h2_2_9
            case h0_2_9 => rfl
            case h1_2_9 => exact e45
            case h2_2_9 => rw [if_neg (by decide)]; exact e46
          · intro A u hu hpu hsz hout hdeps
            have e47 : A.eval (.tmp 47) = (.bool true) := by have h := depL hdeps 9 (by kernel_rfl) 47 (by kernel_rfl); exact h
            refine ifw_none rfl ?_
            with_reducible refine shown_q (Value.bool true) ?qq_2_10 (fun _ _ => ?qr_2_10)
            case qr_2_10 => exact (rfl : (Value.bool true) = (Value.bool true))
            with_reducible refine quietAt_mv (.tmp 47) (Value.bool true) ?h0_2_10 ?h1_2_10
            case h0_2_10 => rfl
            case h1_2_10 => exact e47
          · intro A u hu hpu hsz hout hdeps
            have e48 : A.eval (.tmp 48) = (.bool true) := by have h := depL hdeps 10 (by kernel_rfl) 48 (by kernel_rfl); exact h
            refine ifw_pass 10 false true 48 rfl rfl e48 (by decide) ?_
            exact rfl
          · intro A u hu hpu hsz hout hdeps
            have e48 : A.eval (.tmp 48) = (.bool true) := by have h := depL hdeps 10 (by kernel_rfl) 48 (by kernel_rfl); exact h
            refine ifw_pass 10 false true 48 rfl rfl e48 (by decide) ?_
            exact rfl
          · intro A u hu hpu hsz hout hdeps
            have e48 : A.eval (.tmp 48) = (.bool true) := by have h := depL hdeps 10 (by kernel_rfl) 48 (by kernel_rfl); exact h
            refine ifw_pass 10 false true 48 rfl rfl e48 (by decide) ?_
            exact rfl
          · intro A u hu hpu hsz hout hdeps
            have e48 : A.eval (.tmp 48) = (.bool true) := by have h := depL hdeps 10 (by kernel_rfl) 48 (by kernel_rfl); exact h
            refine ifw_pass 10 false true 48 rfl rfl e48 (by decide) ?_
            exact rfl
          · intro A u hu hpu hsz hout hdeps
            have e48 : A.eval (.tmp 48) = (.bool true) := by have h := depL hdeps 10 (by kernel_rfl) 48 (by kernel_rfl); exact h
            refine ifw_pass 10 false true 48 rfl rfl e48 (by decide) ?_
            exact rfl
          · intro A u hu hpu hsz hout hdeps
            have e48 : A.eval (.tmp 48) = (.bool true) := by have h := depL hdeps 10 (by kernel_rfl) 48 (by kernel_rfl); exact h
            refine ifw_pass 10 false true 48 rfl rfl e48 (by decide) ?_
            exact rfl
          · intro A u hu hpu hsz hout hdeps
            have e48 : A.eval (.tmp 48) = (.bool true) := by have h := depL hdeps 10 (by kernel_rfl) 48 (by kernel_rfl); exact h
            refine ifw_pass 10 false true 48 rfl rfl e48 (by decide) ?_
            exact rfl
          · intro A u hu hpu hsz hout hdeps
            have e48 : A.eval (.tmp 48) = (.bool true) := by have h := depL hdeps 10 (by kernel_rfl) 48 (by kernel_rfl); exact h
            refine ifw_pass 10 false true 48 rfl rfl e48 (by decide) ?_
            exact rfl
          · intro A u hu hpu hsz hout hdeps
            have e48 : A.eval (.tmp 48) = (.bool true) := by have h := depL hdeps 10 (by kernel_rfl) 48 (by kernel_rfl); exact h
            refine ifw_pass 10 false true 48 rfl rfl e48 (by decide) ?_
            exact rfl
          · intro A u hu hpu hsz hout hdeps
            have e48 : A.eval (.tmp 48) = (.bool true) := by have h := depL hdeps 10 (by kernel_rfl) 48 (by kernel_rfl); exact h
            refine ifw_pass 10 false true 48 rfl rfl e48 (by decide) ?_
            exact rfl
          · intro A u hu hpu hsz hout hdeps
            have e48 : A.eval (.tmp 48) = (.bool true) := by have h := depL hdeps 10 (by kernel_rfl) 48 (by kernel_rfl); exact h
            refine ifw_pass 10 false true 48 rfl rfl e48 (by decide) ?_
            exact rfl
          · intro A u hu hpu hsz hout hdeps
            have e48 : A.eval (.tmp 48) = (.bool true) := by have h := depL hdeps 10 (by kernel_rfl) 48 (by kernel_rfl); exact h
            refine ifw_none rfl ?_
            with_reducible refine shown_q (Value.bool true) ?qq_2_22 (fun _ _ => ?qr_2_22)
            case qr_2_22 => exact (rfl : (Value.bool true) = (Value.bool true))
            with_reducible refine quietAt_pick (.tmp 48) (.const (.bool true)) (.tmp 59) true (Value.bool true) ?h0_2_22 ?h1_2_22 ?h2_2_22
            case h0_2_22 => rfl
            case h1_2_22 => exact e48
            case h2_2_22 => rw [if_pos rfl]; exact rfl
          · intro A u8 listed hh hall
            have hA := hh.frame
            have HU := hid hh.grown
            obtain ⟨x38, hx38⟩ : ∃ x, A.eval (.tmp 38) = x := ⟨_, rfl⟩
            have f38 : (fun v _ => v = (Value.slice (some ⟨g, off, none⟩) n c)) x38 u8 := by rw [← hx38]; exact hh.got 0 _ 38 rfl rfl (hall 0 (by decide))
            obtain ⟨x39, hx39⟩ : ∃ x, A.eval (.tmp 39) = x := ⟨_, rfl⟩
            have f39 : (fun v _ => v = (Value.int .i64 (i : Nat))) x39 u8 := by rw [← hx39]; exact hh.got 1 _ 39 rfl rfl (hall 1 (by decide))
            obtain ⟨x40, hx40⟩ : ∃ x, A.eval (.tmp 40) = x := ⟨_, rfl⟩
            have f40 : (fun v _ => v = (Value.pointer (some ⟨g, off + i * 2, none⟩))) x40 u8 := by rw [← hx40]; exact hh.got 2 _ 40 rfl rfl (hall 2 (by decide))
            obtain ⟨x41, hx41⟩ : ∃ x, A.eval (.tmp 41) = x := ⟨_, rfl⟩
            have f41 : (fun v _ => v = (Value.pointer (some ⟨g, off + i * 2, none⟩))) x41 u8 := by rw [← hx41]; exact hh.got 3 _ 41 rfl rfl (hall 3 (by decide))
            obtain ⟨x42, hx42⟩ : ∃ x, A.eval (.tmp 42) = x := ⟨_, rfl⟩
            have f42 : (fun v _ => v = (Value.string s)) x42 u8 := by rw [← hx42]; exact hh.got 4 _ 42 rfl rfl (hall 4 (by decide))
            obtain ⟨x43, hx43⟩ : ∃ x, A.eval (.tmp 43) = x := ⟨_, rfl⟩
            have f43 : (fun v _ => v = Value.bool true) x43 u8 := by rw [← hx43]; exact hh.got 5 _ 43 rfl rfl (hall 5 (by decide))
            obtain ⟨x44, hx44⟩ : ∃ x, A.eval (.tmp 44) = x := ⟨_, rfl⟩
            have f44 : (fun v _ => v = (Value.bool false)) x44 u8 := by rw [← hx44]; exact hh.got 6 _ 44 rfl rfl (hall 6 (by decide))
            obtain ⟨x45, hx45⟩ : ∃ x, A.eval (.tmp 45) = x := ⟨_, rfl⟩
            have f45 : (fun v _ => v = (Value.bool false)) x45 u8 := by rw [← hx45]; exact hh.got 7 _ 45 rfl rfl (hall 7 (by decide))
            obtain ⟨x46, hx46⟩ : ∃ x, A.eval (.tmp 46) = x := ⟨_, rfl⟩
            have f46 : (fun v _ => v = (Value.bool true)) x46 u8 := by rw [← hx46]; exact hh.got 8 _ 46 rfl rfl (hall 8 (by decide))
            obtain ⟨x47, hx47⟩ : ∃ x, A.eval (.tmp 47) = x := ⟨_, rfl⟩
            have f47 : (fun v _ => v = (Value.bool true)) x47 u8 := by rw [← hx47]; exact hh.got 9 _ 47 rfl rfl (hall 9 (by decide))
            obtain ⟨x48, hx48⟩ : ∃ x, A.eval (.tmp 48) = x := ⟨_, rfl⟩
            have f48 : (fun v _ => v = (Value.bool true)) x48 u8 := by rw [← hx48]; exact hh.got 10 _ 48 rfl rfl (hall 10 (by decide))
            obtain ⟨x49, hx49⟩ : ∃ x, A.eval (.tmp 49) = x := ⟨_, rfl⟩
            have f49 : (fun v _ => v = undef) x49 u8 := by rw [← hx49]; exact hh.got 11 _ 49 rfl rfl (hall 11 (by decide))
            obtain ⟨x50, hx50⟩ : ∃ x, A.eval (.tmp 50) = x := ⟨_, rfl⟩
            have f50 : (fun v _ => v = undef) x50 u8 := by rw [← hx50]; exact hh.got 12 _ 50 rfl rfl (hall 12 (by decide))
            obtain ⟨x51, hx51⟩ : ∃ x, A.eval (.tmp 51) = x := ⟨_, rfl⟩
            have f51 : (fun v _ => v = undef) x51 u8 := by rw [← hx51]; exact hh.got 13 _ 51 rfl rfl (hall 13 (by decide))
            obtain ⟨x52, hx52⟩ : ∃ x, A.eval (.tmp 52) = x := ⟨_, rfl⟩
            have f52 : (fun v _ => v = undef) x52 u8 := by rw [← hx52]; exact hh.got 14 _ 52 rfl rfl (hall 14 (by decide))
            obtain ⟨x53, hx53⟩ : ∃ x, A.eval (.tmp 53) = x := ⟨_, rfl⟩
            have f53 : (fun v _ => v = undef) x53 u8 := by rw [← hx53]; exact hh.got 15 _ 53 rfl rfl (hall 15 (by decide))
            obtain ⟨x54, hx54⟩ : ∃ x, A.eval (.tmp 54) = x := ⟨_, rfl⟩
            have f54 : (fun v _ => v = undef) x54 u8 := by rw [← hx54]; exact hh.got 16 _ 54 rfl rfl (hall 16 (by decide))
            obtain ⟨x55, hx55⟩ : ∃ x, A.eval (.tmp 55) = x := ⟨_, rfl⟩
            have f55 : (fun v _ => v = undef) x55 u8 := by rw [← hx55]; exact hh.got 17 _ 55 rfl rfl (hall 17 (by decide))
            obtain ⟨x56, hx56⟩ : ∃ x, A.eval (.tmp 56) = x := ⟨_, rfl⟩
            have f56 : (fun v _ => v = undef) x56 u8 := by rw [← hx56]; exact hh.got 18 _ 56 rfl rfl (hall 18 (by decide))
            obtain ⟨x57, hx57⟩ : ∃ x, A.eval (.tmp 57) = x := ⟨_, rfl⟩
            have f57 : (fun v _ => v = undef) x57 u8 := by rw [← hx57]; exact hh.got 19 _ 57 rfl rfl (hall 19 (by decide))
            obtain ⟨x58, hx58⟩ : ∃ x, A.eval (.tmp 58) = x := ⟨_, rfl⟩
            have f58 : (fun v _ => v = undef) x58 u8 := by rw [← hx58]; exact hh.got 20 _ 58 rfl rfl (hall 20 (by decide))
            obtain ⟨x59, hx59⟩ : ∃ x, A.eval (.tmp 59) = x := ⟨_, rfl⟩
            have f59 : (fun v _ => v = undef) x59 u8 := by rw [← hx59]; exact hh.got 21 _ 59 rfl rfl (hall 21 (by decide))
            obtain ⟨x60, hx60⟩ : ∃ x, A.eval (.tmp 60) = x := ⟨_, rfl⟩
            have f60 : (fun v _ => v = (Value.bool true)) x60 u8 := by rw [← hx60]; exact hh.got 22 _ 60 rfl rfl (hall 22 (by decide))
            dsimp only [wrote, List.foldl] at hA
            rw [hx38, hx39, hx40, hx41, hx42, hx43, hx44, hx45, hx46, hx47, hx48, hx49, hx50, hx51, hx52, hx53, hx54, hx55, hx56, hx57, hx58, hx59, hx60] at hA
            clear hh hall hx38 hx39 hx40 hx41 hx42 hx43 hx44 hx45 hx46 hx47 hx48 hx49 hx50 hx51 hx52 hx53 hx54 hx55 hx56 hx57 hx58 hx59 hx60
            replace f38 := (f38 : x38 = (.slice (some ⟨g, off, none⟩) n c))
            subst f38
            replace f39 := (f39 : x39 = (.int .i64 (i : Nat)))
            subst f39
            replace f40 := (f40 : x40 = (.pointer (some ⟨g, off + i * 2, none⟩)))
            subst f40
            replace f41 := (f41 : x41 = (.pointer (some ⟨g, off + i * 2, none⟩)))
            subst f41
            replace f42 := (f42 : x42 = (.string s))
            subst f42
            have e43 := (f43 : _ = Value.bool true)
            subst e43
            replace f44 := (f44 : x44 = (.bool false))
            subst f44
            replace f45 := (f45 : x45 = (.bool false))
            subst f45
            replace f46 := (f46 : x46 = (.bool true))
            subst f46
            replace f47 := (f47 : x47 = (.bool true))
            subst f47
            replace f48 := (f48 : x48 = (.bool true))
            subst f48
            replace f49 := (f49 : x49 = undef)
            subst f49
            replace f50 := (f50 : x50 = undef)
            subst f50
            replace f51 := (f51 : x51 = undef)
            subst f51
            replace f52 := (f52 : x52 = undef)
            subst f52
            replace f53 := (f53 : x53 = undef)
            subst f53
            replace f54 := (f54 : x54 = undef)
            subst f54
            replace f55 := (f55 : x55 = undef)
            subst f55
            replace f56 := (f56 : x56 = undef)
            subst f56
            replace f57 := (f57 : x57 = undef)
            subst f57
            replace f58 := (f58 : x58 = undef)
            subst f58
            replace f59 := (f59 : x59 = undef)
            subst f59
            replace f60 := (f60 : x60 = (.bool true))
            subst f60
            subst hA
            show wpList _ _ _ [] _ _
            unfold wpList
            simp only [Act.put, List.setIfInBounds_toArray, List.set_cons_succ, List.set_cons_zero]
            go_wp2_with fail
            refine bodyPost_ret (results_tmp2 rfl _ _ _) rfl ?_
            exact ⟨gtrans HGw.out HU.out, .inl ⟨HBad.out (fun z => by cases z.2.1), rfl⟩⟩
        | false =>
          by_cases hov : (bn : Int) ≤ room - (us : Int)
          · as_aux_lemma =>
            have HLay := hid (HLay0.out rfl rfl hov)
            have HGt : Hid (∀ (x y : Operand) (u : World), (do eqGuard .gtr 3 x y (.int .i64 (bn : Nat)) (.int .i64 (room - (us : Int))); binOp .gtr 3 (.int .i64 (bn : Nat)) (.int .i64 (room - (us : Int))) : Sem Value).run Tryz.prog u = .ok (.bool false) u) := hid (fun x y u => by
              have e : ¬ (room - (us : Int)) < (bn : Int) := by omega
              go_simp)
            refine wp_region_listX (by kernel_rfl) [fun v _ => v = (Value.slice (some ⟨g, off, none⟩) n c), fun v _ => v = (Value.int .i64 (i : Nat)), fun v _ => v = (Value.pointer (some ⟨g, off + i * 2, none⟩)), fun v _ => v = (Value.pointer (some ⟨g, off + i * 2, none⟩)), fun v _ => v = (Value.string s), fun v _ => v = Value.bool true, fun v _ => v = (Value.bool false), fun v _ => v = (Value.bool false), fun v _ => v = (Value.bool false), fun v _ => v = (Value.bool false), fun v _ => v = (Value.bool false), fun v _ => v = (Value.slice (some ⟨g, off, none⟩) n c), fun v _ => v = (Value.int .i64 (i : Nat)), fun v _ => v = (Value.pointer (some ⟨g, off + i * 2, none⟩)), fun v _ => v = (Value.pointer (some ⟨g, off + i * 2 + 1, none⟩)), fun v _ => v = (Value.slice ba bn bc), fun v _ => v = (Value.int .i64 (bn : Nat)), fun v _ => v = (Value.int .i64 room), fun v _ => v = (Value.pointer (some ⟨bd, 0, none⟩)), fun v _ => v = Value.int .i64 (us : Nat), fun v _ => v = (Value.int .i64 (room - (us : Int))), fun v _ => v = (Value.bool false), fun v _ => v = (Value.bool false)] (none) (fun _ => none) 23 (by kernel_rfl) (by kernel_rfl) (by kernel_rfl) (by kernel_rfl) (by decide) noRow_one (fun _ => .inl rfl) ⟨fun i v u u' hki h hg => h, fun i v u u' hki h hg => h, fun i v u u' hki h hg => h, fun i v u u' hki h hg => h, fun i v u u' hki h hg => h, fun i v u u' hki h hg => h, fun i v u u' hki h hg => h, fun i v u u' hki h hg => h, fun i v u u' hki h hg => h, fun i v u u' hki h hg => h, fun i v u u' hki h hg => h, fun i v u u' hki h hg => h, fun i v u u' hki h hg => h, fun i v u u' hki h hg => h, fun i v u u' hki h hg => h, fun i v u u' hki h hg => h, fun i v u u' hki h hg => h, fun i v u u' hki h hg => h, fun i v u u' hki h hg => h, fun i v u u' hki h hg => h, fun i v u u' hki h hg => h, fun i v u u' hki h hg => h, fun i v u u' hki h hg => h, trivial⟩ ⟨?_, ?_, ?_, ?_, ?_, ?_, ?_, ?_, ?_, ?_, ?_, ?_, ?_, ?_, ?_, ?_, ?_, ?_, ?_, ?_, ?_, ?_, ?_, trivial⟩ ?_
            · intro A u hu hpu hsz hout hdeps
              have e0 : A.eval (.tmp 0) = (.slice (some ⟨g, off, none⟩) n c) := (hout 0 (by kernel_rfl)).trans rfl
              refine ifw_none rfl ?_
              with_reducible refine shown_q (Value.slice (some ⟨g, off, none⟩) n c) ?qq_4_0 (fun _ _ => ?qr_4_0)
              case qr_4_0 => exact (rfl : (Value.slice (some ⟨g, off, none⟩) n c) = (Value.slice (some ⟨g, off, none⟩) n c))
              with_reducible refine quietAt_mv (.tmp 0) (Value.slice (some ⟨g, off, none⟩) n c) ?h0_4_0 ?h1_4_0
              case h0_4_0 => rfl
              case h1_4_0 => exact e0
            · intro A u hu hpu hsz hout hdeps
              have e7 : A.eval (.tmp 7) = (.int .i64 (i : Nat)) := (hout 7 (by kernel_rfl)).trans rfl
              refine ifw_none rfl ?_
              with_reducible refine shown_q (Value.int .i64 (i : Nat)) ?qq_4_1 (fun _ _ => ?qr_4_1)
              case qr_4_1 => exact (rfl : (Value.int .i64 (i : Nat)) = (Value.int .i64 (i : Nat)))
              with_reducible refine quietAt_mv (.tmp 7) (Value.int .i64 (i : Nat)) ?h0_4_1 ?h1_4_1
              case h0_4_1 => rfl
              case h1_4_1 => exact e7
            · intro A u hu hpu hsz hout hdeps
              have e38 : A.eval (.tmp 38) = (.slice (some ⟨g, off, none⟩) n c) := by have h := depL hdeps 0 (by kernel_rfl) 38 (by kernel_rfl); exact h
              have e39 : A.eval (.tmp 39) = (.int .i64 (i : Nat)) := by have h := depL hdeps 1 (by kernel_rfl) 39 (by kernel_rfl); exact h
              refine ifw_none rfl ?_
              with_reducible refine shown_q (Value.pointer (some ⟨g, off + i * 2, none⟩)) ?qq_4_2 (fun _ _ => ?qr_4_2)
              case qr_4_2 => exact (rfl : (Value.pointer (some ⟨g, off + i * 2, none⟩)) = (Value.pointer (some ⟨g, off + i * 2, none⟩)))
              with_reducible refine quietAt_idx 110 (.tmp 38) (.tmp 39) (Value.slice (some ⟨g, off, none⟩) n c) (Value.int .i64 (i : Nat)) (Value.pointer (some ⟨g, off + i * 2, none⟩)) ?h0_4_2 ?h1_4_2 ?h2_4_2 ?h3_4_2
              case h0_4_2 => rfl
              case h1_4_2 => exact e38
              case h2_4_2 => exact e39
              case h3_4_2 => exact idx66 g off n c i hlt u
            · intro A u hu hpu hsz hout hdeps
              have e40 : A.eval (.tmp 40) = (.pointer (some ⟨g, off + i * 2, none⟩)) := by have h := depL hdeps 2 (by kernel_rfl) 40 (by kernel_rfl); exact h
              refine ifw_none rfl ?_
              with_reducible refine shown_q (Value.pointer (some ⟨g, off + i * 2, none⟩)) ?qq_4_3 (fun _ _ => ?qr_4_3)
              case qr_4_3 => exact (rfl : (Value.pointer (some ⟨g, off + i * 2, none⟩)) = (Value.pointer (some ⟨g, off + i * 2, none⟩)))
              with_reducible refine quietAt_field 117 (.tmp 40) 0 ?h0_4_3 ⟨g, off + i * 2, none⟩ ⟨g, off + i * 2, none⟩ ?h1_4_3 ?h2_4_3
              case h0_4_3 => rfl
              case h1_4_3 => exact e40
              case h2_4_3 => kernel_rfl
            · intro A u hu hpu hsz hout hdeps
              have e41 : A.eval (.tmp 41) = (.pointer (some ⟨g, off + i * 2, none⟩)) := by have h := depL hdeps 3 (by kernel_rfl) 41 (by kernel_rfl); exact h
              refine ifw_none rfl ?_
              with_reducible refine shown_q (Value.string s) ?qq_4_4 (fun _ _ => ?qr_4_4)
              case qr_4_4 => exact (rfl : (Value.string s) = (Value.string s))
              with_reducible refine quietAt_ld 9 (.tmp 41) (Value.pointer (some ⟨g, off + i * 2, none⟩)) (Value.string s) ?h0_4_4 ?h1_4_4 ?h2_4_4
              case h0_4_4 => rfl
              case h1_4_4 => exact e41
              case h2_4_4 => exact ld9 g (off + i * 2) s u (HCe.out u hu).1
            · intro A u hu hpu hsz hout hdeps
              have e42 : A.eval (.tmp 42) = (.string s) := by have h := depL hdeps 4 (by kernel_rfl) 42 (by kernel_rfl); exact h
              refine ifw_none rfl ?_
              with_reducible refine shown_call 42 Tryz.f42 ?h0_4_5 ?h1_4_5 ?h2_4_5 #[.tmp 42] #[9] ?h3_4_5 #[(Value.string s)] ?h4_4_5 ?h5_4_5
              case h0_4_5 => exact Tryz.func42
              case h1_4_5 => kernel_rfl
              case h2_4_5 => kernel_rfl
              case h3_4_5 => rfl
              case h4_4_5 => exact map1 _ _ _ e42
              case h5_4_5 => exact HNm.out u
            · intro A u hu hpu hsz hout hdeps
              have f43 : (fun v _ => v = Value.bool true) (A.eval (.tmp 43)) u := by have h := depL hdeps 5 (by kernel_rfl) 43 (by kernel_rfl); exact h
              have e43 := (f43 : _ = Value.bool true)
              refine ifw_none rfl ?_
              with_reducible refine shown_q (Value.bool false) ?qq_4_6 (fun _ _ => ?qr_4_6)
              case qr_4_6 => exact (rfl : (Value.bool false) = (Value.bool false))
              with_reducible refine quietAt_un .not 4 (.tmp 43) (Value.bool true) (Value.bool false) ?h0_4_6 ?h1_4_6 ?h2_4_6
              case h0_4_6 => rfl
              case h1_4_6 => exact e43
              case h2_4_6 => rfl
            · intro A u hu hpu hsz hout hdeps
              have e44 : A.eval (.tmp 44) = (.bool false) := by have h := depL hdeps 6 (by kernel_rfl) 44 (by kernel_rfl); exact h
              refine ifw_none rfl ?_
              with_reducible refine shown_q (Value.bool false) ?qq_4_7 (fun _ _ => ?qr_4_7)
              case qr_4_7 => exact (rfl : (Value.bool false) = (Value.bool false))
              with_reducible refine quietAt_mv (.tmp 44) (Value.bool false) ?h0_4_7 ?h1_4_7
              case h0_4_7 => rfl
              case h1_4_7 => exact e44
            · intro A u hu hpu hsz hout hdeps
              have e45 : A.eval (.tmp 45) = (.bool false) := by have h := depL hdeps 7 (by kernel_rfl) 45 (by kernel_rfl); exact h
              have e9 : A.eval (.tmp 9) = (.bool false) := (hout 9 (by kernel_rfl)).trans rfl
              refine ifw_want 7 false 45 rfl rfl e45 ?_
              with_reducible refine shown_q (Value.bool false) ?qq_4_8 (fun _ _ => ?qr_4_8)
              case qr_4_8 => exact (rfl : (Value.bool false) = (Value.bool false))
              with_reducible refine quietAt_mv (.tmp 9) (Value.bool false) ?h0_4_8 ?h1_4_8
              case h0_4_8 => rfl
              case h1_4_8 => exact e9
            · intro A u hu hpu hsz hout hdeps
              have e45 : A.eval (.tmp 45) = (.bool false) := by have h := depL hdeps 7 (by kernel_rfl) 45 (by kernel_rfl); exact h
              have e46 : A.eval (.tmp 46) = (.bool false) := by have h := depL hdeps 8 (by kernel_rfl) 46 (by kernel_rfl); exact h
              refine ifw_none rfl ?_
              with_reducible refine shown_q (Value.bool false) ?qq_4_9 (fun _ _ => ?qr_4_9)
              case qr_4_9 => exact (rfl : (Value.bool false) = (Value.bool false))
              with_reducible refine quietAt_pick (.tmp 45) (.const (.bool true)) (.tmp 46) false (Value.bool false) ?h0_4_9 ?h1_4_9 ?h2_4_9
              case h0_4_9 => rfl
              case h1_4_9 => exact e45
              case h2_4_9 => rw [if_neg (by decide)]; exact e46
            · intro A u hu hpu hsz hout hdeps
              have e47 : A.eval (.tmp 47) = (.bool false) := by have h := depL hdeps 9 (by kernel_rfl) 47 (by kernel_rfl); exact h
              refine ifw_none rfl ?_
              with_reducible refine shown_q (Value.bool false) ?qq_4_10 (fun _ _ => ?qr_4_10)
              case qr_4_10 => exact (rfl : (Value.bool false) = (Value.bool false))
              with_reducible refine quietAt_mv (.tmp 47) (Value.bool false) ?h0_4_10 ?h1_4_10
              case h0_4_10 => rfl
              case h1_4_10 => exact e47
            · intro A u hu hpu hsz hout hdeps
              have e48 : A.eval (.tmp 48) = (.bool false) := by have h := depL hdeps 10 (by kernel_rfl) 48 (by kernel_rfl); exact h
              have e0 : A.eval (.tmp 0) = (.slice (some ⟨g, off, none⟩) n c) := (hout 0 (by kernel_rfl)).trans rfl
              refine ifw_want 10 false 48 rfl rfl e48 ?_
              with_reducible refine shown_q (Value.slice (some ⟨g, off, none⟩) n c) ?qq_4_11 (fun _ _ => ?qr_4_11)
              case qr_4_11 => exact (rfl : (Value.slice (some ⟨g, off, none⟩) n c) = (Value.slice (some ⟨g, off, none⟩) n c))
              with_reducible refine quietAt_mv (.tmp 0) (Value.slice (some ⟨g, off, none⟩) n c) ?h0_4_11 ?h1_4_11
              case h0_4_11 => rfl
              case h1_4_11 => exact e0
            · intro A u hu hpu hsz hout hdeps
              have e48 : A.eval (.tmp 48) = (.bool false) := by have h := depL hdeps 10 (by kernel_rfl) 48 (by kernel_rfl); exact h
              have e7 : A.eval (.tmp 7) = (.int .i64 (i : Nat)) := (hout 7 (by kernel_rfl)).trans rfl
              refine ifw_want 10 false 48 rfl rfl e48 ?_
              with_reducible refine shown_q (Value.int .i64 (i : Nat)) ?qq_4_12 (fun _ _ => ?qr_4_12)
              case qr_4_12 => exact (rfl : (Value.int .i64 (i : Nat)) = (Value.int .i64 (i : Nat)))
              with_reducible refine quietAt_mv (.tmp 7) (Value.int .i64 (i : Nat)) ?h0_4_12 ?h1_4_12
              case h0_4_12 => rfl
              case h1_4_12 => exact e7
            · intro A u hu hpu hsz hout hdeps
              have e48 : A.eval (.tmp 48) = (.bool false) := by have h := depL hdeps 10 (by kernel_rfl) 48 (by kernel_rfl); exact h
              have e49 : A.eval (.tmp 49) = (.slice (some ⟨g, off, none⟩) n c) := by have h := depL hdeps 11 (by kernel_rfl) 49 (by kernel_rfl); exact h
              have e50 : A.eval (.tmp 50) = (.int .i64 (i : Nat)) := by have h := depL hdeps 12 (by kernel_rfl) 50 (by kernel_rfl); exact h
              refine ifw_want 10 false 48 rfl rfl e48 ?_
              with_reducible refine shown_q (Value.pointer (some ⟨g, off + i * 2, none⟩)) ?qq_4_13 (fun _ _ => ?qr_4_13)
              case qr_4_13 => exact (rfl : (Value.pointer (some ⟨g, off + i * 2, none⟩)) = (Value.pointer (some ⟨g, off + i * 2, none⟩)))
              with_reducible refine quietAt_idx 110 (.tmp 49) (.tmp 50) (Value.slice (some ⟨g, off, none⟩) n c) (Value.int .i64 (i : Nat)) (Value.pointer (some ⟨g, off + i * 2, none⟩)) ?h0_4_13 ?h1_4_13 ?h2_4_13 ?h3_4_13
              case h0_4_13 => rfl
              case h1_4_13 => exact e49
              case h2_4_13 => exact e50
              case h3_4_13 => exact idx66 g off n c i hlt u
            · intro A u hu hpu hsz hout hdeps
              have e48 : A.eval (.tmp 48) = (.bool false) := by have h := depL hdeps 10 (by kernel_rfl) 48 (by kernel_rfl); exact h
              have e51 : A.eval (.tmp 51) = (.pointer (some ⟨g, off + i * 2, none⟩)) := by have h := depL hdeps 13 (by kernel_rfl) 51 (by kernel_rfl); exact h
              refine ifw_want 10 false 48 rfl rfl e48 ?_
              with_reducible refine shown_q (Value.pointer (some ⟨g, off + i * 2 + 1, none⟩)) ?qq_4_14 (fun _ _ => ?qr_4_14)
              case qr_4_14 => exact (rfl : (Value.pointer (some ⟨g, off + i * 2 + 1, none⟩)) = (Value.pointer (some ⟨g, off + i * 2 + 1, none⟩)))
              with_reducible refine quietAt_field 117 (.tmp 51) 1 ?h0_4_14 ⟨g, off + i * 2, none⟩ ⟨g, off + i * 2 + 1, none⟩ ?h1_4_14 ?h2_4_14
              case h0_4_14 => rfl
              case h1_4_14 => exact e51
              case h2_4_14 => kernel_rfl
            · intro A u hu hpu hsz hout hdeps
              have e48 : A.eval (.tmp 48) = (.bool false) := by have h := depL hdeps 10 (by kernel_rfl) 48 (by kernel_rfl); exact h
              have e52 : A.eval (.tmp 52) = (.pointer (some ⟨g, off + i * 2 + 1, none⟩)) := by have h := depL hdeps 14 (by kernel_rfl) 52 (by kernel_rfl); exact h
              refine ifw_want 10 false 48 rfl rfl e48 ?_
              with_reducible refine shown_q (Value.slice ba bn bc) ?qq_4_15 (fun _ _ => ?qr_4_15)
              case qr_4_15 => exact (rfl : (Value.slice ba bn bc) = (Value.slice ba bn bc))
              with_reducible refine quietAt_ld 74 (.tmp 52) (Value.pointer (some ⟨g, off + i * 2 + 1, none⟩)) (Value.slice ba bn bc) ?h0_4_15 ?h1_4_15 ?h2_4_15
              case h0_4_15 => rfl
              case h1_4_15 => exact e52
              case h2_4_15 => exact ld33 g (off + i * 2 + 1) bn bc ba u (HCe.out u hu).2
            · intro A u hu hpu hsz hout hdeps
              have e48 : A.eval (.tmp 48) = (.bool false) := by have h := depL hdeps 10 (by kernel_rfl) 48 (by kernel_rfl); exact h
              have e53 : A.eval (.tmp 53) = (.slice ba bn bc) := by have h := depL hdeps 15 (by kernel_rfl) 53 (by kernel_rfl); exact h
              refine ifw_want 10 false 48 rfl rfl e48 ?_
              with_reducible refine shown_q (Value.int .i64 (bn : Nat)) ?qq_4_16 (fun _ _ => ?qr_4_16)
              case qr_4_16 => exact (rfl : (Value.int .i64 (bn : Nat)) = (Value.int .i64 (bn : Nat)))
              with_reducible refine quietAt_len (.tmp 53) 74 ?h0_4_16 ba bn bc ?h1_4_16 ?h2_4_16
              case h0_4_16 => rfl
              case h1_4_16 => exact e53
              case h2_4_16 => kernel_rfl
            · intro A u hu hpu hsz hout hdeps
              have e48 : A.eval (.tmp 48) = (.bool false) := by have h := depL hdeps 10 (by kernel_rfl) 48 (by kernel_rfl); exact h
              have e1 : A.eval (.tmp 1) = (.int .i64 room) := (hout 1 (by kernel_rfl)).trans rfl
              refine ifw_want 10 false 48 rfl rfl e48 ?_
              with_reducible refine shown_q (Value.int .i64 room) ?qq_4_17 (fun _ _ => ?qr_4_17)
              case qr_4_17 => exact (rfl : (Value.int .i64 room) = (Value.int .i64 room))
              with_reducible refine quietAt_mv (.tmp 1) (Value.int .i64 room) ?h0_4_17 ?h1_4_17
              case h0_4_17 => rfl
              case h1_4_17 => exact e1
            · intro A u hu hpu hsz hout hdeps
              have e48 : A.eval (.tmp 48) = (.bool false) := by have h := depL hdeps 10 (by kernel_rfl) 48 (by kernel_rfl); exact h
              have e6 : A.eval (.tmp 6) = (.pointer (some ⟨bd, 0, none⟩)) := (hout 6 (by kernel_rfl)).trans rfl
              refine ifw_want 10 false 48 rfl rfl e48 ?_
              with_reducible refine shown_q (Value.pointer (some ⟨bd, 0, none⟩)) ?qq_4_18 (fun _ _ => ?qr_4_18)
              case qr_4_18 => exact (rfl : (Value.pointer (some ⟨bd, 0, none⟩)) = (Value.pointer (some ⟨bd, 0, none⟩)))
              with_reducible refine quietAt_mv (.tmp 6) (Value.pointer (some ⟨bd, 0, none⟩)) ?h0_4_18 ?h1_4_18
              case h0_4_18 => rfl
              case h1_4_18 => exact e6
            · intro A u hu hpu hsz hout hdeps
              have e48 : A.eval (.tmp 48) = (.bool false) := by have h := depL hdeps 10 (by kernel_rfl) 48 (by kernel_rfl); exact h
              have e56 : A.eval (.tmp 56) = (.pointer (some ⟨bd, 0, none⟩)) := by have h := depL hdeps 18 (by kernel_rfl) 56 (by kernel_rfl); exact h
              refine ifw_want 10 false 48 rfl rfl e48 ?_
              with_reducible refine shown_call 43 Tryz.f43 ?h0_4_19 ?h1_4_19 ?h2_4_19 #[.tmp 56] #[30] ?h3_4_19 #[(Value.pointer (some ⟨bd, 0, none⟩))] ?h4_4_19 ?h5_4_19
              case h0_4_19 => exact Tryz.func43
              case h1_4_19 => kernel_rfl
              case h2_4_19 => kernel_rfl
              case h3_4_19 => rfl
              case h4_4_19 => exact map1 _ _ _ e56
              case h5_4_19 => exact HUs.out u hu
            · intro A u hu hpu hsz hout hdeps
              have e48 : A.eval (.tmp 48) = (.bool false) := by have h := depL hdeps 10 (by kernel_rfl) 48 (by kernel_rfl); exact h
              have e55 : A.eval (.tmp 55) = (.int .i64 room) := by have h := depL hdeps 17 (by kernel_rfl) 55 (by kernel_rfl); exact h
              have f57 : (fun v _ => v = Value.int .i64 (us : Nat)) (A.eval (.tmp 57)) u := by have h := depL hdeps 19 (by kernel_rfl) 57 (by kernel_rfl); exact h
              have e57 := (f57 : _ = Value.int .i64 (us : Nat))
              refine ifw_want 10 false 48 rfl rfl e48 ?_
              with_reducible refine shown_q (Value.int .i64 (room - (us : Int))) ?qq_4_20 (fun _ _ => ?qr_4_20)
              case qr_4_20 => exact (rfl : (Value.int .i64 (room - (us : Int))) = (Value.int .i64 (room - (us : Int))))
              with_reducible refine quietAt_bin .sub 3 (.tmp 55) (.tmp 57) 3 (Value.int .i64 room) (Value.int .i64 (us : Nat)) (Value.int .i64 (room - (us : Int))) ?h0_4_20 ?h1_4_20 ?h2_4_20 ?h3_4_20
              case h0_4_20 => rfl
              case h1_4_20 => exact e55
              case h2_4_20 => exact e57
              case h3_4_20 => exact HSub.out _ _ u
            · intro A u hu hpu hsz hout hdeps
              have e48 : A.eval (.tmp 48) = (.bool false) := by have h := depL hdeps 10 (by kernel_rfl) 48 (by kernel_rfl); exact h
              have e54 : A.eval (.tmp 54) = (.int .i64 (bn : Nat)) := by have h := depL hdeps 16 (by kernel_rfl) 54 (by kernel_rfl); exact h
              have e58 : A.eval (.tmp 58) = (.int .i64 (room - (us : Int))) := by have h := depL hdeps 20 (by kernel_rfl) 58 (by kernel_rfl); exact h
              refine ifw_want 10 false 48 rfl rfl e48 ?_
              with_reducible refine shown_q (Value.bool false) ?qq_4_21 (fun _ _ => ?qr_4_21)
              case qr_4_21 => exact (rfl : (Value.bool false) = (Value.bool false))
              with_reducible refine quietAt_bin .gtr 3 (.tmp 54) (.tmp 58) 3 (Value.int .i64 (bn : Nat)) (Value.int .i64 (room - (us : Int))) (Value.bool false) ?h0_4_21 ?h1_4_21 ?h2_4_21 ?h3_4_21
              case h0_4_21 => rfl
              case h1_4_21 => exact e54
              case h2_4_21 => exact e58
              case h3_4_21 => exact HGt.out _ _ u
            · intro A u hu hpu hsz hout hdeps
              have e48 : A.eval (.tmp 48) = (.bool false) := by have h := depL hdeps 10 (by kernel_rfl) 48 (by kernel_rfl); exact h
              have e59 : A.eval (.tmp 59) = (.bool false) := by have h := depL hdeps 21 (by kernel_rfl) 59 (by kernel_rfl); exact h
              refine ifw_none rfl ?_
              with_reducible refine shown_q (Value.bool false) ?qq_4_22 (fun _ _ => ?qr_4_22)
              case qr_4_22 => exact (rfl : (Value.bool false) = (Value.bool false))
              with_reducible refine quietAt_pick (.tmp 48) (.const (.bool true)) (.tmp 59) false (Value.bool false) ?h0_4_22 ?h1_4_22 ?h2_4_22
              case h0_4_22 => rfl
              case h1_4_22 => exact e48
              case h2_4_22 => rw [if_neg (by decide)]; exact e59
            · intro A u8 listed hh hall
              have hA := hh.frame
              have HU := hid hh.grown
              obtain ⟨x38, hx38⟩ : ∃ x, A.eval (.tmp 38) = x := ⟨_, rfl⟩
              have f38 : (fun v _ => v = (Value.slice (some ⟨g, off, none⟩) n c)) x38 u8 := by rw [← hx38]; exact hh.got 0 _ 38 rfl rfl (hall 0 (by decide))
              obtain ⟨x39, hx39⟩ : ∃ x, A.eval (.tmp 39) = x := ⟨_, rfl⟩
              have f39 : (fun v _ => v = (Value.int .i64 (i : Nat))) x39 u8 := by rw [← hx39]; exact hh.got 1 _ 39 rfl rfl (hall 1 (by decide))
              obtain ⟨x40, hx40⟩ : ∃ x, A.eval (.tmp 40) = x := ⟨_, rfl⟩
              have f40 : (fun v _ => v = (Value.pointer (some ⟨g, off + i * 2, none⟩))) x40 u8 := by rw [← hx40]; exact hh.got 2 _ 40 rfl rfl (hall 2 (by decide))
              obtain ⟨x41, hx41⟩ : ∃ x, A.eval (.tmp 41) = x := ⟨_, rfl⟩
              have f41 : (fun v _ => v = (Value.pointer (some ⟨g, off + i * 2, none⟩))) x41 u8 := by rw [← hx41]; exact hh.got 3 _ 41 rfl rfl (hall 3 (by decide))
              obtain ⟨x42, hx42⟩ : ∃ x, A.eval (.tmp 42) = x := ⟨_, rfl⟩
              have f42 : (fun v _ => v = (Value.string s)) x42 u8 := by rw [← hx42]; exact hh.got 4 _ 42 rfl rfl (hall 4 (by decide))
              obtain ⟨x43, hx43⟩ : ∃ x, A.eval (.tmp 43) = x := ⟨_, rfl⟩
              have f43 : (fun v _ => v = Value.bool true) x43 u8 := by rw [← hx43]; exact hh.got 5 _ 43 rfl rfl (hall 5 (by decide))
              obtain ⟨x44, hx44⟩ : ∃ x, A.eval (.tmp 44) = x := ⟨_, rfl⟩
              have f44 : (fun v _ => v = (Value.bool false)) x44 u8 := by rw [← hx44]; exact hh.got 6 _ 44 rfl rfl (hall 6 (by decide))
              obtain ⟨x45, hx45⟩ : ∃ x, A.eval (.tmp 45) = x := ⟨_, rfl⟩
              have f45 : (fun v _ => v = (Value.bool false)) x45 u8 := by rw [← hx45]; exact hh.got 7 _ 45 rfl rfl (hall 7 (by decide))
              obtain ⟨x46, hx46⟩ : ∃ x, A.eval (.tmp 46) = x := ⟨_, rfl⟩
              have f46 : (fun v _ => v = (Value.bool false)) x46 u8 := by rw [← hx46]; exact hh.got 8 _ 46 rfl rfl (hall 8 (by decide))
              obtain ⟨x47, hx47⟩ : ∃ x, A.eval (.tmp 47) = x := ⟨_, rfl⟩
              have f47 : (fun v _ => v = (Value.bool false)) x47 u8 := by rw [← hx47]; exact hh.got 9 _ 47 rfl rfl (hall 9 (by decide))
              obtain ⟨x48, hx48⟩ : ∃ x, A.eval (.tmp 48) = x := ⟨_, rfl⟩
              have f48 : (fun v _ => v = (Value.bool false)) x48 u8 := by rw [← hx48]; exact hh.got 10 _ 48 rfl rfl (hall 10 (by decide))
              obtain ⟨x49, hx49⟩ : ∃ x, A.eval (.tmp 49) = x := ⟨_, rfl⟩
              have f49 : (fun v _ => v = (Value.slice (some ⟨g, off, none⟩) n c)) x49 u8 := by rw [← hx49]; exact hh.got 11 _ 49 rfl rfl (hall 11 (by decide))
              obtain ⟨x50, hx50⟩ : ∃ x, A.eval (.tmp 50) = x := ⟨_, rfl⟩
              have f50 : (fun v _ => v = (Value.int .i64 (i : Nat))) x50 u8 := by rw [← hx50]; exact hh.got 12 _ 50 rfl rfl (hall 12 (by decide))
              obtain ⟨x51, hx51⟩ : ∃ x, A.eval (.tmp 51) = x := ⟨_, rfl⟩
              have f51 : (fun v _ => v = (Value.pointer (some ⟨g, off + i * 2, none⟩))) x51 u8 := by rw [← hx51]; exact hh.got 13 _ 51 rfl rfl (hall 13 (by decide))
              obtain ⟨x52, hx52⟩ : ∃ x, A.eval (.tmp 52) = x := ⟨_, rfl⟩
              have f52 : (fun v _ => v = (Value.pointer (some ⟨g, off + i * 2 + 1, none⟩))) x52 u8 := by rw [← hx52]; exact hh.got 14 _ 52 rfl rfl (hall 14 (by decide))
              obtain ⟨x53, hx53⟩ : ∃ x, A.eval (.tmp 53) = x := ⟨_, rfl⟩
              have f53 : (fun v _ => v = (Value.slice ba bn bc)) x53 u8 := by rw [← hx53]; exact hh.got 15 _ 53 rfl rfl (hall 15 (by decide))
              obtain ⟨x54, hx54⟩ : ∃ x, A.eval (.tmp 54) = x := ⟨_, rfl⟩
              have f54 : (fun v _ => v = (Value.int .i64 (bn : Nat))) x54 u8 := by rw [← hx54]; exact hh.got 16 _ 54 rfl rfl (hall 16 (by decide))
              obtain ⟨x55, hx55⟩ : ∃ x, A.eval (.tmp 55) = x := ⟨_, rfl⟩
              have f55 : (fun v _ => v = (Value.int .i64 room)) x55 u8 := by rw [← hx55]; exact hh.got 17 _ 55 rfl rfl (hall 17 (by decide))
              obtain ⟨x56, hx56⟩ : ∃ x, A.eval (.tmp 56) = x := ⟨_, rfl⟩
              have f56 : (fun v _ => v = (Value.pointer (some ⟨bd, 0, none⟩))) x56 u8 := by rw [← hx56]; exact hh.got 18 _ 56 rfl rfl (hall 18 (by decide))
              obtain ⟨x57, hx57⟩ : ∃ x, A.eval (.tmp 57) = x := ⟨_, rfl⟩
              have f57 : (fun v _ => v = Value.int .i64 (us : Nat)) x57 u8 := by rw [← hx57]; exact hh.got 19 _ 57 rfl rfl (hall 19 (by decide))
              obtain ⟨x58, hx58⟩ : ∃ x, A.eval (.tmp 58) = x := ⟨_, rfl⟩
              have f58 : (fun v _ => v = (Value.int .i64 (room - (us : Int)))) x58 u8 := by rw [← hx58]; exact hh.got 20 _ 58 rfl rfl (hall 20 (by decide))
              obtain ⟨x59, hx59⟩ : ∃ x, A.eval (.tmp 59) = x := ⟨_, rfl⟩
              have f59 : (fun v _ => v = (Value.bool false)) x59 u8 := by rw [← hx59]; exact hh.got 21 _ 59 rfl rfl (hall 21 (by decide))
              obtain ⟨x60, hx60⟩ : ∃ x, A.eval (.tmp 60) = x := ⟨_, rfl⟩
              have f60 : (fun v _ => v = (Value.bool false)) x60 u8 := by rw [← hx60]; exact hh.got 22 _ 60 rfl rfl (hall 22 (by decide))
              dsimp only [wrote, List.foldl] at hA
              rw [hx38, hx39, hx40, hx41, hx42, hx43, hx44, hx45, hx46, hx47, hx48, hx49, hx50, hx51, hx52, hx53, hx54, hx55, hx56, hx57, hx58, hx59, hx60] at hA
              clear hh hall hx38 hx39 hx40 hx41 hx42 hx43 hx44 hx45 hx46 hx47 hx48 hx49 hx50 hx51 hx52 hx53 hx54 hx55 hx56 hx57 hx58 hx59 hx60
              replace f38 := (f38 : x38 = (.slice (some ⟨g, off, none⟩) n c))
              subst f38
              replace f39 := (f39 : x39 = (.int .i64 (i : Nat)))
              subst f39
              replace f40 := (f40 : x40 = (.pointer (some ⟨g, off + i * 2, none⟩)))
              subst f40
              replace f41 := (f41 : x41 = (.pointer (some ⟨g, off + i * 2, none⟩)))
              subst f41
              replace f42 := (f42 : x42 = (.string s))
              subst f42
              have e43 := (f43 : _ = Value.bool true)
              subst e43
              replace f44 := (f44 : x44 = (.bool false))
              subst f44
              replace f45 := (f45 : x45 = (.bool false))
              subst f45
              replace f46 := (f46 : x46 = (.bool false))
              subst f46
              replace f47 := (f47 : x47 = (.bool false))
              subst f47
              replace f48 := (f48 : x48 = (.bool false))
              subst f48
              replace f49 := (f49 : x49 = (.slice (some ⟨g, off, none⟩) n c))
              subst f49
              replace f50 := (f50 : x50 = (.int .i64 (i : Nat)))
              subst f50
              replace f51 := (f51 : x51 = (.pointer (some ⟨g, off + i * 2, none⟩)))
              subst f51
              replace f52 := (f52 : x52 = (.pointer (some ⟨g, off + i * 2 + 1, none⟩)))
              subst f52
              replace f53 := (f53 : x53 = (.slice ba bn bc))
              subst f53
              replace f54 := (f54 : x54 = (.int .i64 (bn : Nat)))
              subst f54
              replace f55 := (f55 : x55 = (.int .i64 room))
              subst f55
              replace f56 := (f56 : x56 = (.pointer (some ⟨bd, 0, none⟩)))
              subst f56
              have e57 := (f57 : _ = Value.int .i64 (us : Nat))
              subst e57
              replace f58 := (f58 : x58 = (.int .i64 (room - (us : Int))))
              subst f58
              replace f59 := (f59 : x59 = (.bool false))
              subst f59
              replace f60 := (f60 : x60 = (.bool false))
              subst f60
              subst hA
              show wpList _ _ _ [] _ _
              unfold wpList
              simp only [Act.put, List.setIfInBounds_toArray, List.set_cons_succ, List.set_cons_zero]
              have HG8 : Hid (w.grownBy u8 none) := hid (gtrans HGw.out HU.out)
              have HRx := hid (HR1.out.keep HU.out)
              have HRx' : Hid (u8.rangeAt g (off + i * 2) [.string s, .slice ba bn bc]) := hid (two_range (HCe.out u8 HU.out).1 (HCe.out u8 HU.out).2)
              have HCf := hid (copyFile_any u8 s ba bn bc F l (HV.out.keep HU.out) HLl.out)
              go_wp2_with (first
                | (with_reducible refine wpList_load_part (by with_unfolding_all rfl) 117 _ (by with_unfolding_all rfl) g (off + i * 2) [.string s, .slice ba bn bc] _ (by with_unfolding_all rfl) HRx'.out Tryz.underlying117 (by with_unfolding_all rfl) (by with_unfolding_all exact Tryz.size117) ?_)
                | (go_at_call 45; (with_reducible refine HCf.out.mono ?_); rintro e w9 ⟨a9, c9, rfl, ho, hg⟩; have HO9 := hid ho; have HG9 := hid hg; have HR9 := hid (HRx.out.keep hg); clear ho hg)
                | (go_at_call 44; (with_reducible refine (HLay.out _ _ _ HR9.out (HO9.out.below HG8.out.size) (gtrans HG8.out HG9.out)).mono ?_); rintro e w10 ⟨rfl, hr⟩; have HR10 := hid hr; clear hr))
              go_roundw
              case rel => exact ⟨i + 1, by go_num, by omega, HR10⟩
              case measure => simp [intOf]; omega
          · as_aux_lemma =>
            have HGt : Hid (∀ (x y : Operand) (u : World), (do eqGuard .gtr 3 x y (.int .i64 (bn : Nat)) (.int .i64 (room - (us : Int))); binOp .gtr 3 (.int .i64 (bn : Nat)) (.int .i64 (room - (us : Int))) : Sem Value).run Tryz.prog u = .ok (.bool true) u) := hid (fun x y u => by
              have e : (room - (us : Int)) < (bn : Int) := by omega
              go_simp)
            refine wp_region_listX (by kernel_rfl) [fun v _ => v = (Value.slice (some ⟨g, off, none⟩) n c), fun v _ => v = (Value.int .i64 (i : Nat)), fun v _ => v = (Value.pointer (some ⟨g, off + i * 2, none⟩)), fun v _ => v = (Value.pointer (some ⟨g, off + i * 2, none⟩)), fun v _ => v = (Value.string s), fun v _ => v = Value.bool true, fun v _ => v = (Value.bool false), fun v _ => v = (Value.bool false), fun v _ => v = (Value.bool false), fun v _ => v = (Value.bool false), fun v _ => v = (Value.bool false), fun v _ => v = (Value.slice (some ⟨g, off, none⟩) n c), fun v _ => v = (Value.int .i64 (i : Nat)), fun v _ => v = (Value.pointer (some ⟨g, off + i * 2, none⟩)), fun v _ => v = (Value.pointer (some ⟨g, off + i * 2 + 1, none⟩)), fun v _ => v = (Value.slice ba bn bc), fun v _ => v = (Value.int .i64 (bn : Nat)), fun v _ => v = (Value.int .i64 room), fun v _ => v = (Value.pointer (some ⟨bd, 0, none⟩)), fun v _ => v = Value.int .i64 (us : Nat), fun v _ => v = (Value.int .i64 (room - (us : Int))), fun v _ => v = (Value.bool true), fun v _ => v = (Value.bool true)] (none) (fun _ => none) 23 (by kernel_rfl) (by kernel_rfl) (by kernel_rfl) (by kernel_rfl) (by decide) noRow_one (fun _ => .inl rfl) ⟨fun i v u u' hki h hg => h, fun i v u u' hki h hg => h, fun i v u u' hki h hg => h, fun i v u u' hki h hg => h, fun i v u u' hki h hg => h, fun i v u u' hki h hg => h, fun i v u u' hki h hg => h, fun i v u u' hki h hg => h, fun i v u u' hki h hg => h, fun i v u u' hki h hg => h, fun i v u u' hki h hg => h, fun i v u u' hki h hg => h, fun i v u u' hki h hg => h, fun i v u u' hki h hg => h, fun i v u u' hki h hg => h, fun i v u u' hki h hg => h, fun i v u u' hki h hg => h, fun i v u u' hki h hg => h, fun i v u u' hki h hg => h, fun i v u u' hki h hg => h, fun i v u u' hki h hg => h, fun i v u u' hki h hg => h, fun i v u u' hki h hg => h, trivial⟩ ⟨?_, ?_, ?_, ?_, ?_, ?_, ?_, ?_, ?_, ?_, ?_, ?_, ?_, ?_, ?_, ?_, ?_, ?_, ?_, ?_, ?_, ?_, ?_, trivial⟩ ?_
            · intro A u hu hpu hsz hout hdeps
              have e0 : A.eval (.tmp 0) = (.slice (some ⟨g, off, none⟩) n c) := (hout 0 (by kernel_rfl)).trans rfl
              refine ifw_none rfl ?_
              with_reducible refine shown_q (Value.slice (some ⟨g, off, none⟩) n c) ?qq_3_0 (fun _ _ => ?qr_3_0)
              case qr_3_0 => exact (rfl : (Value.slice (some ⟨g, off, none⟩) n c) = (Value.slice (some ⟨g, off, none⟩) n c))
              with_reducible refine quietAt_mv (.tmp 0) (Value.slice (some ⟨g, off, none⟩) n c) ?h0_3_0 ?h1_3_0
              case h0_3_0 => rfl
              case h1_3_0 => exact e0
            · intro A u hu hpu hsz hout hdeps
              have e7 : A.eval (.tmp 7) = (.int .i64 (i : Nat)) := (hout 7 (by kernel_rfl)).trans rfl
              refine ifw_none rfl ?_
              with_reducible refine shown_q (Value.int .i64 (i : Nat)) ?qq_3_1 (fun _ _ => ?qr_3_1)
              case qr_3_1 => exact (rfl : (Value.int .i64 (i : Nat)) = (Value.int .i64 (i : Nat)))
              with_reducible refine quietAt_mv (.tmp 7) (Value.int .i64 (i : Nat)) ?h0_3_1 ?h1_3_1
              case h0_3_1 => rfl
              case h1_3_1 => exact e7
            · intro A u hu hpu hsz hout hdeps
              have e38 : A.eval (.tmp 38) = (.slice (some ⟨g, off, none⟩) n c) := by have h := depL hdeps 0 (by kernel_rfl) 38 (by kernel_rfl); exact h
              have e39 : A.eval (.tmp 39) = (.int .i64 (i : Nat)) := by have h := depL hdeps 1 (by kernel_rfl) 39 (by kernel_rfl); exact h
              refine ifw_none rfl ?_
              with_reducible refine shown_q (Value.pointer (some ⟨g, off + i * 2, none⟩)) ?qq_3_2 (fun _ _ => ?qr_3_2)
              case qr_3_2 => exact (rfl : (Value.pointer (some ⟨g, off + i * 2, none⟩)) = (Value.pointer (some ⟨g, off + i * 2, none⟩)))
              with_reducible refine quietAt_idx 110 (.tmp 38) (.tmp 39) (Value.slice (some ⟨g, off, none⟩) n c) (Value.int .i64 (i : Nat)) (Value.pointer (some ⟨g, off + i * 2, none⟩)) ?h0_3_2 ?h1_3_2 ?h2_3_2 ?h3_3_2
              case h0_3_2 => rfl
              case h1_3_2 => exact e38
              case h2_3_2 => exact e39
              case h3_3_2 => exact idx66 g off n c i hlt u
            · intro A u hu hpu hsz hout hdeps
              have e40 : A.eval (.tmp 40) = (.pointer (some ⟨g, off + i * 2, none⟩)) := by have h := depL hdeps 2 (by kernel_rfl) 40 (by kernel_rfl); exact h
              refine ifw_none rfl ?_
              with_reducible refine shown_q (Value.pointer (some ⟨g, off + i * 2, none⟩)) ?qq_3_3 (fun _ _ => ?qr_3_3)
              case qr_3_3 => exact (rfl : (Value.pointer (some ⟨g, off + i * 2, none⟩)) = (Value.pointer (some ⟨g, off + i * 2, none⟩)))
              with_reducible refine quietAt_field 117 (.tmp 40) 0 ?h0_3_3 ⟨g, off + i * 2, none⟩ ⟨g, off + i * 2, none⟩ ?h1_3_3 ?h2_3_3
              case h0_3_3 => rfl
              case h1_3_3 => exact e40
              case h2_3_3 => kernel_rfl
            · intro A u hu hpu hsz hout hdeps
              have e41 : A.eval (.tmp 41) = (.pointer (some ⟨g, off + i * 2, none⟩)) := by have h := depL hdeps 3 (by kernel_rfl) 41 (by kernel_rfl); exact h
              refine ifw_none rfl ?_
              with_reducible refine shown_q (Value.string s) ?qq_3_4 (fun _ _ => ?qr_3_4)
              case qr_3_4 => exact (rfl : (Value.string s) = (Value.string s))
              with_reducible refine quietAt_ld 9 (.tmp 41) (Value.pointer (some ⟨g, off + i * 2, none⟩)) (Value.string s) ?h0_3_4 ?h1_3_4 ?h2_3_4
              case h0_3_4 => rfl
              case h1_3_4 => exact e41
              case h2_3_4 => exact ld9 g (off + i * 2) s u (HCe.out u hu).1
            · intro A u hu hpu hsz hout hdeps
              have e42 : A.eval (.tmp 42) = (.string s) := by have h := depL hdeps 4 (by kernel_rfl) 42 (by kernel_rfl); exact h
              refine ifw_none rfl ?_
              with_reducible refine shown_call 42 Tryz.f42 ?h0_3_5 ?h1_3_5 ?h2_3_5 #[.tmp 42] #[9] ?h3_3_5 #[(Value.string s)] ?h4_3_5 ?h5_3_5
              case h0_3_5 => exact Tryz.func42
              case h1_3_5 => kernel_rfl
              case h2_3_5 => kernel_rfl
              case h3_3_5 => rfl
              case h4_3_5 => exact map1 _ _ _ e42
              case h5_3_5 => exact HNm.out u
            · intro A u hu hpu hsz hout hdeps
              have f43 : (fun v _ => v = Value.bool true) (A.eval (.tmp 43)) u := by have h := depL hdeps 5 (by kernel_rfl) 43 (by kernel_rfl); exact h
              have e43 := (f43 : _ = Value.bool true)
              refine ifw_none rfl ?_
              with_reducible refine shown_q (Value.bool false) ?qq_3_6 (fun _ _ => ?qr_3_6)
              case qr_3_6 => exact (rfl : (Value.bool false) = (Value.bool false))
              with_reducible refine quietAt_un .not 4 (.tmp 43) (Value.bool true) (Value.bool false) ?h0_3_6 ?h1_3_6 ?h2_3_6
              case h0_3_6 => rfl
              case h1_3_6 => exact e43
              case h2_3_6 => rfl
            · intro A u hu hpu hsz hout hdeps
              have e44 : A.eval (.tmp 44) = (.bool false) := by have h := depL hdeps 6 (by kernel_rfl) 44 (by kernel_rfl); exact h
              refine ifw_none rfl ?_
              with_reducible refine shown_q (Value.bool false) ?qq_3_7 (fun _ _ => ?qr_3_7)
              case qr_3_7 => exact (rfl : (Value.bool false) = (Value.bool false))
              with_reducible refine quietAt_mv (.tmp 44) (Value.bool false) ?h0_3_7 ?h1_3_7
              case h0_3_7 => rfl
              case h1_3_7 => exact e44
            · intro A u hu hpu hsz hout hdeps
              have e45 : A.eval (.tmp 45) = (.bool false) := by have h := depL hdeps 7 (by kernel_rfl) 45 (by kernel_rfl); exact h
              have e9 : A.eval (.tmp 9) = (.bool false) := (hout 9 (by kernel_rfl)).trans rfl
              refine ifw_want 7 false 45 rfl rfl e45 ?_
              with_reducible refine shown_q (Value.bool false) ?qq_3_8 (fun _ _ => ?qr_3_8)
              case qr_3_8 => exact (rfl : (Value.bool false) = (Value.bool false))
              with_reducible refine quietAt_mv (.tmp 9) (Value.bool false) ?h0_3_8 ?h1_3_8
              case h0_3_8 => rfl
              case h1_3_8 => exact e9
            · intro A u hu hpu hsz hout hdeps
              have e45 : A.eval (.tmp 45) = (.bool false) := by have h := depL hdeps 7 (by kernel_rfl) 45 (by kernel_rfl); exact h
              have e46 : A.eval (.tmp 46) = (.bool false) := by have h := depL hdeps 8 (by kernel_rfl) 46 (by kernel_rfl); exact h
              refine ifw_none rfl ?_
              with_reducible refine shown_q (Value.bool false) ?qq_3_9 (fun _ _ => ?qr_3_9)
              case qr_3_9 => exact (rfl : (Value.bool false) = (Value.bool false))
              with_reducible refine quietAt_pick (.tmp 45) (.const (.bool true)) (.tmp 46) false (Value.bool false) ?h0_3_9 ?h1_3_9 ?h2_3_9
              case h0_3_9 => rfl
              case h1_3_9 => exact e45
              case h2_3_9 => rw [if_neg (by decide)]; exact e46
            · intro A u hu hpu hsz hout hdeps
              have e47 : A.eval (.tmp 47) = (.bool false) := by have h := depL hdeps 9 (by kernel_rfl) 47 (by kernel_rfl); exact h
              refine ifw_none rfl ?_
              with_reducible refine shown_q (Value.bool false) ?qq_3_10 (fun _ _ => ?qr_3_10)
              case qr_3_10 => exact (rfl : (Value.bool false) = (Value.bool false))
              with_reducible refine quietAt_mv (.tmp 47) (Value.bool false) ?h0_3_10 ?h1_3_10
              case h0_3_10 => rfl
              case h1_3_10 => exact e47
            · intro A u hu hpu hsz hout hdeps
              have e48 : A.eval (.tmp 48) = (.bool false) := by have h := depL hdeps 10 (by kernel_rfl) 48 (by kernel_rfl); exact h
              have e0 : A.eval (.tmp 0) = (.slice (some ⟨g, off, none⟩) n c) := (hout 0 (by kernel_rfl)).trans rfl
              refine ifw_want 10 false 48 rfl rfl e48 ?_
              with_reducible refine shown_q (Value.slice (some ⟨g, off, none⟩) n c) ?qq_3_11 (fun _ _ => ?qr_3_11)
              case qr_3_11 => exact (rfl : (Value.slice (some ⟨g, off, none⟩) n c) = (Value.slice (some ⟨g, off, none⟩) n c))
              with_reducible refine quietAt_mv (.tmp 0) (Value.slice (some ⟨g, off, none⟩) n c) ?h0_3_11 ?h1_3_11
              case h0_3_11 => rfl
              case h1_3_11 => exact e0
            · intro A u hu hpu hsz hout hdeps
              have e48 : A.eval (.tmp 48) = (.bool false) := by have h := depL hdeps 10 (by kernel_rfl) 48 (by kernel_rfl); exact h
              have e7 : A.eval (.tmp 7) = (.int .i64 (i : Nat)) := (hout 7 (by kernel_rfl)).trans rfl
              refine ifw_want 10 false 48 rfl rfl e48 ?_
              with_reducible refine shown_q (Value.int .i64 (i : Nat)) ?qq_3_12 (fun _ _ => ?qr_3_12)
              case qr_3_12 => exact (rfl : (Value.int .i64 (i : Nat)) = (Value.int .i64 (i : Nat)))
              with_reducible refine quietAt_mv (.tmp 7) (Value.int .i64 (i : Nat)) ?h0_3_12 ?h1_3_12
              case h0_3_12 => rfl
              case h1_3_12 => exact e7
            · intro A u hu hpu hsz hout hdeps
              have e48 : A.eval (.tmp 48) = (.bool false) := by have h := depL hdeps 10 (by kernel_rfl) 48 (by kernel_rfl); exact h
              have e49 : A.eval (.tmp 49) = (.slice (some ⟨g, off, none⟩) n c) := by have h := depL hdeps 11 (by kernel_rfl) 49 (by kernel_rfl); exact h
              have e50 : A.eval (.tmp 50) = (.int .i64 (i : Nat)) := by have h := depL hdeps 12 (by kernel_rfl) 50 (by kernel_rfl); exact h
              refine ifw_want 10 false 48 rfl rfl e48 ?_
              with_reducible refine shown_q (Value.pointer (some ⟨g, off + i * 2, none⟩)) ?qq_3_13 (fun _ _ => ?qr_3_13)
              case qr_3_13 => exact (rfl : (Value.pointer (some ⟨g, off + i * 2, none⟩)) = (Value.pointer (some ⟨g, off + i * 2, none⟩)))
              with_reducible refine quietAt_idx 110 (.tmp 49) (.tmp 50) (Value.slice (some ⟨g, off, none⟩) n c) (Value.int .i64 (i : Nat)) (Value.pointer (some ⟨g, off + i * 2, none⟩)) ?h0_3_13 ?h1_3_13 ?h2_3_13 ?h3_3_13
              case h0_3_13 => rfl
              case h1_3_13 => exact e49
              case h2_3_13 => exact e50
              case h3_3_13 => exact idx66 g off n c i hlt u
            · intro A u hu hpu hsz hout hdeps
              have e48 : A.eval (.tmp 48) = (.bool false) := by have h := depL hdeps 10 (by kernel_rfl) 48 (by kernel_rfl); exact h
              have e51 : A.eval (.tmp 51) = (.pointer (some ⟨g, off + i * 2, none⟩)) := by have h := depL hdeps 13 (by kernel_rfl) 51 (by kernel_rfl); exact h
              refine ifw_want 10 false 48 rfl rfl e48 ?_
              with_reducible refine shown_q (Value.pointer (some ⟨g, off + i * 2 + 1, none⟩)) ?qq_3_14 (fun _ _ => ?qr_3_14)
              case qr_3_14 => exact (rfl : (Value.pointer (some ⟨g, off + i * 2 + 1, none⟩)) = (Value.pointer (some ⟨g, off + i * 2 + 1, none⟩)))
              with_reducible refine quietAt_field 117 (.tmp 51) 1 ?h0_3_14 ⟨g, off + i * 2, none⟩ ⟨g, off + i * 2 + 1, none⟩ ?h1_3_14 ?h2_3_14
              case h0_3_14 => rfl
              case h1_3_14 => exact e51
              case h2_3_14 => kernel_rfl
            · intro A u hu hpu hsz hout hdeps
              have e48 : A.eval (.tmp 48) = (.bool false) := by have h := depL hdeps 10 (by kernel_rfl) 48 (by kernel_rfl); exact h
              have e52 : A.eval (.tmp 52) = (.pointer (some ⟨g, off + i * 2 + 1, none⟩)) := by have h := depL hdeps 14 (by kernel_rfl) 52 (by kernel_rfl); exact h
              refine ifw_want 10 false 48 rfl rfl e48 ?_
              with_reducible refine shown_q (Value.slice ba bn bc) ?qq_3_15 (fun _ _ => ?qr_3_15)
              case qr_3_15 => exact (rfl : (Value.slice ba bn bc) = (Value.slice ba bn bc))
              with_reducible refine quietAt_ld 74 (.tmp 52) (Value.pointer (some ⟨g, off + i * 2 + 1, none⟩)) (Value.slice ba bn bc) ?h0_3_15 ?h1_3_15 ?h2_3_15
              case h0_3_15 => rfl
              case h1_3_15 => exact e52
              case h2_3_15 => exact ld33 g (off + i * 2 + 1) bn bc ba u (HCe.out u hu).2
            · intro A u hu hpu hsz hout hdeps
              have e48 : A.eval (.tmp 48) = (.bool false) := by have h := depL hdeps 10 (by kernel_rfl) 48 (by kernel_rfl); exact h
              have e53 : A.eval (.tmp 53) = (.slice ba bn bc) := by have h := depL hdeps 15 (by kernel_rfl) 53 (by kernel_rfl); exact h
              refine ifw_want 10 false 48 rfl rfl e48 ?_
              with_reducible refine shown_q (Value.int .i64 (bn : Nat)) ?qq_3_16 (fun _ _ => ?qr_3_16)
              case qr_3_16 => exact (rfl : (Value.int .i64 (bn : Nat)) = (Value.int .i64 (bn : Nat)))
              with_reducible refine quietAt_len (.tmp 53) 74 ?h0_3_16 ba bn bc ?h1_3_16 ?h2_3_16
              case h0_3_16 => rfl
              case h1_3_16 => exact e53
              case h2_3_16 => kernel_rfl
            · intro A u hu hpu hsz hout hdeps
              have e48 : A.eval (.tmp 48) = (.bool false) := by have h := depL hdeps 10 (by kernel_rfl) 48 (by kernel_rfl); exact h
              have e1 : A.eval (.tmp 1) = (.int .i64 room) := (hout 1 (by kernel_rfl)).trans rfl
              refine ifw_want 10 false 48 rfl rfl e48 ?_
              with_reducible refine shown_q (Value.int .i64 room) ?qq_3_17 (fun _ _ => ?qr_3_17)
              case qr_3_17 => exact (rfl : (Value.int .i64 room) = (Value.int .i64 room))
              with_reducible refine quietAt_mv (.tmp 1) (Value.int .i64 room) ?h0_3_17 ?h1_3_17
              case h0_3_17 => rfl
              case h1_3_17 => exact e1
            · intro A u hu hpu hsz hout hdeps
              have e48 : A.eval (.tmp 48) = (.bool false) := by have h := depL hdeps 10 (by kernel_rfl) 48 (by kernel_rfl); exact h
              have e6 : A.eval (.tmp 6) = (.pointer (some ⟨bd, 0, none⟩)) := (hout 6 (by kernel_rfl)).trans rfl
              refine ifw_want 10 false 48 rfl rfl e48 ?_
              with_reducible refine shown_q (Value.pointer (some ⟨bd, 0, none⟩)) ?qq_3_18 (fun _ _ => ?qr_3_18)
              case qr_3_18 => exact (rfl : (Value.pointer (some ⟨bd, 0, none⟩)) = (Value.pointer (some ⟨bd, 0, none⟩)))
              with_reducible refine quietAt_mv (.tmp 6) (Value.pointer (some ⟨bd, 0, none⟩)) ?h0_3_18 ?h1_3_18
              case h0_3_18 => rfl
              case h1_3_18 => exact e6
            · intro A u hu hpu hsz hout hdeps
              have e48 : A.eval (.tmp 48) = (.bool false) := by have h := depL hdeps 10 (by kernel_rfl) 48 (by kernel_rfl); exact h
              have e56 : A.eval (.tmp 56) = (.pointer (some ⟨bd, 0, none⟩)) := by have h := depL hdeps 18 (by kernel_rfl) 56 (by kernel_rfl); exact h
              refine ifw_want 10 false 48 rfl rfl e48 ?_
              with_reducible refine shown_call 43 Tryz.f43 ?h0_3_19 ?h1_3_19 ?h2_3_19 #[.tmp 56] #[30] ?h3_3_19 #[(Value.pointer (some ⟨bd, 0, none⟩))] ?h4_3_19 ?h5_3_19
              case h0_3_19 => exact Tryz.func43
              case h1_3_19 => kernel_rfl
              case h2_3_19 => kernel_rfl
              case h3_3_19 => rfl
              case h4_3_19 => exact map1 _ _ _ e56
              case h5_3_19 => exact HUs.out u hu
            · intro A u hu hpu hsz hout hdeps
              have e48 : A.eval (.tmp 48) = (.bool false) := by have h := depL hdeps 10 (by kernel_rfl) 48 (by kernel_rfl); exact h
              have e55 : A.eval (.tmp 55) = (.int .i64 room) := by have h := depL hdeps 17 (by kernel_rfl) 55 (by kernel_rfl); exact h
              have f57 : (fun v _ => v = Value.int .i64 (us : Nat)) (A.eval (.tmp 57)) u := by have h := depL hdeps 19 (by kernel_rfl) 57 (by kernel_rfl); exact h
              have e57 := (f57 : _ = Value.int .i64 (us : Nat))
              refine ifw_want 10 false 48 rfl rfl e48 ?_
              with_reducible refine shown_q (Value.int .i64 (room - (us : Int))) ?qq_3_20 (fun _ _ => ?qr_3_20)
              case qr_3_20 => exact (rfl : (Value.int .i64 (room - (us : Int))) = (Value.int .i64 (room - (us : Int))))
              with_reducible refine quietAt_bin .sub 3 (.tmp 55) (.tmp 57) 3 (Value.int .i64 room) (Value.int .i64 (us : Nat)) (Value.int .i64 (room - (us : Int))) ?h0_3_20 ?h1_3_20 ?h2_3_20 ?h3_3_20
              case h0_3_20 => rfl
              case h1_3_20 => exact e55
              case h2_3_20 => exact e57
              case h3_3_20 => exact HSub.out _ _ u
            · intro A u hu hpu hsz hout hdeps
              have e48 : A.eval (.tmp 48) = (.bool false) := by have h := depL hdeps 10 (by kernel_rfl) 48 (by kernel_rfl); exact h
              have e54 : A.eval (.tmp 54) = (.int .i64 (bn : Nat)) := by have h := depL hdeps 16 (by kernel_rfl) 54 (by kernel_rfl); exact h
              have e58 : A.eval (.tmp 58) = (.int .i64 (room - (us : Int))) := by have h := depL hdeps 20 (by kernel_rfl) 58 (by kernel_rfl); exact h
              refine ifw_want 10 false 48 rfl rfl e48 ?_
              with_reducible refine shown_q (Value.bool true) ?qq_3_21 (fun _ _ => ?qr_3_21)
              case qr_3_21 => exact (rfl : (Value.bool true) = (Value.bool true))
              with_reducible refine quietAt_bin .gtr 3 (.tmp 54) (.tmp 58) 3 (Value.int .i64 (bn : Nat)) (Value.int .i64 (room - (us : Int))) (Value.bool true) ?h0_3_21 ?h1_3_21 ?h2_3_21 ?h3_3_21
              case h0_3_21 => rfl
              case h1_3_21 => exact e54
              case h2_3_21 => exact e58
              case h3_3_21 => exact HGt.out _ _ u
            · intro A u hu hpu hsz hout hdeps
              have e48 : A.eval (.tmp 48) = (.bool false) := by have h := depL hdeps 10 (by kernel_rfl) 48 (by kernel_rfl); exact h
              have e59 : A.eval (.tmp 59) = (.bool true) := by have h := depL hdeps 21 (by kernel_rfl) 59 (by kernel_rfl); exact h
              refine ifw_none rfl ?_
              with_reducible refine shown_q (Value.bool true) ?qq_3_22 (fun _ _ => ?qr_3_22)
              case qr_3_22 => exact (rfl : (Value.bool true) = (Value.bool true))
              with_reducible refine quietAt_pick (.tmp 48) (.const (.bool true)) (.tmp 59) false (Value.bool true) ?h0_3_22 ?h1_3_22 ?h2_3_22
              case h0_3_22 => rfl
              case h1_3_22 => exact e48
              case h2_3_22 => rw [if_neg (by decide)]; exact e59
            · intro A u8 listed hh hall
              have hA := hh.frame
              have HU := hid hh.grown
              obtain ⟨x38, hx38⟩ : ∃ x, A.eval (.tmp 38) = x := ⟨_, rfl⟩
              have f38 : (fun v _ => v = (Value.slice (some ⟨g, off, none⟩) n c)) x38 u8 := by rw [← hx38]; exact hh.got 0 _ 38 rfl rfl (hall 0 (by decide))
              obtain ⟨x39, hx39⟩ : ∃ x, A.eval (.tmp 39) = x := ⟨_, rfl⟩
              have f39 : (fun v _ => v = (Value.int .i64 (i : Nat))) x39 u8 := by rw [← hx39]; exact hh.got 1 _ 39 rfl rfl (hall 1 (by decide))
              obtain ⟨x40, hx40⟩ : ∃ x, A.eval (.tmp 40) = x := ⟨_, rfl⟩
              have f40 : (fun v _ => v = (Value.pointer (some ⟨g, off + i * 2, none⟩))) x40 u8 := by rw [← hx40]; exact hh.got 2 _ 40 rfl rfl (hall 2 (by decide))
              obtain ⟨x41, hx41⟩ : ∃ x, A.eval (.tmp 41) = x := ⟨_, rfl⟩
              have f41 : (fun v _ => v = (Value.pointer (some ⟨g, off + i * 2, none⟩))) x41 u8 := by rw [← hx41]; exact hh.got 3 _ 41 rfl rfl (hall 3 (by decide))
              obtain ⟨x42, hx42⟩ : ∃ x, A.eval (.tmp 42) = x := ⟨_, rfl⟩
              have f42 : (fun v _ => v = (Value.string s)) x42 u8 := by rw [← hx42]; exact hh.got 4 _ 42 rfl rfl (hall 4 (by decide))
              obtain ⟨x43, hx43⟩ : ∃ x, A.eval (.tmp 43) = x := ⟨_, rfl⟩
              have f43 : (fun v _ => v = Value.bool true) x43 u8 := by rw [← hx43]; exact hh.got 5 _ 43 rfl rfl (hall 5 (by decide))
              obtain ⟨x44, hx44⟩ : ∃ x, A.eval (.tmp 44) = x := ⟨_, rfl⟩
              have f44 : (fun v _ => v = (Value.bool false)) x44 u8 := by rw [← hx44]; exact hh.got 6 _ 44 rfl rfl (hall 6 (by decide))
              obtain ⟨x45, hx45⟩ : ∃ x, A.eval (.tmp 45) = x := ⟨_, rfl⟩
              have f45 : (fun v _ => v = (Value.bool false)) x45 u8 := by rw [← hx45]; exact hh.got 7 _ 45 rfl rfl (hall 7 (by decide))
              obtain ⟨x46, hx46⟩ : ∃ x, A.eval (.tmp 46) = x := ⟨_, rfl⟩
              have f46 : (fun v _ => v = (Value.bool false)) x46 u8 := by rw [← hx46]; exact hh.got 8 _ 46 rfl rfl (hall 8 (by decide))
              obtain ⟨x47, hx47⟩ : ∃ x, A.eval (.tmp 47) = x := ⟨_, rfl⟩
              have f47 : (fun v _ => v = (Value.bool false)) x47 u8 := by rw [← hx47]; exact hh.got 9 _ 47 rfl rfl (hall 9 (by decide))
              obtain ⟨x48, hx48⟩ : ∃ x, A.eval (.tmp 48) = x := ⟨_, rfl⟩
              have f48 : (fun v _ => v = (Value.bool false)) x48 u8 := by rw [← hx48]; exact hh.got 10 _ 48 rfl rfl (hall 10 (by decide))
              obtain ⟨x49, hx49⟩ : ∃ x, A.eval (.tmp 49) = x := ⟨_, rfl⟩
              have f49 : (fun v _ => v = (Value.slice (some ⟨g, off, none⟩) n c)) x49 u8 := by rw [← hx49]; exact hh.got 11 _ 49 rfl rfl (hall 11 (by decide))
              obtain ⟨x50, hx50⟩ : ∃ x, A.eval (.tmp 50) = x := ⟨_, rfl⟩
              have f50 : (fun v _ => v = (Value.int .i64 (i : Nat))) x50 u8 := by rw [← hx50]; exact hh.got 12 _ 50 rfl rfl (hall 12 (by decide))
              obtain ⟨x51, hx51⟩ : ∃ x, A.eval (.tmp 51) = x := ⟨_, rfl⟩
              have f51 : (fun v _ => v = (Value.pointer (some ⟨g, off + i * 2, none⟩))) x51 u8 := by rw [← hx51]; exact hh.got 13 _ 51 rfl rfl (hall 13 (by decide))
              obtain ⟨x52, hx52⟩ : ∃ x, A.eval (.tmp 52) = x := ⟨_, rfl⟩
              have f52 : (fun v _ => v = (Value.pointer (some ⟨g, off + i * 2 + 1, none⟩))) x52 u8 := by rw [← hx52]; exact hh.got 14 _ 52 rfl rfl (hall 14 (by decide))
              obtain ⟨x53, hx53⟩ : ∃ x, A.eval (.tmp 53) = x := ⟨_, rfl⟩
              have f53 : (fun v _ => v = (Value.slice ba bn bc)) x53 u8 := by rw [← hx53]; exact hh.got 15 _ 53 rfl rfl (hall 15 (by decide))
              obtain ⟨x54, hx54⟩ : ∃ x, A.eval (.tmp 54) = x := ⟨_, rfl⟩
              have f54 : (fun v _ => v = (Value.int .i64 (bn : Nat))) x54 u8 := by rw [← hx54]; exact hh.got 16 _ 54 rfl rfl (hall 16 (by decide))
              obtain ⟨x55, hx55⟩ : ∃ x, A.eval (.tmp 55) = x := ⟨_, rfl⟩
              have f55 : (fun v _ => v = (Value.int .i64 room)) x55 u8 := by rw [← hx55]; exact hh.got 17 _ 55 rfl rfl (hall 17 (by decide))
              obtain ⟨x56, hx56⟩ : ∃ x, A.eval (.tmp 56) = x := ⟨_, rfl⟩
              have f56 : (fun v _ => v = (Value.pointer (some ⟨bd, 0, none⟩))) x56 u8 := by rw [← hx56]; exact hh.got 18 _ 56 rfl rfl (hall 18 (by decide))
              obtain ⟨x57, hx57⟩ : ∃ x, A.eval (.tmp 57) = x := ⟨_, rfl⟩
              have f57 : (fun v _ => v = Value.int .i64 (us : Nat)) x57 u8 := by rw [← hx57]; exact hh.got 19 _ 57 rfl rfl (hall 19 (by decide))
              obtain ⟨x58, hx58⟩ : ∃ x, A.eval (.tmp 58) = x := ⟨_, rfl⟩
              have f58 : (fun v _ => v = (Value.int .i64 (room - (us : Int)))) x58 u8 := by rw [← hx58]; exact hh.got 20 _ 58 rfl rfl (hall 20 (by decide))
              obtain ⟨x59, hx59⟩ : ∃ x, A.eval (.tmp 59) = x := ⟨_, rfl⟩
              have f59 : (fun v _ => v = (Value.bool true)) x59 u8 := by rw [← hx59]; exact hh.got 21 _ 59 rfl rfl (hall 21 (by decide))
              obtain ⟨x60, hx60⟩ : ∃ x, A.eval (.tmp 60) = x := ⟨_, rfl⟩
              have f60 : (fun v _ => v = (Value.bool true)) x60 u8 := by rw [← hx60]; exact hh.got 22 _ 60 rfl rfl (hall 22 (by decide))
              dsimp only [wrote, List.foldl] at hA
              rw [hx38, hx39, hx40, hx41, hx42, hx43, hx44, hx45, hx46, hx47, hx48, hx49, hx50, hx51, hx52, hx53, hx54, hx55, hx56, hx57, hx58, hx59, hx60] at hA
              clear hh hall hx38 hx39 hx40 hx41 hx42 hx43 hx44 hx45 hx46 hx47 hx48 hx49 hx50 hx51 hx52 hx53 hx54 hx55 hx56 hx57 hx58 hx59 hx60
              replace f38 := (f38 : x38 = (.slice (some ⟨g, off, none⟩) n c))
              subst f38
              replace f39 := (f39 : x39 = (.int .i64 (i : Nat)))
              subst f39
              replace f40 := (f40 : x40 = (.pointer (some ⟨g, off + i * 2, none⟩)))
              subst f40
              replace f41 := (f41 : x41 = (.pointer (some ⟨g, off + i * 2, none⟩)))
              subst f41
              replace f42 := (f42 : x42 = (.string s))
              subst f42
              have e43 := (f43 : _ = Value.bool true)
              subst e43
              replace f44 := (f44 : x44 = (.bool false))
              subst f44
              replace f45 := (f45 : x45 = (.bool false))
              subst f45
              replace f46 := (f46 : x46 = (.bool false))
              subst f46
              replace f47 := (f47 : x47 = (.bool false))
              subst f47
              replace f48 := (f48 : x48 = (.bool false))
              subst f48
              replace f49 := (f49 : x49 = (.slice (some ⟨g, off, none⟩) n c))
              subst f49
              replace f50 := (f50 : x50 = (.int .i64 (i : Nat)))
              subst f50
              replace f51 := (f51 : x51 = (.pointer (some ⟨g, off + i * 2, none⟩)))
              subst f51
              replace f52 := (f52 : x52 = (.pointer (some ⟨g, off + i * 2 + 1, none⟩)))
              subst f52
              replace f53 := (f53 : x53 = (.slice ba bn bc))
              subst f53
              replace f54 := (f54 : x54 = (.int .i64 (bn : Nat)))
              subst f54
              replace f55 := (f55 : x55 = (.int .i64 room))
              subst f55
              replace f56 := (f56 : x56 = (.pointer (some ⟨bd, 0, none⟩)))
              subst f56
              have e57 := (f57 : _ = Value.int .i64 (us : Nat))
              subst e57
              replace f58 := (f58 : x58 = (.int .i64 (room - (us : Int))))
              subst f58
              replace f59 := (f59 : x59 = (.bool true))
              subst f59
              replace f60 := (f60 : x60 = (.bool true))
              subst f60
              subst hA
              show wpList _ _ _ [] _ _
              unfold wpList
              simp only [Act.put, List.setIfInBounds_toArray, List.set_cons_succ, List.set_cons_zero]
              go_wp2_with fail
              refine bodyPost_ret (results_tmp2 rfl _ _ _) rfl ?_
              exact ⟨gtrans HGw.out HU.out, .inl ⟨HBad.out (fun z => by have := z.2.2; omega), rfl⟩⟩
    · as_aux_lemma =>
      have hlt' : ¬ (i : Int) < (n : Int) := by omega
      have ht : L.take i = L := List.take_of_length_le (by rw [HN.out]; omega)
      have hd : L.drop i = [] := List.drop_eq_nil_of_le (by rw [HN.out]; omega)
      have HL : Hid (loadC room [] L = some L) := hid (by have q := HC.out.2.1; rw [ht, hd] at q; exact q)
      rw [ht] at HR
      clear HC
      go_wp2_with fail
      refine bodyPost_ret (results_tmp2 rfl _ _ _) rfl ?_
      exact ⟨HGw.out, .inr ⟨bd, rfl, HL.out, sv, E, HR.out⟩⟩
end Go.Proofs.YtpbiofnncdneoaaGreatDoor
