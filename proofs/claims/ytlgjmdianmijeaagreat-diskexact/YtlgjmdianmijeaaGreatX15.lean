/- The reference's disk in memory; place, used, bytes, torn. -/
import Derived.Test.YtlgjmdianmijeaaGreatX14
import Derived.BigQuiet
namespace Go.Proofs.YtlgjmdianmijeaaGreat
open Go Go.RowKit Go.MapKept Go.MuLone
open Go.RowKit (wrap32 wrap64)

def rkc (A : Ab) (sv : Value) : List Value := [.int .i64 A.room, sv, .int .i64 A.ar, .int .i64 A.kp, .bool A.off, .int .i64 A.wr]
/-- The reference's disk at block b. -/
structure Rk (w : World) (B b : Nat) (A : Ab) (sv : Value) (E : List Fl) : Prop where
  blk : Blk w b (rkc A sv) 113
  row : OutF B w sv E
  con : cont E = A.C
  srt : SrtS A.C
  low : B ≤ b
  ok : A.ok
/-- What it has of its own. -/
def Rfp (b : Nat) (sv : Value) (E : List Fl) (k : Nat) : Prop := k = b ∨ sv.ownBlock = some k ∨ ∃ f ∈ E, f.v.ownBlock = some k
def RkP (w : World) (B b : Nat) (A : Ab) (P : Nat → Prop) : Prop := ∃ sv E, Rk w B b A sv E ∧ ∀ k, Rfp b sv E k → P k
variable {w w' : World} {B b : Nat} {A : Ab} {P : Nat → Prop} {sv : Value} {E : List Fl}
theorem Rk.keep (h : Rk w B b A sv E) (hg : w.grownBy w' none) : Rk w' B b A sv E := ⟨h.blk.keep hg, h.row.keep hg, h.con, h.srt, h.low, h.ok⟩
theorem plc_less {S : Cn} {s : ByteArray} {i : Nat} (h : i < plc S s) : ∃ hi : i < S.length, lessN (S[i]).1 s = true := by
  have hi : i < S.length := Nat.lt_of_lt_of_le h (plc_le S s)
  refine ⟨hi, hd_less (S := S) ?_⟩
  have h2 : (S.take (plc S s))[i]? = some S[i] := by rw [List.getElem?_take, if_pos h, List.getElem?_eq_getElem hi]
  rw [take_plc] at h2
  exact List.mem_of_getElem? h2
theorem plc_at {S : Cn} {s : ByteArray} (h : plc S s < S.length) : lessN (S[plc S s]).1 s = false ∧ isAt S s = decide ((S[plc S s]).1 = s) := by
  have h1 := List.drop_eq_getElem_cons h
  rw [drop_plc] at h1
  refine ⟨tl_head h1, ?_⟩
  unfold isAt
  rw [h1]
theorem plc_end {S : Cn} {s : ByteArray} (h : ¬ plc S s < S.length) : isAt S s = false := by
  have h1 := drop_plc S s
  rw [List.drop_eq_nil_of_le (by omega)] at h1
  unfold isAt
  rw [← h1]
theorem idx66 (g o n c i : Nat) (h : i < n) (u : World) : (Instr.indexAt 66 (.slice (some ⟨g, o, none⟩) n c) (.int .i64 (i : Nat))).run Tryz.prog u = .ok (.pointer (some ⟨g, o + i * 2, none⟩)) u := idx34 g o n c i h u
set_option maxRecDepth 100000 in
set_option maxHeartbeats 1600000 in
theorem place_any (h : Rk w B b A sv E) (s : ByteArray) : Calls Tryz.prog 57 #[.pointer (some ⟨b, 0, none⟩), .string s] w fun e w' => e = .returned (.tuple #[.int .i64 (plc A.C s : Nat), .bool (isAt A.C s)]) ∧ w.grownBy w' none := by
  obtain ⟨a, g, c, rfl, hA⟩ := h.row.ar
  rw [h.con] at hA h
  have y1 : w.cell? ⟨b, 1, none⟩ = some (.slice a A.C.length c) := h.blk.cell 1
  have HA := hid hA
  have hln : A.C.length ≤ 64 := h.ok.len
  obtain ⟨S, hS⟩ : ∃ x, A.C = x := ⟨_, rfl⟩
  rw [hS] at HA y1 hln ⊢
  obtain ⟨n, HN⟩ : ∃ n, Hid (S.length = n) := ⟨_, hid rfl⟩
  rw [HN.out] at y1 hln
  obtain ⟨q, Hq⟩ : ∃ q, Hid (plc S s = q) := ⟨_, hid rfl⟩
  obtain ⟨D, HD⟩ : ∃ D, Hid (isAt S s = D) := ⟨_, hid rfl⟩
  have hqn : q ≤ n := by rw [← Hq.out, ← HN.out]; exact plc_le S s
  rw [Hq.out, HD.out]
  clear hA h hS
  go_enter Tryz.func57, Tryz.ntmps57
  go_upto_region 2 with fail
  go_loopw [6] (fun iv wr => ∃ i : Nat, iv = .int .i64 i ∧ i ≤ q ∧ Hid (wr = w)) (fun iv _ => q - (intOf iv).toNat)
  case atStart => exact ⟨0, rfl, Nat.zero_le _, hid rfl⟩
  case round =>
    obtain ⟨i, rfl, hi, HW⟩ := hrel
    have hw := HW.out
    subst hw
    by_cases hlt : i < q
    · as_aux_lemma =>
      obtain ⟨hiS, hless⟩ := plc_less (S := S) (s := s) (i := i) (by rw [Hq.out]; exact hlt)
      obtain ⟨rfl, -⟩ := HA.out.at_ (by omega)
      have hc := (HA.out.each i hiS).1
      rw [Nat.zero_add] at hc
      have hin : (i : Int) < (n : Int) := by omega
      obtain ⟨t, ht⟩ : ∃ t, (S[i]).1 = t := ⟨_, rfl⟩
      rw [ht] at hc hless
      have hb : Op.bytesLess t.toList s.toList = true := hless
      clear ht hless
      go_wp2_with fail
      go_roundw
      case rel => exact ⟨i + 1, by go_num, by omega, hid trivial⟩
      case measure => simp [intOf]; omega
    · have e : i = q := by omega
      subst e
      by_cases hin : i < n
      · have hin' : (i : Int) < (n : Int) := by omega
        have hiS : i < S.length := by rw [HN.out]; exact hin
        have hp : lessN (S[i]).1 s = false ∧ D = decide ((S[i]).1 = s) := by
          have q := plc_at (S := S) (s := s) (by rw [Hq.out]; exact hiS)
          simp only [Hq.out] at q
          rw [HD.out] at q
          exact q
        obtain ⟨rfl, -⟩ := HA.out.at_ (by omega)
        have hc := (HA.out.each i hiS).1
        rw [Nat.zero_add] at hc
        obtain ⟨t, ht⟩ : ∃ t, (S[i]).1 = t := ⟨_, rfl⟩
        rw [ht] at hc hp
        have hb : Op.bytesLess t.toList s.toList = false := hp.1
        by_cases he : t = s
        · as_aux_lemma =>
          have hD : D = true := by rw [hp.2, decide_eq_true he]
          subst hD
          have hq : (t.toList == s.toList) = true := by rw [ba_dec, decide_eq_true he]
          clear ht hp he
          go_upto_region 4 with fail
          go_quiet (fail)
          go_wp2_with fail
          refine bodyPost_ret (results_tmp2 rfl _ _ _) rfl ?_
          exact ⟨rfl, gdrewN _ _ _⟩
        · as_aux_lemma =>
          have hD : D = false := by rw [hp.2, decide_eq_false he]
          subst hD
          have hq : (t.toList == s.toList) = false := by rw [ba_dec, decide_eq_false he]
          clear ht hp he
          go_upto_region 4 with fail
          go_quiet (fail)
          go_wp2_with fail
          refine bodyPost_ret (results_tmp2 rfl _ _ _) rfl ?_
          exact ⟨rfl, gdrewN _ _ _⟩
      · as_aux_lemma =>
        have hin' : ¬ (i : Int) < (n : Int) := by omega
        have hD : D = false := by rw [← HD.out]; exact plc_end (by rw [Hq.out, HN.out]; exact hin)
        subst hD
        go_upto_region 4 with fail
        go_quiet (fail)
        go_wp2_with fail
        refine bodyPost_ret (results_tmp2 rfl _ _ _) rfl ?_
        exact ⟨rfl, gdrewN _ _ _⟩
theorem used_take {L : Cn} {i : Nat} (h : i < L.length) : usedC (L.take (i + 1)) = usedC (L.take i) + (L[i]).2.length := by
  unfold usedC
  rw [List.take_succ_eq_append_getElem h, List.map_append, List.sum_append]
  simp
theorem used_take_le (L : Cn) (i : Nat) : usedC (L.take i) ≤ usedC L := by
  have h : usedC L = usedC (L.take i) + usedC (L.drop i) := by
    unfold usedC
    rw [← List.sum_append, ← List.map_append, List.take_append_drop]
  omega
set_option maxRecDepth 100000 in
set_option maxHeartbeats 1600000 in
theorem rused_any (h : Rk w B b A sv E) : Calls Tryz.prog 58 #[.pointer (some ⟨b, 0, none⟩)] w fun e w' => e = .returned (.int .i64 (usedC A.C : Nat)) ∧ w' = w := by
  obtain ⟨a, g, c, rfl, hA⟩ := h.row.ar
  rw [h.con] at hA h
  have y1 : w.cell? ⟨b, 1, none⟩ = some (.slice a A.C.length c) := h.blk.cell 1
  have HA := hid hA
  have hU : usedC A.C ≤ 268435456 := by have := h.ok.used; have := h.ok.room; omega
  obtain ⟨S, hS⟩ : ∃ x, A.C = x := ⟨_, rfl⟩
  have hln : A.C.length ≤ 64 := h.ok.len
  rw [hS] at HA y1 hU hln ⊢
  obtain ⟨n, HN⟩ : ∃ n, Hid (S.length = n) := ⟨_, hid rfl⟩
  rw [HN.out] at y1 hln
  clear hA h hS
  go_enter Tryz.func58, Tryz.ntmps58
  go_upto_region 3 with fail
  go_loopw [4, 3] (fun iv zv wr => ∃ i : Nat, iv = .int .i64 i ∧ zv = .int .i64 (usedC (S.take i) : Nat) ∧ i ≤ n ∧ Hid (wr = w)) (fun iv _ _ => n - (intOf iv).toNat)
  case atStart => exact ⟨0, rfl, rfl, Nat.zero_le _, hid rfl⟩
  case round =>
    obtain ⟨i, rfl, rfl, hi, HW⟩ := hrel
    have hw := HW.out
    subst hw
    by_cases hlt : i < n
    · have hlt' : (i : Int) < (n : Int) := by omega
      have hiS : i < S.length := by rw [HN.out]; exact hlt
      obtain ⟨rfl, -⟩ := HA.out.at_ (by omega)
      obtain ⟨v, hv1, hv2⟩ := (HA.out.each i hiS).2
      rw [Nat.zero_add] at hv1
      have HT := hid (used_take hiS)
      have HT2 := hid (used_take_le S (i + 1))
      obtain ⟨x, hx⟩ : ∃ x, (S[i]).2 = x := ⟨_, rfl⟩
      rw [hx] at hv2 HT
      obtain ⟨xa, -, -, xc, rfl, -⟩ := hv2
      obtain ⟨xn, hxn⟩ : ∃ y, x.length = y := ⟨_, rfl⟩
      rw [hxn] at hv1 HT
      obtain ⟨z, hz⟩ : ∃ z, usedC (S.take i) = z := ⟨_, rfl⟩
      rw [hz] at HT ⊢
      have hzx : z + xn ≤ 268435456 := by have := HT.out; have := HT2.out; omega
      clear hx hxn hz
      go_wp2_with fail
      go_roundw
      case rel => exact ⟨i + 1, by go_num, by rw [HT.out]; go_num, by omega, hid trivial⟩
      case measure => simp [intOf]; omega
    · have hlt' : ¬ (i : Int) < (n : Int) := by omega
      have e : i = n := by omega
      have hf : S.take i = S := List.take_of_length_le (by rw [HN.out]; omega)
      rw [hf]
      go_wp2_with fail
      go_ret
      exact ⟨rfl, rfl⟩
end Go.Proofs.YtlgjmdianmijeaaGreat

namespace Go.Proofs.YtlgjmdianmijeaaGreat
open Go Go.RowKit Go.MapKept Go.MuLone
open Go.RowKit (wrap32 wrap64)

set_option maxRecDepth 100000 in
set_option maxHeartbeats 4000000 in
theorem named_any (s : ByteArray) (hs : s.size ≤ 140737488355328) (w : World) : Calls Tryz.prog 65 #[.string s] w fun e w' => e = .returned (.bool (goodN s)) ∧ w' = w := by
  obtain ⟨R, HR⟩ : ∃ x, Hid (goodN s = x) := ⟨_, hid rfl⟩
  rw [HR.out]
  go_enter Tryz.func65, Tryz.ntmps65
  go_upto_region 2 with fail
  go_loopw [3] (fun iv wr => ∃ i : Nat, iv = .int .i64 i ∧ i ≤ s.size ∧ Hid (∀ j (hj : j < s.size), j < i → gbI (s[j].toNat) = true) ∧ Hid (wr = w)) (fun iv _ => s.size - (intOf iv).toNat)
  case atStart => exact ⟨0, rfl, by omega, hid (fun j hj h => by omega), hid rfl⟩
  case round =>
    obtain ⟨i, rfl, hi, HA, HW⟩ := hrel
    have hw := HW.out
    subst hw
    by_cases hlt : i < s.size
    · have hlt' : (i : Int) < (s.size : Int) := by omega
      have HNx : Hid (gbI (s[i].toNat) = true → ∀ j (hj : j < s.size), j < i + 1 → gbI (s[j].toNat) = true) := hid (fun hb j hj h => by
        by_cases e : j = i
        · subst e; exact hb
        · exact HA.out j hj (by omega))
      have HNo : Hid (gbI (s[i].toNat) = false → R = false) := hid (fun hb => by rw [← HR.out]; exact goodN_no hlt hb)
      obtain ⟨X, hX⟩ : ∃ X : Int, ((s[i].toNat : Nat) : Int) = X := ⟨_, rfl⟩
      rw [hX] at HNx HNo
      by_cases a1 : 97 ≤ X
      · by_cases a2 : X ≤ 122
        · as_aux_lemma =>
          have hr : gbI X = true := decide_eq_true (by omega)
          have HN2 := hid (HNx.out hr)
          go_wp2_with fail
          go_roundw
          case rel => exact ⟨i + 1, by go_num, by omega, HN2, hid trivial⟩
          case measure => simp [intOf]; omega
        · as_aux_lemma =>
          have a3 : 48 ≤ X := by omega
          have a4 : ¬ X ≤ 57 := by omega
          have hr : gbI X = false := decide_eq_false (by omega)
          have hR := HNo.out hr
          subst hR
          have b5 : (X == 46) = false := beq_eq_false_iff_ne.2 (by omega)
          have b6 : (X == 45) = false := beq_eq_false_iff_ne.2 (by omega)
          have b7 : (X == 95) = false := beq_eq_false_iff_ne.2 (by omega)
          have a5 : ¬ X = 46 := by omega
          have a6 : ¬ X = 45 := by omega
          have a7 : ¬ X = 95 := by omega
          go_wp2_with fail
          go_ret
          exact ⟨rfl, rfl⟩
      · by_cases a3 : 48 ≤ X
        · by_cases a4 : X ≤ 57
          · as_aux_lemma =>
            have hr : gbI X = true := decide_eq_true (by omega)
            have HN2 := hid (HNx.out hr)
            go_wp2_with fail
            go_roundw
            case rel => exact ⟨i + 1, by go_num, by omega, HN2, hid trivial⟩
            case measure => simp [intOf]; omega
          · by_cases a7 : X = 95
            · as_aux_lemma =>
              have hr : gbI X = true := decide_eq_true (by omega)
              have HN2 := hid (HNx.out hr)
              have b5 : (X == 46) = false := beq_eq_false_iff_ne.2 (by omega)
              have b6 : (X == 45) = false := beq_eq_false_iff_ne.2 (by omega)
              have b7 : (X == 95) = true := beq_iff_eq.2 a7
              have a5 : ¬ X = 46 := by omega
              have a6 : ¬ X = 45 := by omega
              go_wp2_with fail
              go_roundw
              case rel => exact ⟨i + 1, by go_num, by omega, HN2, hid trivial⟩
              case measure => simp [intOf]; omega
            · as_aux_lemma =>
              have hr : gbI X = false := decide_eq_false (by omega)
              have hR := HNo.out hr
              subst hR
              have b5 : (X == 46) = false := beq_eq_false_iff_ne.2 (by omega)
              have b6 : (X == 45) = false := beq_eq_false_iff_ne.2 (by omega)
              have b7 : (X == 95) = false := beq_eq_false_iff_ne.2 (by omega)
              have a5 : ¬ X = 46 := by omega
              have a6 : ¬ X = 45 := by omega
              go_wp2_with fail
              go_ret
              exact ⟨rfl, rfl⟩
        · by_cases a5 : X = 46
          · as_aux_lemma =>
            have hr : gbI X = true := decide_eq_true (by omega)
            have HN2 := hid (HNx.out hr)
            have b5 : (X == 46) = true := beq_iff_eq.2 a5
            go_wp2_with fail
            go_roundw
            case rel => exact ⟨i + 1, by go_num, by omega, HN2, hid trivial⟩
            case measure => simp [intOf]; omega
          · by_cases a6 : X = 45
            · as_aux_lemma =>
              have hr : gbI X = true := decide_eq_true (by omega)
              have HN2 := hid (HNx.out hr)
              have b5 : (X == 46) = false := beq_eq_false_iff_ne.2 (by omega)
              have b6 : (X == 45) = true := beq_iff_eq.2 a6
              go_wp2_with fail
              go_roundw
              case rel => exact ⟨i + 1, by go_num, by omega, HN2, hid trivial⟩
              case measure => simp [intOf]; omega
            · as_aux_lemma =>
              have hr : gbI X = false := decide_eq_false (by omega)
              have hR := HNo.out hr
              subst hR
              have b5 : (X == 46) = false := beq_eq_false_iff_ne.2 (by omega)
              have b6 : (X == 45) = false := beq_eq_false_iff_ne.2 (by omega)
              have b7 : (X == 95) = false := beq_eq_false_iff_ne.2 (by omega)
              have a7 : ¬ X = 95 := by omega
              go_wp2_with fail
              go_ret
              exact ⟨rfl, rfl⟩
    · as_aux_lemma =>
      have hlt' : ¬ (i : Int) < (s.size : Int) := by omega
      by_cases h1 : 1 ≤ s.size
      · by_cases h2 : s.size ≤ 64
        · have hR : R = true := by rw [← HR.out]; exact goodN_yes h1 h2 (fun j hj => HA.out j hj (by omega))
          subst hR
          have h1' : (1 : Int) ≤ (s.size : Int) := by omega
          have h2' : (s.size : Int) ≤ 64 := by omega
          clear h1 h2 hi hlt
          go_wp2_with fail
          go_ret
          exact ⟨rfl, rfl⟩
        · have hR : R = false := by rw [← HR.out]; unfold goodN; rw [decide_eq_false h2]; simp
          subst hR
          have h1' : (1 : Int) ≤ (s.size : Int) := by omega
          have h2' : ¬ (s.size : Int) ≤ 64 := by omega
          clear h1 h2 hi hlt
          go_wp2_with fail
          go_ret
          exact ⟨rfl, rfl⟩
      · have hR : R = false := by rw [← HR.out]; unfold goodN; rw [decide_eq_false h1]; rfl
        subst hR
        have h1' : ¬ (1 : Int) ≤ (s.size : Int) := by omega
        clear h1 hi hlt
        go_wp2_with fail
        go_ret
        exact ⟨rfl, rfl⟩
variable {w w' : World} {B b : Nat} {A : Ab} {P : Nat → Prop} {sv : Value} {E : List Fl}
set_option maxRecDepth 100000 in
theorem refused_any (h : Rk w B b A sv E) (s : ByteArray) (hs : s.size ≤ 140737488355328) : Calls Tryz.prog 56 #[.pointer (some ⟨b, 0, none⟩), .string s] w fun e w' => e = .returned (.int .i64 (refE A.off s)) ∧ w' = w := by
  have y4 : w.cell? ⟨b, 4, none⟩ = some (.bool A.off) := h.blk.cell 4
  have HN : Hid (∀ u : World, Calls Tryz.prog 65 #[.string s] u fun e w' => e = .returned (.bool (goodN s)) ∧ w' = u) := hid (fun u => named_any s hs u)
  unfold refE
  obtain ⟨o, ho⟩ : ∃ o, A.off = o := ⟨_, rfl⟩
  obtain ⟨q, hq⟩ : ∃ q, goodN s = q := ⟨_, rfl⟩
  rw [ho] at y4 ⊢
  rw [hq] at HN ⊢
  clear ho hq h hs
  cases o with
  | true =>
    go_enter Tryz.func56, Tryz.ntmps56
    go_wp2_with fail
    go_ret
    exact ⟨rfl, rfl⟩
  | false =>
    cases q with
    | true =>
      go_enter Tryz.func56, Tryz.ntmps56
      go_wp2_with (go_at_call 65; (with_reducible refine (HN.out _).mono ?_); rintro e w5 ⟨rfl, hw5⟩; have hw5' := hw5.symm; clear hw5; subst hw5')
      go_ret
      exact ⟨rfl, rfl⟩
    | false =>
      go_enter Tryz.func56, Tryz.ntmps56
      go_wp2_with (go_at_call 65; (with_reducible refine (HN.out _).mono ?_); rintro e w5 ⟨rfl, hw5⟩; have hw5' := hw5.symm; clear hw5; subst hw5')
      go_ret
      exact ⟨rfl, rfl⟩
set_option maxRecDepth 100000 in
theorem missing_any (h : Rk w B b A sv E) (s : ByteArray) (hs : s.size ≤ 140737488355328) : Calls Tryz.prog 63 #[.pointer (some ⟨b, 0, none⟩), .string s] w fun e w' => e = .returned (.int .i64 (A.fndE s)) ∧ w.grownBy w' none := by
  have HR := hid (refused_any h s hs)
  have HP := hid (place_any h s)
  have hI := isAt_get h.srt s
  obtain ⟨r, hr⟩ : ∃ r, refE A.off s = r := ⟨_, rfl⟩
  obtain ⟨p, hp⟩ : ∃ p, plc A.C s = p := ⟨_, rfl⟩
  obtain ⟨D, hD⟩ : ∃ D, isAt A.C s = D := ⟨_, rfl⟩
  have hF : A.fndE s = if r = 0 then (if D = true then 0 else 92) else r := by unfold Ab.fndE; rw [hr, ← hI, hD]
  rw [hF]
  rw [hr] at HR
  rw [hp, hD] at HP
  clear h hs hI hr hp hD hF
  by_cases hr0 : r = 0
  · subst hr0
    cases D with
    | true =>
      go_enter Tryz.func63, Tryz.ntmps63
      go_wp2_with (first
        | (go_at_call 56; (with_reducible refine HR.out.mono ?_); rintro e w5 ⟨rfl, hw5⟩; have hw5' := hw5.symm; clear hw5; subst hw5')
        | (go_at_call 57; (with_reducible refine HP.out.mono ?_); rintro e w6 ⟨rfl, hg⟩; have HG := hid hg; clear hg))
      go_ret
      exact ⟨rfl, HG.out⟩
    | false =>
      go_enter Tryz.func63, Tryz.ntmps63
      go_wp2_with (first
        | (go_at_call 56; (with_reducible refine HR.out.mono ?_); rintro e w5 ⟨rfl, hw5⟩; have hw5' := hw5.symm; clear hw5; subst hw5')
        | (go_at_call 57; (with_reducible refine HP.out.mono ?_); rintro e w6 ⟨rfl, hg⟩; have HG := hid hg; clear hg))
      go_ret
      exact ⟨rfl, HG.out⟩
  · rw [if_neg hr0]
    have hb : (r == 0) = false := beq_eq_false_iff_ne.2 hr0
    go_enter Tryz.func63, Tryz.ntmps63
    go_wp2_with (first
      | (go_at_call 56; (with_reducible refine HR.out.mono ?_); rintro e w5 ⟨rfl, hw5⟩; have hw5' := hw5.symm; clear hw5; subst hw5')
      | (go_at_call 57; (with_reducible refine HP.out.mono ?_); rintro e w6 ⟨rfl, hg⟩; have HG := hid hg; clear hg))
    go_ret
    exact ⟨rfl, HG.out⟩
theorem roff_any (t : Bool) (w : World) : Calls Tryz.prog 64 #[.bool t] w fun e w' => e = .returned (.int .i64 (if t = true then 94 else 0)) ∧ w' = w := by
  cases t with
  | true =>
    go_enter Tryz.func64, Tryz.ntmps64
    go_wp2
    go_ret
    exact ⟨rfl, rfl⟩
  | false =>
    go_enter Tryz.func64, Tryz.ntmps64
    go_wp2
    go_ret
    exact ⟨rfl, rfl⟩
/-- The disk's own block is written. -/
theorem Rk.put {A' : Ab} (h : Rk w B b A sv E) (hb : Blk w' b (rkc A' sv) 113) (hg : w.grownBy w' (some b)) (hC : A'.C = A.C) (ho : A'.ok) : Rk w' B b A' sv E :=
  ⟨hb, h.row.on hg (fun k hk => by
    injection hk with hk
    subst hk
    refine ⟨fun e => ?_, fun f hf e => out_ne (h.row.own f hf) h.blk (by decide) e⟩
    rcases h.row.row.2 with ⟨h1, _⟩ | ⟨g', cap, cur, hv, hB, hgg, _⟩
    · rw [h1] at e; cases e
    · rw [hv] at e
      injection e with e
      have e' : g' = b := e
      subst e'
      have h9 := h.blk
      unfold Blk at h9
      rw [hgg] at h9
      injection h9 with h9
      injection h9 with _ h9
      cases h9), by rw [hC]; exact h.con, by rw [hC]; exact h.srt, h.low, ho⟩
def Ab.tore (A : Ab) : Ab := A.did A.C
set_option maxRecDepth 100000 in
set_option maxHeartbeats 1600000 in
theorem torn_any (h : Rk w B b A sv E) (hoff : A.off = false) (hw : A.wr ≤ 4611686018427387904) : Calls Tryz.prog 59 #[.pointer (some ⟨b, 0, none⟩)] w fun e w' => e = .returned (.bool (decide (A.ar = 1))) ∧ Rk w' B b A.tore sv E ∧ w.grownBy w' (some b) := by
  have H := hid h
  have hwr := h.ok.wr
  have har := h.ok.ar
  obtain ⟨room, off, wr, ar, kp, C⟩ := A
  replace hoff : off = false := hoff
  subst hoff
  replace hw : wr ≤ 4611686018427387904 := hw
  replace hwr : 0 ≤ wr := hwr
  replace har : 0 ≤ ar ∧ ar ≤ 9223372036854775807 := har
  have hB : Blk w b [.int .i64 room, sv, .int .i64 ar, .int .i64 kp, .bool false, .int .i64 wr] 113 := h.blk
  clear h
  have HB := hid hB
  have c2 := hB.cell 2
  have c4 := hB.cell 4
  have c5 := hB.cell 5
  have f2 := hB.frozen 2
  have f4 := hB.frozen 4
  have f5 := hB.frozen 5
  clear hB
  have HK : Hid (∀ (w' : World) (A' : Ab), Blk w' b (rkc A' sv) 113 → w.grownBy w' (some b) → A'.C = C → A'.ok → Rk w' B b A' sv E) := hid (fun w' A' h1 h2 h3 h4 => H.out.put h1 h2 h3 h4)
  have HO : Hid ((⟨room, false, wr, ar, kp, C⟩ : Ab).tore.ok) := hid (H.out.ok.did H.out.ok.used H.out.ok.len H.out.ok.nms)
  by_cases h0 : ar = 0
  · as_aux_lemma =>
    subst h0
    go_enter Tryz.func59, Tryz.ntmps59
    go_wp2_with fail
    go_ret
    have hg := gset w ⟨b, 5, none⟩ (.int .i64 (wr + 1))
    refine ⟨rfl, HK.out _ _ ?_ hg rfl HO.out, hg⟩
    exact HB.out.set 5 (.int .i64 (wr + 1))
  · by_cases h1 : ar = 1
    · as_aux_lemma =>
      subst h1
      go_enter Tryz.func59, Tryz.ntmps59
      go_wp2_with fail
      go_ret
      have hg : w.grownBy (((w.setCell ⟨b, 5, none⟩ (.int .i64 (wr + 1))).setCell ⟨b, 2, none⟩ (.int .i64 0)).setCell ⟨b, 4, none⟩ (.bool true)) (some b) := gtrans (gtrans (gset w ⟨b, 5, none⟩ _) (gset _ ⟨b, 2, none⟩ _)) (gset _ ⟨b, 4, none⟩ _)
      refine ⟨rfl, HK.out _ _ ?_ hg rfl HO.out, hg⟩
      exact ((HB.out.set 5 (.int .i64 (wr + 1))).set 2 (.int .i64 0)).set 4 (.bool true)
    · as_aux_lemma =>
      have h2 : ¬ ar - 1 = 0 := by omega
      have h3 : ((ar - 1) == 0) = false := beq_eq_false_iff_ne.2 h2
      have h4 : (ar == 0) = false := beq_eq_false_iff_ne.2 h0
      rw [decide_eq_false h1]
      go_enter Tryz.func59, Tryz.ntmps59
      go_wp2_with fail
      go_ret
      have hg : w.grownBy (((w.setCell ⟨b, 5, none⟩ (.int .i64 (wr + 1))).setCell ⟨b, 2, none⟩ (.int .i64 (ar - 1))).setCell ⟨b, 4, none⟩ (.bool false)) (some b) := gtrans (gtrans (gset w ⟨b, 5, none⟩ _) (gset _ ⟨b, 2, none⟩ _)) (gset _ ⟨b, 4, none⟩ _)
      refine ⟨rfl, HK.out _ _ ?_ hg rfl HO.out, hg⟩
      have e1 : (⟨room, false, wr, ar, kp, C⟩ : Ab).tore = ⟨room, false, wr + 1, ar - 1, kp, C⟩ := by
        unfold Ab.tore Ab.did wO wA
        rw [if_neg h1, if_neg h1]
        show Ab.mk room false (wr + 1) (max (ar - 1) 0) kp C = _
        rw [Int.max_eq_left (by omega)]
      rw [e1]
      exact ((HB.out.set 5 (.int .i64 (wr + 1))).set 2 (.int .i64 (ar - 1))).set 4 (.bool false)
end Go.Proofs.YtlgjmdianmijeaaGreat

namespace Go.Proofs.YtlgjmdianmijeaaGreat
open Go Go.RowKit Go.MapKept Go.MuLone
open Go.RowKit (wrap32 wrap64)

/-- A slice of files. -/
def SlF (w : World) (v : Value) (E : List Fl) : Prop := (v = .slice none 0 0 ∧ E = []) ∨ ∃ g o c, v = .slice (some ⟨g, o, none⟩) E.length c ∧ ∀ j u, (fcs E)[j]? = some u → w.cell? ⟨g, o + j, none⟩ = some u
variable {w w' : World} {B b : Nat} {A : Ab} {P : Nat → Prop} {sv : Value} {E : List Fl}
theorem fcs_append (E F : List Fl) : fcs (E ++ F) = fcs E ++ fcs F := by
  induction E with
  | nil => rfl
  | cons f E ih => simp only [List.cons_append, fcs, ih]
theorem fcs_take : ∀ (E : List Fl) (i : Nat), fcs (E.take i) = (fcs E).take (i * 2)
  | [], i => by simp [fcs]
  | f :: E, 0 => rfl
  | f :: E, i + 1 => by
    rw [show (i + 1) * 2 = i * 2 + 1 + 1 by omega]
    simp only [List.take_succ_cons, fcs, fcs_take E i]
theorem fcs_drop : ∀ (E : List Fl) (i : Nat), fcs (E.drop i) = (fcs E).drop (i * 2)
  | [], i => by simp [fcs]
  | f :: E, 0 => rfl
  | f :: E, i + 1 => by
    rw [show (i + 1) * 2 = i * 2 + 1 + 1 by omega]
    simp only [List.drop_succ_cons, fcs, fcs_drop E i]
theorem OutF.cells {g n c : Nat} (h : OutF B w (.slice (some ⟨g, 0, none⟩) n c) E) : n = E.length ∧ n ≤ c ∧ g < w.heap.size ∧ ∀ j u, (fcs E)[j]? = some u → w.cell? ⟨g, j, none⟩ = some u := by
  rcases h.row.2 with ⟨h1, _⟩ | ⟨g', cap, cur, h1, hB, hg, hle, hm, hs, ht⟩
  · cases h1
  · injection h1 with e1 e2 e3
    injection e1 with e1
    injection e1 with e1 _ _
    subst e1
    subst e3
    subst e2
    refine ⟨rfl, hle, (Array.getElem?_eq_some_iff.1 hg).1, fun j u hu => ?_⟩
    have hj : j < E.length * 2 := by have := (List.getElem?_eq_some_iff.1 hu).1; rw [fcs_len] at this; exact this
    rw [← ht, List.getElem?_take, if_pos hj] at hu
    have hx' : cur[j]? = some u := by rw [← Array.getElem?_toList]; exact hu
    simp [World.cell?, hg, hx']
/-- The row's own block, or none. -/
theorem OutF.shape (h : OutF B w sv E) : (sv = .slice none 0 0 ∧ E = []) ∨ ∃ g c, sv = .slice (some ⟨g, 0, none⟩) E.length c := by
  rcases h.row.2 with ⟨h1, h2⟩ | ⟨g', cap, cur, h1, _⟩
  · exact .inl ⟨h1, List.eq_nil_of_length_eq_zero h2⟩
  · exact .inr ⟨g', cap, h1⟩
theorem file_ones : ∀ {E : List Fl}, (∀ f ∈ E, ∃ l, Out B w f.v l) → ∀ u ∈ fcs E, u.oneCell' = true
  | [], _, u, hu => by cases hu
  | f :: E, h, u, hu => by
    rcases List.mem_cons.1 hu with rfl | hu
    · rfl
    · rcases List.mem_cons.1 hu with rfl | hu
      · obtain ⟨l, hl⟩ := h f (List.mem_cons_self ..)
        obtain ⟨a, c, e⟩ := hl.len
        rw [e]; rfl
      · exact file_ones (fun f hf => h f (List.mem_cons_of_mem _ hf)) u hu
set_option maxRecDepth 100000 in
/-- append of files of a row onto a row of the call's own. -/
theorem app_files {vs xv : Value} {E F : List Fl} (h : OutF B w vs E) (hx : SlF w xv F) (ho : ∀ f ∈ F, Out B w f.v f.bs) (hE : E.length + F.length ≤ 1000000) (hB : B ≤ w.heap.size) (ty : TypeId) :
    ∃ v' w', (Builtin.append_ #[66, 66] ty #[vs, xv]).run Tryz.prog w = .ok v' w' ∧ OutF B w' v' (E ++ F) ∧ w.grownBy w' vs.ownBlock ∧ (v'.ownBlock = vs.ownBlock ∨ v'.ownBlock = some w.heap.size) := by
  obtain ⟨inf, hi, hz0, hz1, hz2⟩ := info_parts Tryz.info130
  rcases hx with ⟨rfl, rfl⟩ | ⟨g, o, c, rfl, hc⟩
  · have hrun := run_append_owned_none (P := Tryz.prog) (w := w) B 66 ty 130 inf 2 Tryz.underlying66 hi vs _ _ h.row
    exact ⟨vs, w, hrun, by rw [List.append_nil]; exact h, grefl _ _, .inl rfl⟩
  · obtain ⟨v', w', h1, h2, h3, _, h4⟩ := run_append_own_at (P := Tryz.prog) w B 66 ty 130 inf (.agg [Value.string ⟨#[]⟩, .slice none 0 0].toArray) 2 40 Tryz.underlying66 hi hz0 hz1 hz2 rfl (by decide) vs _ _ h.row ⟨g, o, none⟩ F.length c (fcs F) (fcs_len F) (by
      intro j u hu
      rw [Addr.add_lit]
      exact hc j u hu) (file_ones (B := B) (w := w) (fun f hf => ⟨_, ho f hf⟩)) (by unfold maxLen; omega) (by omega) hB
    refine ⟨v', w', h1, ⟨by rw [fcs_append, List.length_append]; exact h2, fun f hf => ?_⟩, h3, h4⟩
    have hx : Out B w f.v f.bs := (List.mem_append.1 hf).elim (h.own f) (ho f)
    exact hx.on h3 (fun k hk => own_ne h.row hx (by decide) k hk)
theorem wpList_append_files {ops : Array Oper} {rest : List Oper} {o : Oper} {a : Act} {Q : Exit → Act → World → Prop} (hgd : o.guard = none) (s x : Operand)
    (ho : o.op = .call { callee := .builtin .append, args := #[s, x], argTypes := #[66, 66] }) (B : Nat) (E F : List Fl) (h : OutF B w (a.eval s) E) (hx : SlF w (a.eval x) F) (hO : ∀ f ∈ F, Out B w f.v f.bs) (hE : E.length + F.length ≤ 1000000) (hB : B ≤ w.heap.size)
    (k : ∀ v' w', OutF B w' v' (E ++ F) → w.grownBy w' (a.eval s).ownBlock → (v'.ownBlock = (a.eval s).ownBlock ∨ v'.ownBlock = some w.heap.size) → wpList Tryz.prog ops Q rest (a.put o.dst v') w') : wpList Tryz.prog ops Q (o :: rest) a w := by
  obtain ⟨v', w', h1, h2, h3, h4⟩ := app_files h hx hO hE hB o.type
  refine wpList_plain hgd fun K hK => ?_
  unfold Oper.wp
  simp [execOp, ho, resolve, invoke, builtin, h1, Result.andThen]
  exact hK _ _ (k v' w' h2 h3 h4)
theorem SlF.take {g n c i : Nat} (h : OutF B w (.slice (some ⟨g, 0, none⟩) n c) E) (hi : i ≤ E.length) : SlF w (.slice (some ⟨g, 0, none⟩) i c) (E.take i) := by
  obtain ⟨_, _, _, hc⟩ := h.cells
  refine .inr ⟨g, 0, c, by rw [List.length_take, Nat.min_eq_left hi], fun j u hu => ?_⟩
  rw [Nat.zero_add]
  rw [fcs_take, List.getElem?_take] at hu
  by_cases hj : j < i * 2
  · rw [if_pos hj] at hu; exact hc j u hu
  · rw [if_neg hj] at hu; cases hu
theorem SlF.drop {g n c c' i : Nat} (h : OutF B w (.slice (some ⟨g, 0, none⟩) n c) E) : SlF w (.slice (some ⟨g, i * 2, none⟩) (E.length - i) c') (E.drop i) := by
  obtain ⟨_, _, _, hc⟩ := h.cells
  refine .inr ⟨g, i * 2, c', by rw [List.length_drop], fun j u hu => ?_⟩
  rw [fcs_drop, List.getElem?_drop] at hu
  exact hc _ u hu
theorem SlF.keep {v : Value} (h : SlF w v E) (hg : w.grownBy w' none) (hl : ∀ g o c n, v = .slice (some ⟨g, o, none⟩) n c → g < w.heap.size) : SlF w' v E := by
  rcases h with h | ⟨g, o, c, rfl, hc⟩
  · exact .inl h
  · exact .inr ⟨g, o, c, rfl, fun j u hu => (cell_at hg (hl g o c _ rfl) (by simp)).trans (hc j u hu)⟩
/-- What bytes tells. -/
theorem cont_get {i : Nat} (hc : cont E = A.C) (hi : i < E.length) : ∃ h : i < A.C.length, A.C[i] = ((E[i]).nm, (E[i]).bs) := by
  have hl : i < A.C.length := by rw [← hc, len_cont]; exact hi
  refine ⟨hl, ?_⟩
  have : (cont E)[i]? = some ((E[i]).nm, (E[i]).bs) := by unfold cont; rw [List.getElem?_map, List.getElem?_eq_getElem hi]; rfl
  rw [hc, List.getElem?_eq_getElem hl] at this
  injection this
theorem at_get {S : Cn} (h : SrtS S) {s : ByteArray} (hi : isAt S s = true) : ∃ hp : plc S s < S.length, (S[plc S s]).1 = s ∧ getC S s = some (S[plc S s]).2 := by
  have hp : plc S s < S.length := by
    refine Decidable.byContradiction (fun hn => ?_)
    rw [plc_end hn] at hi
    cases hi
  have h1 := (plc_at hp).2
  rw [hi] at h1
  have he : (S[plc S s]).1 = s := of_decide_eq_true h1.symm
  have h2 := List.drop_eq_getElem_cons hp
  rw [drop_plc] at h2
  exact ⟨hp, he, (tl_get h).1 _ _ h2 he⟩
set_option maxRecDepth 100000 in
set_option maxHeartbeats 1600000 in
theorem rbytes_any (h : Rk w B b A sv E) (s : ByteArray) : Calls Tryz.prog 62 #[.pointer (some ⟨b, 0, none⟩), .string s] w fun e w' => ∃ v, e = .returned v ∧ Out B w' v ((getC A.C s).getD []) ∧ (∀ k, v.ownBlock = some k → Rfp b sv E k) ∧ w.grownBy w' none := by
  have HP := hid (place_any h s)
  obtain ⟨p, Hp⟩ : ∃ p, Hid (plc A.C s = p) := ⟨_, hid rfl⟩
  obtain ⟨D, HD⟩ : ∃ D, Hid (isAt A.C s = D) := ⟨_, hid rfl⟩
  rw [Hp.out, HD.out] at HP
  cases D with
  | false =>
    have hg : getC A.C s = none := by
      have := isAt_get h.srt s
      rw [HD.out] at this
      cases hx : getC A.C s with
      | none => rfl
      | some x => rw [hx] at this; cases this
    rw [hg]
    clear h hg Hp HD
    go_enter Tryz.func62, Tryz.ntmps62
    go_wp2_with (go_at_call 57; (with_reducible refine HP.out.mono ?_); rintro e w6 ⟨rfl, hg⟩; have HG := hid hg; clear hg)
    go_ret
    exact ⟨_, rfl, Out.nil _ _, (fun k hk => by cases hk), HG.out⟩
  | true =>
    obtain ⟨hp, he, hgt⟩ := at_get h.srt HD.out
    rw [hgt]
    have hpE : plc A.C s < E.length := by rw [← len_cont, h.con]; exact hp
    obtain ⟨_, hEq⟩ := cont_get h.con hpE
    rw [hEq]
    simp only [Option.getD_some]
    have HO : Hid (Out B w (E[plc A.C s]).v (E[plc A.C s]).bs) := hid (h.row.own _ (List.getElem_mem _))
    have HF : Hid (∀ k, (E[plc A.C s]).v.ownBlock = some k → Rfp b sv E k) := hid (fun k hk => .inr (.inr ⟨_, List.getElem_mem _, hk⟩))
    rcases h.row.shape with ⟨-, rfl⟩ | ⟨g, c, hsv⟩
    · simp at hpE
    have hcl : w.cell? ⟨g, plc A.C s * 2 + 1, none⟩ = some (E[plc A.C s]).v := by
      have hr := h.row
      rw [hsv] at hr
      exact hr.cells.2.2.2 _ _ (fcs_get E _ hpE).2
    have y1 : w.cell? ⟨b, 1, none⟩ = some sv := h.blk.cell 1
    rw [hsv] at y1
    have HY : Hid (b < w.heap.size ∧ g < w.heap.size) := hid ⟨h.blk.lt, by have hr := h.row; rw [hsv] at hr; exact hr.cells.2.2.1⟩
    obtain ⟨n, hn⟩ : ∃ n, E.length = n := ⟨_, rfl⟩
    obtain ⟨fv, hfv⟩ : ∃ x, (E[plc A.C s]).v = x := ⟨_, rfl⟩
    obtain ⟨bs, hbs⟩ : ∃ x, (E[plc A.C s]).bs = x := ⟨_, rfl⟩
    rw [hfv] at HO HF hcl
    rw [hbs] at HO ⊢
    rw [Hp.out] at hcl
    rw [hn] at y1
    have hpn : p < n := by rw [← Hp.out, ← hn]; exact hpE
    have hpn' : (p : Int) < (n : Int) := by omega
    obtain ⟨xa, xc, rfl⟩ := HO.out.len
    obtain ⟨xn, hxn⟩ : ∃ x, bs.length = x := ⟨_, rfl⟩
    rw [hxn] at HO HF hcl
    have HCl := hid hcl
    have HY1 := hid y1
    clear h hp he hgt hEq hpE hn hfv hbs hxn hcl y1
    go_enter Tryz.func62, Tryz.ntmps62
    go_wp2_with (go_at_call 57; (with_reducible refine HP.out.mono ?_); rintro e w6 ⟨rfl, hg⟩; have HG := hid hg; have y1 := (cell_at hg HY.out.1 (by simp)).trans HY1.out; have hcl := (cell_at hg HY.out.2 (by simp)).trans HCl.out; clear hg)
    go_ret
    exact ⟨_, rfl, HO.out.keep HG.out, HF.out, HG.out⟩
end Go.Proofs.YtlgjmdianmijeaaGreat
