/- refuses; WalLong's walk. -/
import Derived.Test.YtpbiofnncdneoaaDoorWg
namespace Go.Proofs.YtpbiofnncdneoaaDoor
open Go Go.RowKit Go.MapKept Go.MuLone
open Go.RowKit (wrap32 wrap64)

/-- A row of zeros that was made. -/
theorem make2 (w : World) (n : Nat) (hn : n ≤ 140737488355328) : ∃ w', (Instr.makeSlice 36 (.int .i64 (n : Int)) (.int .i64 (n : Int))).run Tryd.prog w = .ok (.slice (some ⟨w.heap.size, 0, none⟩) n n) w' ∧ Hid (Rd w' (fun _ => True) (.slice (some ⟨w.heap.size, 0, none⟩) n n) (List.replicate n 0) ∧ w.grownBy w' none) := by
  obtain ⟨w', h1, h2, h3⟩ := make_any w n hn
  exact ⟨w', h1, hid ⟨h2.wide (fun _ _ => trivial), h3⟩⟩
theorem files_none {w : World} {B b : Nat} {A : Ab} {P : Nat → Prop} (h : DkP w B b A P) (hC : A.C = []) : Calls Tryd.prog 39 #[.pointer (some ⟨b, 0, none⟩)] w fun e w' => ∃ a c, e = .returned (.slice a 0 c) ∧ w.grownBy w' none := by
  obtain ⟨h1, m, F, h2, h3, h4⟩ := h
  have hF : F = [] := by
    have : (cont F).length = 0 := by rw [h3, hC]; rfl
    rw [len_cont] at this
    exact List.eq_nil_of_length_eq_zero this
  subst hF
  refine (files_dk h2 (by decide) (fun f hf => by cases hf) (fun f hf => by cases hf)).mono fun e w' ⟨v, E, he, ho, hE, hg⟩ => ?_
  obtain ⟨a, g, c, hv, _⟩ := ho.ar
  rw [hE, srtC_len] at hv
  exact ⟨a, c, by rw [he, hv]; rfl, hg⟩
def R0 : Ab := Ab.new (100 : Nat)
def R1 : Ab := R0.arm 1 0
def R2 : Ab := R1.app ⟨#[120]⟩ (frameL [97])
theorem rr1 : R1.appE ⟨#[120]⟩ (frameL [97]) = 94 ∧ R2.C = [] := by
  have h := ((Live.new 100 ne_xy).arm 1 0).torn (s := ⟨#[120]⟩) (l := frameL [97]) rfl (.inl rfl) good_x (by rw [len_a]; omega) rfl
  refine ⟨h.1, ?_⟩
  have h1 : refE R1.off ⟨#[120]⟩ = 0 := ref_on rfl good_x
  show (R1.app ⟨#[120]⟩ (frameL [97])).C = []
  unfold Ab.app
  split
  · show R1.appC ⟨#[120]⟩ (frameL [97]) = []
    unfold Ab.appC
    rw [if_neg (by decide)]
    rfl
  · rfl
set_option maxRecDepth 100000 in
set_option maxHeartbeats 4000000 in
theorem refuses_any (w : World) (hT : Tab w) (v : Value) : Calls Tryd.prog 25 #[v] w fun e w' => e = .returned (.bool true) ∧ w.grownBy w' none := by
  have HNw : Hid (Calls Tryd.prog 8 #[.int .i64 100] w fun e w' => ∃ b P, e = .returned (.tuple #[.pointer (some ⟨b, 0, none⟩), .int .i64 0]) ∧ Sd w w' b R0 P) := hid (sd_new w 100 (by omega) (by omega))
  have HOp : Hid (∀ u b P, Sd w u b R0 P → Calls Tryd.prog 11 #[.pointer (some ⟨b, 0, none⟩), .string ⟨#[120]⟩] u fun e u' => ∃ lb a c, e = .returned (.tuple #[.pointer (some ⟨lb, 0, none⟩), .slice a 0 c, .int .i64 0]) ∧ Sd w u' b R0 P ∧ LgP w u' lb b ⟨#[120]⟩ 0 false P) := hid (fun u b P h => by
    refine (sd_whole (rs := []) h hT (by decide) (fil_on rfl good_x rfl (fun r hr => by cases hr) (by decide) tl_nil)).mono fun e u' ⟨lb, v, q1, q2, q3, q4, q5⟩ => ?_
    obtain ⟨a, c, rfl⟩ := q2.len
    exact ⟨lb, a, c, q1, q3, q4⟩)
  have HA2 : Hid (∀ u b lb P, Sd w u b R0 P → LgP w u lb b ⟨#[120]⟩ 0 false P → Calls Tryd.prog 13 #[.pointer (some ⟨b, 0, none⟩), .int .i64 1, .int .i64 0] u fun e u' => e = .returned (.tuple #[]) ∧ Sd w u' b R1 P ∧ LgP w u' lb b ⟨#[120]⟩ 0 false P) := hid (fun u b lb P h hl => (sd_arm h 1 0 (by omega)).mono fun e u' ⟨q1, q2, q3⟩ => ⟨q1, q2, hl.same q3⟩)
  have HA3 : Hid (∀ u b lb P, Sd w u b R1 P → LgP w u lb b ⟨#[120]⟩ 0 false P → Calls Tryd.prog 15 #[.pointer (some ⟨lb, 0, none⟩), .slice (some ⟨u.heap.size, 0, none⟩) 1 1] (u.alloc (.cells #[.int .u8 97] 5 (1, 2))) fun e u' => ∃ P', e = .returned (.int .i64 94) ∧ Sd w u' b R2 P' ∧ LgP w u' lb b ⟨#[120]⟩ 0 true P') := hid (fun u b lb P h hl => by
    have q := sd_app (h.keep (galloc _ _ _)) (hl.keep (galloc _ _ _)) hT (by decide) (by decide) _ _ [97] (lit_rd u [97] (1, 2) #[.int .u8 97] rfl 1 rfl) (by decide)
    unfold lgZ at q
    rw [rr1.1] at q
    exact q.mono fun e u' ⟨P', q1, q2, q3, _⟩ => ⟨P', q1, q2, q3⟩)
  have HOn : Hid (∀ u b lb P, Sd w u b R2 P → LgP w u lb b ⟨#[120]⟩ 0 true P → Calls Tryd.prog 17 #[.pointer (some ⟨b, 0, none⟩)] u fun e u' => e = .returned (.tuple #[]) ∧ Sd w u' b R2.on P ∧ LgP w u' lb b ⟨#[120]⟩ 0 true P) := hid (fun u b lb P h hl => (sd_on h).mono fun e u' ⟨q1, q2, q3⟩ => ⟨q1, q2, hl.same q3⟩)
  have HA6 : Hid (∀ u lb b P, LgP w u lb b ⟨#[120]⟩ 0 true P → Calls Tryd.prog 15 #[.pointer (some ⟨lb, 0, none⟩), v] u fun e u' => e = .returned (.int .i64 102) ∧ u' = u) := hid (fun u lb b P hl => lapp_off hl.lg v)
  have HFl : Hid (∀ u b P, Sd w u b R2.on P → Calls Tryd.prog 39 #[.pointer (some ⟨b, 0, none⟩)] u fun e u' => ∃ a c, e = .returned (.slice a 0 c) ∧ u.grownBy u' none) := hid (fun u b P h => files_none h.dk rr1.2)
  have hc36 := conv33
  clear hT
  go_enter Tryd.func25, Tryd.ntmps25
  go_wp2_with (first
    | (go_at_call 39; (with_reducible refine (HFl.out _ _ _ HD6.out).mono ?_); rintro e w8 ⟨fa, fc, rfl, hg⟩; have HG8 := hid hg; clear hg)
    | (have := HD6; clear this; go_at_call 15; (with_reducible refine (HA6.out _ _ _ _ HL6.out).mono ?_); rintro e w7 ⟨rfl, hw7⟩; have hw7' := hw7.symm; clear hw7; subst hw7')
    | (have := HD5; clear this; go_at_call 17; (with_reducible refine (HOn.out _ _ _ _ HD5.out HL5.out).mono ?_); rintro e w6 ⟨rfl, hd, hl⟩; have HD6 := hid hd; have HL6 := hid hl; clear hd hl)
    | (have := HD4; clear this; go_at_call 15; (with_reducible refine (HA3.out _ _ _ _ HD4.out HL4.out).mono ?_); rintro e w5 ⟨P5, rfl, hd, hl⟩; have HD5 := hid hd; have HL5 := hid hl; clear hd hl)
    | (have := HD2; clear this; go_at_call 13; (with_reducible refine (HA2.out _ _ _ _ HD2.out HL2.out).mono ?_); rintro e w4 ⟨rfl, hd, hl⟩; have HD4 := hid hd; have HL4 := hid hl; clear hd hl)
    | (go_at_call 11; (with_reducible refine (HOp.out _ _ _ HD1.out).mono ?_); rintro e w2 ⟨lb, a2, c2, rfl, hd, hl⟩; have HD2 := hid hd; have HL2 := hid hl; clear hd hl)
    | (go_at_call 9; (with_reducible refine (num_any _ _).mono ?_); rintro e wn ⟨rfl, rfl⟩)
    | (go_at_call 8; (with_reducible refine HNw.out.mono ?_); rintro e w1 ⟨b, P1, rfl, hd⟩; have HD1 := hid hd; clear hd))
  go_ret
  exact ⟨rfl, gtrans HD6.out.gr HG8.out⟩
def more : List UInt8 := [109, 111, 114, 101]
def L0 : Ab := Ab.new (33554432 : Nat)
/-- Behind a record of n zeros. -/
theorem ll1 (n : Nat) (hn : n ≤ 16777216) : L0.appE ⟨#[120]⟩ (frameL (List.replicate n 0)) = 0 ∧ Live (L0.app ⟨#[120]⟩ (frameL (List.replicate n 0))) 33554432 (n + 13) ⟨#[120]⟩ ⟨#[121]⟩ ∧ (L0.app ⟨#[120]⟩ (frameL (List.replicate n 0))).off = false ∧ (L0.app ⟨#[120]⟩ (frameL (List.replicate n 0))).ar = 0 ∧ (L0.app ⟨#[120]⟩ (frameL (List.replicate n 0))).wr = 1 ∧ (L0.app ⟨#[120]⟩ (frameL (List.replicate n 0))).old ⟨#[120]⟩ = flat [List.replicate n 0] := by
  have hl : (frameL (List.replicate n (0 : UInt8))).length = n + 13 := by rw [frameL_length, List.length_replicate]
  obtain ⟨h1, h2, h3⟩ := (Live.new 33554432 ne_xy).app (s := ⟨#[120]⟩) (l := frameL (List.replicate n 0)) rfl (.inl rfl) good_x (by rw [hl]; omega) (by decide) (by rw [hl]; omega)
  rw [hl, Nat.zero_add] at h3
  have e : L0.app ⟨#[120]⟩ (frameL (List.replicate n 0)) = _ := h2
  refine ⟨h1, h3, by rw [e], by rw [e]; rfl, by rw [e]; rfl, ?_⟩
  rw [e, old_set, flat_one]
  rfl
end Go.Proofs.YtpbiofnncdneoaaDoor
