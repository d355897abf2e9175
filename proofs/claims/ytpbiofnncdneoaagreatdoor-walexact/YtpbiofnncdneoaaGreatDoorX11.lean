/- The log: Append, Size. -/
import Derived.Test.YtpbiofnncdneoaaGreatDoorX10
namespace Go.Proofs.YtpbiofnncdneoaaGreatDoor
open Go Go.RowKit Go.MapKept Go.MuLone
open Go.RowKit (wrap32 wrap64)

def lgc (b : Nat) (s : ByteArray) (z : Nat) (off : Bool) : List Value := [.pointer (some ⟨b, 0, none⟩), .string s, .int .i64 (z : Int), .bool off]
/-- A log at block lb: of the disk at b, its name, its size, is it off. -/
def Lg (w : World) (lb b : Nat) (s : ByteArray) (z : Nat) (off : Bool) : Prop := Blk w lb (lgc b s z off) 128
theorem ld25 (b i : Nat) (p : Addr) (u : World) (h : u.cell? ⟨b, i, none⟩ = some (.pointer (some p))) : (Instr.loadAt 26 (.pointer (some ⟨b, i, none⟩))).run Tryz.prog u = .ok (.pointer (some p)) u := by go_simp
variable {w : World} {B b lb : Nat} {A : Ab} {P : Nat → Prop} {s : ByteArray} {z : Nat} {off : Bool}
set_option maxRecDepth 100000 in
theorem lsize_any (h : Lg w lb b s z off) : Calls Tryz.prog 19 #[.pointer (some ⟨lb, 0, none⟩)] w fun e w' => e = .returned (.int .i64 (z : Nat)) ∧ w' = w := by
  have k2 : w.cell? ⟨lb, 2, none⟩ = some (.int .i64 (z : Int)) := h.cell 2
  clear h
  go_enter Tryz.func19, Tryz.ntmps19
  go_wp2_with fail
  go_ret
  exact ⟨rfl, rfl⟩
set_option maxRecDepth 100000 in
/-- A log that is off says so. -/
theorem lapp_off (h : Lg w lb b s z true) (v : Value) : Calls Tryz.prog 16 #[.pointer (some ⟨lb, 0, none⟩), v] w fun e w' => e = .returned (.int .i64 102) ∧ w' = w := by
  have k3 : w.cell? ⟨lb, 3, none⟩ = some (.bool true) := h.cell 3
  clear h
  go_enter Tryz.func16, Tryz.ntmps16
  go_wp2_with fail
  go_ret
  exact ⟨rfl, rfl⟩
set_option maxRecDepth 100000 in
/-- A record that is too long. -/
theorem lapp_long (h : Lg w lb b s z false) (a : Option Addr) (n c : Nat) (hn : 16777216 < n) (hn2 : n ≤ 140737488355328) : Calls Tryz.prog 16 #[.pointer (some ⟨lb, 0, none⟩), .slice a n c] w fun e w' => e = .returned (.int .i64 100) ∧ w' = w := by
  have k3 : w.cell? ⟨lb, 3, none⟩ = some (.bool false) := h.cell 3
  have HF := hid (frame_no _ n c a w rfl hn hn2)
  clear h hn hn2
  go_enter Tryz.func16, Tryz.ntmps16
  go_wp2_with (go_at_call 50; refine HF.out.mono ?_; rintro e w2 ⟨rfl, h2⟩; have h2' := h2.symm; clear h2; subst h2')
  go_ret
  exact ⟨rfl, rfl⟩
/-- What Append leaves of the log. -/
def lgZ (A : Ab) (s : ByteArray) (z : Nat) (l : List UInt8) : Nat := if A.appE s (frameL l) = 0 then z + (l.length + 13) else z
set_option maxRecDepth 100000 in
set_option maxHeartbeats 4000000 in
theorem lapp_any (h : Lg w lb b s z false) (hd : DkP w B b A P) (hP : ∀ k, P k → k < w.heap.size) (hlb : ¬ P lb) (hw : A.wr ≤ 4611686018427387904) (hz : z ≤ 1099511627776) (hT : Tab w) (F : Nat → Prop) (v : Value) (l : List UInt8) (hr : Rd w F v l) (hl : l.length ≤ 16777216) :
    Calls Tryz.prog 16 #[.pointer (some ⟨lb, 0, none⟩), v] w fun e w' => e = .returned (.int .i64 (A.appE s (frameL l))) ∧ Lg w' lb b s (lgZ A s z l) (decide (A.appE s (frameL l) ≠ 0)) ∧ ∃ P', DkP w' B b (A.app s (frameL l)) P' ∧ (∀ k, P' k → k < w'.heap.size) ∧ (∀ k, P' k → P k ∨ w.heap.size ≤ k) ∧ DF w w' (fun k => P k ∨ k = lb) := by
  have k3 : w.cell? ⟨lb, 3, none⟩ = some (.bool false) := h.cell 3
  have HLg := hid h
  have HDk := hid hd
  have HP := hid hP
  have HLb := hid hlb
  have HLt : Hid (lb < w.heap.size) := hid h.lt
  have HFr := hid (frame_ok l F v w hl hr hT)
  have HL : Hid (l.length + 13 ≤ 16777229) := hid (by omega)
  have HWr := hid hw
  have hz1 := hz
  obtain ⟨va, vn, vc, hv⟩ : ∃ a n c, v = .slice a n c := by obtain ⟨a, _, _, c, e, _⟩ := hr; exact ⟨a, _, c, e⟩
  subst hv
  obtain ⟨E, HE⟩ : ∃ x, Hid (A.appE s (frameL l) = x) := ⟨_, hid rfl⟩
  rw [HE.out]
  clear h hd hP hlb hl hr hT hw hz
  go_enter Tryz.func16, Tryz.ntmps16
  go_upto_region 6 with (go_at_call 50; (with_reducible refine HFr.out.mono ?_); rintro e w2 ⟨v2, rfl, hO, hg⟩; have HO2 := hid hO; have HG2 := hid hg; obtain ⟨fa, fc, hv2⟩ := hO.len; clear hO hg)
  obtain ⟨fn, hfn⟩ : ∃ x, (frameL l).length = x := ⟨_, rfl⟩
  rw [hfn] at hv2 ⊢
  subst hv2
  have HFn : Hid (fn = l.length + 13) := hid (by rw [← hfn, frameL_length])
  clear hfn HFr
  have HLg2 : Hid (∀ u, w2.grownBy u none → Lg u lb b s z false) := hid (fun u hu => Blk.keep (Blk.keep HLg.out HG2.out) hu)
  have HC0 : Hid (∀ u, w2.grownBy u none → u.cell? ⟨lb, 0, none⟩ = some (.pointer (some ⟨b, 0, none⟩))) := hid (fun u hu => (HLg2.out u hu).cell 0)
  have HC1 : Hid (∀ u, w2.grownBy u none → u.cell? ⟨lb, 1, none⟩ = some (.string s)) := hid (fun u hu => (HLg2.out u hu).cell 1)
  have HAp : Hid (∀ u, w2.grownBy u none → Calls Tryz.prog 51 #[.pointer (some ⟨b, 0, none⟩), .string s, .slice fa fn fc] u fun e w' => e = .returned (.int .i64 (A.appE s (frameL l))) ∧ DkP w' B b (A.app s (frameL l)) (newP P u w') ∧ DF u w' P) := hid (fun u hu => by
    have ho := HO2.out.keep hu
    refine append_p ((HDk.out.keep HG2.out).keep hu) s _ fa fn fc (frameL l) ho.rd (fun k hk hp => ?_) HWr.out
    have h1 := HP.out k hp
    have h2 := hk
    omega)
  rw [HE.out] at HAp
  have HZ1 : Hid (E = 0 → lgZ A s z l = z + fn) := hid (fun e => by unfold lgZ; rw [HE.out, if_pos e, HFn.out])
  have HZ2 : Hid (E ≠ 0 → lgZ A s z l = z) := hid (fun e => by unfold lgZ; rw [HE.out, if_neg e])
  clear HE
  refine wp_region_listX (by kernel_rfl) [fun v _ => v = (Value.pointer (some ⟨lb, 0, none⟩)), fun v _ => v = (Value.pointer (some ⟨lb, 0, none⟩)), fun v _ => v = (Value.pointer (some ⟨lb, 0, none⟩)), fun v _ => v = (Value.pointer (some ⟨b, 0, none⟩)), fun v _ => v = (Value.pointer (some ⟨lb, 0, none⟩)), fun v _ => v = (Value.pointer (some ⟨lb, 0, none⟩)), fun v _ => v = (Value.pointer (some ⟨lb, 1, none⟩)), fun v _ => v = (Value.string s), fun v _ => v = (Value.slice fa fn fc)] (none) (fun _ => none) 9 (by kernel_rfl) (by kernel_rfl) (by kernel_rfl) (by kernel_rfl) (by decide) noRow_one (fun _ => .inl rfl) ⟨fun i v u u' hki h hg => h, fun i v u u' hki h hg => h, fun i v u u' hki h hg => h, fun i v u u' hki h hg => h, fun i v u u' hki h hg => h, fun i v u u' hki h hg => h, fun i v u u' hki h hg => h, fun i v u u' hki h hg => h, fun i v u u' hki h hg => h, trivial⟩ ⟨?_, ?_, ?_, ?_, ?_, ?_, ?_, ?_, ?_, trivial⟩ ?_
  · intro A u hu hpu hsz hout hdeps
    have e0 : A.eval (.tmp 0) = (.pointer (some ⟨lb, 0, none⟩)) := (hout 0 (by kernel_rfl)).trans rfl
    refine ifw_none rfl ?_
    with_reducible refine shown_q (Value.pointer (some ⟨lb, 0, none⟩)) ?qq_1_0 (fun _ _ => ?qr_1_0)
    case qr_1_0 => exact (rfl : (Value.pointer (some ⟨lb, 0, none⟩)) = (Value.pointer (some ⟨lb, 0, none⟩)))
    with_reducible refine quietAt_mv (.tmp 0) (Value.pointer (some ⟨lb, 0, none⟩)) ?h0_1_0 ?h1_1_0
    case h0_1_0 => rfl
    case h1_1_0 => exact e0
  · intro A u hu hpu hsz hout hdeps
    have e19 : A.eval (.tmp 19) = (.pointer (some ⟨lb, 0, none⟩)) := by have h := depL hdeps 0 (by kernel_rfl) 19 (by kernel_rfl); exact h
    refine ifw_none rfl ?_
    with_reducible refine shown_q (Value.pointer (some ⟨lb, 0, none⟩)) ?qq_1_1 (fun _ _ => ?qr_1_1)
    case qr_1_1 => exact (rfl : (Value.pointer (some ⟨lb, 0, none⟩)) = (Value.pointer (some ⟨lb, 0, none⟩)))
    with_reducible refine quietAt_nil (.tmp 19) ?h0_1_1 ⟨lb, 0, none⟩ ?h1_1_1
    case h0_1_1 => rfl
    case h1_1_1 => exact e19
  · intro A u hu hpu hsz hout hdeps
    have e20 : A.eval (.tmp 20) = (.pointer (some ⟨lb, 0, none⟩)) := by have h := depL hdeps 1 (by kernel_rfl) 20 (by kernel_rfl); exact h
    refine ifw_none rfl ?_
    with_reducible refine shown_q (Value.pointer (some ⟨lb, 0, none⟩)) ?qq_1_2 (fun _ _ => ?qr_1_2)
    case qr_1_2 => exact (rfl : (Value.pointer (some ⟨lb, 0, none⟩)) = (Value.pointer (some ⟨lb, 0, none⟩)))
    with_reducible refine quietAt_field 128 (.tmp 20) 0 ?h0_1_2 ⟨lb, 0, none⟩ ⟨lb, 0, none⟩ ?h1_1_2 ?h2_1_2
    case h0_1_2 => rfl
    case h1_1_2 => exact e20
    case h2_1_2 => kernel_rfl
  · intro A u hu hpu hsz hout hdeps
    have e21 : A.eval (.tmp 21) = (.pointer (some ⟨lb, 0, none⟩)) := by have h := depL hdeps 2 (by kernel_rfl) 21 (by kernel_rfl); exact h
    refine ifw_none rfl ?_
    with_reducible refine shown_q (Value.pointer (some ⟨b, 0, none⟩)) ?qq_1_3 (fun _ _ => ?qr_1_3)
    case qr_1_3 => exact (rfl : (Value.pointer (some ⟨b, 0, none⟩)) = (Value.pointer (some ⟨b, 0, none⟩)))
    with_reducible refine quietAt_ld 26 (.tmp 21) (Value.pointer (some ⟨lb, 0, none⟩)) (Value.pointer (some ⟨b, 0, none⟩)) ?h0_1_3 ?h1_1_3 ?h2_1_3
    case h0_1_3 => rfl
    case h1_1_3 => exact e21
    case h2_1_3 => exact ld25 lb 0 ⟨b, 0, none⟩ u (HC0.out u hu)
  · intro A u hu hpu hsz hout hdeps
    have e0 : A.eval (.tmp 0) = (.pointer (some ⟨lb, 0, none⟩)) := (hout 0 (by kernel_rfl)).trans rfl
    refine ifw_none rfl ?_
    with_reducible refine shown_q (Value.pointer (some ⟨lb, 0, none⟩)) ?qq_1_4 (fun _ _ => ?qr_1_4)
    case qr_1_4 => exact (rfl : (Value.pointer (some ⟨lb, 0, none⟩)) = (Value.pointer (some ⟨lb, 0, none⟩)))
    with_reducible refine quietAt_mv (.tmp 0) (Value.pointer (some ⟨lb, 0, none⟩)) ?h0_1_4 ?h1_1_4
    case h0_1_4 => rfl
    case h1_1_4 => exact e0
  · intro A u hu hpu hsz hout hdeps
    have e23 : A.eval (.tmp 23) = (.pointer (some ⟨lb, 0, none⟩)) := by have h := depL hdeps 4 (by kernel_rfl) 23 (by kernel_rfl); exact h
    refine ifw_none rfl ?_
    with_reducible refine shown_q (Value.pointer (some ⟨lb, 0, none⟩)) ?qq_1_5 (fun _ _ => ?qr_1_5)
    case qr_1_5 => exact (rfl : (Value.pointer (some ⟨lb, 0, none⟩)) = (Value.pointer (some ⟨lb, 0, none⟩)))
    with_reducible refine quietAt_nil (.tmp 23) ?h0_1_5 ⟨lb, 0, none⟩ ?h1_1_5
    case h0_1_5 => rfl
    case h1_1_5 => exact e23
  · intro A u hu hpu hsz hout hdeps
    have e24 : A.eval (.tmp 24) = (.pointer (some ⟨lb, 0, none⟩)) := by have h := depL hdeps 5 (by kernel_rfl) 24 (by kernel_rfl); exact h
    refine ifw_none rfl ?_
    with_reducible refine shown_q (Value.pointer (some ⟨lb, 1, none⟩)) ?qq_1_6 (fun _ _ => ?qr_1_6)
    case qr_1_6 => exact (rfl : (Value.pointer (some ⟨lb, 1, none⟩)) = (Value.pointer (some ⟨lb, 1, none⟩)))
    with_reducible refine quietAt_field 128 (.tmp 24) 1 ?h0_1_6 ⟨lb, 0, none⟩ ⟨lb, 1, none⟩ ?h1_1_6 ?h2_1_6
    case h0_1_6 => rfl
    case h1_1_6 => exact e24
    case h2_1_6 => kernel_rfl
  · intro A u hu hpu hsz hout hdeps
    have e25 : A.eval (.tmp 25) = (.pointer (some ⟨lb, 1, none⟩)) := by have h := depL hdeps 6 (by kernel_rfl) 25 (by kernel_rfl); exact h
    refine ifw_none rfl ?_
    with_reducible refine shown_q (Value.string s) ?qq_1_7 (fun _ _ => ?qr_1_7)
    case qr_1_7 => exact (rfl : (Value.string s) = (Value.string s))
    with_reducible refine quietAt_ld 9 (.tmp 25) (Value.pointer (some ⟨lb, 1, none⟩)) (Value.string s) ?h0_1_7 ?h1_1_7 ?h2_1_7
    case h0_1_7 => rfl
    case h1_1_7 => exact e25
    case h2_1_7 => exact ld9 lb 1 s u (HC1.out u hu)
  · intro A u hu hpu hsz hout hdeps
    have e5 : A.eval (.tmp 5) = (.slice fa fn fc) := (hout 5 (by kernel_rfl)).trans rfl
    refine ifw_none rfl ?_
    with_reducible refine shown_q (Value.slice fa fn fc) ?qq_1_8 (fun _ _ => ?qr_1_8)
    case qr_1_8 => exact (rfl : (Value.slice fa fn fc) = (Value.slice fa fn fc))
    with_reducible refine quietAt_mv (.tmp 5) (Value.slice fa fn fc) ?h0_1_8 ?h1_1_8
    case h0_1_8 => rfl
    case h1_1_8 => exact e5
  · intro A u8 listed hh hall
    have hA := hh.frame
    have HU := hid hh.grown
    obtain ⟨x19, hx19⟩ : ∃ x, A.eval (.tmp 19) = x := ⟨_, rfl⟩
    have f19 : (fun v _ => v = (Value.pointer (some ⟨lb, 0, none⟩))) x19 u8 := by rw [← hx19]; exact hh.got 0 _ 19 rfl rfl (hall 0 (by decide))
    obtain ⟨x20, hx20⟩ : ∃ x, A.eval (.tmp 20) = x := ⟨_, rfl⟩
    have f20 : (fun v _ => v = (Value.pointer (some ⟨lb, 0, none⟩))) x20 u8 := by rw [← hx20]; exact hh.got 1 _ 20 rfl rfl (hall 1 (by decide))
    obtain ⟨x21, hx21⟩ : ∃ x, A.eval (.tmp 21) = x := ⟨_, rfl⟩
    have f21 : (fun v _ => v = (Value.pointer (some ⟨lb, 0, none⟩))) x21 u8 := by rw [← hx21]; exact hh.got 2 _ 21 rfl rfl (hall 2 (by decide))
    obtain ⟨x22, hx22⟩ : ∃ x, A.eval (.tmp 22) = x := ⟨_, rfl⟩
    have f22 : (fun v _ => v = (Value.pointer (some ⟨b, 0, none⟩))) x22 u8 := by rw [← hx22]; exact hh.got 3 _ 22 rfl rfl (hall 3 (by decide))
    obtain ⟨x23, hx23⟩ : ∃ x, A.eval (.tmp 23) = x := ⟨_, rfl⟩
    have f23 : (fun v _ => v = (Value.pointer (some ⟨lb, 0, none⟩))) x23 u8 := by rw [← hx23]; exact hh.got 4 _ 23 rfl rfl (hall 4 (by decide))
    obtain ⟨x24, hx24⟩ : ∃ x, A.eval (.tmp 24) = x := ⟨_, rfl⟩
    have f24 : (fun v _ => v = (Value.pointer (some ⟨lb, 0, none⟩))) x24 u8 := by rw [← hx24]; exact hh.got 5 _ 24 rfl rfl (hall 5 (by decide))
    obtain ⟨x25, hx25⟩ : ∃ x, A.eval (.tmp 25) = x := ⟨_, rfl⟩
    have f25 : (fun v _ => v = (Value.pointer (some ⟨lb, 1, none⟩))) x25 u8 := by rw [← hx25]; exact hh.got 6 _ 25 rfl rfl (hall 6 (by decide))
    obtain ⟨x26, hx26⟩ : ∃ x, A.eval (.tmp 26) = x := ⟨_, rfl⟩
    have f26 : (fun v _ => v = (Value.string s)) x26 u8 := by rw [← hx26]; exact hh.got 7 _ 26 rfl rfl (hall 7 (by decide))
    obtain ⟨x27, hx27⟩ : ∃ x, A.eval (.tmp 27) = x := ⟨_, rfl⟩
    have f27 : (fun v _ => v = (Value.slice fa fn fc)) x27 u8 := by rw [← hx27]; exact hh.got 8 _ 27 rfl rfl (hall 8 (by decide))
    obtain ⟨x28, hx28⟩ : ∃ x, A.eval (.tmp 28) = x := ⟨_, rfl⟩
    obtain ⟨x7, hx7⟩ : ∃ x, A.eval (.tmp 7) = x := ⟨_, rfl⟩
    dsimp only [wrote, List.foldl] at hA
    rw [hx19, hx20, hx21, hx22, hx23, hx24, hx25, hx26, hx27, hx28, hx7] at hA
    clear hh hall hx19 hx20 hx21 hx22 hx23 hx24 hx25 hx26 hx27 hx28 hx7
    replace f19 := (f19 : x19 = (.pointer (some ⟨lb, 0, none⟩)))
    subst f19
    replace f20 := (f20 : x20 = (.pointer (some ⟨lb, 0, none⟩)))
    subst f20
    replace f21 := (f21 : x21 = (.pointer (some ⟨lb, 0, none⟩)))
    subst f21
    replace f22 := (f22 : x22 = (.pointer (some ⟨b, 0, none⟩)))
    subst f22
    replace f23 := (f23 : x23 = (.pointer (some ⟨lb, 0, none⟩)))
    subst f23
    replace f24 := (f24 : x24 = (.pointer (some ⟨lb, 0, none⟩)))
    subst f24
    replace f25 := (f25 : x25 = (.pointer (some ⟨lb, 1, none⟩)))
    subst f25
    replace f26 := (f26 : x26 = (.string s))
    subst f26
    replace f27 := (f27 : x27 = (.slice fa fn fc))
    subst f27
    subst hA
    show wpList _ _ _ [_, _] _ _
    simp only [Act.put, List.setIfInBounds_toArray, List.set_cons_succ, List.set_cons_zero]
    go_upto_region 7 with (go_at_call 51; (with_reducible refine (HAp.out _ HU.out).mono ?_); rintro e w4 ⟨rfl, hd, hf⟩; have HD4 := hid hd; have HF4 := hid hf; clear hd hf)
    have HLg4 : Hid (Lg w4 lb b s z false) := hid (Blk.df (HLg2.out _ HU.out) HF4.out HLb.out)
    have HGs := hid (gtrans HG2.out HU.out)
    have HPf : Hid (∀ k, newP P u8 w4 k → k < w4.heap.size) := hid (fun k hk => by
      rcases hk with hk | hk
      · have := HP.out k hk; have := HGs.out.size; have := HF4.out.size; omega
      · exact hk.2)
    have HPg : Hid (∀ k, newP P u8 w4 k → P k ∨ w.heap.size ≤ k) := hid (fun k hk => by
      rcases hk with hk | hk
      · exact .inl hk
      · right; have := HGs.out.size; omega)
    have HDF : Hid (DF w w4 P) := hid ((DF.of HGs.out).trans HF4.out (fun _ _ q => q))
    have HLbs : Hid (¬ newP P u8 w4 lb) := hid (fun hk => by
      rcases hk with hk | hk
      · exact HLb.out hk
      · have := HLt.out; have := HGs.out.size; omega)
    have k2 : w4.cell? ⟨lb, 2, none⟩ = some (.int .i64 (z : Int)) := HLg4.out.cell 2
    have k3 : w4.cell? ⟨lb, 3, none⟩ = some (.bool false) := HLg4.out.cell 3
    have f2 : w4.frozen? ⟨lb, 2, none⟩ = false := HLg4.out.frozen 2
    have f3 : w4.frozen? ⟨lb, 3, none⟩ = false := HLg4.out.frozen 3
    by_cases hE : E = 0
    · subst hE
      have hfn1 : fn ≤ 16777229 := by have := HL.out; have := HFn.out; omega
      have HS := hid (HLg4.out.set 2 (.int .i64 ((z + fn : Nat) : Int)))
      have HSg := hid (gset w4 ⟨lb, 2, none⟩ (.int .i64 ((z + fn : Nat) : Int)))
      go_wp2_with fail
      go_ret
      have hsum : (z : Int) + (fn : Int) = ((z + fn : Nat) : Int) := by omega
      rw [hsum]
      refine ⟨rfl, ?_, _, HD4.out.df (DF.one HSg.out (P := fun k => k = lb) rfl) (fun k _ hk e => HLbs.out (e ▸ hk)), fun k hk => Nat.lt_of_lt_of_le (HPf.out k hk) HSg.out.size, HPg.out, (HDF.out.mono (fun k hk => .inl hk)).trans (DF.one HSg.out (P := fun k => P k ∨ k = lb) (.inr rfl)) (fun _ _ q => q)⟩
      rw [HZ1.out trivial]
      exact HS.out
    · have HS := hid (HLg4.out.set 3 (.bool true))
      have HSg := hid (gset w4 ⟨lb, 3, none⟩ (.bool true))
      go_wp2_with fail
      go_ret
      refine ⟨rfl, ?_, _, HD4.out.df (DF.one HSg.out (P := fun k => k = lb) rfl) (fun k _ hk e => HLbs.out (e ▸ hk)), fun k hk => Nat.lt_of_lt_of_le (HPf.out k hk) HSg.out.size, HPg.out, (HDF.out.mono (fun k hk => .inl hk)).trans (DF.one HSg.out (P := fun k => P k ∨ k = lb) (.inr rfl)) (fun _ _ q => q)⟩
      rw [HZ2.out hE]
      exact HS.out
end Go.Proofs.YtpbiofnncdneoaaGreatDoor

namespace Go.Proofs.YtpbiofnncdneoaaGreatDoor
open Go Go.RowKit Go.MapKept Go.MuLone
open Go.RowKit (wrap32 wrap64)

theorem own_df {w w' : World} {P : Nat → Prop} {B e q n : Nat} {v : Value} {xs : List Value} (h : w.ownsRow B e q v n xs) (hd : DF w w' P) (hp : ∀ k, v.ownBlock = some k → ¬ P k) : w'.ownsRow B e q v n xs := by
  refine ⟨h.1, ?_⟩
  rcases h.2 with h1 | ⟨g, cap, cur, hv, hB, hg, hle, hm, hs, ht⟩
  · exact .inl h1
  · refine .inr ⟨g, cap, cur, hv, hB, ?_, hle, hm, hs, ht⟩
    rw [hd.block g (Array.getElem?_eq_some_iff.1 hg).1 (hp g (by rw [hv]; rfl))]
    exact hg
theorem Rb.df {B C : Nat} {w w' : World} {v : Value} {l : List UInt8} {Q : Nat → Prop} (h : Rb B C w v l) (hd : DF w w' Q) (hq : ∀ k, B ≤ k → ¬ Q k) (hc : ∀ k, k < C → ¬ Q k) : Rb B C w' v l := by
  rcases h with h | h
  · exact .inl (h.df hd hc)
  · exact .inr (Out.df h hd (fun k hk => hq k (h.block k hk)))
theorem OutS.df {B C : Nat} {w w' : World} {v : Value} {ls : List (List UInt8)} {Q : Nat → Prop} (h : OutS B C w v ls) (hd : DF w w' Q) (hq : ∀ k, B ≤ k → ¬ Q k) (hc : ∀ k, k < C → ¬ Q k) : OutS B C w' v ls := by
  obtain ⟨vs, h1, h2⟩ := h.ex
  exact ⟨vs, own_df h1 hd (fun k hk => hq k (own_low h1 k hk)), h2.mono (fun v l h => h.df hd hq hc)⟩
variable {w : World} {B b lb : Nat} {A : Ab} {P : Nat → Prop} {s : ByteArray}
set_option maxRecDepth 100000 in
theorem lcut_same (v : Value) (k : Nat) : Calls Tryz.prog 48 #[v, .string s, .int .i64 (k : Int), .int .i64 (k : Int)] w fun e w' => e = .returned (.int .i64 0) ∧ w' = w := by
  go_enter Tryz.func48, Tryz.ntmps48
  go_wp2_with fail
  go_ret
  exact ⟨rfl, rfl⟩
set_option maxRecDepth 100000 in
theorem lcut_any (hd : DkP w B b A P) (k n : Nat) (hkn : k < n) (hw : A.wr ≤ 4611686018427387904) : Calls Tryz.prog 48 #[.pointer (some ⟨b, 0, none⟩), .string s, .int .i64 (k : Int), .int .i64 (n : Int)] w fun e w' => e = .returned (.int .i64 (A.cutE s k)) ∧ DkP w' B b (A.cut s k) (newP P w w') ∧ DF w w' P := by
  have HC := hid (cut_p hd s (k : Int) hw)
  have h1 : ¬ ((k : Int) = (n : Int)) := by omega
  have h2 : ¬ (k = n) := by omega
  clear hd hw hkn
  go_enter Tryz.func48, Tryz.ntmps48
  go_wp2_with (go_at_call 103; (with_reducible refine HC.out.mono ?_); rintro e w2 ⟨rfl, hd, hf⟩; have HD := hid hd; have HF := hid hf; clear hd hf)
  go_ret
  exact ⟨rfl, HD.out, HF.out⟩
theorem Tryz.built76 (b : Nat) (s : ByteArray) (z : Nat) : Tryz.prog.built 128 [(0, .pointer (some ⟨b, 0, none⟩)), (1, .string s), (2, .int .i64 (z : Int))] = some (lgc b s z false).toArray := by kernel_rfl
/-- What Open needs of a file: whole frames, and what is behind them. -/
structure Fil (A : Ab) (s : ByteArray) (rs : List (List UInt8)) (t : List UInt8) : Prop where
  ref : A.fndE s = 0 ∨ A.fndE s = 92
  is : A.fndB s = flat rs ++ t
  each : ∀ r ∈ rs, r.length ≤ 16777216
  num : rs.length ≤ 1000000
  tail : t ≠ [] → unfrE t ≠ 0
theorem fil_len (hok : A.ok) : (A.fndB s).length ≤ 268435456 := by
  have := fndB_le A s
  have := hok.used
  have := hok.room.2
  omega
theorem fil_cut {rs : List (List UInt8)} {t : List UInt8} (h : Fil A s rs t) (ht : t ≠ []) : A.fndE s = 0 ∧ flen rs < (A.fndB s).length ∧ flen rs ≤ (A.old s).length := by
  have hl : (A.fndB s).length = flen rs + t.length := by rw [h.is, List.length_append]; rfl
  have ht' : 0 < t.length := List.length_pos_iff.2 ht
  have h0 : A.fndE s = 0 := by
    rcases h.ref with q | q
    · exact q
    · exfalso
      have : A.fndB s = [] := by unfold Ab.fndB; rw [if_neg (by rw [q]; decide)]
      rw [this] at hl
      simp at hl
      omega
  refine ⟨h0, by omega, ?_⟩
  have : A.fndB s = A.old s := by unfold Ab.fndB Ab.old; rw [if_pos h0]
  rw [← this]
  omega
set_option maxRecDepth 100000 in
set_option maxHeartbeats 4000000 in
/-- A file of whole frames. -/
theorem open_whole {rs : List (List UInt8)} (hd : DkP w B b A P) (hT : Tab w) (hs : s.size ≤ 64) (hF : Fil A s rs []) :
    Calls Tryz.prog 15 #[.pointer (some ⟨b, 0, none⟩), .string s] w fun e w' => ∃ lb v, e = .returned (.tuple #[.pointer (some ⟨lb, 0, none⟩), v, .int .i64 0]) ∧ OutS w.heap.size 0 w' v rs ∧ Lg w' lb b s (flen rs) false ∧ w.heap.size ≤ lb ∧ w.grownBy w' none := by
  have HRd := hid (read_p hd s)
  obtain ⟨E, HE⟩ : ∃ x, Hid (A.fndE s = x) := ⟨_, hid rfl⟩
  rw [HE.out] at HRd
  have HRf : Hid (E = 0 ∨ E = 92) := hid (by rw [← HE.out]; exact hF.ref)
  obtain ⟨f, HFf⟩ : ∃ x, Hid (A.fndB s = x) := ⟨_, hid rfl⟩
  rw [HFf.out] at HRd
  have hff : f = flat rs ++ [] := by rw [← HFf.out, hF.is]
  have HLn : Hid (f.length = flen rs) := hid (by rw [hff, List.append_nil]; rfl)
  have HTk : Hid (∀ u v (F : Nat → Prop), w.grownBy u none → Rd u F v f → Calls Tryz.prog 47 #[v] u fun e w' => u.grownBy w' none ∧ ∃ v', e = .returned (.tuple #[v', .int .i64 (flen rs : Nat), .int .i64 0]) ∧ OutS u.heap.size 0 w' v' rs) := hid (fun u v F hu hr => by
    refine (take_any u F v f rs [] hr hff hF.each (by rw [← HFf.out]; exact fil_len hd.1) (hT.keep hu) hF.num hF.tail).mono fun e w' ⟨q1, q2, _⟩ => ⟨q1, q2 (.inl rfl)⟩)
  have HCl : Hid (∀ u, Calls Tryz.prog 49 #[.string s] u fun e w' => e = .returned (.string s) ∧ u.grownBy w' none) := hid (fun u => clone_any s u (by omega))
  have HCt : Hid (∀ (k : Nat) u, Calls Tryz.prog 48 #[.pointer (some ⟨b, 0, none⟩), .string s, .int .i64 (k : Int), .int .i64 (k : Int)] u fun e w' => e = .returned (.int .i64 0) ∧ w' = u) := hid (fun k u => lcut_same _ k)
  obtain ⟨z, HZ⟩ : ∃ x, Hid (flen rs = x) := ⟨_, hid rfl⟩
  rw [HZ.out] at HTk HLn ⊢
  clear hd hT hs hF hff HE HFf
  go_enter Tryz.func15, Tryz.ntmps15
  rcases HRf.out with rfl | rfl
  · go_upto_region 10 with (first
      | (go_at_call 48; (with_reducible refine (HCt.out _ _).mono ?_); rintro e w4 ⟨rfl, hw4⟩; have hw4' := hw4.symm; clear hw4; subst hw4')
      | (go_at_call 47; (with_reducible refine (HTk.out _ _ _ HG2.out HR2.out).mono ?_); rintro e w3 ⟨hg, v3, rfl, hO⟩; have HG3 := hid (gtrans HG2.out hg); have HO3 := hid hO; have HG2' := hid HG2.out.size; clear hO hg)
      | (go_at_call 46; (with_reducible refine HRd.out.mono ?_); rintro e w2 ⟨v2, rfl, hO, hg⟩; have HG2 := hid hg; obtain ⟨fa, fc, hv2⟩ := hO.len; rw [HLn.out] at hv2; subst hv2; have HR2 := hid hO.rd; clear hO hg))
    go_wp2_with (first
      | ((with_reducible refine wpList_box_row (by with_unfolding_all rfl) 128 _ (by with_unfolding_all rfl) (lgc b s z false) (by with_unfolding_all rfl) ?_); intro w6 B6 s6 g6; have HB6 := hid B6; have HG6 := hid g6; clear B6 s6 g6)
      | ((with_reducible refine wpList_build_of (by with_unfolding_all rfl) 128 _ (by with_unfolding_all rfl) [(0, .pointer (some ⟨b, 0, none⟩)), (1, .string s), (2, .int .i64 (z : Int))] (by with_unfolding_all rfl) (lgc b s z false) (Tryz.built76 b s z) ?_))
      | (go_at_call 49; (with_reducible refine (HCl.out _).mono ?_); rintro e w5 ⟨rfl, hg⟩; have HG5 := hid hg; clear hg))
    go_ret3
    exact ⟨_, _, rfl, ((HO3.out.base HG2'.out).keep HG5.out).keep HG6.out, HB6.out, by have := HG3.out.size; have := HG5.out.size; omega, gtrans HG3.out (gtrans HG5.out HG6.out)⟩
  · go_upto_region 10 with (first
      | (go_at_call 48; (with_reducible refine (HCt.out _ _).mono ?_); rintro e w4 ⟨rfl, hw4⟩; have hw4' := hw4.symm; clear hw4; subst hw4')
      | (go_at_call 47; (with_reducible refine (HTk.out _ _ _ HG2.out HR2.out).mono ?_); rintro e w3 ⟨hg, v3, rfl, hO⟩; have HG3 := hid (gtrans HG2.out hg); have HO3 := hid hO; have HG2' := hid HG2.out.size; clear hO hg)
      | (go_at_call 46; (with_reducible refine HRd.out.mono ?_); rintro e w2 ⟨v2, rfl, hO, hg⟩; have HG2 := hid hg; obtain ⟨fa, fc, hv2⟩ := hO.len; rw [HLn.out] at hv2; subst hv2; have HR2 := hid hO.rd; clear hO hg))
    go_wp2_with (first
      | ((with_reducible refine wpList_box_row (by with_unfolding_all rfl) 128 _ (by with_unfolding_all rfl) (lgc b s z false) (by with_unfolding_all rfl) ?_); intro w6 B6 s6 g6; have HB6 := hid B6; have HG6 := hid g6; clear B6 s6 g6)
      | ((with_reducible refine wpList_build_of (by with_unfolding_all rfl) 128 _ (by with_unfolding_all rfl) [(0, .pointer (some ⟨b, 0, none⟩)), (1, .string s), (2, .int .i64 (z : Int))] (by with_unfolding_all rfl) (lgc b s z false) (Tryz.built76 b s z) ?_))
      | (go_at_call 49; (with_reducible refine (HCl.out _).mono ?_); rintro e w5 ⟨rfl, hg⟩; have HG5 := hid hg; clear hg))
    go_ret3
    exact ⟨_, _, rfl, ((HO3.out.base HG2'.out).keep HG5.out).keep HG6.out, HB6.out, by have := HG3.out.size; have := HG5.out.size; omega, gtrans HG3.out (gtrans HG5.out HG6.out)⟩
set_option maxRecDepth 100000 in
set_option maxHeartbeats 4000000 in
/-- A file with a torn end. -/
theorem open_torn {rs : List (List UInt8)} {t : List UInt8} (hd : DkP w B b A P) (hP : ∀ k, P k → k < w.heap.size) (hT : Tab w) (hs : s.size ≤ 64) (hF : Fil A s rs t) (htn : t ≠ []) (ht3 : unfrE t = 30) (hw : A.wr ≤ 4611686018427387904) :
    Calls Tryz.prog 15 #[.pointer (some ⟨b, 0, none⟩), .string s] w fun e w' => DF w w' P ∧ ∃ P', DkP w' B b (A.cut s (flen rs : Nat)) P' ∧ (∀ k, P' k → k < w'.heap.size) ∧ (∀ k, P' k → P k ∨ w.heap.size ≤ k) ∧
      ((A.cutE s (flen rs : Nat) ≠ 0 ∧ e = .returned (.tuple #[.pointer none, .slice none 0 0, .int .i64 (A.cutE s (flen rs : Nat))])) ∨ (A.cutE s (flen rs : Nat) = 0 ∧ ∃ lb v, e = .returned (.tuple #[.pointer (some ⟨lb, 0, none⟩), v, .int .i64 0]) ∧ OutS w.heap.size 0 w' v rs ∧ Lg w' lb b s (flen rs) false ∧ w.heap.size ≤ lb ∧ ¬ P' lb)) := by
  have HRd := hid (read_p hd s)
  obtain ⟨E, HE⟩ : ∃ x, Hid (A.fndE s = x) := ⟨_, hid rfl⟩
  rw [HE.out] at HRd
  have HE0 : Hid (E = 0) := hid (by rw [← HE.out]; exact (fil_cut hF htn).1)
  obtain ⟨f, HFf⟩ : ∃ x, Hid (A.fndB s = x) := ⟨_, hid rfl⟩
  rw [HFf.out] at HRd
  have hff : f = flat rs ++ t := by rw [← HFf.out, hF.is]
  obtain ⟨n, HLn⟩ : ∃ x, Hid (f.length = x) := ⟨_, hid rfl⟩
  have HTk : Hid (∀ u v (F : Nat → Prop), w.grownBy u none → Rd u F v f → Calls Tryz.prog 47 #[v] u fun e w' => u.grownBy w' none ∧ ∃ v', e = .returned (.tuple #[v', .int .i64 (flen rs : Nat), .int .i64 0]) ∧ OutS u.heap.size 0 w' v' rs) := hid (fun u v F hu hr => by
    refine (take_any u F v f rs t hr hff hF.each (by rw [← HFf.out]; exact fil_len hd.1) (hT.keep hu) hF.num hF.tail).mono fun e w' ⟨q1, q2, _⟩ => ⟨q1, q2 (.inr ht3)⟩)
  have HCl : Hid (∀ u, Calls Tryz.prog 49 #[.string s] u fun e w' => e = .returned (.string s) ∧ u.grownBy w' none) := hid (fun u => clone_any s u (by omega))
  have HKn : Hid (flen rs < n) := hid (by rw [← HLn.out, ← HFf.out]; exact (fil_cut hF htn).2.1)
  have HPw := hid hP
  have HCt : Hid (∀ u, w.grownBy u none → Calls Tryz.prog 48 #[.pointer (some ⟨b, 0, none⟩), .string s, .int .i64 (flen rs : Nat), .int .i64 (n : Nat)] u fun e w' => e = .returned (.int .i64 (A.cutE s (flen rs : Nat))) ∧ DkP w' B b (A.cut s (flen rs : Nat)) (newP P u w') ∧ DF u w' P) := hid (fun u hu => lcut_any (hd.keep hu) _ _ HKn.out hw)
  obtain ⟨z, HZ⟩ : ∃ x, Hid (flen rs = x) := ⟨_, hid rfl⟩
  rw [HZ.out] at HTk HCt ⊢
  obtain ⟨X, HX⟩ : ∃ x, Hid (A.cutE s (z : Nat) = x) := ⟨_, hid rfl⟩
  rw [HX.out] at HCt ⊢
  obtain ⟨A', HA'⟩ : ∃ x, Hid (A.cut s (z : Nat) = x) := ⟨_, hid rfl⟩
  rw [HA'.out] at HCt ⊢
  have hE0 := HE0.out
  subst hE0
  clear hd hP hT hs hF hff HE HFf htn ht3 hw HX HA' HKn
  go_enter Tryz.func15, Tryz.ntmps15
  go_upto_region 8 with (first
    | (go_at_call 48; (with_reducible refine (HCt.out _ HG3.out).mono ?_); rintro e w4 ⟨rfl, hd, hf⟩; have HD4 := hid hd; have HF4 := hid hf; clear hd hf)
    | (go_at_call 47; (with_reducible refine (HTk.out _ _ _ HG2.out HR2.out).mono ?_); rintro e w3 ⟨hg, v3, rfl, hO⟩; have HG3 := hid (gtrans HG2.out hg); have HO3 := hid hO; have HG2' := hid HG2.out.size; clear hO hg)
    | (go_at_call 46; (with_reducible refine HRd.out.mono ?_); rintro e w2 ⟨v2, rfl, hO, hg⟩; have HG2 := hid hg; obtain ⟨fa, fc, hv2⟩ := hO.len; rw [HLn.out] at hv2; subst hv2; have HR2 := hid hO.rd; clear hO hg))
  have HDF : Hid (DF w w4 P) := hid ((DF.of HG3.out).trans HF4.out (fun _ _ q => q))
  have HPf : Hid (∀ k, newP P w3 w4 k → k < w4.heap.size) := hid (fun k hk => by
    rcases hk with hk | hk
    · have := HPw.out k hk; have := HDF.out.size; omega
    · exact hk.2)
  have HPg : Hid (∀ k, newP P w3 w4 k → P k ∨ w.heap.size ≤ k) := hid (fun k hk => by
    rcases hk with hk | hk
    · exact .inl hk
    · right; have := HG3.out.size; omega)
  by_cases hX : X = 0
  · subst hX
    go_wp2_with (first
      | ((with_reducible refine wpList_box_row (by with_unfolding_all rfl) 128 _ (by with_unfolding_all rfl) (lgc b s z false) (by with_unfolding_all rfl) ?_); intro w6 B6 s6 g6; have HB6 := hid B6; have HG6 := hid g6; clear B6 s6 g6)
      | ((with_reducible refine wpList_build_of (by with_unfolding_all rfl) 128 _ (by with_unfolding_all rfl) [(0, .pointer (some ⟨b, 0, none⟩)), (1, .string s), (2, .int .i64 (z : Int))] (by with_unfolding_all rfl) (lgc b s z false) (Tryz.built76 b s z) ?_))
      | (go_at_call 49; (with_reducible refine (HCl.out _).mono ?_); rintro e w5 ⟨rfl, hg⟩; have HG5 := hid hg; clear hg))
    go_ret3
    have HG6' := gtrans HG5.out HG6.out
    refine ⟨HDF.out.trans (DF.of HG6') (fun _ _ q => q), _, HD4.out.keep HG6', fun k hk => Nat.lt_of_lt_of_le (HPf.out k hk) HG6'.size, HPg.out, ⟨_, _, rfl, ?_, HB6.out, ?_, ?_⟩⟩
    · exact ((HO3.out.df HF4.out (fun k hk hp => by have := HPw.out k hp; have := HG2'.out; omega) (fun k hk _ => by omega)).base HG2'.out).keep HG6'
    · have := HDF.out.size; have := HG5.out.size; omega
    · intro hk; have := HPf.out _ hk; have := HG5.out.size; omega
  · go_wp2_with fail
    go_ret3
    exact ⟨HDF.out, _, HD4.out, HPf.out, HPg.out, .inl ⟨hX, rfl⟩⟩
set_option maxRecDepth 100000 in
set_option maxHeartbeats 4000000 in
/-- A damaged file. -/
theorem open_hurt {rs : List (List UInt8)} {t : List UInt8} (hd : DkP w B b A P) (hT : Tab w) (hF : Fil A s rs t) (htn : t ≠ []) (ht3 : unfrE t ≠ 30) :
    Calls Tryz.prog 15 #[.pointer (some ⟨b, 0, none⟩), .string s] w fun e w' => e = .returned (.tuple #[.pointer none, .slice none 0 0, .int .i64 101]) ∧ w.grownBy w' none := by
  have HRd := hid (read_p hd s)
  obtain ⟨E, HE⟩ : ∃ x, Hid (A.fndE s = x) := ⟨_, hid rfl⟩
  rw [HE.out] at HRd
  have HE0 : Hid (E = 0) := hid (by rw [← HE.out]; exact (fil_cut hF htn).1)
  obtain ⟨f, HFf⟩ : ∃ x, Hid (A.fndB s = x) := ⟨_, hid rfl⟩
  rw [HFf.out] at HRd
  have hff : f = flat rs ++ t := by rw [← HFf.out, hF.is]
  obtain ⟨n, HLn⟩ : ∃ x, Hid (f.length = x) := ⟨_, hid rfl⟩
  have HTk : Hid (∀ u v (F : Nat → Prop), w.grownBy u none → Rd u F v f → Calls Tryz.prog 47 #[v] u fun e w' => e = .returned (.tuple #[.slice none 0 0, .int .i64 0, .int .i64 101]) ∧ u.grownBy w' none) := hid (fun u v F hu hr => by
    refine (take_any u F v f rs t hr hff hF.each (by rw [← HFf.out]; exact fil_len hd.1) (hT.keep hu) hF.num hF.tail).mono fun e w' ⟨q1, _, q2⟩ => ⟨q2 (fun h => h.elim htn ht3), q1⟩)
  have hE0 := HE0.out
  subst hE0
  clear hd hT hF hff HE HFf htn ht3
  go_enter Tryz.func15, Tryz.ntmps15
  go_wp2_with (first
    | (go_at_call 47; (with_reducible refine (HTk.out _ _ _ HG2.out HR2.out).mono ?_); rintro e w3 ⟨rfl, hg⟩; have HG3 := hid (gtrans HG2.out hg); clear hg)
    | (go_at_call 46; (with_reducible refine HRd.out.mono ?_); rintro e w2 ⟨v2, rfl, hO, hg⟩; have HG2 := hid hg; obtain ⟨fa, fc, hv2⟩ := hO.len; rw [HLn.out] at hv2; subst hv2; have HR2 := hid hO.rd; clear hO hg))
  go_ret3
  exact ⟨rfl, HG3.out⟩
end Go.Proofs.YtpbiofnncdneoaaGreatDoor
