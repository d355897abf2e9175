/- The log: Append, Size. -/
import Derived.Test.YtpbiofnncdneoaaDoorWb
namespace Go.Proofs.YtpbiofnncdneoaaDoor
open Go Go.RowKit Go.MapKept Go.MuLone
open Go.RowKit (wrap32 wrap64)

def lgc (b : Nat) (s : ByteArray) (z : Nat) (off : Bool) : List Value := [.pointer (some ⟨b, 0, none⟩), .string s, .int .i64 (z : Int), .bool off]
/-- A log at block lb: of the disk at b, its name, its size, is it off. -/
def Lg (w : World) (lb b : Nat) (s : ByteArray) (z : Nat) (off : Bool) : Prop := Blk w lb (lgc b s z off) 76
theorem ld25 (b i : Nat) (p : Addr) (u : World) (h : u.cell? ⟨b, i, none⟩ = some (.pointer (some p))) : (Instr.loadAt 25 (.pointer (some ⟨b, i, none⟩))).run Tryd.prog u = .ok (.pointer (some p)) u := by go_simp
variable {w : World} {B b lb : Nat} {A : Ab} {P : Nat → Prop} {s : ByteArray} {z : Nat} {off : Bool}
set_option maxRecDepth 100000 in
theorem lsize_any (h : Lg w lb b s z off) : Calls Tryd.prog 19 #[.pointer (some ⟨lb, 0, none⟩)] w fun e w' => e = .returned (.int .i64 (z : Nat)) ∧ w' = w := by
  have k2 : w.cell? ⟨lb, 2, none⟩ = some (.int .i64 (z : Int)) := h.cell 2
  clear h
  go_enter Tryd.func19, Tryd.ntmps19
  go_wp2_with fail
  go_ret
  exact ⟨rfl, rfl⟩
set_option maxRecDepth 100000 in
/-- A log that is off says so. -/
theorem lapp_off (h : Lg w lb b s z true) (v : Value) : Calls Tryd.prog 15 #[.pointer (some ⟨lb, 0, none⟩), v] w fun e w' => e = .returned (.int .i64 102) ∧ w' = w := by
  have k3 : w.cell? ⟨lb, 3, none⟩ = some (.bool true) := h.cell 3
  clear h
  go_enter Tryd.func15, Tryd.ntmps15
  go_wp2_with fail
  go_ret
  exact ⟨rfl, rfl⟩
set_option maxRecDepth 100000 in
/-- A record that is too long. -/
theorem lapp_long (h : Lg w lb b s z false) (a : Option Addr) (n c : Nat) (hn : 16777216 < n) (hn2 : n ≤ 140737488355328) : Calls Tryd.prog 15 #[.pointer (some ⟨lb, 0, none⟩), .slice a n c] w fun e w' => e = .returned (.int .i64 100) ∧ w' = w := by
  have k3 : w.cell? ⟨lb, 3, none⟩ = some (.bool false) := h.cell 3
  have HF := hid (frame_no _ n c a w rfl hn hn2)
  clear h hn hn2
  go_enter Tryd.func15, Tryd.ntmps15
  go_wp2_with (go_at_call 31; refine HF.out.mono ?_; rintro e w2 ⟨rfl, h2⟩; have h2' := h2.symm; clear h2; subst h2')
  go_ret
  exact ⟨rfl, rfl⟩
/-- What Append leaves of the log. -/
def lgZ (A : Ab) (s : ByteArray) (z : Nat) (l : List UInt8) : Nat := if A.appE s (frameL l) = 0 then z + (l.length + 13) else z
set_option maxRecDepth 100000 in
set_option maxHeartbeats 4000000 in
theorem lapp_any (h : Lg w lb b s z false) (hd : DkP w B b A P) (hP : ∀ k, P k → k < w.heap.size) (hlb : ¬ P lb) (hw : A.wr ≤ 4611686018427387904) (hz : z ≤ 1099511627776) (hT : Tab w) (F : Nat → Prop) (v : Value) (l : List UInt8) (hr : Rd w F v l) (hl : l.length ≤ 16777216) :
    Calls Tryd.prog 15 #[.pointer (some ⟨lb, 0, none⟩), v] w fun e w' => e = .returned (.int .i64 (A.appE s (frameL l))) ∧ Lg w' lb b s (lgZ A s z l) (decide (A.appE s (frameL l) ≠ 0)) ∧ ∃ P', DkP w' B b (A.app s (frameL l)) P' ∧ (∀ k, P' k → k < w'.heap.size) ∧ (∀ k, P' k → P k ∨ w.heap.size ≤ k) ∧ DF w w' (fun k => P k ∨ k = lb) := by
  have k3 : w.cell? ⟨lb, 3, none⟩ = some (.bool false) := h.cell 3
  have HLg := hid h
  have HDk := hid hd
  have HP := hid hP
  have HLb := hid hlb
  have HLt : Hid (lb < w.heap.size) := hid h.lt
  have HFr := hid (frame_ok l F v w hl hr hT)
  have HL : Hid (l.length + 13 ≤ 16777229) := hid (by omega)
  have HWr := hid hw
  have hz1 := hz
  obtain ⟨va, vn, vc, hv⟩ : ∃ a n c, v = .slice a n c := by obtain ⟨a, _, _, c, e, _⟩ := hr; exact ⟨a, _, c, e⟩
  subst hv
  obtain ⟨E, HE⟩ : ∃ x, Hid (A.appE s (frameL l) = x) := ⟨_, hid rfl⟩
  rw [HE.out]
  clear h hd hP hlb hl hr hT hw hz
  go_enter Tryd.func15, Tryd.ntmps15
  go_upto_region 6 with (go_at_call 31; (with_reducible refine HFr.out.mono ?_); rintro e w2 ⟨v2, rfl, hO, hg⟩; have HO2 := hid hO; have HG2 := hid hg; obtain ⟨fa, fc, hv2⟩ := hO.len; clear hO hg)
  obtain ⟨fn, hfn⟩ : ∃ x, (frameL l).length = x := ⟨_, rfl⟩
  rw [hfn] at hv2 ⊢
  subst hv2
  have HFn : Hid (fn = l.length + 13) := hid (by rw [← hfn, frameL_length])
  clear hfn HFr
  have HLg2 : Hid (∀ u, w2.grownBy u none → Lg u lb b s z false) := hid (fun u hu => Blk.keep (Blk.keep HLg.out HG2.out) hu)
  have HC0 : Hid (∀ u, w2.grownBy u none → u.cell? ⟨lb, 0, none⟩ = some (.pointer (some ⟨b, 0, none⟩))) := hid (fun u hu => (HLg2.out u hu).cell 0)
  have HC1 : Hid (∀ u, w2.grownBy u none → u.cell? ⟨lb, 1, none⟩ = some (.string s)) := hid (fun u hu => (HLg2.out u hu).cell 1)
  have HAp : Hid (∀ u, w2.grownBy u none → Calls Tryd.prog 32 #[.pointer (some ⟨b, 0, none⟩), .string s, .slice fa fn fc] u fun e w' => e = .returned (.int .i64 (A.appE s (frameL l))) ∧ DkP w' B b (A.app s (frameL l)) (newP P u w') ∧ DF u w' P) := hid (fun u hu => by
    have ho := HO2.out.keep hu
    refine append_p ((HDk.out.keep HG2.out).keep hu) s _ fa fn fc (frameL l) ho.rd (fun k hk hp => ?_) HWr.out
    have h1 := HP.out k hp
    have h2 := hk
    omega)
  rw [HE.out] at HAp
  have HZ1 : Hid (E = 0 → lgZ A s z l = z + fn) := hid (fun e => by unfold lgZ; rw [HE.out, if_pos e, HFn.out])
  have HZ2 : Hid (E ≠ 0 → lgZ A s z l = z) := hid (fun e => by unfold lgZ; rw [HE.out, if_neg e])
  clear HE
  refine wp_region_listX (by kernel_rfl) [fun v _ => v = (Value.pointer (some ⟨lb, 0, none⟩)), fun v _ => v = (Value.pointer (some ⟨lb, 0, none⟩)), fun v _ => v = (Value.pointer (some ⟨lb, 0, none⟩)), fun v _ => v = (Value.pointer (some ⟨b, 0, none⟩)), fun v _ => v = (Value.pointer (some ⟨lb, 0, none⟩)), fun v _ => v = (Value.pointer (some ⟨lb, 0, none⟩)), fun v _ => v = (Value.pointer (some ⟨lb, 1, none⟩)), fun v _ => v = (Value.string s), fun v _ => v = (Value.slice fa fn fc)] (none) (fun _ => none) 9 (by kernel_rfl) (by kernel_rfl) (by kernel_rfl) (by kernel_rfl) (by decide) noRow_one (fun _ => .inl rfl) ⟨fun i v u u' hki h hg => h, fun i v u u' hki h hg => h, fun i v u u' hki h hg => h, fun i v u u' hki h hg => h, fun i v u u' hki h hg => h, fun i v u u' hki h hg => h, fun i v u u' hki h hg => h, fun i v u u' hki h hg => h, fun i v u u' hki h hg => h, trivial⟩ ⟨?_, ?_, ?_, ?_, ?_, ?_, ?_, ?_, ?_, trivial⟩ ?_
  · intro A u hu hpu hsz hout hdeps
    have e0 : A.eval (.tmp 0) = (.pointer (some ⟨lb, 0, none⟩)) := (hout 0 (by kernel_rfl)).trans rfl
    refine ifw_none rfl ?_
    with_reducible refine shown_q (Value.pointer (some ⟨lb, 0, none⟩)) ?qq_1_0 (fun _ _ => ?qr_1_0)
    case qr_1_0 => exact (rfl : (Value.pointer (some ⟨lb, 0, none⟩)) = (Value.pointer (some ⟨lb, 0, none⟩)))
    with_reducible refine quietAt_mv (.tmp 0) (Value.pointer (some ⟨lb, 0, none⟩)) ?h0_1_0 ?h1_1_0
    case h0_1_0 => rfl
    case h1_1_0 => exact e0
  · intro A u hu hpu hsz hout hdeps
    have e19 : A.eval (.tmp 19) = (.pointer (some ⟨lb, 0, none⟩)) := by have h := depL hdeps 0 (by kernel_rfl) 19 (by kernel_rfl); exact h
    refine ifw_none rfl ?_
    with_reducible refine shown_q (Value.pointer (some ⟨lb, 0, none⟩)) ?qq_1_1 (fun _ _ => ?qr_1_1)
    case qr_1_1 => exact (rfl : (Value.pointer (some ⟨lb, 0, none⟩)) = (Value.pointer (some ⟨lb, 0, none⟩)))
    with_reducible refine quietAt_nil (.tmp 19) ?h0_1_1 ⟨lb, 0, none⟩ ?h1_1_1
    case h0_1_1 => rfl
    case h1_1_1 => exact e19
  · intro A u hu hpu hsz hout hdeps
    have e20 : A.eval (.tmp 20) = (.pointer (some ⟨lb, 0, none⟩)) := by have h := depL hdeps 1 (by kernel_rfl) 20 (by kernel_rfl); exact h
    refine ifw_none rfl ?_
    with_reducible refine shown_q (Value.pointer (some ⟨lb, 0, none⟩)) ?qq_1_2 (fun _ _ => ?qr_1_2)
    case qr_1_2 => exact (rfl : (Value.pointer (some ⟨lb, 0, none⟩)) = (Value.pointer (some ⟨lb, 0, none⟩)))
    with_reducible refine quietAt_field 76 (.tmp 20) 0 ?h0_1_2 ⟨lb, 0, none⟩ ⟨lb, 0, none⟩ ?h1_1_2 ?h2_1_2
    case h0_1_2 => rfl
    case h1_1_2 => exact e20
    case h2_1_2 => kernel_rfl
  · intro A u hu hpu hsz hout hdeps
    have e21 : A.eval (.tmp 21) = (.pointer (some ⟨lb, 0, none⟩)) := by have h := depL hdeps 2 (by kernel_rfl) 21 (by kernel_rfl); exact h
    refine ifw_none rfl ?_
    with_reducible refine shown_q (Value.pointer (some ⟨b, 0, none⟩)) ?qq_1_3 (fun _ _ => ?qr_1_3)
    case qr_1_3 => exact (rfl : (Value.pointer (some ⟨b, 0, none⟩)) = (Value.pointer (some ⟨b, 0, none⟩)))
    with_reducible refine quietAt_ld 25 (.tmp 21) (Value.pointer (some ⟨lb, 0, none⟩)) (Value.pointer (some ⟨b, 0, none⟩)) ?h0_1_3 ?h1_1_3 ?h2_1_3
    case h0_1_3 => rfl
    case h1_1_3 => exact e21
    case h2_1_3 => exact ld25 lb 0 ⟨b, 0, none⟩ u (HC0.out u hu)
  · intro A u hu hpu hsz hout hdeps
    have e0 : A.eval (.tmp 0) = (.pointer (some ⟨lb, 0, none⟩)) := (hout 0 (by kernel_rfl)).trans rfl
    refine ifw_none rfl ?_
    with_reducible refine shown_q (Value.pointer (some ⟨lb, 0, none⟩)) ?qq_1_4 (fun _ _ => ?qr_1_4)
    case qr_1_4 => exact (rfl : (Value.pointer (some ⟨lb, 0, none⟩)) = (Value.pointer (some ⟨lb, 0, none⟩)))
    with_reducible refine quietAt_mv (.tmp 0) (Value.pointer (some ⟨lb, 0, none⟩)) ?h0_1_4 ?h1_1_4
    case h0_1_4 => rfl
    case h1_1_4 => exact e0
  · intro A u hu hpu hsz hout hdeps
    have e23 : A.eval (.tmp 23) = (.pointer (some ⟨lb, 0, none⟩)) := by have h := depL hdeps 4 (by kernel_rfl) 23 (by kernel_rfl); exact h
    refine ifw_none rfl ?_
    with_reducible refine shown_q (Value.pointer (some ⟨lb, 0, none⟩)) ?qq_1_5 (fun _ _ => ?qr_1_5)
    case qr_1_5 => exact (rfl : (Value.pointer (some ⟨lb, 0, none⟩)) = (Value.pointer (some ⟨lb, 0, none⟩)))
    with_reducible refine quietAt_nil (.tmp 23) ?h0_1_5 ⟨lb, 0, none⟩ ?h1_1_5
    case h0_1_5 => rfl
    case h1_1_5 => exact e23
  · intro A u hu hpu hsz hout hdeps
    have e24 : A.eval (.tmp 24) = (.pointer (some ⟨lb, 0, none⟩)) := by have h := depL hdeps 5 (by kernel_rfl) 24 (by kernel_rfl); exact h
    refine ifw_none rfl ?_
    with_reducible refine shown_q (Value.pointer (some ⟨lb, 1, none⟩)) ?qq_1_6 (fun _ _ => ?qr_1_6)
    case qr_1_6 => exact (rfl : (Value.pointer (some ⟨lb, 1, none⟩)) = (Value.pointer (some ⟨lb, 1, none⟩)))
    with_reducible refine quietAt_field 76 (.tmp 24) 1 ?h0_1_6 ⟨lb, 0, none⟩ ⟨lb, 1, none⟩ ?h1_1_6 ?h2_1_6
    case h0_1_6 => rfl
    case h1_1_6 => exact e24
    case h2_1_6 => kernel_rfl
  · intro A u hu hpu hsz hout hdeps
    have e25 : A.eval (.tmp 25) = (.pointer (some ⟨lb, 1, none⟩)) := by have h := depL hdeps 6 (by kernel_rfl) 25 (by kernel_rfl); exact h
    refine ifw_none rfl ?_
    with_reducible refine shown_q (Value.string s) ?qq_1_7 (fun _ _ => ?qr_1_7)
    case qr_1_7 => exact (rfl : (Value.string s) = (Value.string s))
    with_reducible refine quietAt_ld 9 (.tmp 25) (Value.pointer (some ⟨lb, 1, none⟩)) (Value.string s) ?h0_1_7 ?h1_1_7 ?h2_1_7
    case h0_1_7 => rfl
    case h1_1_7 => exact e25
    case h2_1_7 => exact ld9 lb 1 s u (HC1.out u hu)
  · intro A u hu hpu hsz hout hdeps
    have e5 : A.eval (.tmp 5) = (.slice fa fn fc) := (hout 5 (by kernel_rfl)).trans rfl
    refine ifw_none rfl ?_
    with_reducible refine shown_q (Value.slice fa fn fc) ?qq_1_8 (fun _ _ => ?qr_1_8)
    case qr_1_8 => exact (rfl : (Value.slice fa fn fc) = (Value.slice fa fn fc))
    with_reducible refine quietAt_mv (.tmp 5) (Value.slice fa fn fc) ?h0_1_8 ?h1_1_8
    case h0_1_8 => rfl
    case h1_1_8 => exact e5
  · intro A u8 listed hh hall
    have hA := hh.frame
    have HU := hid hh.grown
    obtain ⟨x19, hx19⟩ : ∃ x, A.eval (.tmp 19) = x := ⟨_, rfl⟩
    have f19 : (fun v _ => v = (Value.pointer (some ⟨lb, 0, none⟩))) x19 u8 := by rw [← hx19]; exact hh.got 0 _ 19 rfl rfl (hall 0 (by decide))
    obtain ⟨x20, hx20⟩ : ∃ x, A.eval (.tmp 20) = x := ⟨_, rfl⟩
    have f20 : (fun v _ => v = (Value.pointer (some ⟨lb, 0, none⟩))) x20 u8 := by rw [← hx20]; exact hh.got 1 _ 20 rfl rfl (hall 1 (by decide))
    obtain ⟨x21, hx21⟩ : ∃ x, A.eval (.tmp 21) = x := ⟨_, rfl⟩
    have f21 : (fun v _ => v = (Value.pointer (some ⟨lb, 0, none⟩))) x21 u8 := by rw [← hx21]; exact hh.got 2 _ 21 rfl rfl (hall 2 (by decide))
    obtain ⟨x22, hx22⟩ : ∃ x, A.eval (.tmp 22) = x := ⟨_, rfl⟩
    have f22 : (fun v _ => v = (Value.pointer (some ⟨b, 0, none⟩))) x22 u8 := by rw [← hx22]; exact hh.got 3 _ 22 rfl rfl (hall 3 (by decide))
    obtain ⟨x23, hx23⟩ : ∃ x, A.eval (.tmp 23) = x := ⟨_, rfl⟩
    have f23 : (fun v _ => v = (Value.pointer (some ⟨lb, 0, none⟩))) x23 u8 := by rw [← hx23]; exact hh.got 4 _ 23 rfl rfl (hall 4 (by decide))
    obtain ⟨x24, hx24⟩ : ∃ x, A.eval (.tmp 24) = x := ⟨_, rfl⟩
    have f24 : (fun v _ => v = (Value.pointer (some ⟨lb, 0, none⟩))) x24 u8 := by rw [← hx24]; exact hh.got 5 _ 24 rfl rfl (hall 5 (by decide))
    obtain ⟨x25, hx25⟩ : ∃ x, A.eval (.tmp 25) = x := ⟨_, rfl⟩
    have f25 : (fun v _ => v = (Value.pointer (some ⟨lb, 1, none⟩))) x25 u8 := by rw [← hx25]; exact hh.got 6 _ 25 rfl rfl (hall 6 (by decide))
    obtain ⟨x26, hx26⟩ : ∃ x, A.eval (.tmp 26) = x := ⟨_, rfl⟩
    have f26 : (fun v _ => v = (Value.string s)) x26 u8 := by rw [← hx26]; exact hh.got 7 _ 26 rfl rfl (hall 7 (by decide))
    obtain ⟨x27, hx27⟩ : ∃ x, A.eval (.tmp 27) = x := ⟨_, rfl⟩
    have f27 : (fun v _ => v = (Value.slice fa fn fc)) x27 u8 := by rw [← hx27]; exact hh.got 8 _ 27 rfl rfl (hall 8 (by decide))
    obtain ⟨x28, hx28⟩ : ∃ x, A.eval (.tmp 28) = x := ⟨_, rfl⟩
    obtain ⟨x7, hx7⟩ : ∃ x, A.eval (.tmp 7) = x := ⟨_, rfl⟩
    dsimp only [wrote, List.foldl] at hA
    rw [hx19, hx20, hx21, hx22, hx23, hx24, hx25, hx26, hx27, hx28, hx7] at hA
    clear hh hall hx19 hx20 hx21 hx22 hx23 hx24 hx25 hx26 hx27 hx28 hx7
    replace f19 := (f19 : x19 = (.pointer (some ⟨lb, 0, none⟩)))
    subst f19
    replace f20 := (f20 : x20 = (.pointer (some ⟨lb, 0, none⟩)))
    subst f20
    replace f21 := (f21 : x21 = (.pointer (some ⟨lb, 0, none⟩)))
    subst f21
    replace f22 := (f22 : x22 = (.pointer (some ⟨b, 0, none⟩)))
    subst f22
    replace f23 := (f23 : x23 = (.pointer (some ⟨lb, 0, none⟩)))
    subst f23
    replace f24 := (f24 : x24 = (.pointer (some ⟨lb, 0, none⟩)))
    subst f24
    replace f25 := (f25 : x25 = (.pointer (some ⟨lb, 1, none⟩)))
    subst f25
    replace f26 := (f26 : x26 = (.string s))
    subst f26
    replace f27 := (f27 : x27 = (.slice fa fn fc))
    subst f27
    subst hA
    show wpList _ _ _ [_, _] _ _
    simp only [Act.put, List.setIfInBounds_toArray, List.set_cons_succ, List.set_cons_zero]
    go_upto_region 7 with (go_at_call 32; (with_reducible refine (HAp.out _ HU.out).mono ?_); rintro e w4 ⟨rfl, hd, hf⟩; have HD4 := hid hd; have HF4 := hid hf; clear hd hf)
    have HLg4 : Hid (Lg w4 lb b s z false) := hid (Blk.df (HLg2.out _ HU.out) HF4.out HLb.out)
    have HGs := hid (gtrans HG2.out HU.out)
    have HPf : Hid (∀ k, newP P u8 w4 k → k < w4.heap.size) := hid (fun k hk => by
      rcases hk with hk | hk
      · have := HP.out k hk; have := HGs.out.size; have := HF4.out.size; omega
      · exact hk.2)
    have HPg : Hid (∀ k, newP P u8 w4 k → P k ∨ w.heap.size ≤ k) := hid (fun k hk => by
      rcases hk with hk | hk
      · exact .inl hk
      · right; have := HGs.out.size; omega)
    have HDF : Hid (DF w w4 P) := hid ((DF.of HGs.out).trans HF4.out (fun _ _ q => q))
    have HLbs : Hid (¬ newP P u8 w4 lb) := hid (fun hk => by
      rcases hk with hk | hk
      · exact HLb.out hk
      · have := HLt.out; have := HGs.out.size; omega)
    have k2 : w4.cell? ⟨lb, 2, none⟩ = some (.int .i64 (z : Int)) := HLg4.out.cell 2
    have k3 : w4.cell? ⟨lb, 3, none⟩ = some (.bool false) := HLg4.out.cell 3
    have f2 : w4.frozen? ⟨lb, 2, none⟩ = false := HLg4.out.frozen 2
    have f3 : w4.frozen? ⟨lb, 3, none⟩ = false := HLg4.out.frozen 3
    by_cases hE : E = 0
    · subst hE
      have hfn1 : fn ≤ 16777229 := by have := HL.out; have := HFn.out; omega
      have HS := hid (HLg4.out.set 2 (.int .i64 ((z + fn : Nat) : Int)))
      have HSg := hid (gset w4 ⟨lb, 2, none⟩ (.int .i64 ((z + fn : Nat) : Int)))
      go_wp2_with fail
      go_ret
      have hsum : (z : Int) + (fn : Int) = ((z + fn : Nat) : Int) := by omega
      rw [hsum]
      refine ⟨rfl, ?_, _, HD4.out.df (DF.one HSg.out (P := fun k => k = lb) rfl) (fun k _ hk e => HLbs.out (e ▸ hk)), fun k hk => Nat.lt_of_lt_of_le (HPf.out k hk) HSg.out.size, HPg.out, (HDF.out.mono (fun k hk => .inl hk)).trans (DF.one HSg.out (P := fun k => P k ∨ k = lb) (.inr rfl)) (fun _ _ q => q)⟩
      rw [HZ1.out trivial]
      exact HS.out
    · have HS := hid (HLg4.out.set 3 (.bool true))
      have HSg := hid (gset w4 ⟨lb, 3, none⟩ (.bool true))
      go_wp2_with fail
      go_ret
      refine ⟨rfl, ?_, _, HD4.out.df (DF.one HSg.out (P := fun k => k = lb) rfl) (fun k _ hk e => HLbs.out (e ▸ hk)), fun k hk => Nat.lt_of_lt_of_le (HPf.out k hk) HSg.out.size, HPg.out, (HDF.out.mono (fun k hk => .inl hk)).trans (DF.one HSg.out (P := fun k => P k ∨ k = lb) (.inr rfl)) (fun _ _ q => q)⟩
      rw [HZ2.out hE]
      exact HS.out
end Go.Proofs.YtpbiofnncdneoaaDoor
