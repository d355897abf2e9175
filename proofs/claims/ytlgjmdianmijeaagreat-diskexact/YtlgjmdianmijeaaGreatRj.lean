/- Read, Size, Files, Arm, On of the reference's disk. -/
import Derived.Test.YtlgjmdianmijeaaGreatX17
namespace Go.Proofs.YtlgjmdianmijeaaGreat
open Go Go.RowKit Go.MapKept Go.MuLone
open Go.RowKit (wrap32 wrap64)

variable {w w' w2 : World} {B b : Nat} {A A' : Ab} {P : Nat → Prop} {sv sv' : Value} {E E' : List Fl}
theorem rold_le (h : Rk w B b A sv E) (s : ByteArray) : ((getC A.C s).getD []).length ≤ 268435456 := by
  have h1 := get_used A.C s
  have h2 := h.ok.used
  have h3 := h.ok.room.2
  omega
set_option maxRecDepth 100000 in
set_option maxHeartbeats 800000 in
theorem rread_any (h : Rk w B b A sv E) (s : ByteArray) (hs : s.size ≤ 140737488355328) : Calls Tryz.prog 67 #[.pointer (some ⟨b, 0, none⟩), .string s] w fun e w' => ∃ a c, e = .returned (.tuple #[.slice a (A.fndB s).length c, .int .i64 (A.fndE s)]) ∧ Out w.heap.size w' (.slice a (A.fndB s).length c) (A.fndB s) ∧ w.grownBy w' none := by
  have HM := hid (missing_any h s hs)
  by_cases hf : A.fndE s = 0
  · have hB : A.fndB s = (getC A.C s).getD [] := by unfold Ab.fndB; rw [if_pos hf]
    rw [hB, hf]
    rw [hf] at HM
    have hol := rold_le h s
    have HBy : Hid (∀ u, w.grownBy u none → Calls Tryz.prog 62 #[.pointer (some ⟨b, 0, none⟩), .string s] u fun e w' => ∃ v, e = .returned v ∧ Out B w' v ((getC A.C s).getD []) ∧ u.grownBy w' none) := hid (fun u hu => (rbytes_any (h.keep hu) s).mono fun e w' ⟨v, q1, q2, q3, q4⟩ => ⟨v, q1, q2, q4⟩)
    obtain ⟨ol, Hol⟩ : ∃ x, Hid ((getC A.C s).getD [] = x) := ⟨_, hid rfl⟩
    rw [Hol.out] at HBy hol ⊢
    obtain ⟨n, Hn⟩ : ∃ x, Hid (ol.length = x) := ⟨_, hid rfl⟩
    have HCp : Hid (∀ u v, w.grownBy u none → Out B u v ol → Calls Tryz.prog 61 #[v] u fun e w' => ∃ a c, e = .returned (.slice a n c) ∧ Out w.heap.size w' (.slice a n c) ol ∧ u.grownBy w' none) := hid (fun u v hu ho => (copyR_any u v _ ol ho.rd (by omega)).mono fun e w' ⟨v', q1, q2, q3⟩ => by
      obtain ⟨a, c, rfl⟩ := q2.len
      rw [Hn.out] at q1 q2
      exact ⟨a, c, q1, q2.below hu.size, q3⟩)
    rw [Hn.out]
    clear h hf hB hs hol
    go_enter Tryz.func67, Tryz.ntmps67
    go_wp2_with (first
      | (go_at_call 63; (with_reducible refine HM.out.mono ?_); rintro e w5 ⟨rfl, hg⟩; have HG5 := hid hg; clear hg)
      | (go_at_call 62; (with_reducible refine (HBy.out _ HG5.out).mono ?_); rintro e w6 ⟨v6, rfl, ho, hg⟩; have HO6 := hid ho; have HG6 := hid (gtrans HG5.out hg); clear ho hg)
      | (go_at_call 61; (with_reducible refine (HCp.out _ _ HG6.out HO6.out).mono ?_); rintro e w7 ⟨a7, c7, rfl, ho, hg⟩; have HO7 := hid ho; have HG7 := hid (gtrans HG6.out hg); clear ho hg))
    refine bodyPost_ret (results_tmp2 rfl _ _ _) rfl ?_
    exact ⟨a7, c7, rfl, HO7.out, HG7.out⟩
  · have hB : A.fndB s = [] := by unfold Ab.fndB; rw [if_neg hf]
    rw [hB]
    obtain ⟨x, hx⟩ : ∃ x, A.fndE s = x := ⟨_, rfl⟩
    rw [hx] at HM hf ⊢
    have hb : (x == 0) = false := beq_eq_false_iff_ne.2 hf
    clear hx hB h
    go_enter Tryz.func67, Tryz.ntmps67
    go_wp2_with (go_at_call 63; (with_reducible refine HM.out.mono ?_); rintro e w5 ⟨rfl, hg⟩; have HG5 := hid hg; clear hg)
    refine bodyPost_ret (results_tmp2 rfl _ _ _) rfl ?_
    exact ⟨none, 0, rfl, Out.nil _ _, HG5.out⟩
set_option maxRecDepth 100000 in
theorem rsize_any (h : Rk w B b A sv E) (s : ByteArray) (hs : s.size ≤ 140737488355328) : Calls Tryz.prog 69 #[.pointer (some ⟨b, 0, none⟩), .string s] w fun e w' => e = .returned (.tuple #[.int .i64 ((A.fndB s).length : Nat), .int .i64 (A.fndE s)]) ∧ w.grownBy w' none := by
  have HR := hid (rread_any h s hs)
  obtain ⟨n, hn⟩ : ∃ x, (A.fndB s).length = x := ⟨_, rfl⟩
  obtain ⟨x, hx⟩ : ∃ x, A.fndE s = x := ⟨_, rfl⟩
  rw [hn, hx] at HR ⊢
  clear h hn hx
  go_enter Tryz.func69, Tryz.ntmps69
  go_wp2_with (go_at_call 67; (with_reducible refine HR.out.mono ?_); rintro e w5 ⟨a, c, rfl, -, hg⟩; have HG5 := hid hg; clear hg)
  refine bodyPost_ret (results_tmp2 rfl _ _ _) rfl ?_
  exact ⟨rfl, HG5.out⟩
set_option maxRecDepth 100000 in
theorem rfiles_any (h : Rk w B b A sv E) : Calls Tryz.prog 36 #[.pointer (some ⟨b, 0, none⟩)] w fun e w' => (∃ a g c, e = .returned (.slice a A.C.length c) ∧ ArF w' (fun k => w.heap.size ≤ k ∧ k < w'.heap.size) a g 0 A.C) ∧ w.grownBy w' none := by
  obtain ⟨a, g, c, hsv, hA⟩ := h.row.ar
  rw [h.con] at hsv hA
  have y1 : w.cell? ⟨b, 1, none⟩ = some sv := h.blk.cell 1
  rw [hsv] at y1
  have HC := hid (copyFiles_any w _ a g 0 c A.C hA (by have := h.ok.len; omega) (fun p hp => by
    have h1 := get_used A.C p.1
    rw [get_mem h.srt.nd hp] at h1
    have h2 := h.ok.used
    have h3 := h.ok.room.2
    simp only [Option.getD_some] at h1
    omega))
  obtain ⟨n, hn⟩ : ∃ x, A.C.length = x := ⟨_, rfl⟩
  rw [hn] at y1 HC
  have HK : Hid (∀ (w' : World) v E', OutF w.heap.size w' v E' → cont E' = A.C → ∃ a g c, v = .slice a A.C.length c ∧ ArF w' (fun k => w.heap.size ≤ k ∧ k < w'.heap.size) a g 0 A.C) := hid (fun w' v E' ho hc => by
    obtain ⟨a, g, c, q1, q2⟩ := ho.ar
    rw [hc] at q1 q2
    exact ⟨a, g, c, q1, q2⟩)
  clear h hsv hA
  go_enter Tryz.func36, Tryz.ntmps36
  go_wp2_with (go_at_call 79; (with_reducible refine HC.out.mono ?_); rintro e w5 ⟨v, E', rfl, ho, hc, -, hg⟩; have HO5 := hid ho; have HC5 := hid hc; have HG5 := hid hg; clear ho hc hg)
  go_ret
  obtain ⟨a9, g9, c9, q1, q2⟩ := HK.out _ _ _ HO5.out HC5.out
  exact ⟨⟨a9, g9, c9, by rw [← q1]; rfl, q2⟩, HG5.out⟩
set_option maxRecDepth 100000 in
theorem ron_any (h : Rk w B b A sv E) : Calls Tryz.prog 34 #[.pointer (some ⟨b, 0, none⟩)] w fun e w' => e = .returned (.tuple #[]) ∧ Rk w' B b A.on sv E ∧ w.grownBy w' (some b) := by
  have H := hid h
  have c4 := h.blk.cell 4
  have f4 := h.blk.frozen 4
  replace c4 : w.cell? ⟨b, 4, none⟩ = some (.bool A.off) := c4
  clear h
  go_enter Tryz.func34, Tryz.ntmps34
  go_wp2_with fail
  go_end0
  have hg := gset w ⟨b, 4, none⟩ (.bool false)
  exact ⟨rfl, H.out.put (H.out.blk.set 4 (.bool false)) hg rfl ⟨H.out.ok.room, H.out.ok.wr, H.out.ok.ar, H.out.ok.used, H.out.ok.len, H.out.ok.nms⟩, hg⟩
set_option maxRecDepth 100000 in
theorem rarm_any (h : Rk w B b A sv E) (n k : Int) (hn : n ≤ 9223372036854775807) : Calls Tryz.prog 33 #[.pointer (some ⟨b, 0, none⟩), .int .i64 n, .int .i64 k] w fun e w' => e = .returned (.tuple #[]) ∧ Rk w' B b (A.arm n k) sv E ∧ w.grownBy w' (some b) := by
  have H := hid h
  have c2 : w.cell? ⟨b, 2, none⟩ = some (.int .i64 A.ar) := h.blk.cell 2
  have c3 : w.cell? ⟨b, 3, none⟩ = some (.int .i64 A.kp) := h.blk.cell 3
  have f2 := h.blk.frozen 2
  have f3 := h.blk.frozen 3
  have HO : Hid ((A.arm n k).ok) := hid ⟨h.ok.room, h.ok.wr, by show 0 ≤ max n 0 ∧ max n 0 ≤ 9223372036854775807; omega, h.ok.used, h.ok.len, h.ok.nms⟩
  clear h
  by_cases h1 : 1 ≤ n
  · have e : (A.arm n k) = { A with ar := n, kp := k } := by unfold Ab.arm; rw [Int.max_eq_left (by omega)]
    go_enter Tryz.func33, Tryz.ntmps33
    go_wp2_with fail
    go_end0
    have hg : w.grownBy (((w.setCell ⟨b, 2, none⟩ (.int .i64 0)).setCell ⟨b, 2, none⟩ (.int .i64 n)).setCell ⟨b, 3, none⟩ (.int .i64 k)) (some b) := gtrans (gtrans (gset w ⟨b, 2, none⟩ _) (gset _ ⟨b, 2, none⟩ _)) (gset _ ⟨b, 3, none⟩ _)
    refine ⟨rfl, H.out.put ?_ hg rfl HO.out, hg⟩
    have q := ((H.out.blk.set 2 (.int .i64 0)).set 2 (.int .i64 n)).set 3 (.int .i64 k)
    rw [e]
    exact q
  · have e : (A.arm n k) = { A with ar := 0, kp := k } := by unfold Ab.arm; rw [Int.max_eq_right (by omega)]
    go_enter Tryz.func33, Tryz.ntmps33
    go_wp2_with fail
    go_end0
    have hg : w.grownBy ((w.setCell ⟨b, 2, none⟩ (.int .i64 0)).setCell ⟨b, 3, none⟩ (.int .i64 k)) (some b) := gtrans (gset w ⟨b, 2, none⟩ _) (gset _ ⟨b, 3, none⟩ _)
    have HO2 := HO.out
    rw [e] at HO2
    refine ⟨rfl, H.out.put ?_ hg rfl HO2, hg⟩
    exact (H.out.blk.set 2 (.int .i64 0)).set 3 (.int .i64 k)
end Go.Proofs.YtlgjmdianmijeaaGreat
