/- bytes.Compare of IDs; placeOf's test. -/
import Derived.Test.YtlgjmhemgfjgnaaGreatVA
import Derived.Test.YtlgjmhemgfjgnaaGreatX04
import Derived.Lib.BytesEntry
import Derived.Deep.Cut
namespace Go.Proofs.YtlgjmhemgfjgnaaGreat
open Go Go.RowKit
open Go.RowKit (wrap32 wrap64)

theorem bytesOf_cells (l : List UInt8) : Lib.bytesOf (l.map fun b => (b.toNat : Int)) = l := by
  induction l with
  | nil => rfl
  | cons x l ih =>
    have : Lib.bytesOf ((x :: l).map fun b => (b.toNat : Int)) = (x.toNat : Int).toNat.toUInt8 :: Lib.bytesOf (l.map fun b => (b.toNat : Int)) := rfl
    rw [this, ih]
    simp
theorem run_load_bytes {w : World} {b o : Nat} {l : List UInt8} (h : w.rangeAt b o (Lib.byteCells l)) : (Extern.Bytes.loadBytes ⟨b, o, none⟩ l.length .empty).run Tryz.prog w = .ok ⟨l.toArray⟩ w := by
  have := Lib.run_loadBytesX (P := Tryz.prog) w (l.map fun b => (b.toNat : Int)) ⟨b, o, none⟩ .empty (fun j x hj => by
    rw [Addr.add_lit]
    refine h j _ ?_
    unfold Lib.byteCells
    rw [List.getElem?_map] at hj ⊢
    cases hl : l[j]? with
    | none => rw [hl] at hj; cases hj
    | some y =>
      rw [hl] at hj
      injection hj with hj
      rw [← hj]
      rfl)
  rw [List.length_map, bytesOf_cells] at this
  rw [this]
  congr 1
  apply ByteArray.ext
  show (#[] : Array UInt8) ++ l.toArray = l.toArray
  simp
theorem run_compare {w : World} {b1 o1 b2 o2 c1 c2 : Nat} {s t : List UInt8} (h1 : w.rangeAt b1 o1 (Lib.byteCells s)) (h2 : w.rangeAt b2 o2 (Lib.byteCells t)) :
    (Extern.BytealgCompare.compare #[.slice (some ⟨b1, o1, none⟩) s.length c1, .slice (some ⟨b2, o2, none⟩) t.length c2]).run Tryz.prog w = .ok (.int .i64 (Lib.compareBytes s t)) w := by
  change Sem.run Tryz.prog (do pure (goInt (Extern.BytealgCompare.cmp (← Extern.Bytes.loadBytes ⟨b1, o1, none⟩ s.length .empty) (← Extern.Bytes.loadBytes ⟨b2, o2, none⟩ t.length .empty)))) w = _
  simp only [Sem.run_bind, run_load_bytes h1, run_load_bytes h2, Sem.run_pure, Result.andThen]
  rw [Lib.cmp_eq]
  rfl
set_option maxRecDepth 100000 in
set_option maxHeartbeats 800000 in
/-- bytes.Compare. -/
theorem compare_any (w : World) (b1 o1 b2 o2 c1 c2 n m : Nat) (s t : List UInt8) (hn : s.length = n) (hm : t.length = m) (h1 : w.rangeAt b1 o1 (Lib.byteCells s)) (h2 : w.rangeAt b2 o2 (Lib.byteCells t)) :
    Calls Tryz.prog 73 #[.slice (some ⟨b1, o1, none⟩) n c1, .slice (some ⟨b2, o2, none⟩) m c2] w fun e w' => e = .returned (.int .i64 (Lib.compareBytes s t)) ∧ w' = w := by
  have HR := hid (run_compare (c1 := c1) (c2 := c2) h1 h2)
  rw [hn, hm] at HR
  obtain ⟨R, HRR⟩ : ∃ R, Hid (Lib.compareBytes s t = R) := ⟨_, hid rfl⟩
  rw [HRR.out] at HR ⊢
  clear h1 h2 hn hm HRR
  go_enter Tryz.func73, Tryz.ntmps73
  go_wp2
  rw [run_callFunc_extern Tryz.func104 (by kernel_rfl) (by kernel_rfl) (by kernel_rfl) (e := Extern.BytealgCompare.compare) (by kernel_rfl), HR.out]
  simp only [Result.andThen]
  rw [Oper.upon_value]
  go_wp2
  go_ret
  exact ⟨rfl, rfl⟩
theorem arr27 (b o : Nat) (u : World) : (Instr.sliceAt 69 (.pointer (some ⟨b, o, none⟩)) none none none).run Tryz.prog u = .ok (.slice (some ⟨b, o, none⟩) 16 16) u := by
  go_simp
theorem quietAt_slice0 {P : Program} {C : World → Prop} {o : Oper} {a : Act} {u : World} (t : TypeId) (x : Operand) (vx v : Value) (ho : o.op = .slice t x none none none) (hx : a.eval x = vx) (hr : (Instr.sliceAt t vx none none none).run P u = .ok v u) : o.quietAt P a C u v := by
  subst hx
  unfold Oper.quietAt execOp
  simp only [ho, Option.map_none]
  rw [Sem.run_bind, hr]
  exact ⟨rfl, rfl⟩
theorem Blk.idr {w : World} {b : Nat} {k : Ky} {t : TypeId} (h : Blk w b k.cells t) : w.rangeAt b 2 (Lib.byteCells k.id) :=
  h.range [.bool k.wh, .int .u64 k.g] (Lib.byteCells k.id) [.int .i64 k.ex] 2 (Ky.mid k) rfl
set_option maxRecDepth 100000 in
set_option maxHeartbeats 800000 in
/-- placeOf's test. -/
theorem lt_id (w : World) (k : Ky) (p : Nat) (id : List UInt8) (hk : k.id.length = 16) (hid' : id.length = 16) (hp : Blk w p (Lib.byteCells id) 69) :
    Calls Tryz.prog 78 #[.agg k.cells.toArray, .pointer (some ⟨p, 0, none⟩)] w fun e w' => e = .returned (.bool (ltB k.id id)) ∧ w.grownBy w' none := by
  have HP := hid hp
  have hcmp := fun (u : World) (B : Nat) (h : Blk u B k.cells 85) (hq : Blk u p (Lib.byteCells id) 69) => (fun n => compare_any (u.drewN n) B 2 p 0 16 16 16 16 k.id id hk hid' h.idr hq.whole)
  obtain ⟨K, HK⟩ : ∃ K, Hid (k.cells = K) := ⟨_, hid rfl⟩
  obtain ⟨J, HJ⟩ : ∃ J, Hid (Lib.byteCells id = J) := ⟨_, hid rfl⟩
  obtain ⟨R, HR⟩ : ∃ R, Hid (Lib.compareBytes k.id id = R) := ⟨_, hid rfl⟩
  have HD := hid (ltB_cmp k.id id)
  rw [HK.out, HJ.out, HR.out] at hcmp
  rw [HJ.out] at HP
  rw [HR.out] at HD
  rw [HK.out, ← HD.out]
  have HC := hid hcmp
  clear hcmp hp HK HJ HR HD
  go_enter Tryz.func78, Tryz.ntmps78
  go_upto_region 1 with (with_reducible refine wpList_box_row (by with_unfolding_all rfl) 85 _ (by with_unfolding_all rfl) K (by with_unfolding_all rfl) ?_; intro w1 B1 s1 g1; have HB1 := hid B1; have HG1 := hid g1; have HS1 := hid s1; clear B1 g1 s1)
  have HCq := hid (HC.out w1 _ HB1.out (HP.out.keep HG1.out))
  go_quiet ((go_at_call 73; exact Calls.quiet_of_same (HCq.out _)))
  go_wp2
  go_ret
  exact ⟨rfl, gtrans HG1.out (gdrew _ _ _)⟩
end Go.Proofs.YtlgjmhemgfjgnaaGreat
