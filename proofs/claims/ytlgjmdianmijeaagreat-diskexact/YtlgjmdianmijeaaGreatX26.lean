/- The four disks: what a step on one of them leaves. -/
import Derived.Test.YtlgjmdianmijeaaGreatX25
namespace Go.Proofs.YtlgjmdianmijeaaGreat
open Go Go.RowKit Go.MapKept Go.MuLone
open Go.RowKit (wrap32 wrap64)

variable {w u u' : World} {col : Nat → Nat} {b0 b1 c0 c1 : Nat} {A0 A1 A' D0 D1 D' : Ab}
/-- The four disks, each for itself. -/
structure Dq (w u : World) (col : Nat → Nat) (b0 b1 c0 c1 : Nat) (A0 A1 D0 D1 : Ab) : Prop where
  x0 : Sd w u b0 A0 (Co w u col 1)
  x1 : Sd w u b1 A1 (Co w u col 2)
  y0 : Sr w u c0 D0 (Co w u col 3)
  y1 : Sr w u c1 D1 (Co w u col 4)
theorem Dsk.dq (h : Dsk w u col b0 b1 c0 c1 A0 A1) : Dq w u col b0 b1 c0 c1 A0 A1 A0.sr A1.sr := ⟨h.x0, h.x1, h.y0, h.y1⟩
theorem Dq.dsk (h : Dq w u col b0 b1 c0 c1 A0 A1 D0 D1) (h0 : D0 = A0.sr) (h1 : D1 = A1.sr) : Dsk w u col b0 b1 c0 c1 A0 A1 := by
  subst h0; subst h1
  exact ⟨h.x0, h.x1, h.y0, h.y1⟩
theorem co_ne {i j : Nat} (h : j ≠ i) : ∀ k, Co w u col j k → ¬ Co w u col i k := fun _ hk hq => h (hk.1.symm.trans hq.1)
theorem Dq.gr (h : Dq w u col b0 b1 c0 c1 A0 A1 D0 D1) {i : Nat} (hf : DF u u' (Co w u col i)) : w.grownBy u' none := ((DF.of h.x0.gr (P := fun k => w.heap.size ≤ k)).trans hf (fun _ _ q => q.2.1)).grown (fun _ q => q)
theorem Sd.other {b : Nat} {A : Ab} {i j : Nat} (h : Sd w u b A (Co w u col j)) (hf : DF u u' (Co w u col i)) (hij : j ≠ i) : Sd w u' b A (Co w u' (dye u col i) j) := (h.df hf (co_ne hij) (fun _ q => q.2.1)).co hf.size
theorem Sr.other {b : Nat} {A : Ab} {i j : Nat} (h : Sr w u b A (Co w u col j)) (hf : DF u u' (Co w u col i)) (hij : j ≠ i) : Sr w u' b A (Co w u' (dye u col i) j) := (h.df hf (co_ne hij) (fun _ q => q.2.1)).co hf.size
theorem Dq.p0 (h : Dq w u col b0 b1 c0 c1 A0 A1 D0 D1) (hd : DkP u' w.heap.size b0 A' (newP (Co w u col 1) u u')) (hf : DF u u' (Co w u col 1)) : Dq w u' (dye u col 1) b0 b1 c0 c1 A' A1 D0 D1 :=
  ⟨⟨hd.mono (fun _ _ _ hk => co_new h.x0.gr.size hk hf.size), fun _ hk => hk.2.2, fun _ hk => hk.2.1, h.gr hf⟩, h.x1.other hf (by decide), h.y0.other hf (by decide), h.y1.other hf (by decide)⟩
theorem Dq.p1 (h : Dq w u col b0 b1 c0 c1 A0 A1 D0 D1) (hd : DkP u' w.heap.size b1 A' (newP (Co w u col 2) u u')) (hf : DF u u' (Co w u col 2)) : Dq w u' (dye u col 2) b0 b1 c0 c1 A0 A' D0 D1 :=
  ⟨h.x0.other hf (by decide), ⟨hd.mono (fun _ _ _ hk => co_new h.x0.gr.size hk hf.size), fun _ hk => hk.2.2, fun _ hk => hk.2.1, h.gr hf⟩, h.y0.other hf (by decide), h.y1.other hf (by decide)⟩
theorem Sr.news {b : Nat} {A : Ab} {i : Nat} (h : Sr w u' b A (newP (Co w u col i) u u')) (hs : w.heap.size ≤ u.heap.size) (hf : u.heap.size ≤ u'.heap.size) : Sr w u' b A (Co w u' (dye u col i) i) := by
  obtain ⟨sv, E, h1, h2⟩ := h.dk
  exact ⟨⟨sv, E, h1, fun k hk => co_new hs (h2 k hk) hf⟩, fun _ hk => hk.2.2, fun _ hk => hk.2.1, h.gr⟩
theorem Dq.r0 (h : Dq w u col b0 b1 c0 c1 A0 A1 D0 D1) (hd : Sr w u' c0 D' (newP (Co w u col 3) u u')) (hf : DF u u' (Co w u col 3)) : Dq w u' (dye u col 3) b0 b1 c0 c1 A0 A1 D' D1 :=
  ⟨h.x0.other hf (by decide), h.x1.other hf (by decide), hd.news h.x0.gr.size hf.size, h.y1.other hf (by decide)⟩
theorem Dq.r1 (h : Dq w u col b0 b1 c0 c1 A0 A1 D0 D1) (hd : Sr w u' c1 D' (newP (Co w u col 4) u u')) (hf : DF u u' (Co w u col 4)) : Dq w u' (dye u col 4) b0 b1 c0 c1 A0 A1 D0 D' :=
  ⟨h.x0.other hf (by decide), h.x1.other hf (by decide), h.y0.other hf (by decide), hd.news h.x0.gr.size hf.size⟩
end Go.Proofs.YtlgjmdianmijeaaGreat

namespace Go.Proofs.YtlgjmdianmijeaaGreat
open Go Go.RowKit Go.MapKept Go.MuLone
open Go.RowKit (wrap32 wrap64)

variable {w u u' : World} {col col' : Nat → Nat} {b c : Nat → Nat} {A D : Nat → Ab} {A' D' : Ab}
def up {α : Type} (f : Nat → α) (k : Nat) (x : α) (j : Nat) : α := if j = k then x else f j
theorem up_at {α : Type} {f : Nat → α} {k : Nat} {x : α} : up f k x k = x := if_pos rfl
theorem up_ne {α : Type} {f : Nat → α} {k j : Nat} {x : α} (h : j ≠ k) : up f k x j = f j := if_neg h
theorem up_map {α β : Type} (g : α → β) (f : Nat → α) (k : Nat) (x : α) : (fun j => g (up f k x j)) = up (fun j => g (f j)) k (g x) := by
  funext j
  unfold up
  split <;> rfl
theorem up_self {α : Type} (f : Nat → α) (k : Nat) : up f k (f k) = f := by
  funext j
  unfold up
  split
  · next e => rw [e]
  · rfl
/-- The four disks. -/
structure Dz (w u : World) (col : Nat → Nat) (b c : Nat → Nat) (A D : Nat → Ab) : Prop where
  x : ∀ k, k < 2 → Sd w u (b k) (A k) (Co w u col (1 + k))
  y : ∀ k, k < 2 → Sr w u (c k) (D k) (Co w u col (3 + k))
theorem Dz.gr (h : Dz w u col b c A D) : w.grownBy u none := (h.x 0 (by decide)).gr
theorem Dz.grw (h : Dz w u col b c A D) {i : Nat} (hf : DF u u' (Co w u col i)) : w.grownBy u' none := ((DF.of h.gr (P := fun k => w.heap.size ≤ k)).trans hf (fun _ _ q => q.2.1)).grown (fun _ q => q)
theorem Dz.px (h : Dz w u col b c A D) {k : Nat} (hk : k < 2) (hd : DkP u' w.heap.size (b k) A' (newP (Co w u col (1 + k)) u u')) (hf : DF u u' (Co w u col (1 + k))) : Dz w u' (dye u col (1 + k)) b c (up A k A') D := by
  refine ⟨fun j hj => ?_, fun j hj => (h.y j hj).other hf (by omega)⟩
  by_cases e : j = k
  · subst e
    rw [up_at]
    exact ⟨hd.mono (fun _ _ _ hk => co_new h.gr.size hk hf.size), fun _ hk => hk.2.2, fun _ hk => hk.2.1, h.grw hf⟩
  · rw [up_ne e]
    exact (h.x j hj).other hf (by omega)
theorem Dz.py (h : Dz w u col b c A D) {k : Nat} (hk : k < 2) (hd : Sr w u' (c k) D' (newP (Co w u col (3 + k)) u u')) (hf : DF u u' (Co w u col (3 + k))) : Dz w u' (dye u col (3 + k)) b c A (up D k D') := by
  refine ⟨fun j hj => (h.x j hj).other hf (by omega), fun j hj => ?_⟩
  by_cases e : j = k
  · subst e
    rw [up_at]
    exact hd.news h.gr.size hf.size
  · rw [up_ne e]
    exact (h.y j hj).other hf (by omega)
theorem Dz.els (h : Dz w u col b c A D) {i : Nat} (hi : i = 0 ∨ 4 < i) (hf : DF u u' (Co w u col i)) : Dz w u' (dye u col i) b c A D :=
  ⟨fun j hj => (h.x j hj).other hf (by omega), fun j hj => (h.y j hj).other hf (by omega)⟩
/-- A block in its colour. -/
structure Pl (w u : World) (col : Nat → Nat) (i b : Nat) (cs : List Value) (t : TypeId) : Prop where
  blk : Blk u b cs t
  co : Co w u col i b
theorem Pl.other {i j g t : Nat} {cs : List Value} (h : Pl w u col i g cs t) (hf : DF u u' (Co w u col j)) (hij : i ≠ j) : Pl w u' (dye u col j) i g cs t := ⟨h.blk.df hf (co_ne hij _ h.co), co_old h.co hf.size⟩
theorem Pl.put {i g t : Nat} {cs cs' : List Value} (h : Pl w u col i g cs t) (hg : u.grownBy u' (some g)) (hb : Blk u' g cs' t) : Pl w u' (dye u col i) i g cs' t := ⟨hb, co_old h.co hg.size⟩
theorem co_same {i j : Nat} (h : Co w u col i j) (hs : u.heap.size ≤ u'.heap.size) (hc : ∀ x, x < u.heap.size → col' x = col x) : Co w u' col' i j := ⟨(hc _ h.2.2).trans h.1, h.2.1, Nat.lt_of_lt_of_le h.2.2 hs⟩
theorem DkP.base {B C g : Nat} {P : Nat → Prop} (h : DkP u B g A' P) (hb : C ≤ B) : DkP u C g A' P := by
  obtain ⟨h1, m, F, h2, h3, h4⟩ := h
  exact ⟨h1, m, F, ⟨h2.blk, h2.map, fun f hf => (h2.own f hf).below hb, h2.apart, ⟨Nat.le_trans hb h2.low.1, Nat.le_trans hb h2.low.2⟩⟩, h3, h4⟩
/-- Both disks of the place k are made anew. -/
theorem Dz.renew (h : Dz w u col b c A D) {k sb m d q : Nat} (hk : k < 2) (hs : Co w u col 5 sb) (h1 : u.heap.size ≤ m) (h2 : m ≤ u'.heap.size) (hd : DkP u' u.heap.size d A' (fun j => u.heap.size ≤ j ∧ j < m))
    (hr : ∃ sv E, Rk u' m q D' sv E ∧ ∀ j, Rfp q sv E j → m ≤ j ∧ j < u'.heap.size) (hg : u.grownBy u' (some sb)) (hc : ∀ x, x < u.heap.size → col' x = col x) (hn : ∀ x, u.heap.size ≤ x → x < m → col' x = 1 + k) (hn2 : ∀ x, m ≤ x → x < u'.heap.size → col' x = 3 + k) :
    Dz w u' col' (up b k d) (up c k q) (up A k A') (up D k D') := by
  have hdf : DF u u' (Co w u col 5) := DF.one hg hs
  have hgw := h.grw hdf
  refine ⟨fun j hj => ?_, fun j hj => ?_⟩
  · by_cases e : j = k
    · subst e
      rw [up_at, up_at]
      exact ⟨(hd.base h.gr.size).mono (fun x _ _ hx => ⟨hn x hx.1 hx.2, Nat.le_trans h.gr.size hx.1, Nat.lt_of_lt_of_le hx.2 h2⟩), fun _ hx => hx.2.2, fun _ hx => hx.2.1, hgw⟩
    · rw [up_ne e, up_ne e]
      have := (h.x j hj).df hdf (co_ne (by omega)) (fun _ q => q.2.1)
      exact ⟨this.dk.mono (fun x _ _ hx => co_same hx hg.size hc), fun _ hx => hx.2.2, fun _ hx => hx.2.1, hgw⟩
  · by_cases e : j = k
    · subst e
      rw [up_at, up_at]
      obtain ⟨sv, E, r1, r2⟩ := hr
      exact ⟨⟨sv, E, r1.base (Nat.le_trans h.gr.size h1), fun x hx => ⟨hn2 x (r2 x hx).1 (r2 x hx).2, Nat.le_trans (Nat.le_trans h.gr.size h1) (r2 x hx).1, (r2 x hx).2⟩⟩, fun _ hx => hx.2.2, fun _ hx => hx.2.1, hgw⟩
    · rw [up_ne e, up_ne e]
      have := (h.y j hj).df hdf (co_ne (by omega)) (fun _ q => q.2.1)
      obtain ⟨sv, E, r1, r2⟩ := this.dk
      exact ⟨⟨sv, E, r1, fun x hx => co_same (r2 x hx) hg.size hc⟩, fun _ hx => hx.2.2, fun _ hx => hx.2.1, hgw⟩
def dye2 (u : World) (col : Nat → Nat) (m i j k : Nat) : Nat := if k < u.heap.size then col k else if k < m then i else j
def bkz : List Value := [Value.slice none 0 0, Value.slice none 0 0, Value.int .i64 0, Value.slice none 0 0, Value.slice none 0 0, Value.int .i64 0, Value.slice none 0 0, Value.slice none 0 0, Value.int .i64 0, Value.slice none 0 0, Value.slice none 0 0, Value.int .i64 0, Value.slice none 0 0, Value.slice none 0 0, Value.int .i64 0, Value.slice none 0 0, Value.slice none 0 0, Value.int .i64 0, Value.slice none 0 0, Value.slice none 0 0, Value.int .i64 0, Value.slice none 0 0, Value.slice none 0 0, Value.int .i64 0, Value.slice none 0 0, Value.slice none 0 0, Value.int .i64 0, Value.slice none 0 0, Value.slice none 0 0, Value.int .i64 0, Value.slice none 0 0, Value.slice none 0 0, Value.int .i64 0, Value.slice none 0 0, Value.slice none 0 0, Value.int .i64 0, Value.slice none 0 0, Value.slice none 0 0, Value.int .i64 0, Value.slice none 0 0, Value.slice none 0 0, Value.int .i64 0, Value.slice none 0 0, Value.slice none 0 0, Value.int .i64 0, Value.slice none 0 0, Value.slice none 0 0, Value.int .i64 0, Value.slice none 0 0, Value.slice none 0 0, Value.int .i64 0, Value.slice none 0 0, Value.slice none 0 0, Value.int .i64 0, Value.slice none 0 0, Value.slice none 0 0, Value.int .i64 0, Value.slice none 0 0, Value.slice none 0 0, Value.int .i64 0, Value.slice none 0 0, Value.slice none 0 0, Value.int .i64 0, Value.slice none 0 0, Value.slice none 0 0, Value.int .i64 0, Value.slice none 0 0, Value.slice none 0 0, Value.int .i64 0, Value.slice none 0 0, Value.slice none 0 0, Value.int .i64 0, Value.int .i64 0, Value.int .i64 0, Value.int .i64 0]
end Go.Proofs.YtlgjmdianmijeaaGreat

namespace Go.Proofs.YtlgjmdianmijeaaGreat
open Go Go.RowKit Go.MapKept Go.MuLone
open Go.RowKit (wrap32 wrap64)

theorem bkz_cell {w : World} {bk : Nat} (h : Blk w bk bkz 56) (i : Nat) : w.cell? ⟨bk, i, none⟩ = bkz[i]? := h.cell i
set_option maxRecDepth 100000 in
set_option maxHeartbeats 800000 in
theorem look80_any (w : World) (bk : Nat) (h : Blk w bk bkz 56) : Calls Tryz.prog 80 #[.pointer (some ⟨bk, 0, none⟩)] w fun e w' => e = .returned (.bool true) ∧ w' = w := by
  have hc0 : w.cell? ⟨bk, 0, none⟩ = some (.slice none 0 0) := h.cell 0
  have hc1 : w.cell? ⟨bk, 3, none⟩ = some (.slice none 0 0) := h.cell 3
  have hlt := h.lt
  clear h
  go_enter Tryz.func80, Tryz.ntmps80
  go_wp2
  go_loop [3] (fun iv => iv = .int .i64 0) (fun _ => 0)
  case atStart => rfl
  case round =>
    as_aux_lemma =>
    subst hrel
    go_wp2
    go_loop [5] (fun iv => iv = .int .i64 0) (fun _ => 0)
    case atStart => rfl
    case round =>
      as_aux_lemma =>
      subst hrel
      go_wp2
      go_ret
      exact ⟨rfl, rfl⟩
set_option maxRecDepth 100000 in
set_option maxHeartbeats 800000 in
theorem look81_any (w : World) (bk : Nat) (h : Blk w bk bkz 56) : Calls Tryz.prog 81 #[.pointer (some ⟨bk, 0, none⟩)] w fun e w' => e = .returned (.bool true) ∧ w' = w := by
  have hc0 : w.cell? ⟨bk, 6, none⟩ = some (.slice none 0 0) := h.cell 6
  have hc1 : w.cell? ⟨bk, 9, none⟩ = some (.slice none 0 0) := h.cell 9
  have hc2 : w.cell? ⟨bk, 12, none⟩ = some (.slice none 0 0) := h.cell 12
  have hc3 : w.cell? ⟨bk, 15, none⟩ = some (.slice none 0 0) := h.cell 15
  have hlt := h.lt
  clear h
  go_enter Tryz.func81, Tryz.ntmps81
  go_wp2
  go_loop [3] (fun iv => iv = .int .i64 0) (fun _ => 0)
  case atStart => rfl
  case round =>
    as_aux_lemma =>
    subst hrel
    go_wp2
    go_loop [5] (fun iv => iv = .int .i64 0) (fun _ => 0)
    case atStart => rfl
    case round =>
      as_aux_lemma =>
      subst hrel
      go_wp2
      go_loop [7] (fun iv => iv = .int .i64 0) (fun _ => 0)
      case atStart => rfl
      case round =>
        as_aux_lemma =>
        subst hrel
        go_wp2
        go_loop [9] (fun iv => iv = .int .i64 0) (fun _ => 0)
        case atStart => rfl
        case round =>
          as_aux_lemma =>
          subst hrel
          go_wp2
          go_ret
          exact ⟨rfl, rfl⟩
set_option maxRecDepth 100000 in
set_option maxHeartbeats 800000 in
theorem look82_any (w : World) (bk : Nat) (h : Blk w bk bkz 56) : Calls Tryz.prog 82 #[.pointer (some ⟨bk, 0, none⟩)] w fun e w' => e = .returned (.bool true) ∧ w' = w := by
  have hc0 : w.cell? ⟨bk, 18, none⟩ = some (.slice none 0 0) := h.cell 18
  have hc1 : w.cell? ⟨bk, 21, none⟩ = some (.slice none 0 0) := h.cell 21
  have hc2 : w.cell? ⟨bk, 24, none⟩ = some (.slice none 0 0) := h.cell 24
  have hc3 : w.cell? ⟨bk, 27, none⟩ = some (.slice none 0 0) := h.cell 27
  have hlt := h.lt
  clear h
  go_enter Tryz.func82, Tryz.ntmps82
  go_wp2
  go_loop [3] (fun iv => iv = .int .i64 0) (fun _ => 0)
  case atStart => rfl
  case round =>
    as_aux_lemma =>
    subst hrel
    go_wp2
    go_loop [5] (fun iv => iv = .int .i64 0) (fun _ => 0)
    case atStart => rfl
    case round =>
      as_aux_lemma =>
      subst hrel
      go_wp2
      go_loop [7] (fun iv => iv = .int .i64 0) (fun _ => 0)
      case atStart => rfl
      case round =>
        as_aux_lemma =>
        subst hrel
        go_wp2
        go_loop [9] (fun iv => iv = .int .i64 0) (fun _ => 0)
        case atStart => rfl
        case round =>
          as_aux_lemma =>
          subst hrel
          go_wp2
          go_ret
          exact ⟨rfl, rfl⟩
set_option maxRecDepth 100000 in
set_option maxHeartbeats 800000 in
theorem look83_any (w : World) (bk : Nat) (h : Blk w bk bkz 56) : Calls Tryz.prog 83 #[.pointer (some ⟨bk, 0, none⟩)] w fun e w' => e = .returned (.bool true) ∧ w' = w := by
  have hc0 : w.cell? ⟨bk, 30, none⟩ = some (.slice none 0 0) := h.cell 30
  have hc1 : w.cell? ⟨bk, 33, none⟩ = some (.slice none 0 0) := h.cell 33
  have hc2 : w.cell? ⟨bk, 36, none⟩ = some (.slice none 0 0) := h.cell 36
  have hc3 : w.cell? ⟨bk, 39, none⟩ = some (.slice none 0 0) := h.cell 39
  have hlt := h.lt
  clear h
  go_enter Tryz.func83, Tryz.ntmps83
  go_wp2
  go_loop [3] (fun iv => iv = .int .i64 0) (fun _ => 0)
  case atStart => rfl
  case round =>
    as_aux_lemma =>
    subst hrel
    go_wp2
    go_loop [5] (fun iv => iv = .int .i64 0) (fun _ => 0)
    case atStart => rfl
    case round =>
      as_aux_lemma =>
      subst hrel
      go_wp2
      go_loop [7] (fun iv => iv = .int .i64 0) (fun _ => 0)
      case atStart => rfl
      case round =>
        as_aux_lemma =>
        subst hrel
        go_wp2
        go_loop [11] (fun iv => iv = .int .i64 0) (fun _ => 0)
        case atStart => rfl
        case round =>
          as_aux_lemma =>
          subst hrel
          go_wp2
          go_ret
          exact ⟨rfl, rfl⟩
set_option maxRecDepth 100000 in
set_option maxHeartbeats 800000 in
theorem look84_any (w : World) (bk : Nat) (h : Blk w bk bkz 56) : Calls Tryz.prog 84 #[.pointer (some ⟨bk, 0, none⟩)] w fun e w' => e = .returned (.bool true) ∧ w' = w := by
  have hc0 : w.cell? ⟨bk, 42, none⟩ = some (.slice none 0 0) := h.cell 42
  have hc1 : w.cell? ⟨bk, 45, none⟩ = some (.slice none 0 0) := h.cell 45
  have hc2 : w.cell? ⟨bk, 48, none⟩ = some (.slice none 0 0) := h.cell 48
  have hc3 : w.cell? ⟨bk, 51, none⟩ = some (.slice none 0 0) := h.cell 51
  have hlt := h.lt
  clear h
  go_enter Tryz.func84, Tryz.ntmps84
  go_wp2
  go_loop [3] (fun iv => iv = .int .i64 0) (fun _ => 0)
  case atStart => rfl
  case round =>
    as_aux_lemma =>
    subst hrel
    go_wp2
    go_loop [7] (fun iv => iv = .int .i64 0) (fun _ => 0)
    case atStart => rfl
    case round =>
      as_aux_lemma =>
      subst hrel
      go_wp2
      go_loop [11] (fun iv => iv = .int .i64 0) (fun _ => 0)
      case atStart => rfl
      case round =>
        as_aux_lemma =>
        subst hrel
        go_wp2
        go_loop [15] (fun iv => iv = .int .i64 0) (fun _ => 0)
        case atStart => rfl
        case round =>
          as_aux_lemma =>
          subst hrel
          go_wp2
          go_ret
          exact ⟨rfl, rfl⟩
set_option maxRecDepth 100000 in
set_option maxHeartbeats 800000 in
theorem look85_any (w : World) (bk : Nat) (h : Blk w bk bkz 56) : Calls Tryz.prog 85 #[.pointer (some ⟨bk, 0, none⟩)] w fun e w' => e = .returned (.bool true) ∧ w' = w := by
  have hc0 : w.cell? ⟨bk, 54, none⟩ = some (.slice none 0 0) := h.cell 54
  have hc1 : w.cell? ⟨bk, 57, none⟩ = some (.slice none 0 0) := h.cell 57
  have hc2 : w.cell? ⟨bk, 60, none⟩ = some (.slice none 0 0) := h.cell 60
  have hc3 : w.cell? ⟨bk, 63, none⟩ = some (.slice none 0 0) := h.cell 63
  have hlt := h.lt
  clear h
  go_enter Tryz.func85, Tryz.ntmps85
  go_wp2
  go_loop [3] (fun iv => iv = .int .i64 0) (fun _ => 0)
  case atStart => rfl
  case round =>
    as_aux_lemma =>
    subst hrel
    go_wp2
    go_loop [7] (fun iv => iv = .int .i64 0) (fun _ => 0)
    case atStart => rfl
    case round =>
      as_aux_lemma =>
      subst hrel
      go_wp2
      go_loop [11] (fun iv => iv = .int .i64 0) (fun _ => 0)
      case atStart => rfl
      case round =>
        as_aux_lemma =>
        subst hrel
        go_wp2
        go_loop [15] (fun iv => iv = .int .i64 0) (fun _ => 0)
        case atStart => rfl
        case round =>
          as_aux_lemma =>
          subst hrel
          go_wp2
          go_ret
          exact ⟨rfl, rfl⟩
set_option maxRecDepth 100000 in
set_option maxHeartbeats 800000 in
theorem look86_any (w : World) (bk : Nat) (h : Blk w bk bkz 56) : Calls Tryz.prog 86 #[.pointer (some ⟨bk, 0, none⟩)] w fun e w' => e = .returned (.bool true) ∧ w' = w := by
  have hc0 : w.cell? ⟨bk, 66, none⟩ = some (.slice none 0 0) := h.cell 66
  have hc1 : w.cell? ⟨bk, 69, none⟩ = some (.slice none 0 0) := h.cell 69
  have hlt := h.lt
  clear h
  go_enter Tryz.func86, Tryz.ntmps86
  go_wp2
  go_loop [3] (fun iv => iv = .int .i64 0) (fun _ => 0)
  case atStart => rfl
  case round =>
    as_aux_lemma =>
    subst hrel
    go_wp2
    go_loop [7] (fun iv => iv = .int .i64 0) (fun _ => 0)
    case atStart => rfl
    case round =>
      as_aux_lemma =>
      subst hrel
      go_wp2
      go_ret
      exact ⟨rfl, rfl⟩
set_option maxRecDepth 100000 in
set_option maxHeartbeats 800000 in
theorem holds_any (w : World) (bk : Nat) (h : Blk w bk bkz 56) : Calls Tryz.prog 37 #[.pointer (some ⟨bk, 0, none⟩)] w fun e w' => e = .returned (.bool true) ∧ w' = w := by
  have HB := hid h
  clear h
  go_enter Tryz.func37, Tryz.ntmps37
  go_wp2_with (first | (go_at_call 80; refine (look80_any _ bk HB.out).mono ?_; rintro e w' ⟨rfl, hw⟩; have hw' := hw.symm; clear hw; subst hw') | (go_at_call 81; refine (look81_any _ bk HB.out).mono ?_; rintro e w' ⟨rfl, hw⟩; have hw' := hw.symm; clear hw; subst hw') | (go_at_call 82; refine (look82_any _ bk HB.out).mono ?_; rintro e w' ⟨rfl, hw⟩; have hw' := hw.symm; clear hw; subst hw') | (go_at_call 83; refine (look83_any _ bk HB.out).mono ?_; rintro e w' ⟨rfl, hw⟩; have hw' := hw.symm; clear hw; subst hw') | (go_at_call 84; refine (look84_any _ bk HB.out).mono ?_; rintro e w' ⟨rfl, hw⟩; have hw' := hw.symm; clear hw; subst hw') | (go_at_call 85; refine (look85_any _ bk HB.out).mono ?_; rintro e w' ⟨rfl, hw⟩; have hw' := hw.symm; clear hw; subst hw') | (go_at_call 86; refine (look86_any _ bk HB.out).mono ?_; rintro e w' ⟨rfl, hw⟩; have hw' := hw.symm; clear hw; subst hw'))
  go_ret
  exact ⟨rfl, rfl⟩
set_option maxRecDepth 100000 in
set_option maxHeartbeats 800000 in
theorem look_any (w : World) (bk : Nat) (h : Blk w bk bkz 56) : Calls Tryz.prog 9 #[.pointer (some ⟨bk, 0, none⟩)] w fun e w' => e = .returned (.bool true) ∧ w.grownBy w' none := by
  have HH := hid (holds_any w bk h)
  have c1 : w.cell? ⟨bk, 72, none⟩ = some (.int .i64 0) := h.cell 72
  have c2 : w.cell? ⟨bk, 73, none⟩ = some (.int .i64 0) := h.cell 73
  clear h
  go_enter Tryz.func9, Tryz.ntmps9
  go_upto_region 3 with (go_at_call 37; refine HH.out.mono ?_; rintro e w' ⟨rfl, hw⟩; have hw' := hw.symm; clear hw; subst hw')
  go_quiet (fail)
  go_wp2_with fail
  go_ret
  exact ⟨rfl, gdrew _ _ _⟩
end Go.Proofs.YtlgjmdianmijeaaGreat

namespace Go.Proofs.YtlgjmdianmijeaaGreat
open Go Go.RowKit Go.MapKept Go.MuLone
open Go.RowKit (wrap32 wrap64)

def szL : Nat → Cn → Nat
  | n, [] => n
  | n, p :: L => if n ≤ 1048576 then szL (n + p.2.length + 100) L else n
theorem szL_cons (n : Nat) (p : ByteArray × List UInt8) (L : Cn) : szL n (p :: L) = if n ≤ 1048576 then szL (n + p.2.length + 100) L else n := rfl
theorem szL_over {n : Nat} : ∀ (L : Cn), ¬ n ≤ 1048576 → szL n L = n
  | [], _ => rfl
  | p :: L, h => by unfold szL; rw [if_neg h]
theorem szL_le : ∀ (L : Cn) (n : Nat), n ≤ szL n L
  | [], n => Nat.le_refl _
  | p :: L, n => by
    unfold szL
    split
    · have := szL_le L (n + p.2.length + 100)
      omega
    · omega
theorem szL_all : ∀ (L : Cn) (n : Nat), szL n L ≤ 1048576 → n + 100 * L.length ≤ szL n L ∧ ∀ p ∈ L, p.2.length ≤ 1048576
  | [], n, _ => ⟨by simp [szL], fun p hp => by cases hp⟩
  | p :: L, n, h => by
    unfold szL at h ⊢
    have hn : n ≤ 1048576 := by
      have h2 := szL_le (p :: L) n
      unfold szL at h2
      omega
    rw [if_pos hn] at h ⊢
    obtain ⟨h1, h2⟩ := szL_all L _ h
    have h3 := szL_le L (n + p.2.length + 100)
    refine ⟨by simp only [List.length_cons]; omega, fun q hq => ?_⟩
    rcases List.mem_cons.1 hq with rfl | hq
    · omega
    · exact h2 q hq
theorem szL_up : ∀ (L : Cn) (n : Nat), n ≤ 281474976710656 → (∀ p ∈ L, p.2.length ≤ 140737488355328) → szL n L ≤ 281474976710656
  | [], n, h, _ => h
  | p :: L, n, h, hp => by
    unfold szL
    split
    · have := hp p (List.mem_cons_self ..)
      exact szL_up L _ (by omega) (fun q hq => hp q (List.mem_cons_of_mem _ hq))
    · exact h
def szO (o : Opv) : Nat := szL o.bs.length o.L
set_option maxRecDepth 100000 in
set_option maxHeartbeats 4000000 in
theorem opSize_eq (w : World) (o : Opv) (F : Nat → Prop) (h : o.In w F) : Calls Tryz.prog 21 #[.agg o.cells.toArray] w fun e w' => e = .returned (.int .i64 (szO o : Nat)) ∧ w.grownBy w' none := by
  obtain ⟨dv, on, nm, to, ba, bn, bc, bs, nv, kv, fa, fn, fc, L⟩ := o
  obtain ⟨hb, ⟨hfn, g, off, hA⟩, hbl, hfl, hln⟩ := h
  have HA : Hid (∀ u, w.grownBy u none → ArF u F fa g off L) := hid (fun u hu => hA.keep hu)
  have HFn : Hid (fn = L.length) := hid hfn
  have HFl : Hid (∀ p ∈ L, p.2.length ≤ 140737488355328) := hid hfl
  have hbn : bs.length = bn := by obtain ⟨_, _, _, _, e, _⟩ := hb; injection e with _ e _; exact e.symm
  have hbl' : bn ≤ 140737488355328 := by rw [← hbn]; exact hbl
  have hln' : fn ≤ 140737488355328 := hln
  show Calls Tryz.prog 21 #[.agg [Value.int .i64 dv, .int .i64 on, .string nm, .string to, .slice ba bn bc, .int .i64 nv, .int .i64 kv, .slice fa fn fc].toArray] w fun e w' => e = .returned (.int .i64 (szL bs.length L : Nat)) ∧ w.grownBy w' none
  rw [hbn]
  clear hb hA hbl hfl hbn hfn hln
  go_enter Tryz.func21, Tryz.ntmps21
  go_upto_region 3 with ((with_reducible refine wpList_box_row (by with_unfolding_all rfl) 83 _ (by with_unfolding_all rfl) [Value.int .i64 dv, .int .i64 on, .string nm, .string to, .slice ba bn bc, .int .i64 nv, .int .i64 kv, .slice fa fn fc] (by with_unfolding_all rfl) ?_); intro w1 B1 s1 g1; have HB1 := hid B1; have HG1 := hid g1; have c4 := B1.cell 4; have c7 := B1.cell 7; clear B1 s1 g1)
  go_loopw [4, 3] (fun iv zv wr => ∃ i z : Nat, iv = .int .i64 i ∧ zv = .int .i64 z ∧ i ≤ fn ∧ z ≤ 281474976710656 ∧ Hid (wr = w1) ∧ Hid (szL z (L.drop i) = szL bn L)) (fun iv _ _ => fn - (intOf iv).toNat)
  case atStart => exact ⟨0, bn, rfl, rfl, by omega, by omega, hid rfl, hid rfl⟩
  case round =>
    obtain ⟨i, z, rfl, rfl, hi, hz2, HW, HZ⟩ := hrel
    have hw := HW.out
    subst hw
    by_cases hlt : i < fn
    · have hlt' : (i : Int) < (fn : Int) := by omega
      by_cases hz : z ≤ 1048576
      · have hz' : (z : Int) ≤ 1048576 := by omega
        have hiL : i < L.length := by rw [← HFn.out]; exact hlt
        obtain ⟨rfl, -⟩ := (HA.out wr HG1.out).at_ (by omega)
        have HE := hid ((HA.out wr HG1.out).each i hiL)
        obtain ⟨v, hv1, hv2⟩ := HE.out.2
        have HLl : Hid ((L[i]).2.length ≤ 140737488355328) := hid (HFl.out _ (List.getElem_mem _))
        obtain ⟨q, Hq⟩ : ∃ x, Hid ((L[i]).2 = x) := ⟨_, hid rfl⟩
        rw [Hq.out] at hv2 HLl
        obtain ⟨xa, -, -, xc, rfl, -⟩ := hv2
        obtain ⟨xn, hxn⟩ : ∃ x, q.length = x := ⟨_, rfl⟩
        rw [hxn] at hv1
        have hxl : xn ≤ 140737488355328 := by rw [← hxn]; exact HLl.out
        have HZ' : Hid (szL (z + xn + 100) (L.drop (i + 1)) = szL bn L) := hid (by
          have h1 := HZ.out
          rw [List.drop_eq_getElem_cons hiL] at h1
          rw [szL_cons, if_pos hz, Hq.out, hxn] at h1
          exact h1)
        clear hxn
        go_wp2_with fail
        go_roundw
        case rel => exact ⟨i + 1, z + xn + 100, by go_num, by go_num, by omega, by omega, hid trivial, HZ'⟩
        case measure => simp [intOf]; omega
      · have hz' : ¬ (z : Int) ≤ 1048576 := by omega
        go_wp2_with fail
        go_ret
        exact ⟨by rw [← HZ.out, szL_over _ hz]; rfl, HG1.out⟩
    · have hlt' : ¬ (i : Int) < (fn : Int) := by omega
      go_wp2_with fail
      go_ret
      exact ⟨by rw [← HZ.out, List.drop_eq_nil_of_le (by rw [← HFn.out]; omega)]; rfl, HG1.out⟩
end Go.Proofs.YtlgjmdianmijeaaGreat

namespace Go.Proofs.YtlgjmdianmijeaaGreat
open Go Go.RowKit Go.MapKept Go.MuLone
open Go.RowKit (wrap32 wrap64)

variable {w u u' : World} {col col' : Nat → Nat} {b c : Nat → Nat} {A D : Nat → Ab} {A' D' : Ab} {sb bk sk ob : Nat} {tn sp : Int} {oc : List Value}
/-- The stage: its block, the book's, the disks. -/
structure Stg (w u : World) (col : Nat → Nat) (sb bk sk : Nat) (b c : Nat → Nat) (A D : Nat → Ab) (tn sp : Int) : Prop where
  d : Dz w u col b c A D
  s : Pl w u col 5 sb (stc (b 0) (b 1) (c 0) (c 1) bk sk false tn sp) 78
  k : Pl w u col 6 bk bkz 56
theorem Stg.px (h : Stg w u col sb bk sk b c A D tn sp) {k : Nat} (hk : k < 2) (hd : DkP u' w.heap.size (b k) A' (newP (Co w u col (1 + k)) u u')) (hf : DF u u' (Co w u col (1 + k))) : Stg w u' (dye u col (1 + k)) sb bk sk b c (up A k A') D tn sp :=
  ⟨h.d.px hk hd hf, h.s.other hf (by omega), h.k.other hf (by omega)⟩
theorem Stg.py (h : Stg w u col sb bk sk b c A D tn sp) {k : Nat} (hk : k < 2) (hd : Sr w u' (c k) D' (newP (Co w u col (3 + k)) u u')) (hf : DF u u' (Co w u col (3 + k))) : Stg w u' (dye u col (3 + k)) sb bk sk b c A (up D k D') tn sp :=
  ⟨h.d.py hk hd hf, h.s.other hf (by omega), h.k.other hf (by omega)⟩
theorem Stg.els (h : Stg w u col sb bk sk b c A D tn sp) {i : Nat} (hi : i = 0 ∨ 6 < i) (hf : DF u u' (Co w u col i)) : Stg w u' (dye u col i) sb bk sk b c A D tn sp :=
  ⟨h.d.els (by omega) hf, h.s.other hf (by omega), h.k.other hf (by omega)⟩
theorem Stg.keep (h : Stg w u col sb bk sk b c A D tn sp) (hg : u.grownBy u' none) : Stg w u' (dye u col 0) sb bk sk b c A D tn sp := h.els (.inl rfl) (DF.of hg)
theorem Stg.store (h : Stg w u col sb bk sk b c A D tn sp) {tn' sp' : Int} (hg : u.grownBy u' (some sb)) (hb : Blk u' sb (stc (b 0) (b 1) (c 0) (c 1) bk sk false tn' sp') 78) : Stg w u' (dye u col 5) sb bk sk b c A D tn' sp' :=
  have hf : DF u u' (Co w u col 5) := DF.one hg h.s.co
  ⟨h.d.els (by omega) hf, h.s.put hg hb, h.k.other hf (by decide)⟩
theorem Pl.keep {i g t : Nat} {cs : List Value} (h : Pl w u col i g cs t) (hi : i ≠ 0) (hg : u.grownBy u' none) : Pl w u' (dye u col 0) i g cs t := h.other (DF.of hg) hi
/-- In the midst of an operation on the disks k: one of them is done, or both. -/
def Mid (w : World) (sb bk sk ob : Nat) (oc : List Value) (b c : Nat → Nat) (A D : Nat → Ab) (tn sp : Int) (k : Nat) (A' D' : Ab) (p r : Bool) (u : World) : Prop := ∃ col, Stg w u col sb bk sk b c (if p then up A k A' else A) (if r then up D k D' else D) tn sp ∧ Pl w u col 7 ob oc 83
theorem Mid.keep {k : Nat} {p r : Bool} (h : Mid w sb bk sk ob oc b c A D tn sp k A' D' p r u) (hg : u.grownBy u' none) : Mid w sb bk sk ob oc b c A D tn sp k A' D' p r u' := by
  obtain ⟨col, h1, h2⟩ := h
  exact ⟨_, h1.keep hg, h2.keep (by decide) hg⟩
theorem Mid.cell {k : Nat} {p r : Bool} (h : Mid w sb bk sk ob oc b c A D tn sp k A' D' p r u) (i : Nat) : u.cell? ⟨ob, i, none⟩ = oc[i]? := by
  obtain ⟨col, h1, h2⟩ := h
  exact h2.blk.cell i
theorem mid_p {k f : Nat} {args : Array Value} {ev : Value} (hk : k < 2) (hcall : ∀ u P, (∀ j, P j → w.heap.size ≤ j) → DkP u w.heap.size (b k) (A k) P → Calls Tryz.prog f args u fun e u' => e = .returned ev ∧ DkP u' w.heap.size (b k) A' (newP P u u') ∧ DF u u' P) (r : Bool) (u : World) (h : Mid w sb bk sk ob oc b c A D tn sp k A' D' false r u) :
    Calls Tryz.prog f args u fun e u' => e = .returned ev ∧ Mid w sb bk sk ob oc b c A D tn sp k A' D' true r u' := by
  obtain ⟨col, h1, h2⟩ := h
  exact (hcall u _ (fun _ q => q.2.1) (h1.d.x k hk).dk).mono fun e u' ⟨q1, q2, q3⟩ => ⟨q1, _, h1.px hk q2 q3, h2.other q3 (by omega)⟩
theorem mid_r {k f : Nat} {args : Array Value} {ev : Value} (hk : k < 2) (hcall : ∀ u P, (∀ j, P j → w.heap.size ≤ j) → Sr w u (c k) (D k) P → Calls Tryz.prog f args u fun e u' => e = .returned ev ∧ Sr w u' (c k) D' (newP P u u') ∧ DF u u' P) (p : Bool) (u : World) (h : Mid w sb bk sk ob oc b c A D tn sp k A' D' p false u) :
    Calls Tryz.prog f args u fun e u' => e = .returned ev ∧ Mid w sb bk sk ob oc b c A D tn sp k A' D' p true u' := by
  obtain ⟨col, h1, h2⟩ := h
  exact (hcall u _ (fun _ q => q.2.1) (h1.d.y k hk)).mono fun e u' ⟨q1, q2, q3⟩ => ⟨q1, _, h1.py hk q2 q3, h2.other q3 (by omega)⟩
/-- Both are done. -/
theorem Mid.done {k : Nat} (h : Mid w sb bk sk ob oc b c A (fun j => (A j).sr) tn sp k A' D' true true u) (he : D' = A'.sr) : ∃ col, Stg w u col sb bk sk b c (up A k A') (fun j => (up A k A' j).sr) tn sp := by
  obtain ⟨col, h1, _⟩ := h
  refine ⟨col, ?_⟩
  rw [up_map Ab.sr A k A', ← he]
  exact h1
end Go.Proofs.YtlgjmdianmijeaaGreat
