/- The names, sorted. -/
import Derived.Test.YtlgjmdianmijeabDl
import Derived.Test.YtlgjmdianmijeabShS
namespace Go.Proofs.Ytlgjmdianmijeab
open Go Go.RowKit Go.MapKept Go.MuLone
open Go.WideElems (Fit rd rg)
open Go.WideShapes (sorted_perm)
open Go.RowKit (wrap32 wrap64)

/-- The names of files, sorted. -/
def nmL (F : List Fl) : List (List UInt8) := F.map (fun f => f.nm.data.toList)
def srtL (l : List (List UInt8)) : List (List UInt8) := l.mergeSort leB
def rTr : Value → Option (DataW Unit × List MemPlace) := fun _ => some (.lit (.bool true), [])
variable {w w' : World} {B b m : Nat} {lk room : Int} {off : Bool} {wr ar kp : Int} {F : List Fl}
theorem keyOf_9 (s : ByteArray) (h : s.size ≤ 64) : keyOf Try.prog 9 (.string s) = some (.string s.data.toList) := by
  simp only [keyOf, Try.underlying9, mapKey]
  have h' : s.size ≤ maxLen := Nat.le_trans h (by decide)
  simp [h']
set_option maxRecDepth 100000 in
theorem MapAt.owns (h : MapAt w m F) (hl : F.length ≤ 64) (hn : ∀ f ∈ F, f.nm.size ≤ 64) : ∃ D : DataW Unit, w.ownsMap Try.prog 9 rTr m F.length D ∧ (strKeys D).Perm (nmL F) ∧ Maps.size D = F.length := by
  obtain ⟨es, clock, hb, hst, hF⟩ := h
  have hlen : es.size = F.length := by have := congrArg List.length hF; simpa using this
  have hk : ∀ x ∈ es.toList, ∃ f ∈ F, x.key = .string f.nm := fun x hx => by
    have : kv x ∈ F.map entF := by rw [← hF]; exact List.mem_map.2 ⟨x, hx, rfl⟩
    obtain ⟨f, hf, he⟩ := List.mem_map.1 this
    exact ⟨f, hf, (congrArg Prod.fst he).symm⟩
  have hrd : ∀ x ∈ es.toList, ∀ s : ByteArray, x.key = .string s → s.size ≤ 64 → rd Try.prog 9 rTr x = some (.string s.data.toList, .lit (.bool true)) := fun x hx s hs hz => by
    unfold rd
    rw [hs, keyOf_9 s hz]
    rfl
  refine ⟨_, ⟨es, clock, hb, ⟨by rw [hlen]; exact Nat.le_trans hl (by decide), hst, fun x hx => ?_⟩, Nat.le_of_eq hlen, rfl⟩, ?_, ?_⟩
  · obtain ⟨f, hf, he⟩ := hk x hx
    exact ⟨_, hrd x hx f.nm he (hn f hf)⟩
  · refine (List.Perm.map _ (sorted_perm _)).trans (List.Perm.of_eq ?_)
    rw [List.map_map]
    have h1 : es.toList.map ((fun p : Lit × DataW Unit => strOf p.1) ∘ rg Try.prog 9 rTr) = (es.toList.map kv).map (fun p => match p.1 with | .string s => s.data.toList | _ => []) := by
      rw [List.map_map]
      refine List.map_congr_left fun x hx => ?_
      obtain ⟨f, hf, he⟩ := hk x hx
      show strOf (rg Try.prog 9 rTr x).1 = (match x.key with | .string s => s.data.toList | _ => [])
      unfold rg
      rw [hrd x hx f.nm he (hn f hf)]

      rw [he, Option.getD_some]
      rfl
    rw [h1, hF, List.map_map]
    rfl
  · rw [Maps.size_eq, length_sorted]
    simp [hlen]
theorem leB_sorted (l : List (List UInt8)) : (srtL l).Pairwise (fun x y => x ≤ y) := by
  have tr : ∀ a b c : List UInt8, leB a b = true → leB b c = true → leB a c = true := fun a b c h1 h2 => by simp only [leB, decide_eq_true_eq] at *; exact List.le_trans h1 h2
  have to : ∀ a b : List UInt8, (leB a b || leB b a) = true := fun a b => by simp only [leB, Bool.or_eq_true, decide_eq_true_eq]; exact List.le_total a b
  exact (List.pairwise_mergeSort tr to l).imp (fun h => by simpa [leB] using h)
theorem below_grown {n : Nat} (h : Below n w w') (hn : w.heap.size ≤ n) : w.grownBy w' none := ⟨h.os, h.tape, h.output, h.size, fun k hk _ => h.block k (by omega)⟩
theorem owns_base {B B' e q n : Nat} {v : Value} {xs : List Value} (h : w.ownsRow B e q v n xs) (hb : B' ≤ B) : w.ownsRow B' e q v n xs := by
  refine ⟨h.1, ?_⟩
  rcases h.2 with h1 | ⟨g, cap, cur, h1, h2, h3⟩
  · exact .inl h1
  · exact .inr ⟨g, cap, cur, h1, by omega, h3⟩
theorem keys_call (mb : Option Nat) (W : World) : Calls Try.prog 42 #[.map mb] W fun e w' => e = .returned (.func (.func 55) #[] #[.pointer (some ⟨W.heap.size, 0, none⟩)]) ∧ w' = W.alloc (.cells #[.map mb] 62) := callsIn_wide.1 (Try.maps_Keys_51 mb W)
theorem sort_call (h : MapAt w m F) (hl : F.length ≤ 64) (hn : ∀ f ∈ F, f.nm.size ≤ 64) : Calls Try.prog 41 #[.func (.func 55) #[] #[.pointer (some ⟨w.heap.size, 0, none⟩)]] (w.alloc (.cells #[.map (some m)] 62)) fun e w' => ∃ v, e = .returned v ∧ w'.ownsRow w.heap.size 9 1 v F.length ((srtL (nmL F)).map encStr) ∧ w.grownBy w' none := by
  obtain ⟨D, h1, h2, h3⟩ := h.owns hl hn
  have hc := callsIn_wide.1 (Try.slices_Sorted_keys_50_51 m F.length D rTr w h1 (by rw [h3]; exact Nat.le_trans hl (by decide)) (by rw [h3]; omega))
  refine hc.mono fun e w' ⟨v, ss, he, hp, ho, _, hb⟩ => ⟨v, he, ?_, gtrans (galloc w _ none) (below_grown hb (Nat.le_refl _))⟩
  have hperm := hp.trans h2
  have hss : ss.mergeSort (fun x y => decide (x ≤ y)) = srtL (nmL F) := mergeSort_of_perm hperm
  rw [hss] at ho
  have hlen : ss.length = F.length := by rw [hperm.length_eq]; simp [nmL]
  rw [hlen] at ho
  exact owns_base ho (by simp)
theorem sorted_any (h : Dk w B b m lk room off wr ar kp F) (hl : F.length ≤ 64) (hn : ∀ f ∈ F, f.nm.size ≤ 64) : Calls Try.prog 30 #[.pointer (some ⟨b, 0, none⟩)] w fun e w' => ∃ v, e = .returned v ∧ w'.ownsRow w.heap.size 9 1 v F.length ((srtL (nmL F)).map encStr) ∧ w.grownBy w' none := by
  have hb := h.blk
  have hm := h.map
  have c1 := fun W => keys_call (some m) W
  have c2 := sort_call hm hl hn
  have y3 := h.c.2.2.1
  have C1 := hid c1
  have C2 := hid c2
  clear c1 c2 hb hm h
  go_enter Try.func30, Try.ntmps30
  go_wp2_with first | (go_at_call 42; refine (C1.out _).mono ?_; rintro e w1 ⟨rfl, rfl⟩) | (go_at_call 41; refine C2.out.mono ?_; rintro e w1 ⟨v, rfl, ho, hg⟩)
  go_ret
  exact ⟨v, rfl, ho, hg⟩
end Go.Proofs.Ytlgjmdianmijeab
