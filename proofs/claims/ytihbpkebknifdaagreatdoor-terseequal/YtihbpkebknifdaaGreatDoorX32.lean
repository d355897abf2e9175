/- The walk of TerseOne: what it wants of Parse. -/
import Derived.Test.YtihbpkebknifdaaGreatDoorX31
import Derived.Deep.CutRange
import Derived.Deep.CutBlock
namespace Go.Proofs.YtihbpkebknifdaaGreatDoor
open Go Go.RowKit Go.Maps
open Go.RowKit (wrap32 wrap64)

/-! ### codes -/
def CodeOk (c : Int) : Prop := 20 ≤ c ∧ c ≤ 25
def Codes {α : Type} (r : Res α) : Prop := ∀ c q, r = .bad c q → CodeOk c
theorem code22 : CodeOk 22 := ⟨by decide, by decide⟩
theorem listGo_codes {it : List UInt8 → Res Tree} (h : ∀ l, Codes (it l)) : ∀ (f : Nat) (l : List UInt8) (acc : List Tree), Codes (listGo it f l acc)
  | 0, l, acc => fun c q e => by injection e with e _; rw [← e]; exact code22
  | f + 1, l, acc => fun c q e => by
    unfold listGo at e
    split at e
    · rename_i hit; injection e with e1 _; rw [← e1]; exact h _ _ _ hit
    · split at e
      · cases e
      · exact listGo_codes h f _ _ _ _ e
      · injection e with e _; rw [← e]; exact code22
theorem keyR_codes (ks : List ByteArray) (l : List UInt8) : Codes (keyR ks l) := fun c q e => by
  unfold keyR at e
  split at e
  · split at e
    · injection e with e _; rw [← e]; exact code22
    · split at e
      · injection e with e _; rw [← e]; exact ⟨by decide, by decide⟩
      · cases e
  · injection e with e _; rw [← e]; exact code22
theorem mapGo_codes {it : List UInt8 → Res Tree} (h : ∀ l, Codes (it l)) : ∀ (f : Nat) (l : List UInt8) (ks : List ByteArray) (acc : List Tree), Codes (mapGo it f l ks acc)
  | 0, l, ks, acc => fun c q e => by injection e with e _; rw [← e]; exact code22
  | f + 1, l, ks, acc => fun c q e => by
    unfold mapGo at e
    split at e
    · rename_i hit; injection e with e1 _; rw [← e1]; exact keyR_codes _ _ _ _ hit
    · split at e
      · split at e
        · rename_i hit; injection e with e1 _; rw [← e1]; exact h _ _ _ hit
        · split at e
          · cases e
          · exact mapGo_codes h f _ _ _ _ _ e
          · injection e with e _; rw [← e]; exact code22
      · injection e with e _; rw [← e]; exact code22
theorem readWord_codes {w : List UInt8} {e : Int} (h : readWord w = .error e) : CodeOk e := by
  unfold readWord at h
  repeat' split at h
  all_goals first | (cases h; done) | (injection h with h; rw [← h]; exact ⟨by decide, by decide⟩)
theorem itemW_codes {d : Option (List UInt8 → Res Tree)} (h : ∀ it, d = some it → ∀ l, Codes (it l)) (l : List UInt8) : Codes (itemW d l) := fun c q e => by
  unfold itemW at e
  split at e
  · injection e with e _; rw [← e]; exact code22
  · split at e
    · cases hd : d with
      | none => rw [hd] at e; injection e with e _; rw [← e]; exact ⟨by decide, by decide⟩
      | some it =>
        rw [hd] at e
        simp only [] at e
        unfold listR at e
        split at e
        · cases e
        · exact listGo_codes (h it hd) _ _ _ _ _ e
    · split at e
      · cases hd : d with
        | none => rw [hd] at e; injection e with e _; rw [← e]; exact ⟨by decide, by decide⟩
        | some it =>
          rw [hd] at e
          simp only [] at e
          unfold mapR at e
          split at e
          · cases e
          · exact mapGo_codes (h it hd) _ _ _ _ _ _ e
      · split at e
        · split at e
          · injection e with e _; rw [← e]; exact code22
          · cases e
        · split at e
          · rename_i hw; injection e with e1 _; rw [← e1]; exact readWord_codes hw
          · cases e
theorem itemR_codes : ∀ k l, Codes (itemR k l)
  | 0, l => itemW_codes (fun it h => by cases h) l
  | k + 1, l => itemW_codes (fun it h => by injection h with h; subst h; exact itemR_codes k) l
theorem parseR_codes {d : Nat} {l : List UInt8} {c : Int} {q : List UInt8} (e : parseR d l = .bad c q) : CodeOk c := by
  unfold parseR at e
  split at e
  · rename_i hit; injection e with e1 _; rw [← e1]; exact itemR_codes _ _ _ _ hit
  · split at e
    · cases e
    · injection e with e _; rw [← e]; exact ⟨by decide, by decide⟩
theorem parseR_rest {d : Nat} {l : List UInt8} {t : Tree} {q : List UInt8} (e : parseR d l = .ok t q) : q = [] := by
  unfold parseR at e
  split at e
  · cases e
  · split at e
    · injection e with _ e; exact e.symm
    · cases e

/-- What Parse tells of a text, at whatever depth. -/
inductive Told where
  | yes (t : Tree)
  | no (c : Int) (p : Nat)
def toldOf (s : ByteArray) (d : Int) : Told :=
  if d < 0 ∨ 32 < d then .no 20 0
  else match parseR d.toNat s.data.toList with
    | .ok t _ => .yes t
    | .bad c q => .no c (s.size - q.length)
theorem parse_yes {s : ByteArray} {d : Int} {t : Tree} (h : toldOf s d = .yes t) (hs : s.size ≤ 4294967280) (w : World) (hG : Glob w) :
    Calls Tryz.prog 13 #[.string s, .int .i64 d] w fun e w' => ∃ (k : Int) (f : Bool) (n : Int) (x : ByteArray) (ka : Option Addr) (kn kc : Nat) (ia : Option Addr) (il ic : Nat), e = .returned (.tuple #[.agg #[.int .i64 k, .bool f, .int .i64 n, .string x, .slice ka kn kc, .slice ia il ic], .agg #[.int .i64 0, .int .i64 0]]) ∧ RdT w' (fun g => w.heap.size ≤ g) t (.agg #[.int .i64 k, .bool f, .int .i64 n, .string x, .slice ka kn kc, .slice ia il ic]) ∧ w.grownBy w' none := by
  unfold toldOf at h
  split at h
  · cases h
  · rename_i hd
    obtain ⟨n, rfl⟩ : ∃ n : Nat, d = (n : Int) := ⟨d.toNat, by omega⟩
    rw [Int.toNat_natCast] at h
    refine (parse_any w s n hG hG.1 hs (by omega)).mono ?_
    rintro e w' ⟨he, hg⟩
    rw [from_zeroR] at he
    split at h
    · rename_i t' q hp
      injection h with h
      subst h
      rw [hp] at he
      obtain ⟨v, rfl, hT⟩ := he
      have hT' := hT
      rw [RdT_eq] at hT'
      obtain ⟨kv, ia, ic, rfl, ⟨ka, kc, rfl, _⟩, _, _⟩ := hT'
      exact ⟨_, _, _, _, _, _, _, _, _, _, rfl, hT, hg⟩
    · cases h
theorem parse_no {s : ByteArray} {d : Int} {c : Int} {p : Nat} (h : toldOf s d = .no c p) (hs : s.size ≤ 4294967280) (w : World) (hG : Glob w) :
    (20 ≤ c ∧ c ≤ 25 ∧ p ≤ s.size) ∧ Calls Tryz.prog 13 #[.string s, .int .i64 d] w fun e w' => e = .returned (.tuple #[zeroV6, .agg #[.int .i64 c, .int .i64 p]]) ∧ w.grownBy w' none := by
  unfold toldOf at h
  split at h
  · rename_i hd
    injection h with h1 h2
    subst h1 h2
    exact ⟨⟨by decide, by decide, Nat.zero_le _⟩, parse_depth w s d hd⟩
  · rename_i hd
    obtain ⟨n, rfl⟩ : ∃ n : Nat, d = (n : Int) := ⟨d.toNat, by omega⟩
    rw [Int.toNat_natCast] at h
    split at h
    · cases h
    · rename_i c' q hp
      injection h with h1 h2
      subst h1
      have hc := parseR_codes hp
      refine ⟨⟨hc.1, hc.2, by omega⟩, ?_⟩
      refine (parse_any w s n hG hG.1 hs (by omega)).mono ?_
      rintro e w' ⟨he, hg⟩
      rw [from_zeroR, hp] at he
      obtain ⟨p', hp1, hp2, rfl⟩ := he
      have : p' = p := by rw [← h2, hp2, from_length]; omega
      subst this
      exact ⟨rfl, hg⟩
/-- What a text that is read is, and how it is printed. -/
theorem told_good {s : ByteArray} {d : Int} {t : Tree} (h : toldOf s d = .yes t) : 0 ≤ d ∧ checkT t 0 = 0 ∧ Fits t ∧ (depthT t : Int) ≤ d ∧ (pr t).length ≤ s.size + 4 * bf s.data.toList ∧ toldOf (str (pr t)) d = .yes t := by
  unfold toldOf at h
  split at h
  · cases h
  · rename_i hd
    split at h
    · rename_i t' q hp
      injection h with h
      subst h
      obtain ⟨⟨h1, h2, h3⟩, h4⟩ := parseR_tells hp
      rw [Array.length_toList] at h4
      have hc := h1 0 (by omega)
      refine ⟨by omega, hc, h2, by omega, h4, ?_⟩
      unfold toldOf
      rw [if_neg hd, str_list, parse_print _ _ hc h2 h3]
    · cases h
end Go.Proofs.YtihbpkebknifdaaGreatDoor

namespace Go.Proofs.YtihbpkebknifdaaGreatDoor
open Go Go.RowKit

theorem sep_sum (f : Tree → Nat) (g : Tree → List UInt8) : ∀ (l : List Tree), (∀ x ∈ l, f x ≤ (g x).length) → (l.map f).sum ≤ (sep (l.map g)).length
  | [], _ => by simp
  | [x], h => by simp only [List.map_cons, List.map_nil, sep, List.sum_cons, List.sum_nil]; have := h x (by simp); omega
  | x :: y :: r, h => by
    have h1 := h x (by simp)
    have h2 := sep_sum f g (y :: r) (fun z hz => h z (by simp [List.mem_cons.1 hz]))
    simp only [List.map_cons, sep, List.sum_cons, List.length_append, List.length_cons] at h2 ⊢
    omega
theorem cntL_sum (l : List Tree) : cntL l = (l.map cntT).sum := by
  induction l with
  | nil => rfl
  | cons a r ih => rw [cntL, ih, List.map_cons, List.sum_cons]
theorem sep_ents : ∀ (ks : List ByteArray) (l : List Tree), ks.length = l.length → (∀ x ∈ l, cntT x ≤ (pr x).length) → cntL l + keyN ks ≤ (sep (ents ks (l.map pr))).length
  | [], [], _, _ => by simp [cntL, keyN]
  | [], _ :: _, h, _ => by simp at h
  | _ :: _, [], h, _ => by simp at h
  | [k], [x], _, h => by
    have h1 := h x (by simp)
    have h2 := escL_ge k.data.toList
    rw [Array.length_toList] at h2
    have h3 : k.size ≤ (escL k.data.toList).length := h2
    have e : sep (ents [k] ([x].map pr)) = quo k.data.toList ++ 58 :: pr x := rfl
    rw [e]
    simp only [cntL, keyN, quo, List.length_append, List.length_cons, List.length_nil]
    omega
  | [_], _ :: _ :: _, h, _ => by simp at h
  | _ :: _ :: _, [_], h, _ => by simp at h
  | k :: k2 :: kr, x :: y :: r, hl, h => by
    have h1 := h x (by simp)
    have ih := sep_ents (k2 :: kr) (y :: r) (by simpa using hl) (fun z hz => h z (by simp [List.mem_cons.1 hz]))
    have h2 := escL_ge k.data.toList
    rw [Array.length_toList] at h2
    have h3 : k.size ≤ (escL k.data.toList).length := h2
    have e : sep (ents (k :: k2 :: kr) ((x :: y :: r).map pr)) = (quo k.data.toList ++ 58 :: pr x) ++ 44 :: sep (ents (k2 :: kr) ((y :: r).map pr)) := rfl
    rw [e]
    rw [cntL, keyN]
    simp only [quo, List.length_append, List.length_cons, List.length_nil] at ih ⊢
    omega
theorem itoa_pos (n : Int) : 1 ≤ (Lib.itoa n).length := by
  obtain ⟨c, r, h, _⟩ := itoa_cons n
  rw [h]; simp
theorem cnt_pr : ∀ (n : Nat) (t : Tree), cntT t ≤ n → ∀ about, checkT t about = 0 → cntT t ≤ (pr t).length
  | 0, t, h, _, _ => by rw [cntT_eq] at h; omega
  | n + 1, t, h, about, hc => by
    have h1 := check_one hc
    have hk := one_kind h1.1
    have hs := leaf_shape h1.1
    have hitems : ∀ x ∈ t.items, cntT x ≤ (pr x).length := fun x hx => by
      have := cntL_mem hx
      rw [cntT_eq] at h
      exact cnt_pr n x (by omega) (about + 1) (h1.2 x hx)
    have hcases : t.kind = 1 ∨ t.kind = 2 ∨ t.kind = 3 ∨ t.kind = 4 ∨ t.kind = 5 ∨ t.kind = 6 := by omega
    rw [cntT_eq]
    rcases hcases with hh | hh | hh | hh | hh | hh
    · rw [hs.1 hh]; decide
    · have e := hs.2.1 hh
      generalize t.flag = f at e
      subst e
      cases f <;> decide
    · have e := hs.2.2.1 hh
      generalize t.n = z at e
      subst e
      have : pr (.mk 3 false z ⟨#[]⟩ [] []) = Lib.itoa z := by rw [pr_eq]; rfl
      rw [this]
      have := itoa_pos z
      show 0 + (0 + 0) + 1 ≤ _
      omega
    · have e := hs.2.2.2.1 hh
      generalize t.text = z at e
      subst e
      have : pr (.mk 4 false 0 z [] []) = quo z.data.toList := by rw [pr_eq]; rfl
      rw [this]
      have h2 := escL_ge z.data.toList
      rw [Array.length_toList] at h2
      have h3 : z.size ≤ (escL z.data.toList).length := h2
      show 0 + (z.size + 0) + 1 ≤ _
      simp only [quo, List.length_append, List.length_cons, List.length_nil]
      omega
    · have e := hs.2.2.2.2.1 hh
      have hp := pr_kind5 hh
      rw [pieces_list hh] at hp
      rw [hp]
      have hsum := sep_sum cntT pr t.items hitems
      rw [← cntL_sum] at hsum
      have ht : t.text.size = 0 := by rw [e]; rfl
      have hkk : t.keys = [] := by rw [e]; rfl
      rw [ht, hkk]
      simp only [keyN, List.length_cons, List.length_append, List.length_nil]
      omega
    · have e := hs.2.2.2.2.2 hh
      have hp := pr_kind6 hh
      rw [pieces_map hh] at hp
      rw [hp]
      have hsum := sep_ents t.keys t.items (hk.2.2.2.2.2.1 hh).1 hitems
      have ht : t.text.size = 0 := by rw [e]; rfl
      rw [ht]
      simp only [List.length_cons, List.length_append, List.length_nil]
      omega
end Go.Proofs.YtihbpkebknifdaaGreatDoor
