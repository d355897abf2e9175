/- Plain facts: what is read is a tree, no deeper than was asked for, and its text is not much longer than what was read. -/
import Derived.Test.YtdmnhkgiojkphaaGreatDoorTreeO
namespace Go.Proofs.YtdmnhkgiojkphaaGreatDoor
open Go

/-! ### words -/
theorem uint_long : ∀ (w : List UInt8) (M acc u : Nat), Lib.parseUintM M acc w = .ok u → Lib.nDigits u ≤ Lib.nDigits acc + w.length
  | [], M, acc, u, h => by
    injection h with h
    subst h
    simp
  | c :: r, M, acc, u, h => by
    unfold Lib.parseUintM at h
    split at h
    · split at h
      · cases h
      · split at h
        · cases h
        · have ih := uint_long r M _ u h
          have hd : Lib.nDigits (acc * 10 + (c.toNat - 48)) ≤ Lib.nDigits acc + 1 := by
            by_cases hs : acc * 10 + (c.toNat - 48) < 10
            · rw [Lib.nDigits_small hs]; omega
            · rw [Lib.nDigits_big hs, show (acc * 10 + (c.toNat - 48)) / 10 = acc by omega]
              exact Nat.le_refl _
          simp only [List.length_cons]
          omega
    · cases h
theorem uint_len {B : Nat} {w : List UInt8} {u : Nat} (h : Lib.parseUintB B w = .ok u) : (Lib.decDigits u).length ≤ w.length := by
  unfold Lib.parseUintB at h
  split at h
  · cases h
  · cases w with
    | nil => rename_i h0; exact absurd rfl h0
    | cons c r =>
      unfold Lib.parseUintM at h
      split at h
      · split at h
        · cases h
        · split at h
          · cases h
          · have ih := uint_long r _ _ u h
            rw [show Lib.nDigits (0 * 10 + (c.toNat - 48)) = 1 from Lib.nDigits_small (by omega)] at ih
            rw [Lib.decDigits_length, List.length_cons]
            omega
      · cases h
theorem int_len {w : List UInt8} {v : Int} (h : Lib.parseIntB 64 w = .ok v) : (Lib.itoa v).length ≤ w.length ∧ fitsN v := by
  unfold Lib.parseIntB at h
  split at h
  · cases h
  · rename_i c r
    simp only [] at h
    split at h
    · cases h
    · cases h
    · rename_i u hu
      have hl := uint_len hu
      split at h
      · cases h
      · split at h
        · cases h
        · injection h with h
          rename_i h1 h2
          by_cases hn : c.toNat = 45
          · rw [if_pos hn] at h
            rw [if_pos (.inr hn)] at hl
            subst h
            have hb : u ≤ 9223372036854775808 := by
              have : ¬ (2 ^ (64 - 1) < u) := fun hh => h2 ⟨hn, hh⟩
              simpa using this
            refine ⟨?_, by unfold fitsN; omega⟩
            by_cases hz : u = 0
            · subst hz
              have : (Lib.itoa (-(0 : Nat) : Int)) = Lib.decDigits 0 := by simpa using Lib.itoa_nonneg 0
              rw [this]
              simp only [List.length_cons]
              omega
            · rw [Lib.itoa_neg u (by omega)]
              simp only [List.length_cons]
              omega
          · rw [if_neg hn] at h
            subst h
            have hb : u < 9223372036854775808 := by
              have : ¬ (2 ^ (64 - 1) ≤ u) := fun hh => h1 ⟨hn, hh⟩
              simpa using this
            refine ⟨?_, by unfold fitsN; omega⟩
            rw [Lib.itoa_nonneg]
            refine Nat.le_trans hl ?_
            split
            · simp
            · exact Nat.le_refl _

/-- A tree in which so many lists and maps may stand in one another. -/
def GoodK (k : Nat) (t : Tree) : Prop := (∀ about, about + k ≤ 32 → checkT t about = 0) ∧ Fits t ∧ depthT t ≤ k
theorem GoodK.leaf {k : Nat} {t : Tree} (h : oneE t 0 = 0) (hi : hasItems t.kind = false) (hl : t.items = []) (hn : fitsN t.n) : GoodK k t := by
  refine ⟨fun about _ => ?_, ?_, ?_⟩
  · rw [checkT_eq]
    have : oneE t about = oneE t 0 := by unfold oneE; rw [hi]; rfl
    rw [this, h, if_pos rfl, hl]
    rfl
  · rw [Fits_eq, hl]
    exact ⟨hn, trivial⟩
  · rw [depthT_eq, hi]
    simp
theorem fits0 : fitsN 0 := by unfold fitsN; omega
theorem word_good {w : List UInt8} {t : Tree} (k : Nat) (h : readWord w = .ok t) : GoodK k t ∧ (pr t).length ≤ w.length := by
  unfold readWord at h
  split at h
  · rename_i hw
    injection h with h
    subst h
    exact ⟨GoodK.leaf (by decide) rfl rfl fits0, by rw [hw, pr_eq]; decide⟩
  · split at h
    · rename_i hw
      injection h with h
      subst h
      exact ⟨GoodK.leaf (by decide) rfl rfl fits0, by rw [hw, pr_eq]; decide⟩
    · split at h
      · rename_i hw
        injection h with h
        subst h
        exact ⟨GoodK.leaf (by decide) rfl rfl fits0, by rw [hw, pr_eq]; decide⟩
      · split at h
        · cases h
        · split at h
          · rename_i v hv
            split at h
            · cases h
            · injection h with h
              subst h
              have := int_len hv
              refine ⟨GoodK.leaf ?_ rfl rfl this.2, ?_⟩
              · unfold oneE spareB
                simp [hasItems, Tree.kind, Tree.flag, Tree.text, Tree.keys, Tree.items, ByteArray.size, good]
                rfl
              · rw [pr_eq]
                show List.length (Lib.itoa v) ≤ _
                exact this.1
          · cases h

/-! ### lists and maps -/
theorem skip_split (l : List UInt8) : ∃ b, l = b ++ skip l := ⟨l.takeWhile isBlank, (List.takeWhile_append_dropWhile (p := isBlank) (l := l)).symm⟩
def Tells (k : Nat) (it : List UInt8 → Res Tree) : Prop := ∀ l t q, it l = .ok t q → GoodK k t ∧ ∃ p, l = p ++ q ∧ (pr t).length ≤ p.length + 4 * bf p
theorem sep_cons (p : List UInt8) {ps : List (List UInt8)} (h : ps ≠ []) : (sep (p :: ps)).length = p.length + 1 + (sep ps).length := by
  cases ps with
  | nil => exact absurd rfl h
  | cons q r => simp only [sep, List.length_append, List.length_cons]; omega
theorem listGo_tells {k : Nat} {it : List UInt8 → Res Tree} (hit : Tells k it) : ∀ (f : Nat) (l : List UInt8) (acc : List Tree) t q, listGo it f l acc = .ok t q →
    ∃ ts, t = .mk 5 false 0 ⟨#[]⟩ [] (acc ++ ts) ∧ ts ≠ [] ∧ (∀ x ∈ ts, GoodK k x) ∧ ∃ p, l = p ++ q ∧ (sep (ts.map pr)).length + 1 ≤ p.length + 4 * bf p
  | 0, l, acc, t, q, e => by cases e
  | f + 1, l, acc, t, q, e => by
    unfold listGo at e
    split at e
    · cases e
    · rename_i t' q1 hi
      obtain ⟨hg, p1, hp1, hl1⟩ := hit _ _ _ hi
      obtain ⟨b, hb⟩ := skip_split q1
      split at e
      · rename_i q2 hq
        injection e with e1 e2
        subst e2
        rw [hq] at hb
        refine ⟨[t'], e1.symm, by simp, fun x hx => by rw [List.mem_singleton.1 hx]; exact hg, p1 ++ (b ++ [93]), ?_, ?_⟩
        · rw [hp1, hb]; simp
        · have h1 := bf_append p1 (b ++ [93])
          simp only [List.map_cons, List.map_nil, sep, List.length_append, List.length_cons, List.length_nil]
          omega
      · rename_i q2 hq
        rw [hq] at hb
        obtain ⟨ts, e1, hne, hall, p, hp, hl⟩ := listGo_tells hit f _ _ _ _ e
        refine ⟨t' :: ts, by rw [e1]; simp, by simp, fun x hx => ?_, p1 ++ (b ++ ([44] ++ p)), ?_, ?_⟩
        · rcases List.mem_cons.1 hx with rfl | hx
          · exact hg
          · exact hall x hx
        · rw [hp1, hb, hp]; simp
        · have h1 := bf_append p1 (b ++ ([44] ++ p))
          have h2 := bf_append b ([44] ++ p)
          have h3 := bf_append [44] p
          rw [List.map_cons, sep_cons _ (by simpa using hne)]
          simp only [List.length_append, List.length_cons, List.length_nil]
          omega
      · cases e
theorem depthL_le {l : List Tree} {k : Nat} (h : ∀ t ∈ l, depthT t ≤ k) : depthL l ≤ k := by
  induction l with
  | nil => simp [depthL]
  | cons t r ih =>
    rw [depthL]
    have := h t (by simp)
    have := ih (fun x hx => h x (by simp [hx]))
    omega
theorem good_list {k : Nat} {ts : List Tree} (h : ∀ x ∈ ts, GoodK k x) : GoodK (k + 1) (.mk 5 false 0 ⟨#[]⟩ [] ts) := by
  refine ⟨fun about ha => ?_, ?_, ?_⟩
  · rw [checkT_eq]
    have : oneE (.mk 5 false 0 ⟨#[]⟩ [] ts) about = 0 := by
      unfold oneE spareB
      simp [hasItems, Tree.kind, Tree.flag, Tree.text, Tree.keys, Tree.items, Tree.n, ByteArray.size, good, Lib.validD_nil]
      omega
    rw [this, if_pos rfl]
    exact checkL_zero.2 fun x hx => (h x hx).1 _ (by omega)
  · rw [Fits_eq]
    exact ⟨fits0, FitsL_of fun x hx => (h x hx).2.1⟩
  · rw [depthT_eq]
    show depthL ts + 1 ≤ _
    exact Nat.succ_le_succ (depthL_le fun x hx => (h x hx).2.2)
theorem nodup_snoc {ks : List ByteArray} {k : ByteArray} (h : nodup ks = true) (hk : hasK ks k = false) : nodup (ks ++ [k]) = true := by
  induction ks with
  | nil => rfl
  | cons a r ih =>
    simp only [nodup, Bool.and_eq_true, Bool.not_eq_true'] at h
    rw [hasK_false] at hk
    simp only [List.mem_cons, not_or] at hk
    have ih' := ih h.2 (hasK_false.2 hk.2)
    rw [List.cons_append]
    simp only [nodup, Bool.and_eq_true, Bool.not_eq_true']
    refine ⟨hasK_false.2 ?_, ih'⟩
    have := hasK_false.1 h.1
    simp only [List.mem_append, List.mem_singleton, not_or]
    exact ⟨this, fun hh => hk.1 hh.symm⟩
theorem keyR_tells {ks : List ByteArray} {l : List UInt8} {k : ByteArray} {q : List UInt8} (e : keyR ks l = .ok k q) : good k = true ∧ hasK ks k = false ∧ ∃ p, l = p ++ q ∧ (quo k.data.toList).length ≤ p.length + 4 * bf p := by
  unfold keyR at e
  obtain ⟨b, hb⟩ := skip_split l
  split at e
  · rename_i r hr
    rw [hr] at hb
    split at e
    · cases e
    · rename_i k' q' hu
      obtain ⟨hv, p, hp, hl⟩ := unquote_long _ _ _ _ (Nat.le_refl _) hu
      split at e
      · cases e
      · rename_i hk
        injection e with e1 e2
        subst e1 e2
        refine ⟨by unfold good; rw [str_list]; exact hv, by simpa using hk, b ++ ([34] ++ p), by rw [hb, hp]; simp, ?_⟩
        rw [str_list]
        have h1 := bf_append b ([34] ++ p)
        have h2 := bf_append [34] p
        simp only [quo, List.length_append, List.length_cons, List.length_nil]
        omega
  · cases e
theorem ents_cons (k : ByteArray) (kr : List ByteArray) (p : List UInt8) (ps : List (List UInt8)) : ents (k :: kr) (p :: ps) = (quo k.data.toList ++ 58 :: p) :: ents kr ps := rfl
theorem mapGo_tells {k : Nat} {it : List UInt8 → Res Tree} (hit : Tells k it) : ∀ (f : Nat) (l : List UInt8) (ks : List ByteArray) (acc : List Tree) t q, mapGo it f l ks acc = .ok t q →
    ∃ kr ts, t = .mk 6 false 0 ⟨#[]⟩ (ks ++ kr) (acc ++ ts) ∧ ts ≠ [] ∧ kr.length = ts.length ∧ (∀ x ∈ ts, GoodK k x) ∧ (∀ x ∈ kr, good x = true) ∧ (nodup ks = true → nodup (ks ++ kr) = true) ∧ ∃ p, l = p ++ q ∧ (sep (ents kr (ts.map pr))).length + 1 ≤ p.length + 4 * bf p
  | 0, l, ks, acc, t, q, e => by cases e
  | f + 1, l, ks, acc, t, q, e => by
    unfold mapGo at e
    split at e
    · cases e
    · rename_i k' q0 hk
      obtain ⟨hgk, hnk, p0, hp0, hl0⟩ := keyR_tells hk
      obtain ⟨b0, hb0⟩ := skip_split q0
      split at e
      · rename_i q1 hq1
        rw [hq1] at hb0
        split at e
        · cases e
        · rename_i t' q2 hi
          obtain ⟨hg, p1, hp1, hl1⟩ := hit _ _ _ hi
          obtain ⟨b, hb⟩ := skip_split q2
          split at e
          · rename_i q3 hq
            injection e with e1 e2
            subst e2
            rw [hq] at hb
            refine ⟨[k'], [t'], e1.symm, by simp, rfl, fun x hx => by rw [List.mem_singleton.1 hx]; exact hg, fun x hx => by rw [List.mem_singleton.1 hx]; exact hgk, fun hn => nodup_snoc hn hnk, p0 ++ (b0 ++ ([58] ++ (p1 ++ (b ++ [125])))), ?_, ?_⟩
            · rw [hp0, hb0, hp1, hb]; simp
            · have h1 := bf_append p0 (b0 ++ ([58] ++ (p1 ++ (b ++ [125]))))
              have h2 := bf_append b0 ([58] ++ (p1 ++ (b ++ [125])))
              have h3 := bf_append [58] (p1 ++ (b ++ [125]))
              have h4 := bf_append p1 (b ++ [125])
              have e5 : sep (ents [k'] ([t'].map pr)) = quo k'.data.toList ++ 58 :: pr t' := rfl
              rw [e5]
              simp only [List.length_append, List.length_cons, List.length_nil]
              omega
          · rename_i q3 hq
            rw [hq] at hb
            obtain ⟨kr, ts, e1, hne, hlen, hall, hkg, hnd, p, hp, hl⟩ := mapGo_tells hit f _ _ _ _ _ e
            refine ⟨k' :: kr, t' :: ts, by rw [e1]; simp, by simp, by simp [hlen], fun x hx => ?_, fun x hx => ?_, fun hn => ?_, p0 ++ (b0 ++ ([58] ++ (p1 ++ (b ++ ([44] ++ p))))), ?_, ?_⟩
            · rcases List.mem_cons.1 hx with rfl | hx
              · exact hg
              · exact hall x hx
            · rcases List.mem_cons.1 hx with rfl | hx
              · exact hgk
              · exact hkg x hx
            · have := hnd (nodup_snoc hn hnk)
              rw [List.append_assoc] at this
              exact this
            · rw [hp0, hb0, hp1, hb, hp]; simp
            · have h1 := bf_append p0 (b0 ++ ([58] ++ (p1 ++ (b ++ ([44] ++ p)))))
              have h2 := bf_append b0 ([58] ++ (p1 ++ (b ++ ([44] ++ p))))
              have h3 := bf_append [58] (p1 ++ (b ++ ([44] ++ p)))
              have h4 := bf_append p1 (b ++ ([44] ++ p))
              have h5 := bf_append b ([44] ++ p)
              have h6 := bf_append [44] p
              have hen : ents kr (ts.map pr) ≠ [] := by
                cases kr with
                | nil => cases ts with
                  | nil => exact absurd rfl hne
                  | cons _ _ => simp at hlen
                | cons a r => cases ts with
                  | nil => exact absurd rfl hne
                  | cons _ _ => simp [ents]
              rw [List.map_cons, ents_cons, sep_cons _ hen]
              simp only [List.length_append, List.length_cons, List.length_nil]
              omega
          · cases e
      · cases e
theorem good_map {k : Nat} {kr : List ByteArray} {ts : List Tree} (hl : kr.length = ts.length) (hk : ∀ x ∈ kr, good x = true) (hn : nodup kr = true) (h : ∀ x ∈ ts, GoodK k x) : GoodK (k + 1) (.mk 6 false 0 ⟨#[]⟩ kr ts) := by
  refine ⟨fun about ha => ?_, ?_, ?_⟩
  · rw [checkT_eq]
    have hka : kr.all good = true := List.all_eq_true.2 hk
    have : oneE (.mk 6 false 0 ⟨#[]⟩ kr ts) about = 0 := by
      unfold oneE spareB keysFit
      simp only [hasItems, Tree.kind, Tree.flag, Tree.text, Tree.keys, Tree.items, Tree.n, hka, hn, hl]
      have : decide (32 ≤ about) = false := by simp; omega
      rw [this]
      simp [ByteArray.size, good, Lib.validD_nil]
    rw [this, if_pos rfl]
    exact checkL_zero.2 fun x hx => (h x hx).1 _ (by omega)
  · rw [Fits_eq]
    exact ⟨fits0, FitsL_of fun x hx => (h x hx).2.1⟩
  · rw [depthT_eq]
    show depthL ts + 1 ≤ _
    exact Nat.succ_le_succ (depthL_le fun x hx => (h x hx).2.2)
theorem pr_list (ts : List Tree) : pr (.mk 5 false 0 ⟨#[]⟩ [] ts) = 91 :: (sep (ts.map pr) ++ [93]) := by
  rw [pr_eq]; rfl
theorem pr_map (kr : List ByteArray) (ts : List Tree) : pr (.mk 6 false 0 ⟨#[]⟩ kr ts) = 123 :: (sep (ents kr (ts.map pr)) ++ [125]) := by
  rw [pr_eq]; rfl
theorem itemW_tells {k : Nat} {d : Option (List UInt8 → Res Tree)} (h : ∀ it, d = some it → ∃ j, k = j + 1 ∧ Tells j it) : Tells k (itemW d) := by
  intro l t q e
  unfold itemW at e
  obtain ⟨b, hb⟩ := skip_split l
  split at e
  · cases e
  · rename_i c r hr
    rw [hr] at hb
    split at e
    · rename_i hc
      subst hc
      cases hd : d with
      | none => rw [hd] at e; cases e
      | some it =>
        rw [hd] at e
        simp only [] at e
        obtain ⟨j, rfl, hit⟩ := h it hd
        obtain ⟨b2, hb2⟩ := skip_split r
        unfold listR at e
        split at e
        · rename_i q2 hq
          rw [hq] at hb2
          injection e with e1 e2
          subst e1 e2
          refine ⟨good_list (fun x hx => by cases hx), b ++ ([91] ++ (b2 ++ [93])), by rw [hb, hb2]; simp, ?_⟩
          rw [pr_list]
          simp only [List.map_nil, sep, List.length_append, List.length_cons, List.length_nil]
          omega
        · obtain ⟨ts, e1, hne, hall, p, hp, hl⟩ := listGo_tells hit _ _ _ _ _ e
          subst e1
          refine ⟨good_list hall, b ++ ([91] ++ p), by rw [hb, hp]; simp, ?_⟩
          have h1 := bf_append b ([91] ++ p)
          have h2 := bf_append [91] p
          rw [pr_list]
          simp only [List.nil_append, List.length_append, List.length_cons, List.length_nil]
          omega
    · split at e
      · rename_i hc
        subst hc
        cases hd : d with
        | none => rw [hd] at e; cases e
        | some it =>
          rw [hd] at e
          simp only [] at e
          obtain ⟨j, rfl, hit⟩ := h it hd
          obtain ⟨b2, hb2⟩ := skip_split r
          unfold mapR at e
          split at e
          · rename_i q2 hq
            rw [hq] at hb2
            injection e with e1 e2
            subst e1 e2
            refine ⟨good_map rfl (fun x hx => by cases hx) rfl (fun x hx => by cases hx), b ++ ([123] ++ (b2 ++ [125])), by rw [hb, hb2]; simp, ?_⟩
            rw [pr_map]
            simp only [List.map_nil, ents, List.zipWith_nil_left, sep, List.length_append, List.length_cons, List.length_nil]
            omega
          · obtain ⟨kr, ts, e1, hne, hlen, hall, hkg, hnd, p, hp, hl⟩ := mapGo_tells hit _ _ _ _ _ _ e
            subst e1
            refine ⟨good_map hlen hkg (hnd rfl) hall, b ++ ([123] ++ p), by rw [hb, hp]; simp, ?_⟩
            have h1 := bf_append b ([123] ++ p)
            have h2 := bf_append [123] p
            rw [pr_map]
            simp only [List.nil_append, List.length_append, List.length_cons, List.length_nil]
            omega
      · split at e
        · rename_i hc
          subst hc
          split at e
          · cases e
          · rename_i t' q' hu
            obtain ⟨hv, p, hp, hl⟩ := unquote_long _ _ _ _ (Nat.le_refl _) hu
            injection e with e1 e2
            subst e1 e2
            refine ⟨GoodK.leaf ?_ rfl rfl fits0, b ++ ([34] ++ p), by rw [hb, hp]; simp, ?_⟩
            · unfold oneE spareB
              have : good (str t') = true := by unfold good; rw [str_list]; exact hv
              simp [hasItems, Tree.kind, Tree.flag, Tree.text, Tree.keys, Tree.items, Tree.n, this]
            · have h1 := bf_append b ([34] ++ p)
              have h2 := bf_append [34] p
              have e4 : pr (.mk 4 false 0 (str t') [] []) = quo t' := by rw [pr_eq]; simp only [Tree.kind, Tree.text, str_list]; rfl
              rw [e4]
              simp only [quo, List.length_append, List.length_cons, List.length_nil]
              omega
        · split at e
          · cases e
          · rename_i t' hw
            injection e with e1 e2
            subst e1 e2
            have hg := word_good k hw
            refine ⟨hg.1, b ++ (c :: r).take (wordOf (c :: r)).length, ?_, ?_⟩
            · rw [List.append_assoc, List.take_append_drop]; exact hb
            · have hle : (wordOf (c :: r)).length ≤ (c :: r).length := List.Sublist.length_le (List.takeWhile_sublist _)
              have := hg.2
              rw [List.length_append, List.length_take]
              omega
theorem itemR_tells : ∀ k, Tells k (itemR k)
  | 0 => itemW_tells (fun it h => by cases h)
  | k + 1 => itemW_tells (fun it h => by injection h with h; subst h; exact ⟨k, rfl, itemR_tells k⟩)
/-- What is read is a tree, no deeper than was asked for, and printed not much longer. -/
theorem parseR_tells {d : Nat} {l : List UInt8} {t : Tree} {q : List UInt8} (h : parseR d l = .ok t q) : GoodK d t ∧ (pr t).length ≤ l.length + 4 * bf l := by
  unfold parseR at h
  split at h
  · cases h
  · rename_i t' q' hi
    obtain ⟨hg, p, hp, hl⟩ := itemR_tells d _ _ _ hi
    split at h
    · injection h with h _
      subst h
      refine ⟨hg, ?_⟩
      have := bf_append p q'
      rw [← hp] at this
      have e : l.length = p.length + q'.length := by rw [hp, List.length_append]
      omega
    · cases h
end Go.Proofs.YtdmnhkgiojkphaaGreatDoor
